import Derived.Test.YtbkdaoicnobllaaTRefH
import Derived.Test.YtbkdaoicnobllaaTMath

namespace Go.Proofs.Ytbkdaoicnobllaa
open Go.RowKit

theorem isDigit_b (c : Nat) (w : World) : Calls Try.prog 71 #[.int .u8 (c : Int)] w fun e w' => e = .returned (.bool (isDig c)) ∧ w' = w := by
  have := isDigit_any (c : Int) w
  rwa [show (decide (48 ≤ (c : Int)) && decide ((c : Int) ≤ 57)) = isDig c from by unfold isDig; rw [Bool.eq_iff_iff]; simp; omega] at this

set_option maxHeartbeats 400000 in
theorem isHex_b (c : Nat) (w : World) : Calls Try.prog 72 #[.int .u8 (c : Int)] w fun e w' => e = .returned (.bool (isHexc c)) ∧ w' = w := by
  cases hd : isDig c with
  | true =>
    have HD := hid hd
    go_enter Try.func72, Try.ntmps72
    go_wp2_with fail
    refine (isDigit_b c w).mono ?_
    rintro e w' ⟨rfl, rfl⟩
    go_wp2
    go_ret
    exact ⟨by unfold isHexc; rw [HD.out]; rfl, rfl⟩
  | false =>
    have HD := hid hd
    by_cases h1 : 97 ≤ (c : Int)
    · by_cases h2 : (c : Int) ≤ 102
      all_goals
        go_enter Try.func72, Try.ntmps72
        go_wp2_with fail
        refine (isDigit_b c w).mono ?_
        rintro e w' ⟨rfl, rfl⟩
        go_wp2
        go_ret
        refine ⟨congrArg (fun b => Ending.returned (Value.bool b)) ?_, rfl⟩
        unfold isHexc; rw [HD.out, Bool.eq_iff_iff]; simp; try omega
    · have h1' : decide (97 ≤ (c : Int)) = false := decide_eq_false h1
      go_enter Try.func72, Try.ntmps72
      go_wp2_with fail
      refine (isDigit_b c w).mono ?_
      rintro e w' ⟨rfl, rfl⟩
      go_wp2
      go_ret
      refine ⟨congrArg (fun b => Ending.returned (Value.bool b)) ?_, rfl⟩
      unfold isHexc; rw [HD.out, Bool.eq_iff_iff]; simp; try omega

set_option maxRecDepth 100000 in
theorem nh0 (c : Nat) (d h sg : Bool) (w : World) : Calls Try.prog 73 #[.int .i64 0, .int .u8 (c : Int), .bool d, .bool h, .bool sg] w fun e w' => e = .returned (.int .i64 ((nhS 0 c d h sg : Nat) : Int)) ∧ w' = w := by
  go_enter Try.func73, Try.ntmps73
  go_wp2
  go_ret
  exact ⟨ret_int (by simp [nhS]), rfl⟩

set_option maxRecDepth 100000 in
theorem nh1 (c : Nat) (d h sg : Bool) (w : World) : Calls Try.prog 73 #[.int .i64 1, .int .u8 (c : Int), .bool d, .bool h, .bool sg] w fun e w' => e = .returned (.int .i64 ((nhS 1 c d h sg : Nat) : Int)) ∧ w' = w := by
  go_enter Try.func73, Try.ntmps73
  go_wp2
  go_ret
  exact ⟨ret_int (by simp [nhS]), rfl⟩

set_option maxRecDepth 100000 in
theorem nh2 (c : Nat) (d h sg : Bool) (w : World) : Calls Try.prog 73 #[.int .i64 2, .int .u8 (c : Int), .bool d, .bool h, .bool sg] w fun e w' => e = .returned (.int .i64 ((nhS 2 c d h sg : Nat) : Int)) ∧ w' = w := by
  go_enter Try.func73, Try.ntmps73
  go_wp2
  go_ret
  exact ⟨ret_int (by simp [nhS]), rfl⟩

set_option maxRecDepth 100000 in
theorem nh3 (c : Nat) (d h sg : Bool) (w : World) : Calls Try.prog 73 #[.int .i64 3, .int .u8 (c : Int), .bool d, .bool h, .bool sg] w fun e w' => e = .returned (.int .i64 ((nhS 3 c d h sg : Nat) : Int)) ∧ w' = w := by
  go_enter Try.func73, Try.ntmps73
  go_wp2
  go_ret
  exact ⟨ret_int (by simp [nhS]), rfl⟩

set_option maxRecDepth 100000 in
theorem nh4 (c : Nat) (d h sg : Bool) (w : World) : Calls Try.prog 73 #[.int .i64 4, .int .u8 (c : Int), .bool d, .bool h, .bool sg] w fun e w' => e = .returned (.int .i64 ((nhS 4 c d h sg : Nat) : Int)) ∧ w' = w := by
  go_enter Try.func73, Try.ntmps73
  go_wp2
  go_ret
  exact ⟨ret_int (by simp [nhS]), rfl⟩

set_option maxRecDepth 100000 in
theorem nh5 (c : Nat) (d h sg : Bool) (w : World) : Calls Try.prog 73 #[.int .i64 5, .int .u8 (c : Int), .bool d, .bool h, .bool sg] w fun e w' => e = .returned (.int .i64 ((nhS 5 c d h sg : Nat) : Int)) ∧ w' = w := by
  go_enter Try.func73, Try.ntmps73
  go_wp2
  go_ret
  exact ⟨ret_int (by simp [nhS]), rfl⟩

set_option maxRecDepth 100000 in
theorem nh6 (c : Nat) (d h sg : Bool) (w : World) : Calls Try.prog 73 #[.int .i64 6, .int .u8 (c : Int), .bool d, .bool h, .bool sg] w fun e w' => e = .returned (.int .i64 ((nhS 6 c d h sg : Nat) : Int)) ∧ w' = w := by
  go_enter Try.func73, Try.ntmps73
  go_wp2
  go_ret
  exact ⟨ret_int (by simp [nhS]), rfl⟩

set_option maxRecDepth 100000 in
theorem nh7 (c : Nat) (d h sg : Bool) (w : World) : Calls Try.prog 73 #[.int .i64 7, .int .u8 (c : Int), .bool d, .bool h, .bool sg] w fun e w' => e = .returned (.int .i64 ((nhS 7 c d h sg : Nat) : Int)) ∧ w' = w := by
  go_enter Try.func73, Try.ntmps73
  go_wp2
  go_ret
  exact ⟨ret_int (by simp [nhS]), rfl⟩

set_option maxRecDepth 100000 in
theorem nh8 (c : Nat) (d h sg : Bool) (w : World) : Calls Try.prog 73 #[.int .i64 8, .int .u8 (c : Int), .bool d, .bool h, .bool sg] w fun e w' => e = .returned (.int .i64 ((nhS 8 c d h sg : Nat) : Int)) ∧ w' = w := by
  go_enter Try.func73, Try.ntmps73
  go_wp2
  go_ret
  exact ⟨ret_int (by simp [nhS]), rfl⟩

set_option maxRecDepth 100000 in
theorem nh9 (c : Nat) (d h sg : Bool) (w : World) : Calls Try.prog 73 #[.int .i64 9, .int .u8 (c : Int), .bool d, .bool h, .bool sg] w fun e w' => e = .returned (.int .i64 ((nhS 9 c d h sg : Nat) : Int)) ∧ w' = w := by
  go_enter Try.func73, Try.ntmps73
  go_wp2
  go_ret
  exact ⟨ret_int (by simp [nhS]), rfl⟩

set_option maxRecDepth 100000 in
theorem nh10 (c : Nat) (d h sg : Bool) (w : World) : Calls Try.prog 73 #[.int .i64 10, .int .u8 (c : Int), .bool d, .bool h, .bool sg] w fun e w' => e = .returned (.int .i64 ((nhS 10 c d h sg : Nat) : Int)) ∧ w' = w := by
  cases h
  ·
    go_enter Try.func73, Try.ntmps73
    go_wp2
    go_ret
    exact ⟨ret_int (by simp [nhS]), rfl⟩
  ·
    go_enter Try.func73, Try.ntmps73
    go_wp2
    go_ret
    exact ⟨ret_int (by simp [nhS]), rfl⟩

set_option maxRecDepth 100000 in
theorem nh11 (c : Nat) (d h sg : Bool) (w : World) : Calls Try.prog 73 #[.int .i64 11, .int .u8 (c : Int), .bool d, .bool h, .bool sg] w fun e w' => e = .returned (.int .i64 ((nhS 11 c d h sg : Nat) : Int)) ∧ w' = w := by
  cases h
  ·
    by_cases h46 : c = 46
    · subst h46
      go_enter Try.func73, Try.ntmps73
      go_wp2
      go_ret
      exact ⟨ret_int (by simp [nhS]), rfl⟩
    · have b46 : ((c : Int) == 46) = false := by rw [beq_eq_false_iff_ne]; omega
      by_cases h112 : c = 112
      · subst h112
        go_enter Try.func73, Try.ntmps73
        go_wp2
        go_ret
        exact ⟨ret_int (by simp [nhS, h46]), rfl⟩
      · have b112 : ((c : Int) == 112) = false := by rw [beq_eq_false_iff_ne]; omega
        go_enter Try.func73, Try.ntmps73
        go_wp2
        go_ret
        exact ⟨ret_int (by simp [nhS, h46, h112]), rfl⟩
  ·
    go_enter Try.func73, Try.ntmps73
    go_wp2
    go_ret
    exact ⟨ret_int (by simp [nhS]), rfl⟩

set_option maxRecDepth 100000 in
theorem nh12 (c : Nat) (d h sg : Bool) (w : World) : Calls Try.prog 73 #[.int .i64 12, .int .u8 (c : Int), .bool d, .bool h, .bool sg] w fun e w' => e = .returned (.int .i64 ((nhS 12 c d h sg : Nat) : Int)) ∧ w' = w := by
  cases h
  ·
    by_cases h112 : c = 112
    · subst h112
      go_enter Try.func73, Try.ntmps73
      go_wp2
      go_ret
      exact ⟨ret_int (by simp [nhS]), rfl⟩
    · have b112 : ((c : Int) == 112) = false := by rw [beq_eq_false_iff_ne]; omega
      go_enter Try.func73, Try.ntmps73
      go_wp2
      go_ret
      exact ⟨ret_int (by simp [nhS, h112]), rfl⟩
  ·
    go_enter Try.func73, Try.ntmps73
    go_wp2
    go_ret
    exact ⟨ret_int (by simp [nhS]), rfl⟩

set_option maxRecDepth 100000 in
theorem nh13 (c : Nat) (d h sg : Bool) (w : World) : Calls Try.prog 73 #[.int .i64 13, .int .u8 (c : Int), .bool d, .bool h, .bool sg] w fun e w' => e = .returned (.int .i64 ((nhS 13 c d h sg : Nat) : Int)) ∧ w' = w := by
  cases d
  ·
    cases sg
    ·
      go_enter Try.func73, Try.ntmps73
      go_wp2
      go_ret
      exact ⟨ret_int (by simp [nhS]), rfl⟩
    ·
      go_enter Try.func73, Try.ntmps73
      go_wp2
      go_ret
      exact ⟨ret_int (by simp [nhS]), rfl⟩
  ·
    go_enter Try.func73, Try.ntmps73
    go_wp2
    go_ret
    exact ⟨ret_int (by simp [nhS]), rfl⟩

set_option maxRecDepth 100000 in
theorem nh14 (c : Nat) (d h sg : Bool) (w : World) : Calls Try.prog 73 #[.int .i64 14, .int .u8 (c : Int), .bool d, .bool h, .bool sg] w fun e w' => e = .returned (.int .i64 ((nhS 14 c d h sg : Nat) : Int)) ∧ w' = w := by
  cases d
  ·
    cases sg
    ·
      go_enter Try.func73, Try.ntmps73
      go_wp2
      go_ret
      exact ⟨ret_int (by simp [nhS]), rfl⟩
    ·
      go_enter Try.func73, Try.ntmps73
      go_wp2
      go_ret
      exact ⟨ret_int (by simp [nhS]), rfl⟩
  ·
    go_enter Try.func73, Try.ntmps73
    go_wp2
    go_ret
    exact ⟨ret_int (by simp [nhS]), rfl⟩

set_option maxRecDepth 100000 in
theorem nh15 (c : Nat) (d h sg : Bool) (w : World) : Calls Try.prog 73 #[.int .i64 15, .int .u8 (c : Int), .bool d, .bool h, .bool sg] w fun e w' => e = .returned (.int .i64 ((nhS 15 c d h sg : Nat) : Int)) ∧ w' = w := by
  cases d
  ·
    cases sg
    ·
      go_enter Try.func73, Try.ntmps73
      go_wp2
      go_ret
      exact ⟨ret_int (by simp [nhS]), rfl⟩
    ·
      go_enter Try.func73, Try.ntmps73
      go_wp2
      go_ret
      exact ⟨ret_int (by simp [nhS]), rfl⟩
  ·
    go_enter Try.func73, Try.ntmps73
    go_wp2
    go_ret
    exact ⟨ret_int (by simp [nhS]), rfl⟩

set_option maxRecDepth 100000 in
theorem nh16 (c : Nat) (d h sg : Bool) (w : World) : Calls Try.prog 73 #[.int .i64 16, .int .u8 (c : Int), .bool d, .bool h, .bool sg] w fun e w' => e = .returned (.int .i64 ((nhS 16 c d h sg : Nat) : Int)) ∧ w' = w := by
  go_enter Try.func73, Try.ntmps73
  go_wp2
  · have hw : ((c : Int) == ((((⟨#[110, 102, 105, 110, 105, 116, 121]⟩ : ByteArray)[0]'(by decide)).toNat : Nat) : Int)) = true := by assumption
    have hc : c = 110 := Int.ofNat_inj.1 (beq_iff_eq.1 hw)
    go_ret
    exact ⟨ret_int (by rw [hc]; rfl), rfl⟩
  · have hw : ((c : Int) == ((((⟨#[110, 102, 105, 110, 105, 116, 121]⟩ : ByteArray)[0]'(by decide)).toNat : Nat) : Int)) = false := by assumption
    have hc : ¬ c = 110 := fun h => beq_eq_false_iff_ne.1 hw (by rw [h]; rfl)
    go_ret
    exact ⟨ret_int (by simp [nhS, hc]), rfl⟩

set_option maxRecDepth 100000 in
theorem nh17 (c : Nat) (d h sg : Bool) (w : World) : Calls Try.prog 73 #[.int .i64 17, .int .u8 (c : Int), .bool d, .bool h, .bool sg] w fun e w' => e = .returned (.int .i64 ((nhS 17 c d h sg : Nat) : Int)) ∧ w' = w := by
  go_enter Try.func73, Try.ntmps73
  go_wp2
  · have hw : ((c : Int) == ((((⟨#[110, 102, 105, 110, 105, 116, 121]⟩ : ByteArray)[1]'(by decide)).toNat : Nat) : Int)) = true := by assumption
    have hc : c = 102 := Int.ofNat_inj.1 (beq_iff_eq.1 hw)
    go_ret
    exact ⟨ret_int (by rw [hc]; rfl), rfl⟩
  · have hw : ((c : Int) == ((((⟨#[110, 102, 105, 110, 105, 116, 121]⟩ : ByteArray)[1]'(by decide)).toNat : Nat) : Int)) = false := by assumption
    have hc : ¬ c = 102 := fun h => beq_eq_false_iff_ne.1 hw (by rw [h]; rfl)
    go_ret
    exact ⟨ret_int (by simp [nhS, hc]), rfl⟩

set_option maxRecDepth 100000 in
theorem nh18 (c : Nat) (d h sg : Bool) (w : World) : Calls Try.prog 73 #[.int .i64 18, .int .u8 (c : Int), .bool d, .bool h, .bool sg] w fun e w' => e = .returned (.int .i64 ((nhS 18 c d h sg : Nat) : Int)) ∧ w' = w := by
  go_enter Try.func73, Try.ntmps73
  go_wp2
  · have hw : ((c : Int) == ((((⟨#[110, 102, 105, 110, 105, 116, 121]⟩ : ByteArray)[2]'(by decide)).toNat : Nat) : Int)) = true := by assumption
    have hc : c = 105 := Int.ofNat_inj.1 (beq_iff_eq.1 hw)
    go_ret
    exact ⟨ret_int (by rw [hc]; rfl), rfl⟩
  · have hw : ((c : Int) == ((((⟨#[110, 102, 105, 110, 105, 116, 121]⟩ : ByteArray)[2]'(by decide)).toNat : Nat) : Int)) = false := by assumption
    have hc : ¬ c = 105 := fun h => beq_eq_false_iff_ne.1 hw (by rw [h]; rfl)
    go_ret
    exact ⟨ret_int (by simp [nhS, hc]), rfl⟩

set_option maxRecDepth 100000 in
theorem nh19 (c : Nat) (d h sg : Bool) (w : World) : Calls Try.prog 73 #[.int .i64 19, .int .u8 (c : Int), .bool d, .bool h, .bool sg] w fun e w' => e = .returned (.int .i64 ((nhS 19 c d h sg : Nat) : Int)) ∧ w' = w := by
  go_enter Try.func73, Try.ntmps73
  go_wp2
  · have hw : ((c : Int) == ((((⟨#[110, 102, 105, 110, 105, 116, 121]⟩ : ByteArray)[3]'(by decide)).toNat : Nat) : Int)) = true := by assumption
    have hc : c = 110 := Int.ofNat_inj.1 (beq_iff_eq.1 hw)
    go_ret
    exact ⟨ret_int (by rw [hc]; rfl), rfl⟩
  · have hw : ((c : Int) == ((((⟨#[110, 102, 105, 110, 105, 116, 121]⟩ : ByteArray)[3]'(by decide)).toNat : Nat) : Int)) = false := by assumption
    have hc : ¬ c = 110 := fun h => beq_eq_false_iff_ne.1 hw (by rw [h]; rfl)
    go_ret
    exact ⟨ret_int (by simp [nhS, hc]), rfl⟩

set_option maxRecDepth 100000 in
theorem nh20 (c : Nat) (d h sg : Bool) (w : World) : Calls Try.prog 73 #[.int .i64 20, .int .u8 (c : Int), .bool d, .bool h, .bool sg] w fun e w' => e = .returned (.int .i64 ((nhS 20 c d h sg : Nat) : Int)) ∧ w' = w := by
  go_enter Try.func73, Try.ntmps73
  go_wp2
  · have hw : ((c : Int) == ((((⟨#[110, 102, 105, 110, 105, 116, 121]⟩ : ByteArray)[4]'(by decide)).toNat : Nat) : Int)) = true := by assumption
    have hc : c = 105 := Int.ofNat_inj.1 (beq_iff_eq.1 hw)
    go_ret
    exact ⟨ret_int (by rw [hc]; rfl), rfl⟩
  · have hw : ((c : Int) == ((((⟨#[110, 102, 105, 110, 105, 116, 121]⟩ : ByteArray)[4]'(by decide)).toNat : Nat) : Int)) = false := by assumption
    have hc : ¬ c = 105 := fun h => beq_eq_false_iff_ne.1 hw (by rw [h]; rfl)
    go_ret
    exact ⟨ret_int (by simp [nhS, hc]), rfl⟩

set_option maxRecDepth 100000 in
theorem nh21 (c : Nat) (d h sg : Bool) (w : World) : Calls Try.prog 73 #[.int .i64 21, .int .u8 (c : Int), .bool d, .bool h, .bool sg] w fun e w' => e = .returned (.int .i64 ((nhS 21 c d h sg : Nat) : Int)) ∧ w' = w := by
  go_enter Try.func73, Try.ntmps73
  go_wp2
  · have hw : ((c : Int) == ((((⟨#[110, 102, 105, 110, 105, 116, 121]⟩ : ByteArray)[5]'(by decide)).toNat : Nat) : Int)) = true := by assumption
    have hc : c = 116 := Int.ofNat_inj.1 (beq_iff_eq.1 hw)
    go_ret
    exact ⟨ret_int (by rw [hc]; rfl), rfl⟩
  · have hw : ((c : Int) == ((((⟨#[110, 102, 105, 110, 105, 116, 121]⟩ : ByteArray)[5]'(by decide)).toNat : Nat) : Int)) = false := by assumption
    have hc : ¬ c = 116 := fun h => beq_eq_false_iff_ne.1 hw (by rw [h]; rfl)
    go_ret
    exact ⟨ret_int (by simp [nhS, hc]), rfl⟩

set_option maxRecDepth 100000 in
theorem nh22 (c : Nat) (d h sg : Bool) (w : World) : Calls Try.prog 73 #[.int .i64 22, .int .u8 (c : Int), .bool d, .bool h, .bool sg] w fun e w' => e = .returned (.int .i64 ((nhS 22 c d h sg : Nat) : Int)) ∧ w' = w := by
  go_enter Try.func73, Try.ntmps73
  go_wp2
  · have hw : ((c : Int) == ((((⟨#[110, 102, 105, 110, 105, 116, 121]⟩ : ByteArray)[6]'(by decide)).toNat : Nat) : Int)) = true := by assumption
    have hc : c = 121 := Int.ofNat_inj.1 (beq_iff_eq.1 hw)
    go_ret
    exact ⟨ret_int (by rw [hc]; rfl), rfl⟩
  · have hw : ((c : Int) == ((((⟨#[110, 102, 105, 110, 105, 116, 121]⟩ : ByteArray)[6]'(by decide)).toNat : Nat) : Int)) = false := by assumption
    have hc : ¬ c = 121 := fun h => beq_eq_false_iff_ne.1 hw (by rw [h]; rfl)
    go_ret
    exact ⟨ret_int (by simp [nhS, hc]), rfl⟩

set_option maxRecDepth 100000 in
theorem nh23 (c : Nat) (d h sg : Bool) (w : World) : Calls Try.prog 73 #[.int .i64 23, .int .u8 (c : Int), .bool d, .bool h, .bool sg] w fun e w' => e = .returned (.int .i64 ((nhS 23 c d h sg : Nat) : Int)) ∧ w' = w := by
  go_enter Try.func73, Try.ntmps73
  go_wp2
  go_ret
  exact ⟨ret_int (by simp [nhS]), rfl⟩

set_option maxRecDepth 100000 in
theorem nh24 (c : Nat) (d h sg : Bool) (w : World) : Calls Try.prog 73 #[.int .i64 24, .int .u8 (c : Int), .bool d, .bool h, .bool sg] w fun e w' => e = .returned (.int .i64 ((nhS 24 c d h sg : Nat) : Int)) ∧ w' = w := by
  go_enter Try.func73, Try.ntmps73
  go_wp2
  go_ret
  exact ⟨ret_int (by simp [nhS]), rfl⟩

set_option maxRecDepth 100000 in
theorem nh25 (c : Nat) (d h sg : Bool) (w : World) : Calls Try.prog 73 #[.int .i64 25, .int .u8 (c : Int), .bool d, .bool h, .bool sg] w fun e w' => e = .returned (.int .i64 ((nhS 25 c d h sg : Nat) : Int)) ∧ w' = w := by
  by_cases h97 : c = 97
  · subst h97
    go_enter Try.func73, Try.ntmps73
    go_wp2
    go_ret
    exact ⟨ret_int (by simp [nhS]), rfl⟩
  · have b97 : ((c : Int) == 97) = false := by rw [beq_eq_false_iff_ne]; omega
    go_enter Try.func73, Try.ntmps73
    go_wp2
    go_ret
    exact ⟨ret_int (by simp [nhS, h97]), rfl⟩

set_option maxRecDepth 100000 in
theorem nh26 (c : Nat) (d h sg : Bool) (w : World) : Calls Try.prog 73 #[.int .i64 26, .int .u8 (c : Int), .bool d, .bool h, .bool sg] w fun e w' => e = .returned (.int .i64 ((nhS 26 c d h sg : Nat) : Int)) ∧ w' = w := by
  by_cases h110 : c = 110
  · subst h110
    go_enter Try.func73, Try.ntmps73
    go_wp2
    go_ret
    exact ⟨ret_int (by simp [nhS]), rfl⟩
  · have b110 : ((c : Int) == 110) = false := by rw [beq_eq_false_iff_ne]; omega
    go_enter Try.func73, Try.ntmps73
    go_wp2
    go_ret
    exact ⟨ret_int (by simp [nhS, h110]), rfl⟩

set_option maxRecDepth 100000 in
theorem nh27 (c : Nat) (d h sg : Bool) (w : World) : Calls Try.prog 73 #[.int .i64 27, .int .u8 (c : Int), .bool d, .bool h, .bool sg] w fun e w' => e = .returned (.int .i64 ((nhS 27 c d h sg : Nat) : Int)) ∧ w' = w := by
  go_enter Try.func73, Try.ntmps73
  go_wp2
  go_ret
  exact ⟨ret_int (by simp [nhS]), rfl⟩

set_option maxRecDepth 100000 in
theorem nh28 (c : Nat) (d h sg : Bool) (w : World) : Calls Try.prog 73 #[.int .i64 28, .int .u8 (c : Int), .bool d, .bool h, .bool sg] w fun e w' => e = .returned (.int .i64 ((nhS 28 c d h sg : Nat) : Int)) ∧ w' = w := by
  go_enter Try.func73, Try.ntmps73
  go_wp2
  go_ret
  exact ⟨ret_int (by simp [nhS]), rfl⟩

theorem nh_any (s c : Nat) (d h sg : Bool) (w : World) (hs : s ≤ 28) : Calls Try.prog 73 #[.int .i64 (s : Int), .int .u8 (c : Int), .bool d, .bool h, .bool sg] w fun e w' => e = .returned (.int .i64 ((nhS s c d h sg : Nat) : Int)) ∧ w' = w := by
  have hc : s = 0 ∨ s = 1 ∨ s = 2 ∨ s = 3 ∨ s = 4 ∨ s = 5 ∨ s = 6 ∨ s = 7 ∨ s = 8 ∨ s = 9 ∨ s = 10 ∨ s = 11 ∨ s = 12 ∨ s = 13 ∨ s = 14 ∨ s = 15 ∨ s = 16 ∨ s = 17 ∨ s = 18 ∨ s = 19 ∨ s = 20 ∨ s = 21 ∨ s = 22 ∨ s = 23 ∨ s = 24 ∨ s = 25 ∨ s = 26 ∨ s = 27 ∨ s = 28 := by omega
  rcases hc with rfl | rfl | rfl | rfl | rfl | rfl | rfl | rfl | rfl | rfl | rfl | rfl | rfl | rfl | rfl | rfl | rfl | rfl | rfl | rfl | rfl | rfl | rfl | rfl | rfl | rfl | rfl | rfl | rfl
  · exact nh0 c d h sg w
  · exact nh1 c d h sg w
  · exact nh2 c d h sg w
  · exact nh3 c d h sg w
  · exact nh4 c d h sg w
  · exact nh5 c d h sg w
  · exact nh6 c d h sg w
  · exact nh7 c d h sg w
  · exact nh8 c d h sg w
  · exact nh9 c d h sg w
  · exact nh10 c d h sg w
  · exact nh11 c d h sg w
  · exact nh12 c d h sg w
  · exact nh13 c d h sg w
  · exact nh14 c d h sg w
  · exact nh15 c d h sg w
  · exact nh16 c d h sg w
  · exact nh17 c d h sg w
  · exact nh18 c d h sg w
  · exact nh19 c d h sg w
  · exact nh20 c d h sg w
  · exact nh21 c d h sg w
  · exact nh22 c d h sg w
  · exact nh23 c d h sg w
  · exact nh24 c d h sg w
  · exact nh25 c d h sg w
  · exact nh26 c d h sg w
  · exact nh27 c d h sg w
  · exact nh28 c d h sg w

end Go.Proofs.Ytbkdaoicnobllaa
