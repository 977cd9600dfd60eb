import Derived.Test.YtbkdaoicnobllabGreatDoorG05
import Derived.Test.YtbkdaoicnobllabGreatDoorG00
import Derived.Test.YtbkdaoicnobllabGreatDoorG02
import Derived.Deep.QuietTactic
import Derived.BigQuiet

namespace Go.Proofs.YtbkdaoicnobllabGreatDoor
open Go.RowKit

/-- What the sign adds to an amount. -/
def sgnF (f : Int) : Int := if f = 0 then 32768 else if f = 1 then 2147483648 else 9223372036854775808
/-- Whether it is a pattern of the format. -/
def hasB (f x : Int) : Bool := if f = 2 then true else decide (0 ≤ x ∧ x < 2 * sgnF f)
def negI (f x : Int) : Bool := if f = 2 then decide (x < 0) else decide (sgnF f ≤ x)
theorem ret_two {a b : Int} {c d : Bool} (h : a = b) (k : c = d) : Ending.returned (.tuple #[.int .i64 a, .bool c]) = .returned (.tuple #[.int .i64 b, .bool d]) := by rw [h, k]
theorem ret_two' {a b c d : Int} (h : a = b) (k : c = d) : Ending.returned (.tuple #[.int .i64 a, .int .i64 c]) = .returned (.tuple #[.int .i64 b, .int .i64 d]) := by rw [h, k]
def amtI (f x : Int) : Int := if f = 2 then (if x < 0 then x + sgnF f else x) else if sgnF f ≤ x then x - sgnF f else x
/-- The layout of format 0. -/
def lay0 : Value := .agg #[.int .i64 10, .int .i64 15, .int .i64 1024, .int .i64 31744, .int .i64 32768]
set_option maxRecDepth 100000 in
set_option maxHeartbeats 1000000 in
theorem of0 (w : World) : Calls Tryz.prog 27 #[.int .i64 0] w fun e w' => e = .returned lay0 ∧ Below w.heap.size w w' := by
  unfold lay0
  go_enter Tryz.func27, Tryz.ntmps27
  go_wp2
  exact bodyPost_ret (v := .agg #[.int .i64 10, .int .i64 15, .int .i64 1024, .int .i64 31744, .int .i64 32768]) (by simp [results, Tryz.results27, go_sem]) rfl ⟨rfl, (Below.refl _ _).alloc (Nat.le_refl _) _⟩
set_option maxRecDepth 100000 in
set_option maxHeartbeats 1000000 in
theorem has0 (x : Int) (h1 : -9223372036854775808 ≤ x) (h2 : x ≤ 9223372036854775807) (w : World) : Calls Tryz.prog 28 #[lay0, .int .i64 x] w fun e w' => e = .returned (.bool (hasB 0 x)) ∧ Below w.heap.size w w' := by
  unfold lay0
  by_cases a : 0 ≤ x
  · by_cases b : x < 65536
    · have HT : Hid (true = hasB 0 x) := by unfold Hid hasB sgnF; simp; omega
      go_enter Tryz.func28, Tryz.ntmps28
      go_wp2
      all_goals (go_ret; exact ⟨ret_bool HT.out, (Below.refl _ _).alloc (Nat.le_refl _) _⟩)
    · have HT : Hid (false = hasB 0 x) := by unfold Hid hasB sgnF; simp; omega
      go_enter Tryz.func28, Tryz.ntmps28
      go_wp2
      all_goals (go_ret; exact ⟨ret_bool HT.out, (Below.refl _ _).alloc (Nat.le_refl _) _⟩)
  · have HT : Hid (false = hasB 0 x) := by unfold Hid hasB sgnF; simp; omega
    go_enter Tryz.func28, Tryz.ntmps28
    go_wp2
    all_goals (go_ret; exact ⟨ret_bool HT.out, (Below.refl _ _).alloc (Nat.le_refl _) _⟩)
set_option maxRecDepth 100000 in
set_option maxHeartbeats 1000000 in
theorem split0 (x : Int) (h1 : 0 ≤ x) (h2 : x < 65536) (w : World) : Calls Tryz.prog 36 #[lay0, .int .i64 x] w fun e w' => e = .returned (.tuple #[.int .i64 (amtI 0 x), .bool (negI 0 x)]) ∧ Below w.heap.size w w' := by
  unfold lay0
  by_cases hn : x < 32768
  · have hb : bits .and .i64 x 32768 = 0 := sign_off 15 (by omega) x h1 (by simpa using hn)
    have HT : Hid (x = amtI 0 x ∧ false = negI 0 x) := by unfold Hid amtI negI sgnF; simp; omega
    go_enter Tryz.func36, Tryz.ntmps36
    go_wp2
    go_ret2
    exact ⟨ret_two HT.out.1 HT.out.2, (Below.refl _ _).alloc (Nat.le_refl _) _⟩
  · have hb : bits .and .i64 x 32768 = 32768 := (sign_on 15 (by omega) x (by simp; omega) (by simp; omega)).1
    have HT : Hid (x - 32768 = amtI 0 x ∧ true = negI 0 x) := by unfold Hid amtI negI sgnF; simp; omega
    go_enter Tryz.func36, Tryz.ntmps36
    go_wp2
    go_ret2
    exact ⟨ret_two HT.out.1 HT.out.2, (Below.refl _ _).alloc (Nat.le_refl _) _⟩
set_option maxRecDepth 100000 in
set_option maxHeartbeats 1000000 in
theorem least0 (w : World) : Calls Tryz.prog 90 #[lay0] w fun e w' => e = .returned (.int .i64 (-14)) ∧ Below w.heap.size w w' := by
  unfold lay0
  go_enter Tryz.func90, Tryz.ntmps90
  go_wp2
  go_ret
  exact ⟨rfl, (Below.refl _ _).alloc (Nat.le_refl _) _⟩
set_option maxRecDepth 100000 in
set_option maxHeartbeats 1000000 in
theorem number0 (a : Nat) (ha : (a : Int) < 31744) (w : World) : Calls Tryz.prog 53 #[lay0, .int .i64 a] w fun e w' => e = .returned (.tuple #[.int .i64 (mA 10 a : Nat), .int .i64 (-24 + (xA 10 a : Nat))]) ∧ Below w.heap.size w w' := by
  obtain ⟨A, hA⟩ : ∃ A : Int, A = (a : Int) := ⟨_, rfl⟩
  rw [← hA] at ha ⊢
  have hA0 : 0 ≤ A := by omega
  have HL := hid (least0)
  by_cases hlow : A < 1024
  · have HT : Hid ((mA 10 a : Int) = A ∧ -24 + (xA 10 a : Int) = -24) := by
      unfold Hid mA xA; rw [show (2 : Nat) ^ 10 = 1024 from by decide, show a / 1024 = 0 from by omega]; refine ⟨?_, by simp⟩
      rw [if_pos rfl]; omega
    clear hA
    unfold lay0 at *
    go_enter Tryz.func53, Tryz.ntmps53
    go_wp2_with fail
    have d0 : (w.alloc (.cells #[.int .i64 10, .int .i64 15, .int .i64 1024, .int .i64 31744, .int .i64 32768] 63)).cell? ⟨w.heap.size, 0, none⟩ = some (Value.int .i64 10) := by simp [go_sem]
    have d1 : (w.alloc (.cells #[.int .i64 10, .int .i64 15, .int .i64 1024, .int .i64 31744, .int .i64 32768] 63)).cell? ⟨w.heap.size, 1, none⟩ = some (Value.int .i64 15) := by simp [go_sem]
    have d2 : (w.alloc (.cells #[.int .i64 10, .int .i64 15, .int .i64 1024, .int .i64 31744, .int .i64 32768] 63)).cell? ⟨w.heap.size, 2, none⟩ = some (Value.int .i64 1024) := by simp [go_sem]
    have d3 : (w.alloc (.cells #[.int .i64 10, .int .i64 15, .int .i64 1024, .int .i64 31744, .int .i64 32768] 63)).cell? ⟨w.heap.size, 3, none⟩ = some (Value.int .i64 31744) := by simp [go_sem]
    have d4 : (w.alloc (.cells #[.int .i64 10, .int .i64 15, .int .i64 1024, .int .i64 31744, .int .i64 32768] 63)).cell? ⟨w.heap.size, 4, none⟩ = some (Value.int .i64 32768) := by simp [go_sem]
    have HB : Hid (Below w.heap.size w (w.alloc (.cells #[.int .i64 10, .int .i64 15, .int .i64 1024, .int .i64 31744, .int .i64 32768] 63))) := (Below.refl _ _).alloc (Nat.le_refl _) _
    have hw : w.heap.size < (w.alloc (.cells #[.int .i64 10, .int .i64 15, .int .i64 1024, .int .i64 31744, .int .i64 32768] 63)).heap.size := by simp
    generalize (w.alloc (.cells #[.int .i64 10, .int .i64 15, .int .i64 1024, .int .i64 31744, .int .i64 32768] 63)) = W at *
    go_region_held3 (fun w' => w'.cell? ⟨w.heap.size, 0, none⟩ = some (Value.int .i64 10) ∧ w'.cell? ⟨w.heap.size, 1, none⟩ = some (Value.int .i64 15) ∧ w'.cell? ⟨w.heap.size, 2, none⟩ = some (Value.int .i64 1024) ∧ w'.cell? ⟨w.heap.size, 3, none⟩ = some (Value.int .i64 31744) ∧ w'.cell? ⟨w.heap.size, 4, none⟩ = some (Value.int .i64 32768))
      (first | go_keep | exact ⟨keep_cell' hb (by assumption), keep_cell' hb (by assumption), keep_cell' hb (by assumption), keep_cell' hb (by assumption), keep_cell' hb (by assumption)⟩)
      ((go_at_call 90; refine (HL.out _).mono ?_; rintro e w4 ⟨rfl, hb⟩))
    have hb4 := (Below.refl W.heap.size W).drew.trans hb
    have HB4 : Hid (Below w.heap.size w w4) := HB.out.trans (hb4.mono (by omega))
    have e2 := keep_cell' hb4 d2
    have e0 := keep_cell' hb4 d0
    clear hb hb4 d0 d1 d2 d3 d4 hw HB
    go_wp2
    go_ret2
    exact ⟨ret_two' HT.out.1.symm HT.out.2.symm, HB4.out⟩
  · have HT : Hid ((mA 10 a : Int) = 1024 + A % 1024 ∧ -24 + (xA 10 a : Int) = -24 + A / 1024 - 1) := by
      unfold Hid mA xA; rw [show (2 : Nat) ^ 10 = 1024 from by decide, if_neg (by omega)]; omega
    have hq0 : 0 ≤ A / 1024 := by omega
    have hq1 : A / 1024 ≤ 2100 := by omega
    clear hA
    unfold lay0 at *
    go_enter Tryz.func53, Tryz.ntmps53
    go_wp2_with fail
    have d0 : (w.alloc (.cells #[.int .i64 10, .int .i64 15, .int .i64 1024, .int .i64 31744, .int .i64 32768] 63)).cell? ⟨w.heap.size, 0, none⟩ = some (Value.int .i64 10) := by simp [go_sem]
    have d1 : (w.alloc (.cells #[.int .i64 10, .int .i64 15, .int .i64 1024, .int .i64 31744, .int .i64 32768] 63)).cell? ⟨w.heap.size, 1, none⟩ = some (Value.int .i64 15) := by simp [go_sem]
    have d2 : (w.alloc (.cells #[.int .i64 10, .int .i64 15, .int .i64 1024, .int .i64 31744, .int .i64 32768] 63)).cell? ⟨w.heap.size, 2, none⟩ = some (Value.int .i64 1024) := by simp [go_sem]
    have d3 : (w.alloc (.cells #[.int .i64 10, .int .i64 15, .int .i64 1024, .int .i64 31744, .int .i64 32768] 63)).cell? ⟨w.heap.size, 3, none⟩ = some (Value.int .i64 31744) := by simp [go_sem]
    have d4 : (w.alloc (.cells #[.int .i64 10, .int .i64 15, .int .i64 1024, .int .i64 31744, .int .i64 32768] 63)).cell? ⟨w.heap.size, 4, none⟩ = some (Value.int .i64 32768) := by simp [go_sem]
    have HB : Hid (Below w.heap.size w (w.alloc (.cells #[.int .i64 10, .int .i64 15, .int .i64 1024, .int .i64 31744, .int .i64 32768] 63))) := (Below.refl _ _).alloc (Nat.le_refl _) _
    have hw : w.heap.size < (w.alloc (.cells #[.int .i64 10, .int .i64 15, .int .i64 1024, .int .i64 31744, .int .i64 32768] 63)).heap.size := by simp
    generalize (w.alloc (.cells #[.int .i64 10, .int .i64 15, .int .i64 1024, .int .i64 31744, .int .i64 32768] 63)) = W at *
    go_region_held3 (fun w' => w'.cell? ⟨w.heap.size, 0, none⟩ = some (Value.int .i64 10) ∧ w'.cell? ⟨w.heap.size, 1, none⟩ = some (Value.int .i64 15) ∧ w'.cell? ⟨w.heap.size, 2, none⟩ = some (Value.int .i64 1024) ∧ w'.cell? ⟨w.heap.size, 3, none⟩ = some (Value.int .i64 31744) ∧ w'.cell? ⟨w.heap.size, 4, none⟩ = some (Value.int .i64 32768))
      (first | go_keep | exact ⟨keep_cell' hb (by assumption), keep_cell' hb (by assumption), keep_cell' hb (by assumption), keep_cell' hb (by assumption), keep_cell' hb (by assumption)⟩)
      ((go_at_call 90; refine (HL.out _).mono ?_; rintro e w4 ⟨rfl, hb⟩))
    have hb4 := (Below.refl W.heap.size W).drew.trans hb
    have HB4 : Hid (Below w.heap.size w w4) := HB.out.trans (hb4.mono (by omega))
    have e2 := keep_cell' hb4 d2
    have e0 := keep_cell' hb4 d0
    clear hb hb4 d0 d1 d2 d3 d4 hw HB
    go_wp2
    go_quiet (fail)
    go_wp2
    go_ret2
    exact ⟨ret_two' HT.out.1.symm HT.out.2.symm, HB4.out.trans ((((Still.refl w4).drewN _).below _).mono HB4.out.size)⟩
/-- The layout of format 1. -/
def lay1 : Value := .agg #[.int .i64 23, .int .i64 127, .int .i64 8388608, .int .i64 2139095040, .int .i64 2147483648]
set_option maxRecDepth 100000 in
set_option maxHeartbeats 1000000 in
theorem of1 (w : World) : Calls Tryz.prog 27 #[.int .i64 1] w fun e w' => e = .returned lay1 ∧ Below w.heap.size w w' := by
  unfold lay1
  go_enter Tryz.func27, Tryz.ntmps27
  go_wp2
  exact bodyPost_ret (v := .agg #[.int .i64 23, .int .i64 127, .int .i64 8388608, .int .i64 2139095040, .int .i64 2147483648]) (by simp [results, Tryz.results27, go_sem]) rfl ⟨rfl, (Below.refl _ _).alloc (Nat.le_refl _) _⟩
set_option maxRecDepth 100000 in
set_option maxHeartbeats 1000000 in
theorem has1 (x : Int) (h1 : -9223372036854775808 ≤ x) (h2 : x ≤ 9223372036854775807) (w : World) : Calls Tryz.prog 28 #[lay1, .int .i64 x] w fun e w' => e = .returned (.bool (hasB 1 x)) ∧ Below w.heap.size w w' := by
  unfold lay1
  by_cases a : 0 ≤ x
  · by_cases b : x < 4294967296
    · have HT : Hid (true = hasB 1 x) := by unfold Hid hasB sgnF; simp; omega
      go_enter Tryz.func28, Tryz.ntmps28
      go_wp2
      all_goals (go_ret; exact ⟨ret_bool HT.out, (Below.refl _ _).alloc (Nat.le_refl _) _⟩)
    · have HT : Hid (false = hasB 1 x) := by unfold Hid hasB sgnF; simp; omega
      go_enter Tryz.func28, Tryz.ntmps28
      go_wp2
      all_goals (go_ret; exact ⟨ret_bool HT.out, (Below.refl _ _).alloc (Nat.le_refl _) _⟩)
  · have HT : Hid (false = hasB 1 x) := by unfold Hid hasB sgnF; simp; omega
    go_enter Tryz.func28, Tryz.ntmps28
    go_wp2
    all_goals (go_ret; exact ⟨ret_bool HT.out, (Below.refl _ _).alloc (Nat.le_refl _) _⟩)
set_option maxRecDepth 100000 in
set_option maxHeartbeats 1000000 in
theorem split1 (x : Int) (h1 : 0 ≤ x) (h2 : x < 4294967296) (w : World) : Calls Tryz.prog 36 #[lay1, .int .i64 x] w fun e w' => e = .returned (.tuple #[.int .i64 (amtI 1 x), .bool (negI 1 x)]) ∧ Below w.heap.size w w' := by
  unfold lay1
  by_cases hn : x < 2147483648
  · have hb : bits .and .i64 x 2147483648 = 0 := sign_off 31 (by omega) x h1 (by simpa using hn)
    have HT : Hid (x = amtI 1 x ∧ false = negI 1 x) := by unfold Hid amtI negI sgnF; simp; omega
    go_enter Tryz.func36, Tryz.ntmps36
    go_wp2
    go_ret2
    exact ⟨ret_two HT.out.1 HT.out.2, (Below.refl _ _).alloc (Nat.le_refl _) _⟩
  · have hb : bits .and .i64 x 2147483648 = 2147483648 := (sign_on 31 (by omega) x (by simp; omega) (by simp; omega)).1
    have HT : Hid (x - 2147483648 = amtI 1 x ∧ true = negI 1 x) := by unfold Hid amtI negI sgnF; simp; omega
    go_enter Tryz.func36, Tryz.ntmps36
    go_wp2
    go_ret2
    exact ⟨ret_two HT.out.1 HT.out.2, (Below.refl _ _).alloc (Nat.le_refl _) _⟩
set_option maxRecDepth 100000 in
set_option maxHeartbeats 1000000 in
theorem least1 (w : World) : Calls Tryz.prog 90 #[lay1] w fun e w' => e = .returned (.int .i64 (-126)) ∧ Below w.heap.size w w' := by
  unfold lay1
  go_enter Tryz.func90, Tryz.ntmps90
  go_wp2
  go_ret
  exact ⟨rfl, (Below.refl _ _).alloc (Nat.le_refl _) _⟩
set_option maxRecDepth 100000 in
set_option maxHeartbeats 1000000 in
theorem number1 (a : Nat) (ha : (a : Int) < 2139095040) (w : World) : Calls Tryz.prog 53 #[lay1, .int .i64 a] w fun e w' => e = .returned (.tuple #[.int .i64 (mA 23 a : Nat), .int .i64 (-149 + (xA 23 a : Nat))]) ∧ Below w.heap.size w w' := by
  obtain ⟨A, hA⟩ : ∃ A : Int, A = (a : Int) := ⟨_, rfl⟩
  rw [← hA] at ha ⊢
  have hA0 : 0 ≤ A := by omega
  have HL := hid (least1)
  by_cases hlow : A < 8388608
  · have HT : Hid ((mA 23 a : Int) = A ∧ -149 + (xA 23 a : Int) = -149) := by
      unfold Hid mA xA; rw [show (2 : Nat) ^ 23 = 8388608 from by decide, show a / 8388608 = 0 from by omega]; refine ⟨?_, by simp⟩
      rw [if_pos rfl]; omega
    clear hA
    unfold lay1 at *
    go_enter Tryz.func53, Tryz.ntmps53
    go_wp2_with fail
    have d0 : (w.alloc (.cells #[.int .i64 23, .int .i64 127, .int .i64 8388608, .int .i64 2139095040, .int .i64 2147483648] 63)).cell? ⟨w.heap.size, 0, none⟩ = some (Value.int .i64 23) := by simp [go_sem]
    have d1 : (w.alloc (.cells #[.int .i64 23, .int .i64 127, .int .i64 8388608, .int .i64 2139095040, .int .i64 2147483648] 63)).cell? ⟨w.heap.size, 1, none⟩ = some (Value.int .i64 127) := by simp [go_sem]
    have d2 : (w.alloc (.cells #[.int .i64 23, .int .i64 127, .int .i64 8388608, .int .i64 2139095040, .int .i64 2147483648] 63)).cell? ⟨w.heap.size, 2, none⟩ = some (Value.int .i64 8388608) := by simp [go_sem]
    have d3 : (w.alloc (.cells #[.int .i64 23, .int .i64 127, .int .i64 8388608, .int .i64 2139095040, .int .i64 2147483648] 63)).cell? ⟨w.heap.size, 3, none⟩ = some (Value.int .i64 2139095040) := by simp [go_sem]
    have d4 : (w.alloc (.cells #[.int .i64 23, .int .i64 127, .int .i64 8388608, .int .i64 2139095040, .int .i64 2147483648] 63)).cell? ⟨w.heap.size, 4, none⟩ = some (Value.int .i64 2147483648) := by simp [go_sem]
    have HB : Hid (Below w.heap.size w (w.alloc (.cells #[.int .i64 23, .int .i64 127, .int .i64 8388608, .int .i64 2139095040, .int .i64 2147483648] 63))) := (Below.refl _ _).alloc (Nat.le_refl _) _
    have hw : w.heap.size < (w.alloc (.cells #[.int .i64 23, .int .i64 127, .int .i64 8388608, .int .i64 2139095040, .int .i64 2147483648] 63)).heap.size := by simp
    generalize (w.alloc (.cells #[.int .i64 23, .int .i64 127, .int .i64 8388608, .int .i64 2139095040, .int .i64 2147483648] 63)) = W at *
    go_region_held3 (fun w' => w'.cell? ⟨w.heap.size, 0, none⟩ = some (Value.int .i64 23) ∧ w'.cell? ⟨w.heap.size, 1, none⟩ = some (Value.int .i64 127) ∧ w'.cell? ⟨w.heap.size, 2, none⟩ = some (Value.int .i64 8388608) ∧ w'.cell? ⟨w.heap.size, 3, none⟩ = some (Value.int .i64 2139095040) ∧ w'.cell? ⟨w.heap.size, 4, none⟩ = some (Value.int .i64 2147483648))
      (first | go_keep | exact ⟨keep_cell' hb (by assumption), keep_cell' hb (by assumption), keep_cell' hb (by assumption), keep_cell' hb (by assumption), keep_cell' hb (by assumption)⟩)
      ((go_at_call 90; refine (HL.out _).mono ?_; rintro e w4 ⟨rfl, hb⟩))
    have hb4 := (Below.refl W.heap.size W).drew.trans hb
    have HB4 : Hid (Below w.heap.size w w4) := HB.out.trans (hb4.mono (by omega))
    have e2 := keep_cell' hb4 d2
    have e0 := keep_cell' hb4 d0
    clear hb hb4 d0 d1 d2 d3 d4 hw HB
    go_wp2
    go_ret2
    exact ⟨ret_two' HT.out.1.symm HT.out.2.symm, HB4.out⟩
  · have HT : Hid ((mA 23 a : Int) = 8388608 + A % 8388608 ∧ -149 + (xA 23 a : Int) = -149 + A / 8388608 - 1) := by
      unfold Hid mA xA; rw [show (2 : Nat) ^ 23 = 8388608 from by decide, if_neg (by omega)]; omega
    have hq0 : 0 ≤ A / 8388608 := by omega
    have hq1 : A / 8388608 ≤ 2100 := by omega
    clear hA
    unfold lay1 at *
    go_enter Tryz.func53, Tryz.ntmps53
    go_wp2_with fail
    have d0 : (w.alloc (.cells #[.int .i64 23, .int .i64 127, .int .i64 8388608, .int .i64 2139095040, .int .i64 2147483648] 63)).cell? ⟨w.heap.size, 0, none⟩ = some (Value.int .i64 23) := by simp [go_sem]
    have d1 : (w.alloc (.cells #[.int .i64 23, .int .i64 127, .int .i64 8388608, .int .i64 2139095040, .int .i64 2147483648] 63)).cell? ⟨w.heap.size, 1, none⟩ = some (Value.int .i64 127) := by simp [go_sem]
    have d2 : (w.alloc (.cells #[.int .i64 23, .int .i64 127, .int .i64 8388608, .int .i64 2139095040, .int .i64 2147483648] 63)).cell? ⟨w.heap.size, 2, none⟩ = some (Value.int .i64 8388608) := by simp [go_sem]
    have d3 : (w.alloc (.cells #[.int .i64 23, .int .i64 127, .int .i64 8388608, .int .i64 2139095040, .int .i64 2147483648] 63)).cell? ⟨w.heap.size, 3, none⟩ = some (Value.int .i64 2139095040) := by simp [go_sem]
    have d4 : (w.alloc (.cells #[.int .i64 23, .int .i64 127, .int .i64 8388608, .int .i64 2139095040, .int .i64 2147483648] 63)).cell? ⟨w.heap.size, 4, none⟩ = some (Value.int .i64 2147483648) := by simp [go_sem]
    have HB : Hid (Below w.heap.size w (w.alloc (.cells #[.int .i64 23, .int .i64 127, .int .i64 8388608, .int .i64 2139095040, .int .i64 2147483648] 63))) := (Below.refl _ _).alloc (Nat.le_refl _) _
    have hw : w.heap.size < (w.alloc (.cells #[.int .i64 23, .int .i64 127, .int .i64 8388608, .int .i64 2139095040, .int .i64 2147483648] 63)).heap.size := by simp
    generalize (w.alloc (.cells #[.int .i64 23, .int .i64 127, .int .i64 8388608, .int .i64 2139095040, .int .i64 2147483648] 63)) = W at *
    go_region_held3 (fun w' => w'.cell? ⟨w.heap.size, 0, none⟩ = some (Value.int .i64 23) ∧ w'.cell? ⟨w.heap.size, 1, none⟩ = some (Value.int .i64 127) ∧ w'.cell? ⟨w.heap.size, 2, none⟩ = some (Value.int .i64 8388608) ∧ w'.cell? ⟨w.heap.size, 3, none⟩ = some (Value.int .i64 2139095040) ∧ w'.cell? ⟨w.heap.size, 4, none⟩ = some (Value.int .i64 2147483648))
      (first | go_keep | exact ⟨keep_cell' hb (by assumption), keep_cell' hb (by assumption), keep_cell' hb (by assumption), keep_cell' hb (by assumption), keep_cell' hb (by assumption)⟩)
      ((go_at_call 90; refine (HL.out _).mono ?_; rintro e w4 ⟨rfl, hb⟩))
    have hb4 := (Below.refl W.heap.size W).drew.trans hb
    have HB4 : Hid (Below w.heap.size w w4) := HB.out.trans (hb4.mono (by omega))
    have e2 := keep_cell' hb4 d2
    have e0 := keep_cell' hb4 d0
    clear hb hb4 d0 d1 d2 d3 d4 hw HB
    go_wp2
    go_quiet (fail)
    go_wp2
    go_ret2
    exact ⟨ret_two' HT.out.1.symm HT.out.2.symm, HB4.out.trans ((((Still.refl w4).drewN _).below _).mono HB4.out.size)⟩
/-- The layout of format 2. -/
def lay2 : Value := .agg #[.int .i64 52, .int .i64 1023, .int .i64 4503599627370496, .int .i64 9218868437227405312, .int .i64 (-9223372036854775808)]
set_option maxRecDepth 100000 in
set_option maxHeartbeats 1000000 in
theorem of2 (w : World) : Calls Tryz.prog 27 #[.int .i64 2] w fun e w' => e = .returned lay2 ∧ Below w.heap.size w w' := by
  unfold lay2
  go_enter Tryz.func27, Tryz.ntmps27
  go_wp2
  exact bodyPost_ret (v := .agg #[.int .i64 52, .int .i64 1023, .int .i64 4503599627370496, .int .i64 9218868437227405312, .int .i64 (-9223372036854775808)]) (by simp [results, Tryz.results27, go_sem]) rfl ⟨rfl, (Below.refl _ _).alloc (Nat.le_refl _) _⟩
set_option maxRecDepth 100000 in
set_option maxHeartbeats 1000000 in
theorem has2 (x : Int) (w : World) : Calls Tryz.prog 28 #[lay2, .int .i64 x] w fun e w' => e = .returned (.bool (hasB 2 x)) ∧ Below w.heap.size w w' := by
  unfold lay2
  have HT : Hid (true = hasB 2 x) := by unfold Hid hasB; simp
  go_enter Tryz.func28, Tryz.ntmps28
  go_wp2
  all_goals (go_ret; exact ⟨ret_bool HT.out, (Below.refl _ _).alloc (Nat.le_refl _) _⟩)
set_option maxRecDepth 100000 in
set_option maxHeartbeats 1000000 in
theorem split2 (x : Int) (h1 : -9223372036854775808 ≤ x) (h2 : x ≤ 9223372036854775807) (w : World) : Calls Tryz.prog 36 #[lay2, .int .i64 x] w fun e w' => e = .returned (.tuple #[.int .i64 (amtI 2 x), .bool (negI 2 x)]) ∧ Below w.heap.size w w' := by
  unfold lay2
  by_cases hn : 0 ≤ x
  · have hb : bits .and .i64 x (-9223372036854775808) = 0 := min_off x hn h2
    have HT : Hid (x = amtI 2 x ∧ false = negI 2 x) := by unfold Hid amtI negI sgnF; simp; omega
    go_enter Tryz.func36, Tryz.ntmps36
    go_wp2
    go_ret2
    exact ⟨ret_two HT.out.1 HT.out.2, (Below.refl _ _).alloc (Nat.le_refl _) _⟩
  · have hb : bits .and .i64 x (-9223372036854775808) = (-9223372036854775808) := (min_on x h1 (by omega)).1
    have HT : Hid (x + 9223372036854775808 = amtI 2 x ∧ true = negI 2 x) := by unfold Hid amtI negI sgnF; simp; omega
    go_enter Tryz.func36, Tryz.ntmps36
    go_wp2
    go_ret2
    exact ⟨ret_two HT.out.1 HT.out.2, (Below.refl _ _).alloc (Nat.le_refl _) _⟩
set_option maxRecDepth 100000 in
set_option maxHeartbeats 1000000 in
theorem least2 (w : World) : Calls Tryz.prog 90 #[lay2] w fun e w' => e = .returned (.int .i64 (-1022)) ∧ Below w.heap.size w w' := by
  unfold lay2
  go_enter Tryz.func90, Tryz.ntmps90
  go_wp2
  go_ret
  exact ⟨rfl, (Below.refl _ _).alloc (Nat.le_refl _) _⟩
set_option maxRecDepth 100000 in
set_option maxHeartbeats 1000000 in
theorem number2 (a : Nat) (ha : (a : Int) < 9218868437227405312) (w : World) : Calls Tryz.prog 53 #[lay2, .int .i64 a] w fun e w' => e = .returned (.tuple #[.int .i64 (mA 52 a : Nat), .int .i64 (-1074 + (xA 52 a : Nat))]) ∧ Below w.heap.size w w' := by
  obtain ⟨A, hA⟩ : ∃ A : Int, A = (a : Int) := ⟨_, rfl⟩
  rw [← hA] at ha ⊢
  have hA0 : 0 ≤ A := by omega
  have HL := hid (least2)
  by_cases hlow : A < 4503599627370496
  · have HT : Hid ((mA 52 a : Int) = A ∧ -1074 + (xA 52 a : Int) = -1074) := by
      unfold Hid mA xA; rw [show (2 : Nat) ^ 52 = 4503599627370496 from by decide, show a / 4503599627370496 = 0 from by omega]; refine ⟨?_, by simp⟩
      rw [if_pos rfl]; omega
    clear hA
    unfold lay2 at *
    go_enter Tryz.func53, Tryz.ntmps53
    go_wp2_with fail
    have d0 : (w.alloc (.cells #[.int .i64 52, .int .i64 1023, .int .i64 4503599627370496, .int .i64 9218868437227405312, .int .i64 (-9223372036854775808)] 63)).cell? ⟨w.heap.size, 0, none⟩ = some (Value.int .i64 52) := by simp [go_sem]
    have d1 : (w.alloc (.cells #[.int .i64 52, .int .i64 1023, .int .i64 4503599627370496, .int .i64 9218868437227405312, .int .i64 (-9223372036854775808)] 63)).cell? ⟨w.heap.size, 1, none⟩ = some (Value.int .i64 1023) := by simp [go_sem]
    have d2 : (w.alloc (.cells #[.int .i64 52, .int .i64 1023, .int .i64 4503599627370496, .int .i64 9218868437227405312, .int .i64 (-9223372036854775808)] 63)).cell? ⟨w.heap.size, 2, none⟩ = some (Value.int .i64 4503599627370496) := by simp [go_sem]
    have d3 : (w.alloc (.cells #[.int .i64 52, .int .i64 1023, .int .i64 4503599627370496, .int .i64 9218868437227405312, .int .i64 (-9223372036854775808)] 63)).cell? ⟨w.heap.size, 3, none⟩ = some (Value.int .i64 9218868437227405312) := by simp [go_sem]
    have d4 : (w.alloc (.cells #[.int .i64 52, .int .i64 1023, .int .i64 4503599627370496, .int .i64 9218868437227405312, .int .i64 (-9223372036854775808)] 63)).cell? ⟨w.heap.size, 4, none⟩ = some (Value.int .i64 (-9223372036854775808)) := by simp [go_sem]
    have HB : Hid (Below w.heap.size w (w.alloc (.cells #[.int .i64 52, .int .i64 1023, .int .i64 4503599627370496, .int .i64 9218868437227405312, .int .i64 (-9223372036854775808)] 63))) := (Below.refl _ _).alloc (Nat.le_refl _) _
    have hw : w.heap.size < (w.alloc (.cells #[.int .i64 52, .int .i64 1023, .int .i64 4503599627370496, .int .i64 9218868437227405312, .int .i64 (-9223372036854775808)] 63)).heap.size := by simp
    generalize (w.alloc (.cells #[.int .i64 52, .int .i64 1023, .int .i64 4503599627370496, .int .i64 9218868437227405312, .int .i64 (-9223372036854775808)] 63)) = W at *
    go_region_held3 (fun w' => w'.cell? ⟨w.heap.size, 0, none⟩ = some (Value.int .i64 52) ∧ w'.cell? ⟨w.heap.size, 1, none⟩ = some (Value.int .i64 1023) ∧ w'.cell? ⟨w.heap.size, 2, none⟩ = some (Value.int .i64 4503599627370496) ∧ w'.cell? ⟨w.heap.size, 3, none⟩ = some (Value.int .i64 9218868437227405312) ∧ w'.cell? ⟨w.heap.size, 4, none⟩ = some (Value.int .i64 (-9223372036854775808)))
      (first | go_keep | exact ⟨keep_cell' hb (by assumption), keep_cell' hb (by assumption), keep_cell' hb (by assumption), keep_cell' hb (by assumption), keep_cell' hb (by assumption)⟩)
      ((go_at_call 90; refine (HL.out _).mono ?_; rintro e w4 ⟨rfl, hb⟩))
    have hb4 := (Below.refl W.heap.size W).drew.trans hb
    have HB4 : Hid (Below w.heap.size w w4) := HB.out.trans (hb4.mono (by omega))
    have e2 := keep_cell' hb4 d2
    have e0 := keep_cell' hb4 d0
    clear hb hb4 d0 d1 d2 d3 d4 hw HB
    go_wp2
    go_ret2
    exact ⟨ret_two' HT.out.1.symm HT.out.2.symm, HB4.out⟩
  · have HT : Hid ((mA 52 a : Int) = 4503599627370496 + A % 4503599627370496 ∧ -1074 + (xA 52 a : Int) = -1074 + A / 4503599627370496 - 1) := by
      unfold Hid mA xA; rw [show (2 : Nat) ^ 52 = 4503599627370496 from by decide, if_neg (by omega)]; omega
    have hq0 : 0 ≤ A / 4503599627370496 := by omega
    have hq1 : A / 4503599627370496 ≤ 2100 := by omega
    clear hA
    unfold lay2 at *
    go_enter Tryz.func53, Tryz.ntmps53
    go_wp2_with fail
    have d0 : (w.alloc (.cells #[.int .i64 52, .int .i64 1023, .int .i64 4503599627370496, .int .i64 9218868437227405312, .int .i64 (-9223372036854775808)] 63)).cell? ⟨w.heap.size, 0, none⟩ = some (Value.int .i64 52) := by simp [go_sem]
    have d1 : (w.alloc (.cells #[.int .i64 52, .int .i64 1023, .int .i64 4503599627370496, .int .i64 9218868437227405312, .int .i64 (-9223372036854775808)] 63)).cell? ⟨w.heap.size, 1, none⟩ = some (Value.int .i64 1023) := by simp [go_sem]
    have d2 : (w.alloc (.cells #[.int .i64 52, .int .i64 1023, .int .i64 4503599627370496, .int .i64 9218868437227405312, .int .i64 (-9223372036854775808)] 63)).cell? ⟨w.heap.size, 2, none⟩ = some (Value.int .i64 4503599627370496) := by simp [go_sem]
    have d3 : (w.alloc (.cells #[.int .i64 52, .int .i64 1023, .int .i64 4503599627370496, .int .i64 9218868437227405312, .int .i64 (-9223372036854775808)] 63)).cell? ⟨w.heap.size, 3, none⟩ = some (Value.int .i64 9218868437227405312) := by simp [go_sem]
    have d4 : (w.alloc (.cells #[.int .i64 52, .int .i64 1023, .int .i64 4503599627370496, .int .i64 9218868437227405312, .int .i64 (-9223372036854775808)] 63)).cell? ⟨w.heap.size, 4, none⟩ = some (Value.int .i64 (-9223372036854775808)) := by simp [go_sem]
    have HB : Hid (Below w.heap.size w (w.alloc (.cells #[.int .i64 52, .int .i64 1023, .int .i64 4503599627370496, .int .i64 9218868437227405312, .int .i64 (-9223372036854775808)] 63))) := (Below.refl _ _).alloc (Nat.le_refl _) _
    have hw : w.heap.size < (w.alloc (.cells #[.int .i64 52, .int .i64 1023, .int .i64 4503599627370496, .int .i64 9218868437227405312, .int .i64 (-9223372036854775808)] 63)).heap.size := by simp
    generalize (w.alloc (.cells #[.int .i64 52, .int .i64 1023, .int .i64 4503599627370496, .int .i64 9218868437227405312, .int .i64 (-9223372036854775808)] 63)) = W at *
    go_region_held3 (fun w' => w'.cell? ⟨w.heap.size, 0, none⟩ = some (Value.int .i64 52) ∧ w'.cell? ⟨w.heap.size, 1, none⟩ = some (Value.int .i64 1023) ∧ w'.cell? ⟨w.heap.size, 2, none⟩ = some (Value.int .i64 4503599627370496) ∧ w'.cell? ⟨w.heap.size, 3, none⟩ = some (Value.int .i64 9218868437227405312) ∧ w'.cell? ⟨w.heap.size, 4, none⟩ = some (Value.int .i64 (-9223372036854775808)))
      (first | go_keep | exact ⟨keep_cell' hb (by assumption), keep_cell' hb (by assumption), keep_cell' hb (by assumption), keep_cell' hb (by assumption), keep_cell' hb (by assumption)⟩)
      ((go_at_call 90; refine (HL.out _).mono ?_; rintro e w4 ⟨rfl, hb⟩))
    have hb4 := (Below.refl W.heap.size W).drew.trans hb
    have HB4 : Hid (Below w.heap.size w w4) := HB.out.trans (hb4.mono (by omega))
    have e2 := keep_cell' hb4 d2
    have e0 := keep_cell' hb4 d0
    clear hb hb4 d0 d1 d2 d3 d4 hw HB
    go_wp2
    go_quiet (fail)
    go_wp2
    go_ret2
    exact ⟨ret_two' HT.out.1.symm HT.out.2.symm, HB4.out.trans ((((Still.refl w4).drewN _).below _).mono HB4.out.size)⟩
end Go.Proofs.YtbkdaoicnobllabGreatDoor

namespace Go.Proofs.YtbkdaoicnobllabGreatDoor
open Go.RowKit

/-- A style's value. -/
def styV (verb prec mode : Int) : Value := .agg #[.int .i64 verb, .int .i64 prec, .int .i64 mode]
/-- The text of a pattern, T being that of its finite amount. -/
def outT (f x : Int) (T : List UInt8) : List UInt8 :=
  if (infN f : Int) < amtI f x then [110, 97, 110] else (if negI f x = true then [45] else []) ++ (if amtI f x < infN f then T else [105, 110, 102])
/-- What a text of a finite amount is to be. -/
def TextPost (w w' : World) (r : Ending) (Q : List UInt8 → Prop) : Prop := ∃ T : List UInt8, r = .returned (.string (str T)) ∧ Q T ∧ T.length ≤ 5000 ∧ Below w.heap.size w w'
def OutPost (f x : Int) (w w' : World) (r : Ending) (Q : List UInt8 → Prop) : Prop := ∃ T : List UInt8, r = .returned (.string (str (outT f x T))) ∧ (amtI f x < infN f → Q T) ∧ T.length ≤ 5000 ∧ Below w.heap.size w w'
theorem amtI_nonneg (f x : Int) (h : hasB f x = true) (hf : f = 0 ∨ f = 1 ∨ f = 2) (hx : -9223372036854775808 ≤ x ∧ x ≤ 9223372036854775807) : 0 ≤ amtI f x ∧ amtI f x ≤ 9223372036854775807 := by
  rcases hf with rfl | rfl | rfl <;> simp [hasB, amtI, sgnF] at * <;> (repeat' split) <;> omega
def allowB (verb prec mode : Int) : Bool := if verb = 0 ∨ verb = 1 ∨ verb = 4 then decide (prec = -1 ∧ mode = 0) else if verb = 2 ∨ verb = 3 then decide (0 ≤ prec ∧ prec ≤ 800 ∧ 0 ≤ mode ∧ mode ≤ 4) else false
def modeB (m : Int) : Bool := decide (0 ≤ m ∧ m ≤ 4)
def formB (f : Int) : Bool := decide (0 ≤ f ∧ f ≤ 2)
set_option maxRecDepth 100000 in
set_option maxHeartbeats 1000000 in
theorem isMode_any (m : Int) (w : World) : Calls Tryz.prog 31 #[.int .i64 m] w fun e w' => e = .returned (.bool (modeB m)) ∧ w' = w := by
  by_cases a : 0 ≤ m
  · by_cases b : m ≤ 4
    · have HT : Hid (true = modeB m) := by unfold Hid modeB; simp; omega
      go_enter Tryz.func31, Tryz.ntmps31
      go_wp2
      all_goals (go_ret; exact ⟨ret_bool (by first | exact HT.out | (rw [← HT.out]; simp; omega)), rfl⟩)
    · have HT : Hid (false = modeB m) := by unfold Hid modeB; simp; omega
      go_enter Tryz.func31, Tryz.ntmps31
      go_wp2
      all_goals (go_ret; exact ⟨ret_bool (by first | exact HT.out | (rw [← HT.out]; simp; omega)), rfl⟩)
  · have HT : Hid (false = modeB m) := by unfold Hid modeB; simp; omega
    go_enter Tryz.func31, Tryz.ntmps31
    go_wp2
    all_goals (go_ret; exact ⟨ret_bool (by first | exact HT.out | (rw [← HT.out]; simp; omega)), rfl⟩)
set_option maxRecDepth 100000 in
set_option maxHeartbeats 1000000 in
theorem isFormat_any (m : Int) (w : World) : Calls Tryz.prog 26 #[.int .i64 m] w fun e w' => e = .returned (.bool (formB m)) ∧ w' = w := by
  by_cases a : 0 ≤ m
  · by_cases b : m ≤ 2
    · have HT : Hid (true = formB m) := by unfold Hid formB; simp; omega
      go_enter Tryz.func26, Tryz.ntmps26
      go_wp2
      all_goals (go_ret; exact ⟨ret_bool (by first | exact HT.out | (rw [← HT.out]; simp; omega)), rfl⟩)
    · have HT : Hid (false = formB m) := by unfold Hid formB; simp; omega
      go_enter Tryz.func26, Tryz.ntmps26
      go_wp2
      all_goals (go_ret; exact ⟨ret_bool (by first | exact HT.out | (rw [← HT.out]; simp; omega)), rfl⟩)
  · have HT : Hid (false = formB m) := by unfold Hid formB; simp; omega
    go_enter Tryz.func26, Tryz.ntmps26
    go_wp2
    all_goals (go_ret; exact ⟨ret_bool (by first | exact HT.out | (rw [← HT.out]; simp; omega)), rfl⟩)
set_option maxRecDepth 100000 in
set_option maxHeartbeats 1000000 in
theorem allowed_short (verb prec mode : Int) (hv : verb = 0 ∨ verb = 1 ∨ verb = 4) (w : World) : Calls Tryz.prog 29 #[styV verb prec mode] w fun e w' => e = .returned (.bool (allowB verb prec mode)) ∧ Below w.heap.size w w' := by
  by_cases p : prec = -1
  · by_cases m : mode = 0
    · subst p m
      rcases hv with rfl | rfl | rfl
      · have HT : Hid (true = allowB 0 (-1) 0) := by unfold Hid allowB; first | (simp; done) | (simp; omega)
        unfold styV
        go_enter Tryz.func29, Tryz.ntmps29
        go_wp2
        all_goals (go_ret; exact ⟨ret_bool (by first | exact HT.out | (rw [← HT.out]; simp; omega)), (Below.refl _ _).alloc (Nat.le_refl _) _⟩)
      · have HT : Hid (true = allowB 1 (-1) 0) := by unfold Hid allowB; first | (simp; done) | (simp; omega)
        unfold styV
        go_enter Tryz.func29, Tryz.ntmps29
        go_wp2
        all_goals (go_ret; exact ⟨ret_bool (by first | exact HT.out | (rw [← HT.out]; simp; omega)), (Below.refl _ _).alloc (Nat.le_refl _) _⟩)
      · have HT : Hid (true = allowB 4 (-1) 0) := by unfold Hid allowB; first | (simp; done) | (simp; omega)
        unfold styV
        go_enter Tryz.func29, Tryz.ntmps29
        go_wp2
        all_goals (go_ret; exact ⟨ret_bool (by first | exact HT.out | (rw [← HT.out]; simp; omega)), (Below.refl _ _).alloc (Nat.le_refl _) _⟩)
    · subst p
      have t : (mode == 0) = false := by rw [beq_eq_false_iff_ne]; exact m
      rcases hv with rfl | rfl | rfl
      · have HT : Hid (false = allowB 0 (-1) mode) := by unfold Hid allowB; first | (simp; done) | (simp; omega)
        unfold styV
        go_enter Tryz.func29, Tryz.ntmps29
        go_wp2
        all_goals (go_ret; exact ⟨ret_bool (by first | exact HT.out | (rw [← HT.out]; simp; omega)), (Below.refl _ _).alloc (Nat.le_refl _) _⟩)
      · have HT : Hid (false = allowB 1 (-1) mode) := by unfold Hid allowB; first | (simp; done) | (simp; omega)
        unfold styV
        go_enter Tryz.func29, Tryz.ntmps29
        go_wp2
        all_goals (go_ret; exact ⟨ret_bool (by first | exact HT.out | (rw [← HT.out]; simp; omega)), (Below.refl _ _).alloc (Nat.le_refl _) _⟩)
      · have HT : Hid (false = allowB 4 (-1) mode) := by unfold Hid allowB; first | (simp; done) | (simp; omega)
        unfold styV
        go_enter Tryz.func29, Tryz.ntmps29
        go_wp2
        all_goals (go_ret; exact ⟨ret_bool (by first | exact HT.out | (rw [← HT.out]; simp; omega)), (Below.refl _ _).alloc (Nat.le_refl _) _⟩)
  · have t : (prec == -1) = false := by rw [beq_eq_false_iff_ne]; exact p
    rcases hv with rfl | rfl | rfl
    · have HT : Hid (false = allowB 0 prec mode) := by unfold Hid allowB; first | (simp; done) | (simp; omega)
      unfold styV
      go_enter Tryz.func29, Tryz.ntmps29
      go_wp2
      all_goals (go_ret; exact ⟨ret_bool (by first | exact HT.out | (rw [← HT.out]; simp; omega)), (Below.refl _ _).alloc (Nat.le_refl _) _⟩)
    · have HT : Hid (false = allowB 1 prec mode) := by unfold Hid allowB; first | (simp; done) | (simp; omega)
      unfold styV
      go_enter Tryz.func29, Tryz.ntmps29
      go_wp2
      all_goals (go_ret; exact ⟨ret_bool (by first | exact HT.out | (rw [← HT.out]; simp; omega)), (Below.refl _ _).alloc (Nat.le_refl _) _⟩)
    · have HT : Hid (false = allowB 4 prec mode) := by unfold Hid allowB; first | (simp; done) | (simp; omega)
      unfold styV
      go_enter Tryz.func29, Tryz.ntmps29
      go_wp2
      all_goals (go_ret; exact ⟨ret_bool (by first | exact HT.out | (rw [← HT.out]; simp; omega)), (Below.refl _ _).alloc (Nat.le_refl _) _⟩)
set_option maxRecDepth 100000 in
set_option maxHeartbeats 1000000 in
theorem allowed_exact (verb prec mode : Int) (hv : verb = 2 ∨ verb = 3) (w : World) : Calls Tryz.prog 29 #[styV verb prec mode] w fun e w' => e = .returned (.bool (allowB verb prec mode)) ∧ Below w.heap.size w w' := by
  by_cases p : 0 ≤ prec
  · by_cases p2 : prec ≤ 800
    · by_cases m : 0 ≤ mode ∧ mode ≤ 4
      · rcases hv with rfl | rfl
        · have HT : Hid (true = allowB 2 prec mode) := by unfold Hid allowB; simp; omega
          unfold styV
          go_enter Tryz.func29, Tryz.ntmps29
          go_wp2_with (go_at_call 31; refine (isMode_any _ _).mono ?_; rintro e w' ⟨rfl, rfl⟩)
          all_goals (go_ret; exact ⟨ret_bool (by first | exact HT.out | (rw [← HT.out]; unfold modeB; simp; omega)), (Below.refl _ _).alloc (Nat.le_refl _) _⟩)
        · have HT : Hid (true = allowB 3 prec mode) := by unfold Hid allowB; simp; omega
          unfold styV
          go_enter Tryz.func29, Tryz.ntmps29
          go_wp2_with (go_at_call 31; refine (isMode_any _ _).mono ?_; rintro e w' ⟨rfl, rfl⟩)
          all_goals (go_ret; exact ⟨ret_bool (by first | exact HT.out | (rw [← HT.out]; unfold modeB; simp; omega)), (Below.refl _ _).alloc (Nat.le_refl _) _⟩)
      · rcases hv with rfl | rfl
        · have HT : Hid (false = allowB 2 prec mode) := by unfold Hid allowB; simp; omega
          unfold styV
          go_enter Tryz.func29, Tryz.ntmps29
          go_wp2_with (go_at_call 31; refine (isMode_any _ _).mono ?_; rintro e w' ⟨rfl, rfl⟩)
          all_goals (go_ret; exact ⟨ret_bool (by first | exact HT.out | (rw [← HT.out]; unfold modeB; simp; omega)), (Below.refl _ _).alloc (Nat.le_refl _) _⟩)
        · have HT : Hid (false = allowB 3 prec mode) := by unfold Hid allowB; simp; omega
          unfold styV
          go_enter Tryz.func29, Tryz.ntmps29
          go_wp2_with (go_at_call 31; refine (isMode_any _ _).mono ?_; rintro e w' ⟨rfl, rfl⟩)
          all_goals (go_ret; exact ⟨ret_bool (by first | exact HT.out | (rw [← HT.out]; unfold modeB; simp; omega)), (Below.refl _ _).alloc (Nat.le_refl _) _⟩)
    · rcases hv with rfl | rfl
      · have HT : Hid (false = allowB 2 prec mode) := by unfold Hid allowB; simp; omega
        unfold styV
        go_enter Tryz.func29, Tryz.ntmps29
        go_wp2_with (go_at_call 31; refine (isMode_any _ _).mono ?_; rintro e w' ⟨rfl, rfl⟩)
        all_goals (go_ret; exact ⟨ret_bool (by first | exact HT.out | (rw [← HT.out]; unfold modeB; simp; omega)), (Below.refl _ _).alloc (Nat.le_refl _) _⟩)
      · have HT : Hid (false = allowB 3 prec mode) := by unfold Hid allowB; simp; omega
        unfold styV
        go_enter Tryz.func29, Tryz.ntmps29
        go_wp2_with (go_at_call 31; refine (isMode_any _ _).mono ?_; rintro e w' ⟨rfl, rfl⟩)
        all_goals (go_ret; exact ⟨ret_bool (by first | exact HT.out | (rw [← HT.out]; unfold modeB; simp; omega)), (Below.refl _ _).alloc (Nat.le_refl _) _⟩)
  · rcases hv with rfl | rfl
    · have HT : Hid (false = allowB 2 prec mode) := by unfold Hid allowB; simp; omega
      unfold styV
      go_enter Tryz.func29, Tryz.ntmps29
      go_wp2_with (go_at_call 31; refine (isMode_any _ _).mono ?_; rintro e w' ⟨rfl, rfl⟩)
      all_goals (go_ret; exact ⟨ret_bool (by first | exact HT.out | (rw [← HT.out]; unfold modeB; simp; omega)), (Below.refl _ _).alloc (Nat.le_refl _) _⟩)
    · have HT : Hid (false = allowB 3 prec mode) := by unfold Hid allowB; simp; omega
      unfold styV
      go_enter Tryz.func29, Tryz.ntmps29
      go_wp2_with (go_at_call 31; refine (isMode_any _ _).mono ?_; rintro e w' ⟨rfl, rfl⟩)
      all_goals (go_ret; exact ⟨ret_bool (by first | exact HT.out | (rw [← HT.out]; unfold modeB; simp; omega)), (Below.refl _ _).alloc (Nat.le_refl _) _⟩)
set_option maxRecDepth 100000 in
set_option maxHeartbeats 1000000 in
theorem allowed_none (verb prec mode : Int) (h : ¬ (verb = 0 ∨ verb = 1 ∨ verb = 4 ∨ verb = 2 ∨ verb = 3)) (w : World) : Calls Tryz.prog 29 #[styV verb prec mode] w fun e w' => e = .returned (.bool (allowB verb prec mode)) ∧ Below w.heap.size w w' := by
  have t0 : (verb == 0) = false := by rw [beq_eq_false_iff_ne]; omega
  have t1 : (verb == 1) = false := by rw [beq_eq_false_iff_ne]; omega
  have t2 : (verb == 2) = false := by rw [beq_eq_false_iff_ne]; omega
  have t3 : (verb == 3) = false := by rw [beq_eq_false_iff_ne]; omega
  have t4 : (verb == 4) = false := by rw [beq_eq_false_iff_ne]; omega
  have HT : Hid (false = allowB verb prec mode) := by unfold Hid allowB; rw [if_neg (by omega), if_neg (by omega)]
  clear h
  unfold styV
  go_enter Tryz.func29, Tryz.ntmps29
  go_wp2
  go_ret
  exact ⟨ret_bool HT.out, (Below.refl _ _).alloc (Nat.le_refl _) _⟩
theorem allowed_any (verb prec mode : Int) (w : World) : Calls Tryz.prog 29 #[styV verb prec mode] w fun e w' => e = .returned (.bool (allowB verb prec mode)) ∧ Below w.heap.size w w' := by
  by_cases h : verb = 0 ∨ verb = 1 ∨ verb = 4
  · exact allowed_short verb prec mode h w
  · by_cases h2 : verb = 2 ∨ verb = 3
    · exact allowed_exact verb prec mode h2 w
    · exact allowed_none verb prec mode (by omega) w
end Go.Proofs.YtbkdaoicnobllabGreatDoor
