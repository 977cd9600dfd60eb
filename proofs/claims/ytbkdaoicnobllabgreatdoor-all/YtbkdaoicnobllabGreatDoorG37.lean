import Derived.Test.YtbkdaoicnobllabGreatDoorG36
import Derived.Test.YtbkdaoicnobllabGreatDoorG06

namespace Go.Proofs.YtbkdaoicnobllabGreatDoor
set_option maxRecDepth 100000
set_option maxHeartbeats 16000000
open Go.RowKit

theorem isDigit_b (c : Nat) (w : World) : Calls Tryz.prog 111 #[.int .u8 (c : Int)] w fun e w' => e = .returned (.bool (isDig c)) ∧ w' = w := by
 have := isDigit_any (c : Int) w
 rwa [show (decide (48 ≤ (c : Int)) && decide ((c : Int) ≤ 57)) = isDig c from by unfold isDig; rw [Bool.eq_iff_iff]; simp; omega] at this

theorem isHex_b (c : Nat) (w : World) : Calls Tryz.prog 112 #[.int .u8 (c : Int)] w fun e w' => e = .returned (.bool (isHexc c)) ∧ w' = w := by
 cases hd : isDig c with
 | true =>
  have HD := hid hd
  go_enter Tryz.func112, Tryz.ntmps112
  go_wp2_with fail
  refine (isDigit_b c w).mono ?_
  rintro e w' ⟨rfl, rfl⟩
  go_wp2
  go_ret
  exact ⟨by unfold isHexc; rw [HD.out]; rfl, rfl⟩
 | false =>
  have HD := hid hd
  by_cases h1 : 97 ≤ (c : Int)
  ·by_cases h2 : (c : Int) ≤ 102
   all_goals
    go_enter Tryz.func112, Tryz.ntmps112
    go_wp2_with fail
    refine (isDigit_b c w).mono ?_
    rintro e w' ⟨rfl, rfl⟩
    go_wp2
    go_ret
    refine ⟨congrArg (fun b => Ending.returned (Value.bool b)) ?_, rfl⟩
    unfold isHexc; rw [HD.out, Bool.eq_iff_iff]; simp; try omega
  ·have h1' : decide (97 ≤ (c : Int)) = false := decide_eq_false h1
   go_enter Tryz.func112, Tryz.ntmps112
   go_wp2_with fail
   refine (isDigit_b c w).mono ?_
   rintro e w' ⟨rfl, rfl⟩
   go_wp2
   go_ret
   refine ⟨congrArg (fun b => Ending.returned (Value.bool b)) ?_, rfl⟩
   unfold isHexc; rw [HD.out, Bool.eq_iff_iff]; simp; try omega


theorem nh_low (S : Int) (hS : 0 ≤ S ∧ S ≤ 9) (c : Nat) (d h sg : Bool) (w : World) : Calls Tryz.prog 113 #[.int .i64 S, .int .u8 (c : Int), .bool d, .bool h, .bool sg] w fun e w' => e = .returned (.int .i64 28) ∧ w' = w := by
  rcases (by omega : S = 0 ∨ S = 1 ∨ S = 2 ∨ S = 3 ∨ S = 4 ∨ S = 5 ∨ S = 6 ∨ S = 7 ∨ S = 8 ∨ S = 9) with rfl | rfl | rfl | rfl | rfl | rfl | rfl | rfl | rfl | rfl
  all_goals
    (go_enter Tryz.func113, Tryz.ntmps113
     go_wp2
     go_ret
     exact ⟨rfl, rfl⟩)
theorem nh_any (s : Nat) (c : Nat) (d h sg : Bool) (w : World) (hs : s ≤ 28) : Calls Tryz.prog 113 #[.int .i64 (s : Int), .int .u8 (c : Int), .bool d, .bool h, .bool sg] w fun e w' => e = .returned (.int .i64 ((nhS s c d h sg : Nat) : Int)) ∧ w' = w := by
  by_cases h9 : s ≤ 9
  · rw [show nhS s c d h sg = 28 from by rcases (by omega : s = 0 ∨ s = 1 ∨ s = 2 ∨ s = 3 ∨ s = 4 ∨ s = 5 ∨ s = 6 ∨ s = 7 ∨ s = 8 ∨ s = 9) with rfl | rfl | rfl | rfl | rfl | rfl | rfl | rfl | rfl | rfl <;> rfl]
    exact nh_low s (by omega) c d h sg w
  by_cases hn : s = 23 ∨ s = 24 ∨ s = 27 ∨ s = 28
  · rcases hn with rfl | rfl | rfl | rfl
    all_goals
    (go_enter Tryz.func113, Tryz.ntmps113
     go_wp2
     go_ret
     exact ⟨ret_int (by simp [nhS]), rfl⟩)
  by_cases hd : 13 ≤ s ∧ s ≤ 15
  · rcases (by omega : s = 13 ∨ s = 14 ∨ s = 15) with rfl | rfl | rfl
    all_goals cases d <;> cases sg
    all_goals
    (go_enter Tryz.func113, Tryz.ntmps113
     go_wp2
     go_ret
     exact ⟨ret_int (by simp [nhS]), rfl⟩)
  by_cases hh : s ≤ 12
  · have b46 : ((c : Int) == 46) = decide (c = 46) := by rw [Bool.eq_iff_iff]; simp; omega
    have b112 : ((c : Int) == 112) = decide (c = 112) := by rw [Bool.eq_iff_iff]; simp; omega
    obtain ⟨p, hp⟩ : ∃ p, decide (c = 46) = p := ⟨_, rfl⟩
    obtain ⟨q, hq⟩ : ∃ q, decide (c = 112) = q := ⟨_, rfl⟩
    rw [hp] at b46
    rw [hq] at b112
    have HP := hid (And.intro hp hq)
    clear hp hq
    rcases (by omega : s = 10 ∨ s = 11 ∨ s = 12) with rfl | rfl | rfl
    all_goals cases h <;> cases p <;> cases q
    all_goals
    (go_enter Tryz.func113, Tryz.ntmps113
     go_wp2
     go_ret
     exact ⟨ret_int (by have hp := HP.out; simp at hp; first | (exfalso; omega) | simp [nhS, hp]), rfl⟩)
  obtain ⟨k, hk⟩ : ∃ k : Nat, (s = 16 ∧ k = 110) ∨ (s = 17 ∧ k = 102) ∨ (s = 18 ∧ k = 105) ∨ (s = 19 ∧ k = 110) ∨ (s = 20 ∧ k = 105) ∨ (s = 21 ∧ k = 116) ∨ (s = 22 ∧ k = 121) ∨ (s = 25 ∧ k = 97) ∨ (s = 26 ∧ k = 110) := by
    rcases (by omega : s = 16 ∨ s = 17 ∨ s = 18 ∨ s = 19 ∨ s = 20 ∨ s = 21 ∨ s = 22 ∨ s = 25 ∨ s = 26) with rfl | rfl | rfl | rfl | rfl | rfl | rfl | rfl | rfl <;> exact ⟨_, by simp; rfl⟩
  obtain ⟨p, hp⟩ : ∃ p, decide (c = k) = p := ⟨_, rfl⟩
  have b : ((c : Int) == (k : Int)) = p := by rw [← hp, Bool.eq_iff_iff]; simp; omega
  have HP := hid hp
  clear hp
  by_cases hw : s ≤ 22
  · have HB := hid b
    clear b
    rcases (by omega : (s = 16 ∧ k = 110) ∨ (s = 17 ∧ k = 102) ∨ (s = 18 ∧ k = 105) ∨ (s = 19 ∧ k = 110) ∨ (s = 20 ∧ k = 105) ∨ (s = 21 ∧ k = 116) ∨ (s = 22 ∧ k = 121)) with ⟨rfl, rfl⟩ | ⟨rfl, rfl⟩ | ⟨rfl, rfl⟩ | ⟨rfl, rfl⟩ | ⟨rfl, rfl⟩ | ⟨rfl, rfl⟩ | ⟨rfl, rfl⟩
    all_goals
      (go_enter Tryz.func113, Tryz.ntmps113
       go_wp2
       all_goals
         (first | have hq : p = true := HB.out.symm.trans (by assumption) | have hq : p = false := HB.out.symm.trans (by assumption)
          have hp := HP.out.trans hq
          simp at hp
          go_ret
          exact ⟨ret_int (by simp [nhS, hp]), rfl⟩))
  · rcases (by omega : (s = 25 ∧ k = 97) ∨ (s = 26 ∧ k = 110)) with ⟨rfl, rfl⟩ | ⟨rfl, rfl⟩
    all_goals cases p
    all_goals
    (simp only [Int.cast_ofNat_Int] at b
     go_enter Tryz.func113, Tryz.ntmps113
     go_wp2
     go_ret
     exact ⟨ret_int (by have hp := HP.out; simp at hp; first | (exfalso; omega) | simp [nhS, hp]), rfl⟩)
end Go.Proofs.YtbkdaoicnobllabGreatDoor
