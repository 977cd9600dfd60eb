import Derived.Test.YtbkdaoicnobllabGreatDoorG37
import Derived.Test.YtbkdaoicnobllabGreatDoorG06

namespace Go.Proofs.YtbkdaoicnobllabGreatDoor
set_option maxRecDepth 100000
set_option maxHeartbeats 40000000
open Go.RowKit

structure CF (c : Nat) (v43 v45 v48 v46 v105 v110 v101 v120 vd : Bool) : Prop where
 b43 : ((c : Int) == 43) = v43
 b45 : ((c : Int) == 45) = v45
 b48 : ((c : Int) == 48) = v48
 b46 : ((c : Int) == 46) = v46
 b105 : ((c : Int) == 105) = v105
 b110 : ((c : Int) == 110) = v110
 b101 : ((c : Int) == 101) = v101
 b120 : ((c : Int) == 120) = v120
 hd : isDig c = vd
theorem chr_cases (c : Nat) : (c = 43 ∧ CF c true false false false false false false false false) ∨ (c = 45 ∧ CF c false true false false false false false false false) ∨ (c = 48 ∧ CF c false false true false false false false false true) ∨ (c = 46 ∧ CF c false false false true false false false false false) ∨ (c = 105 ∧ CF c false false false false true false false false false) ∨ (c = 110 ∧ CF c false false false false false true false false false) ∨ (c = 101 ∧ CF c false false false false false false true false false) ∨ (c = 120 ∧ CF c false false false false false false false true false) ∨ ((¬ c = 43 ∧ ¬ c = 45 ∧ ¬ c = 48 ∧ ¬ c = 46 ∧ ¬ c = 105 ∧ ¬ c = 110 ∧ ¬ c = 101 ∧ ¬ c = 120 ∧ sgn c = false) ∧ CF c false false false false false false false false true) ∨ ((¬ c = 43 ∧ ¬ c = 45 ∧ ¬ c = 48 ∧ ¬ c = 46 ∧ ¬ c = 105 ∧ ¬ c = 110 ∧ ¬ c = 101 ∧ ¬ c = 120 ∧ sgn c = false) ∧ CF c false false false false false false false false false) := by
 by_cases h : c = 43 ∨ c = 45 ∨ c = 48 ∨ c = 46 ∨ c = 105 ∨ c = 110 ∨ c = 101 ∨ c = 120
 ·rcases h with rfl | rfl | rfl | rfl | rfl | rfl | rfl | rfl <;> simp <;> constructor <;> rfl
 ·have h1 : (¬ c = 43 ∧ ¬ c = 45 ∧ ¬ c = 48 ∧ ¬ c = 46 ∧ ¬ c = 105 ∧ ¬ c = 110 ∧ ¬ c = 101 ∧ ¬ c = 120 ∧ sgn c = false) := by unfold sgn; simp; omega
  cases hd : isDig c
  ·exact .inr (.inr (.inr (.inr (.inr (.inr (.inr (.inr (.inr (⟨h1, by constructor <;> first | exact hd | (rw [beq_eq_false_iff_ne]; omega)⟩)))))))))
  ·exact .inr (.inr (.inr (.inr (.inr (.inr (.inr (.inr (.inl ⟨h1, by constructor <;> first | exact hd | (rw [beq_eq_false_iff_ne]; omega)⟩))))))))
theorem nextLow (s c : Nat) (w : World) (hs : s ≤ 9) : Calls Tryz.prog 69 #[.int .i64 (s : Int), .int .u8 (c : Int)] w fun e w' => e = .returned (.int .i64 ((nextS s c : Nat) : Int)) ∧ w' = w := by
  rcases chr_cases c with ⟨hk, hC⟩ | ⟨hk, hC⟩ | ⟨hk, hC⟩ | ⟨hk, hC⟩ | ⟨hk, hC⟩ | ⟨hk, hC⟩ | ⟨hk, hC⟩ | ⟨hk, hC⟩ | ⟨hk, hC⟩ | ⟨hk, hC⟩
  all_goals
    (obtain ⟨b43, b45, b48, b46, b105, b110, b101, b120, hd⟩ := hC
     have HK := hid hk
     clear hk
     rcases (by omega : s = 0 ∨ s = 1 ∨ s = 2 ∨ s = 3 ∨ s = 4 ∨ s = 5 ∨ s = 6 ∨ s = 7 ∨ s = 8 ∨ s = 9) with rfl | rfl | rfl | rfl | rfl | rfl | rfl | rfl | rfl | rfl
     all_goals
       (go_enter Tryz.func69, Tryz.ntmps69
        go_wp2_with (first | (go_at_call 111; refine (isDigit_b c _).mono ?_; rintro e w' ⟨rfl, rfl⟩) | (go_at_call 112; refine (isHex_b c _).mono ?_; rintro e w' ⟨rfl, rfl⟩) | (go_at_call 113; refine (nh_low _ (by omega) c _ _ _ _).mono ?_; rintro e w' ⟨rfl, rfl⟩))
        go_ret
        exact ⟨ret_int (by first | (rw [HK.out]; rfl) | (obtain ⟨h43, h45, h48, h46, h105, h110, h101, h120, hg⟩ := HK.out; unfold nextS; (try unfold beginS); (try unfold nhS); simp [*])), rfl⟩))
theorem nextBig (s c : Nat) (w : World) (h1 : 10 ≤ s) (h2 : s ≤ 28) : Calls Tryz.prog 69 #[.int .i64 (s : Int), .int .u8 (c : Int)] w fun e w' => e = .returned (.int .i64 ((nhS s c (isDig c) (isHexc c) (sgn c) : Nat) : Int)) ∧ w' = w := by
  have h1' : (10 : Int) ≤ s := by omega
  have hc : ∃ p q, ((c : Int) == 43) = p ∧ ((c : Int) == 45) = q ∧ Hid (sgn c = (p || q)) := ⟨c == 43, c == 45, by rw [Bool.eq_iff_iff]; simp; omega, by rw [Bool.eq_iff_iff]; simp; omega, rfl⟩
  obtain ⟨p, q, b43, b45, HS⟩ := hc
  cases p <;> cases q
  all_goals try (exfalso; simp only [beq_iff_eq] at b43 b45; omega)
  all_goals
    (go_enter Tryz.func69, Tryz.ntmps69
     go_wp2_with (first | (go_at_call 111; refine (isDigit_b c _).mono ?_; rintro e w' ⟨rfl, rfl⟩) | (go_at_call 112; refine (isHex_b c _).mono ?_; rintro e w' ⟨rfl, rfl⟩) | (go_at_call 113; refine (nh_any s c _ _ _ _ h2).mono ?_; rintro e w' ⟨rfl, rfl⟩))
     go_ret
     exact ⟨ret_int (by rw [HS.out]; rfl), rfl⟩)
theorem next_any (s c : Nat) (w : World) (hs : s ≤ 28) : Calls Tryz.prog 69 #[.int .i64 (s : Int), .int .u8 (c : Int)] w fun e w' => e = .returned (.int .i64 ((nextS s c : Nat) : Int)) ∧ w' = w := by
 by_cases h : 10 ≤ s
 ·rw [nextS_big s c h]; exact nextBig s c w h hs
 ·exact nextLow s c w (by omega)
end Go.Proofs.YtbkdaoicnobllabGreatDoor
