import Derived.Test.YtbkdaoicnobllabGreatDoorG07
import Derived.Test.YtbkdaoicnobllabGreatDoorG17

namespace Go.Proofs.YtbkdaoicnobllabGreatDoor
set_option maxRecDepth 100000
set_option maxHeartbeats 1000000
open Go.RowKit

theorem rbad0s (x v prec mode : Int) (Q : List UInt8 → Prop) (hv : v = 0 ∨ v = 1 ∨ v = 4) (h : ¬ (hasB 0 x = true ∧ allowB v prec mode = true)) (w : World) :
    Calls Tryz.prog 35 #[.int .i64 x, .int .i64 0, .int .i64 v, .int .i64 prec, .int .i64 mode] w fun r w' => FmtPost 0 x v prec mode w w' r Q := by
  have HK := hid (kind0)
  have HF : Hid (∀ w : World, FmtPost 0 x v prec mode w w (.returned (.tuple #[.string (str []), .int .i64 1])) Q) := fun w => .inr ⟨h, rfl, Below.refl _ _⟩
  rcases hv with rfl | rfl | rfl
  all_goals
  (by_cases hp : prec = -1
   · subst hp
     by_cases hm : mode = 0
     · subst hm
       have hx : x < 0 ∨ 65536 ≤ x := by
         apply Classical.byContradiction; intro hc
         exact h ⟨by unfold hasB sgnF; simp; omega, by unfold allowB; simp⟩
       rcases hx with hx | hx
       · clear h
         go_enter Tryz.func35, Tryz.ntmps35
         go_wp2_with fail
         refine (HK.out _).mono ?_
         rintro r w1 ⟨rfl, rfl⟩
         go_wp2
         all_goals (go_ret2; exact HF.out _)
       · have hx2 : ¬ x < 0 := by omega
         clear h
         go_enter Tryz.func35, Tryz.ntmps35
         go_wp2_with fail
         refine (HK.out _).mono ?_
         rintro r w1 ⟨rfl, rfl⟩
         go_wp2
         all_goals (go_ret2; exact HF.out _)
     · have t : (mode == 0) = false := by rw [beq_eq_false_iff_ne]; exact hm
       clear h
       go_enter Tryz.func35, Tryz.ntmps35
       go_wp2_with fail
       refine (HK.out _).mono ?_
       rintro r w1 ⟨rfl, rfl⟩
       go_wp2
       all_goals (go_ret2; exact HF.out _)
   · have t : (prec == -1) = false := by rw [beq_eq_false_iff_ne]; exact hp
     rcases (by omega : prec < 0 ∨ (0 ≤ prec ∧ prec ≤ 800) ∨ 800 < prec) with p | ⟨p, p'⟩ | p
     · clear h
       go_enter Tryz.func35, Tryz.ntmps35
       go_wp2_with fail
       refine (HK.out _).mono ?_
       rintro r w1 ⟨rfl, rfl⟩
       go_wp2
       all_goals (go_ret2; exact HF.out _)
     · clear h
       go_enter Tryz.func35, Tryz.ntmps35
       go_wp2_with fail
       refine (HK.out _).mono ?_
       rintro r w1 ⟨rfl, rfl⟩
       go_wp2
       all_goals (go_ret2; exact HF.out _)
     · have p' : ¬ prec ≤ 800 := by omega
       have p'' : 0 ≤ prec := by omega
       clear h
       go_enter Tryz.func35, Tryz.ntmps35
       go_wp2_with fail
       refine (HK.out _).mono ?_
       rintro r w1 ⟨rfl, rfl⟩
       go_wp2
       all_goals (go_ret2; exact HF.out _))
theorem rbad0e (x v prec mode : Int) (Q : List UInt8 → Prop) (hv : v = 2 ∨ v = 3) (h : ¬ (hasB 0 x = true ∧ allowB v prec mode = true)) (w : World) :
    Calls Tryz.prog 35 #[.int .i64 x, .int .i64 0, .int .i64 v, .int .i64 prec, .int .i64 mode] w fun r w' => FmtPost 0 x v prec mode w w' r Q := by
  have HK := hid (kind0)
  have HF : Hid (∀ w : World, FmtPost 0 x v prec mode w w (.returned (.tuple #[.string (str []), .int .i64 1])) Q) := fun w => .inr ⟨h, rfl, Below.refl _ _⟩
  rcases hv with rfl | rfl
  all_goals
  (rcases (by omega : prec < 0 ∨ (0 ≤ prec ∧ prec ≤ 800) ∨ 800 < prec) with p | ⟨p, p'⟩ | p
   · clear h
     go_enter Tryz.func35, Tryz.ntmps35
     go_wp2_with fail
     refine (HK.out _).mono ?_
     rintro r w1 ⟨rfl, rfl⟩
     go_wp2
     all_goals (go_ret2; exact HF.out _)
   · rcases (by omega : mode < 0 ∨ (0 ≤ mode ∧ mode ≤ 4) ∨ 4 < mode) with m | ⟨m, m'⟩ | m
     · clear h
       go_enter Tryz.func35, Tryz.ntmps35
       go_wp2_with fail
       refine (HK.out _).mono ?_
       rintro r w1 ⟨rfl, rfl⟩
       go_wp2
       all_goals (go_ret2; exact HF.out _)
     · have hx : x < 0 ∨ 65536 ≤ x := by
         apply Classical.byContradiction; intro hc
         exact h ⟨by unfold hasB sgnF; simp; omega, by unfold allowB; simp; omega⟩
       rcases hx with hx | hx
       · clear h
         go_enter Tryz.func35, Tryz.ntmps35
         go_wp2_with fail
         refine (HK.out _).mono ?_
         rintro r w1 ⟨rfl, rfl⟩
         go_wp2
         all_goals (go_ret2; exact HF.out _)
       · have hx2 : ¬ x < 0 := by omega
         clear h
         go_enter Tryz.func35, Tryz.ntmps35
         go_wp2_with fail
         refine (HK.out _).mono ?_
         rintro r w1 ⟨rfl, rfl⟩
         go_wp2
         all_goals (go_ret2; exact HF.out _)
     · have m' : ¬ mode ≤ 4 := by omega
       have m'' : 0 ≤ mode := by omega
       clear h
       go_enter Tryz.func35, Tryz.ntmps35
       go_wp2_with fail
       refine (HK.out _).mono ?_
       rintro r w1 ⟨rfl, rfl⟩
       go_wp2
       all_goals (go_ret2; exact HF.out _)
   · have p' : ¬ prec ≤ 800 := by omega
     have p'' : 0 ≤ prec := by omega
     clear h
     go_enter Tryz.func35, Tryz.ntmps35
     go_wp2_with fail
     refine (HK.out _).mono ?_
     rintro r w1 ⟨rfl, rfl⟩
     go_wp2
     all_goals (go_ret2; exact HF.out _))
theorem rbad0n (x verb prec mode : Int) (Q : List UInt8 → Prop) (hv : ¬ (verb = 0 ∨ verb = 1 ∨ verb = 2 ∨ verb = 3 ∨ verb = 4)) (h : ¬ (hasB 0 x = true ∧ allowB verb prec mode = true)) (w : World) :
  Calls Tryz.prog 35 #[.int .i64 x, .int .i64 0, .int .i64 verb, .int .i64 prec, .int .i64 mode] w fun r w' => FmtPost 0 x verb prec mode w w' r Q := by
 have HK := hid (kind0)
 have HF : Hid (∀ w : World, FmtPost 0 x verb prec mode w w (.returned (.tuple #[.string (str []), .int .i64 1])) Q) := fun w => .inr ⟨h, rfl, Below.refl _ _⟩
 have t0 : (verb == 0) = false := by rw [beq_eq_false_iff_ne]; omega
 have t1 : (verb == 1) = false := by rw [beq_eq_false_iff_ne]; omega
 have t2 : (verb == 2) = false := by rw [beq_eq_false_iff_ne]; omega
 have t3 : (verb == 3) = false := by rw [beq_eq_false_iff_ne]; omega
 have t4 : (verb == 4) = false := by rw [beq_eq_false_iff_ne]; omega
 clear hv
 rcases (by omega : prec < 0 ∨ (0 ≤ prec ∧ prec ≤ 800) ∨ 800 < prec) with p | ⟨p, p'⟩ | p
 ·clear h
  go_enter Tryz.func35, Tryz.ntmps35
  go_wp2_with fail
  refine (HK.out _).mono ?_
  rintro r w1 ⟨rfl, rfl⟩
  go_wp2
  all_goals (go_ret2; exact HF.out _)
 ·clear h
  go_enter Tryz.func35, Tryz.ntmps35
  go_wp2_with fail
  refine (HK.out _).mono ?_
  rintro r w1 ⟨rfl, rfl⟩
  go_wp2
  all_goals (go_ret2; exact HF.out _)
 ·have p' : ¬ prec ≤ 800 := by omega
  have p'' : 0 ≤ prec := by omega
  clear h
  go_enter Tryz.func35, Tryz.ntmps35
  go_wp2_with fail
  refine (HK.out _).mono ?_
  rintro r w1 ⟨rfl, rfl⟩
  go_wp2
  all_goals (go_ret2; exact HF.out _)
theorem rformat_none (x f verb prec mode : Int) (hf : ¬ (0 ≤ f ∧ f ≤ 2)) (w : World) : Calls Tryz.prog 35 #[.int .i64 x, .int .i64 f, .int .i64 verb, .int .i64 prec, .int .i64 mode] w fun r w' => r = .returned (.tuple #[.string (str []), .int .i64 1]) ∧ w' = w := by
 rcases (by omega : f < 0 ∨ 2 < f) with h | h
 ·go_enter Tryz.func35, Tryz.ntmps35
  go_wp2
  go_ret2
  exact ⟨rfl, rfl⟩
 ·have h' : ¬ f < 0 := by omega
  go_enter Tryz.func35, Tryz.ntmps35
  go_wp2
  go_ret2
  exact ⟨rfl, rfl⟩
end Go.Proofs.YtbkdaoicnobllabGreatDoor
