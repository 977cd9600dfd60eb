import Derived.Test.YtbkdaoicnobllabGreatDoorG07
import Derived.Test.YtbkdaoicnobllabGreatDoorG17

namespace Go.Proofs.YtbkdaoicnobllabGreatDoor
set_option maxRecDepth 100000
set_option maxHeartbeats 1000000
open Go.RowKit

theorem rbad2s (x v prec mode : Int) (Q : List UInt8 → Prop) (hv : v = 0 ∨ v = 1 ∨ v = 4) (h : ¬ (hasB 2 x = true ∧ allowB v prec mode = true)) (w : World) :
    Calls Tryz.prog 35 #[.int .i64 x, .int .i64 2, .int .i64 v, .int .i64 prec, .int .i64 mode] w fun r w' => FmtPost 2 x v prec mode w w' r Q := by
  have HK := hid (kind2)
  have HF : Hid (∀ w : World, FmtPost 2 x v prec mode w w (.returned (.tuple #[.string (str []), .int .i64 1])) Q) := fun w => .inr ⟨h, rfl, Below.refl _ _⟩
  rcases hv with rfl | rfl | rfl
  all_goals
  (by_cases hp : prec = -1
   · subst hp
     by_cases hm : mode = 0
     · subst hm
       exact absurd ⟨rfl, by unfold allowB; simp⟩ h
     · have t : (mode == 0) = false := by rw [beq_eq_false_iff_ne]; exact hm
       clear h
       go_enter Tryz.func35, Tryz.ntmps35
       go_wp2_with fail
       refine (HK.out _).mono ?_
       rintro r w1 ⟨rfl, rfl⟩
       go_wp2
       all_goals (go_ret2; exact HF.out _)
   · have t : (prec == -1) = false := by rw [beq_eq_false_iff_ne]; exact hp
     rcases (by omega : prec < 0 ∨ (0 ≤ prec ∧ prec ≤ 800) ∨ 800 < prec) with p | ⟨p, p'⟩ | p
     · clear h
       go_enter Tryz.func35, Tryz.ntmps35
       go_wp2_with fail
       refine (HK.out _).mono ?_
       rintro r w1 ⟨rfl, rfl⟩
       go_wp2
       all_goals (go_ret2; exact HF.out _)
     · clear h
       go_enter Tryz.func35, Tryz.ntmps35
       go_wp2_with fail
       refine (HK.out _).mono ?_
       rintro r w1 ⟨rfl, rfl⟩
       go_wp2
       all_goals (go_ret2; exact HF.out _)
     · have p' : ¬ prec ≤ 800 := by omega
       have p'' : 0 ≤ prec := by omega
       clear h
       go_enter Tryz.func35, Tryz.ntmps35
       go_wp2_with fail
       refine (HK.out _).mono ?_
       rintro r w1 ⟨rfl, rfl⟩
       go_wp2
       all_goals (go_ret2; exact HF.out _))
theorem rbad2e (x v prec mode : Int) (Q : List UInt8 → Prop) (hv : v = 2 ∨ v = 3) (h : ¬ (hasB 2 x = true ∧ allowB v prec mode = true)) (w : World) :
    Calls Tryz.prog 35 #[.int .i64 x, .int .i64 2, .int .i64 v, .int .i64 prec, .int .i64 mode] w fun r w' => FmtPost 2 x v prec mode w w' r Q := by
  have HK := hid (kind2)
  have HF : Hid (∀ w : World, FmtPost 2 x v prec mode w w (.returned (.tuple #[.string (str []), .int .i64 1])) Q) := fun w => .inr ⟨h, rfl, Below.refl _ _⟩
  rcases hv with rfl | rfl
  all_goals
  (rcases (by omega : prec < 0 ∨ (0 ≤ prec ∧ prec ≤ 800) ∨ 800 < prec) with p | ⟨p, p'⟩ | p
   · clear h
     go_enter Tryz.func35, Tryz.ntmps35
     go_wp2_with fail
     refine (HK.out _).mono ?_
     rintro r w1 ⟨rfl, rfl⟩
     go_wp2
     all_goals (go_ret2; exact HF.out _)
   · rcases (by omega : mode < 0 ∨ (0 ≤ mode ∧ mode ≤ 4) ∨ 4 < mode) with m | ⟨m, m'⟩ | m
     · clear h
       go_enter Tryz.func35, Tryz.ntmps35
       go_wp2_with fail
       refine (HK.out _).mono ?_
       rintro r w1 ⟨rfl, rfl⟩
       go_wp2
       all_goals (go_ret2; exact HF.out _)
     · exact absurd ⟨rfl, by unfold allowB; simp; omega⟩ h
     · have m' : ¬ mode ≤ 4 := by omega
       have m'' : 0 ≤ mode := by omega
       clear h
       go_enter Tryz.func35, Tryz.ntmps35
       go_wp2_with fail
       refine (HK.out _).mono ?_
       rintro r w1 ⟨rfl, rfl⟩
       go_wp2
       all_goals (go_ret2; exact HF.out _)
   · have p' : ¬ prec ≤ 800 := by omega
     have p'' : 0 ≤ prec := by omega
     clear h
     go_enter Tryz.func35, Tryz.ntmps35
     go_wp2_with fail
     refine (HK.out _).mono ?_
     rintro r w1 ⟨rfl, rfl⟩
     go_wp2
     all_goals (go_ret2; exact HF.out _))
theorem rbad2n (x verb prec mode : Int) (Q : List UInt8 → Prop) (hv : ¬ (verb = 0 ∨ verb = 1 ∨ verb = 2 ∨ verb = 3 ∨ verb = 4)) (h : ¬ (hasB 2 x = true ∧ allowB verb prec mode = true)) (w : World) :
  Calls Tryz.prog 35 #[.int .i64 x, .int .i64 2, .int .i64 verb, .int .i64 prec, .int .i64 mode] w fun r w' => FmtPost 2 x verb prec mode w w' r Q := by
 have HK := hid (kind2)
 have HF : Hid (∀ w : World, FmtPost 2 x verb prec mode w w (.returned (.tuple #[.string (str []), .int .i64 1])) Q) := fun w => .inr ⟨h, rfl, Below.refl _ _⟩
 have t0 : (verb == 0) = false := by rw [beq_eq_false_iff_ne]; omega
 have t1 : (verb == 1) = false := by rw [beq_eq_false_iff_ne]; omega
 have t2 : (verb == 2) = false := by rw [beq_eq_false_iff_ne]; omega
 have t3 : (verb == 3) = false := by rw [beq_eq_false_iff_ne]; omega
 have t4 : (verb == 4) = false := by rw [beq_eq_false_iff_ne]; omega
 clear hv
 rcases (by omega : prec < 0 ∨ (0 ≤ prec ∧ prec ≤ 800) ∨ 800 < prec) with p | ⟨p, p'⟩ | p
 ·clear h
  go_enter Tryz.func35, Tryz.ntmps35
  go_wp2_with fail
  refine (HK.out _).mono ?_
  rintro r w1 ⟨rfl, rfl⟩
  go_wp2
  all_goals (go_ret2; exact HF.out _)
 ·clear h
  go_enter Tryz.func35, Tryz.ntmps35
  go_wp2_with fail
  refine (HK.out _).mono ?_
  rintro r w1 ⟨rfl, rfl⟩
  go_wp2
  all_goals (go_ret2; exact HF.out _)
 ·have p' : ¬ prec ≤ 800 := by omega
  have p'' : 0 ≤ prec := by omega
  clear h
  go_enter Tryz.func35, Tryz.ntmps35
  go_wp2_with fail
  refine (HK.out _).mono ?_
  rintro r w1 ⟨rfl, rfl⟩
  go_wp2
  all_goals (go_ret2; exact HF.out _)
end Go.Proofs.YtbkdaoicnobllabGreatDoor
