import Derived.Test.YtbkdaoicnobllabDoorGPat

namespace Go.Proofs.YtbkdaoicnobllabDoor
open Go.RowKit

/-- A style's value. -/
def styV (verb prec mode : Int) : Value := .agg #[.int .i64 verb, .int .i64 prec, .int .i64 mode]
/-- The text of a pattern, T being that of its finite amount. -/
def outT (f x : Int) (T : List UInt8) : List UInt8 :=
  if (infN f : Int) < amtI f x then [110, 97, 110] else (if negI f x = true then [45] else []) ++ (if amtI f x < infN f then T else [105, 110, 102])
/-- What a text of a finite amount is to be. -/
def TextPost (w w' : World) (r : Ending) (Q : List UInt8 → Prop) : Prop := ∃ T : List UInt8, r = .returned (.string (str T)) ∧ Q T ∧ T.length ≤ 5000 ∧ Below w.heap.size w w'
def OutPost (f x : Int) (w w' : World) (r : Ending) (Q : List UInt8 → Prop) : Prop := ∃ T : List UInt8, r = .returned (.string (str (outT f x T))) ∧ (amtI f x < infN f → Q T) ∧ T.length ≤ 5000 ∧ Below w.heap.size w w'
theorem amtI_nonneg (f x : Int) (h : hasB f x = true) (hf : f = 0 ∨ f = 1 ∨ f = 2) (hx : -9223372036854775808 ≤ x ∧ x ≤ 9223372036854775807) : 0 ≤ amtI f x ∧ amtI f x ≤ 9223372036854775807 := by
  rcases hf with rfl | rfl | rfl <;> simp [hasB, amtI, sgnF] at * <;> (repeat' split) <;> omega
def allowB (verb prec mode : Int) : Bool := if verb = 0 ∨ verb = 1 ∨ verb = 4 then decide (prec = -1 ∧ mode = 0) else if verb = 2 ∨ verb = 3 then decide (0 ≤ prec ∧ prec ≤ 800 ∧ 0 ≤ mode ∧ mode ≤ 4) else false
def modeB (m : Int) : Bool := decide (0 ≤ m ∧ m ≤ 4)
def formB (f : Int) : Bool := decide (0 ≤ f ∧ f ≤ 2)
set_option maxRecDepth 100000 in
set_option maxHeartbeats 1000000 in
theorem isMode_any (m : Int) (w : World) : Calls Tryd.prog 21 #[.int .i64 m] w fun e w' => e = .returned (.bool (modeB m)) ∧ w' = w := by
  by_cases a : 0 ≤ m
  · by_cases b : m ≤ 4
    · have HT : Hid (true = modeB m) := by unfold Hid modeB; simp; omega
      go_enter Tryd.func21, Tryd.ntmps21
      go_wp2
      all_goals (go_ret; exact ⟨ret_bool (by first | exact HT.out | (rw [← HT.out]; simp; omega)), rfl⟩)
    · have HT : Hid (false = modeB m) := by unfold Hid modeB; simp; omega
      go_enter Tryd.func21, Tryd.ntmps21
      go_wp2
      all_goals (go_ret; exact ⟨ret_bool (by first | exact HT.out | (rw [← HT.out]; simp; omega)), rfl⟩)
  · have HT : Hid (false = modeB m) := by unfold Hid modeB; simp; omega
    go_enter Tryd.func21, Tryd.ntmps21
    go_wp2
    all_goals (go_ret; exact ⟨ret_bool (by first | exact HT.out | (rw [← HT.out]; simp; omega)), rfl⟩)
set_option maxRecDepth 100000 in
set_option maxHeartbeats 1000000 in
theorem isFormat_any (m : Int) (w : World) : Calls Tryd.prog 16 #[.int .i64 m] w fun e w' => e = .returned (.bool (formB m)) ∧ w' = w := by
  by_cases a : 0 ≤ m
  · by_cases b : m ≤ 2
    · have HT : Hid (true = formB m) := by unfold Hid formB; simp; omega
      go_enter Tryd.func16, Tryd.ntmps16
      go_wp2
      all_goals (go_ret; exact ⟨ret_bool (by first | exact HT.out | (rw [← HT.out]; simp; omega)), rfl⟩)
    · have HT : Hid (false = formB m) := by unfold Hid formB; simp; omega
      go_enter Tryd.func16, Tryd.ntmps16
      go_wp2
      all_goals (go_ret; exact ⟨ret_bool (by first | exact HT.out | (rw [← HT.out]; simp; omega)), rfl⟩)
  · have HT : Hid (false = formB m) := by unfold Hid formB; simp; omega
    go_enter Tryd.func16, Tryd.ntmps16
    go_wp2
    all_goals (go_ret; exact ⟨ret_bool (by first | exact HT.out | (rw [← HT.out]; simp; omega)), rfl⟩)
set_option maxRecDepth 100000 in
set_option maxHeartbeats 1000000 in
theorem allowed_short (verb prec mode : Int) (hv : verb = 0 ∨ verb = 1 ∨ verb = 4) (w : World) : Calls Tryd.prog 19 #[styV verb prec mode] w fun e w' => e = .returned (.bool (allowB verb prec mode)) ∧ Below w.heap.size w w' := by
  by_cases p : prec = -1
  · by_cases m : mode = 0
    · subst p m
      rcases hv with rfl | rfl | rfl
      · have HT : Hid (true = allowB 0 (-1) 0) := by unfold Hid allowB; first | (simp; done) | (simp; omega)
        unfold styV
        go_enter Tryd.func19, Tryd.ntmps19
        go_wp2
        all_goals (go_ret; exact ⟨ret_bool (by first | exact HT.out | (rw [← HT.out]; simp; omega)), (Below.refl _ _).alloc (Nat.le_refl _) _⟩)
      · have HT : Hid (true = allowB 1 (-1) 0) := by unfold Hid allowB; first | (simp; done) | (simp; omega)
        unfold styV
        go_enter Tryd.func19, Tryd.ntmps19
        go_wp2
        all_goals (go_ret; exact ⟨ret_bool (by first | exact HT.out | (rw [← HT.out]; simp; omega)), (Below.refl _ _).alloc (Nat.le_refl _) _⟩)
      · have HT : Hid (true = allowB 4 (-1) 0) := by unfold Hid allowB; first | (simp; done) | (simp; omega)
        unfold styV
        go_enter Tryd.func19, Tryd.ntmps19
        go_wp2
        all_goals (go_ret; exact ⟨ret_bool (by first | exact HT.out | (rw [← HT.out]; simp; omega)), (Below.refl _ _).alloc (Nat.le_refl _) _⟩)
    · subst p
      have t : (mode == 0) = false := by rw [beq_eq_false_iff_ne]; exact m
      rcases hv with rfl | rfl | rfl
      · have HT : Hid (false = allowB 0 (-1) mode) := by unfold Hid allowB; first | (simp; done) | (simp; omega)
        unfold styV
        go_enter Tryd.func19, Tryd.ntmps19
        go_wp2
        all_goals (go_ret; exact ⟨ret_bool (by first | exact HT.out | (rw [← HT.out]; simp; omega)), (Below.refl _ _).alloc (Nat.le_refl _) _⟩)
      · have HT : Hid (false = allowB 1 (-1) mode) := by unfold Hid allowB; first | (simp; done) | (simp; omega)
        unfold styV
        go_enter Tryd.func19, Tryd.ntmps19
        go_wp2
        all_goals (go_ret; exact ⟨ret_bool (by first | exact HT.out | (rw [← HT.out]; simp; omega)), (Below.refl _ _).alloc (Nat.le_refl _) _⟩)
      · have HT : Hid (false = allowB 4 (-1) mode) := by unfold Hid allowB; first | (simp; done) | (simp; omega)
        unfold styV
        go_enter Tryd.func19, Tryd.ntmps19
        go_wp2
        all_goals (go_ret; exact ⟨ret_bool (by first | exact HT.out | (rw [← HT.out]; simp; omega)), (Below.refl _ _).alloc (Nat.le_refl _) _⟩)
  · have t : (prec == -1) = false := by rw [beq_eq_false_iff_ne]; exact p
    rcases hv with rfl | rfl | rfl
    · have HT : Hid (false = allowB 0 prec mode) := by unfold Hid allowB; first | (simp; done) | (simp; omega)
      unfold styV
      go_enter Tryd.func19, Tryd.ntmps19
      go_wp2
      all_goals (go_ret; exact ⟨ret_bool (by first | exact HT.out | (rw [← HT.out]; simp; omega)), (Below.refl _ _).alloc (Nat.le_refl _) _⟩)
    · have HT : Hid (false = allowB 1 prec mode) := by unfold Hid allowB; first | (simp; done) | (simp; omega)
      unfold styV
      go_enter Tryd.func19, Tryd.ntmps19
      go_wp2
      all_goals (go_ret; exact ⟨ret_bool (by first | exact HT.out | (rw [← HT.out]; simp; omega)), (Below.refl _ _).alloc (Nat.le_refl _) _⟩)
    · have HT : Hid (false = allowB 4 prec mode) := by unfold Hid allowB; first | (simp; done) | (simp; omega)
      unfold styV
      go_enter Tryd.func19, Tryd.ntmps19
      go_wp2
      all_goals (go_ret; exact ⟨ret_bool (by first | exact HT.out | (rw [← HT.out]; simp; omega)), (Below.refl _ _).alloc (Nat.le_refl _) _⟩)
set_option maxRecDepth 100000 in
set_option maxHeartbeats 1000000 in
theorem allowed_exact (verb prec mode : Int) (hv : verb = 2 ∨ verb = 3) (w : World) : Calls Tryd.prog 19 #[styV verb prec mode] w fun e w' => e = .returned (.bool (allowB verb prec mode)) ∧ Below w.heap.size w w' := by
  by_cases p : 0 ≤ prec
  · by_cases p2 : prec ≤ 800
    · by_cases m : 0 ≤ mode ∧ mode ≤ 4
      · rcases hv with rfl | rfl
        · have HT : Hid (true = allowB 2 prec mode) := by unfold Hid allowB; simp; omega
          unfold styV
          go_enter Tryd.func19, Tryd.ntmps19
          go_wp2_with (go_at_call 21; refine (isMode_any _ _).mono ?_; rintro e w' ⟨rfl, rfl⟩)
          all_goals (go_ret; exact ⟨ret_bool (by first | exact HT.out | (rw [← HT.out]; unfold modeB; simp; omega)), (Below.refl _ _).alloc (Nat.le_refl _) _⟩)
        · have HT : Hid (true = allowB 3 prec mode) := by unfold Hid allowB; simp; omega
          unfold styV
          go_enter Tryd.func19, Tryd.ntmps19
          go_wp2_with (go_at_call 21; refine (isMode_any _ _).mono ?_; rintro e w' ⟨rfl, rfl⟩)
          all_goals (go_ret; exact ⟨ret_bool (by first | exact HT.out | (rw [← HT.out]; unfold modeB; simp; omega)), (Below.refl _ _).alloc (Nat.le_refl _) _⟩)
      · rcases hv with rfl | rfl
        · have HT : Hid (false = allowB 2 prec mode) := by unfold Hid allowB; simp; omega
          unfold styV
          go_enter Tryd.func19, Tryd.ntmps19
          go_wp2_with (go_at_call 21; refine (isMode_any _ _).mono ?_; rintro e w' ⟨rfl, rfl⟩)
          all_goals (go_ret; exact ⟨ret_bool (by first | exact HT.out | (rw [← HT.out]; unfold modeB; simp; omega)), (Below.refl _ _).alloc (Nat.le_refl _) _⟩)
        · have HT : Hid (false = allowB 3 prec mode) := by unfold Hid allowB; simp; omega
          unfold styV
          go_enter Tryd.func19, Tryd.ntmps19
          go_wp2_with (go_at_call 21; refine (isMode_any _ _).mono ?_; rintro e w' ⟨rfl, rfl⟩)
          all_goals (go_ret; exact ⟨ret_bool (by first | exact HT.out | (rw [← HT.out]; unfold modeB; simp; omega)), (Below.refl _ _).alloc (Nat.le_refl _) _⟩)
    · rcases hv with rfl | rfl
      · have HT : Hid (false = allowB 2 prec mode) := by unfold Hid allowB; simp; omega
        unfold styV
        go_enter Tryd.func19, Tryd.ntmps19
        go_wp2_with (go_at_call 21; refine (isMode_any _ _).mono ?_; rintro e w' ⟨rfl, rfl⟩)
        all_goals (go_ret; exact ⟨ret_bool (by first | exact HT.out | (rw [← HT.out]; unfold modeB; simp; omega)), (Below.refl _ _).alloc (Nat.le_refl _) _⟩)
      · have HT : Hid (false = allowB 3 prec mode) := by unfold Hid allowB; simp; omega
        unfold styV
        go_enter Tryd.func19, Tryd.ntmps19
        go_wp2_with (go_at_call 21; refine (isMode_any _ _).mono ?_; rintro e w' ⟨rfl, rfl⟩)
        all_goals (go_ret; exact ⟨ret_bool (by first | exact HT.out | (rw [← HT.out]; unfold modeB; simp; omega)), (Below.refl _ _).alloc (Nat.le_refl _) _⟩)
  · rcases hv with rfl | rfl
    · have HT : Hid (false = allowB 2 prec mode) := by unfold Hid allowB; simp; omega
      unfold styV
      go_enter Tryd.func19, Tryd.ntmps19
      go_wp2_with (go_at_call 21; refine (isMode_any _ _).mono ?_; rintro e w' ⟨rfl, rfl⟩)
      all_goals (go_ret; exact ⟨ret_bool (by first | exact HT.out | (rw [← HT.out]; unfold modeB; simp; omega)), (Below.refl _ _).alloc (Nat.le_refl _) _⟩)
    · have HT : Hid (false = allowB 3 prec mode) := by unfold Hid allowB; simp; omega
      unfold styV
      go_enter Tryd.func19, Tryd.ntmps19
      go_wp2_with (go_at_call 21; refine (isMode_any _ _).mono ?_; rintro e w' ⟨rfl, rfl⟩)
      all_goals (go_ret; exact ⟨ret_bool (by first | exact HT.out | (rw [← HT.out]; unfold modeB; simp; omega)), (Below.refl _ _).alloc (Nat.le_refl _) _⟩)
set_option maxRecDepth 100000 in
set_option maxHeartbeats 1000000 in
theorem allowed_none (verb prec mode : Int) (h : ¬ (verb = 0 ∨ verb = 1 ∨ verb = 4 ∨ verb = 2 ∨ verb = 3)) (w : World) : Calls Tryd.prog 19 #[styV verb prec mode] w fun e w' => e = .returned (.bool (allowB verb prec mode)) ∧ Below w.heap.size w w' := by
  have t0 : (verb == 0) = false := by rw [beq_eq_false_iff_ne]; omega
  have t1 : (verb == 1) = false := by rw [beq_eq_false_iff_ne]; omega
  have t2 : (verb == 2) = false := by rw [beq_eq_false_iff_ne]; omega
  have t3 : (verb == 3) = false := by rw [beq_eq_false_iff_ne]; omega
  have t4 : (verb == 4) = false := by rw [beq_eq_false_iff_ne]; omega
  have HT : Hid (false = allowB verb prec mode) := by unfold Hid allowB; rw [if_neg (by omega), if_neg (by omega)]
  clear h
  unfold styV
  go_enter Tryd.func19, Tryd.ntmps19
  go_wp2
  go_ret
  exact ⟨ret_bool HT.out, (Below.refl _ _).alloc (Nat.le_refl _) _⟩
theorem allowed_any (verb prec mode : Int) (w : World) : Calls Tryd.prog 19 #[styV verb prec mode] w fun e w' => e = .returned (.bool (allowB verb prec mode)) ∧ Below w.heap.size w w' := by
  by_cases h : verb = 0 ∨ verb = 1 ∨ verb = 4
  · exact allowed_short verb prec mode h w
  · by_cases h2 : verb = 2 ∨ verb = 3
    · exact allowed_exact verb prec mode h2 w
    · exact allowed_none verb prec mode (by omega) w
end Go.Proofs.YtbkdaoicnobllabDoor
