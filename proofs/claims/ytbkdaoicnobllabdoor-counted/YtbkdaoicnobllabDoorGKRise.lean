import Derived.Test.YtbkdaoicnobllabDoorGRise
import Derived.Test.YtbkdaoicnobllabDoorGKParts
import Derived.Test.YtbkdaoicnobllabDoorGNumDig

namespace Go.Proofs.YtbkdaoicnobllabDoor
open Go.RowKit

theorem allow_exp {verb n mode : Int} (hv : verb = 2 ∨ verb = 3) (hn : 0 ≤ n ∧ n ≤ 800) (hm : 0 ≤ mode ∧ mode ≤ 4) : allowB verb n mode = true := by
  unfold allowB
  rw [if_neg (by omega), if_pos hv]; simp; omega
theorem kexp_any (cv : Value) (f v n mode : Int) (hf : 0 ≤ f ∧ f ≤ 2) (h0 : 0 ≤ v) (h1 : v < infN f) (hn : 0 ≤ n ∧ n ≤ 800) (hm : 0 ≤ mode ∧ mode ≤ 4) (w : World) (ht : Tab w) :
    Calls Tryd.prog 15 #[cv, .int .i64 v, .int .i64 f, .int .i64 2, .int .i64 n, .int .i64 mode] w fun r w' => GoodPost w w' r (ExpQ (awayB mode false) (valA 3000 f v.toNat) n.toNat) := by
  have hi := infN_i64 hf
  obtain ⟨p1, p2, p3⟩ := fin_pat hf h0 h1
  have ha := allow_exp (verb := 2) (.inl rfl) hn hm
  rcases (by omega : f = 0 ∨ f = 1 ∨ f = 2) with rfl | rfl | rfl
  · refine (pExpF0 cv v n mode (by omega) (by omega) w ht).mono fun r w' h => ?_
    rw [p2, p3] at h
    exact fmt_good hf h0 h1 ha h
  · refine (pExpF1 cv v n mode (by omega) (by omega) w ht).mono fun r w' h => ?_
    rw [p2, p3] at h
    exact fmt_good hf h0 h1 ha h
  · refine (pExpF2 cv v n mode (by omega) (by omega) w ht).mono fun r w' h => ?_
    rw [p2, p3] at h
    exact fmt_good hf h0 h1 ha h
theorem kfix_any (cv : Value) (f v n mode : Int) (hf : 0 ≤ f ∧ f ≤ 2) (h0 : 0 ≤ v) (h1 : v < infN f) (hn : 0 ≤ n ∧ n ≤ 800) (hm : 0 ≤ mode ∧ mode ≤ 4) (w : World) (ht : Tab w) :
    Calls Tryd.prog 15 #[cv, .int .i64 v, .int .i64 f, .int .i64 3, .int .i64 n, .int .i64 mode] w fun r w' => GoodPost w w' r (FixQ (awayB mode false) (valA 3000 f v.toNat) n.toNat) := by
  have hi := infN_i64 hf
  obtain ⟨p1, p2, p3⟩ := fin_pat hf h0 h1
  have ha := allow_exp (verb := 3) (.inr rfl) hn hm
  rcases (by omega : f = 0 ∨ f = 1 ∨ f = 2) with rfl | rfl | rfl
  · refine (pFixF0 cv v n mode (by omega) (by omega) w ht).mono fun r w' h => ?_
    rw [p2, p3] at h
    exact fmt_good hf h0 h1 ha h
  · refine (pFixF1 cv v n mode (by omega) (by omega) w ht).mono fun r w' h => ?_
    rw [p2, p3] at h
    exact fmt_good hf h0 h1 ha h
  · refine (pFixF2 cv v n mode (by omega) (by omega) w ht).mono fun r w' h => ?_
    rw [p2, p3] at h
    exact fmt_good hf h0 h1 ha h
/-- The text ahead. -/
def LastAt (f : Int) (a n j : Nat) (v : Value) : Prop := (j = 0 ∧ v = .string (str [])) ∨ ∃ S m, v = .string (str S) ∧ ((j = 1 ∧ m = (4 : Int)) ∨ (j = 2 ∧ m = 0) ∨ (j = 3 ∧ m = 1) ∨ (j = 4 ∧ m = 3)) ∧ ExpQ (awayB m false) (valA 3000 f a) n S ∧ S.length ≤ 5000
end Go.Proofs.YtbkdaoicnobllabDoor
