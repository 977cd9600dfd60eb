import Derived.Test.YtbkdaoicnobllabDoorGRefB
import Derived.Test.YtbkdaoicnobllabDoorGRnd0

/- Plain mathematics: the numbers of amounts, in their order. -/
namespace Go.Proofs.YtbkdaoicnobllabDoor

/-- The format's bias. -/
def fB (f : Int) : Int := if f = 0 then 15 else if f = 1 then 127 else 1023
structure Fmt (f : Int) : Prop where
  e : fE f = 1 - fB f - fQ f
  low : fLow f = 1 - fB f
  b1 : 15 ≤ fB f
  b2 : fB f ≤ 1023
  q : fQ f ≤ 52
  i : (infN f : Int) = (2 * fB f + 1) * ((2 ^ fQ f : Nat) : Int)
  odd : ((infN f : Int) - 1) % 2 = 1
theorem fmt_of {f : Int} (h : 0 ≤ f ∧ f ≤ 2) : Fmt f := by
  have : f = 0 ∨ f = 1 ∨ f = 2 := by omega
  rcases this with rfl | rfl | rfl
  · exact ⟨by decide, by decide, by decide, by decide, by decide, by decide, by decide⟩
  · exact ⟨by decide, by decide, by decide, by decide, by decide, by decide, by decide⟩
  · exact ⟨by decide, by decide, by decide, by decide, by decide, by decide, by decide⟩

theorem valA_lt (K : Nat) (f : Int) (a : Nat) (hK : 1100 ≤ K) : valA K f a < valA K f (a + 1) := by
  have hp : 0 < 2 ^ fQ f := Nat.pow_pos (by omega)
  have ha : a = a / 2 ^ fQ f * 2 ^ fQ f + a % 2 ^ fQ f := by rw [Nat.mul_comm]; exact (Nat.div_add_mod a _).symm
  have hm : a % 2 ^ fQ f < 2 ^ fQ f := Nat.mod_lt _ hp
  rw [ha, Nat.add_assoc, valA_at K f _ _ (by omega) hK, valA_at K f _ _ (by omega) hK]
  split
  · exact Nat.mul_lt_mul_of_pos_left (by omega) (two_pos _ _)
  · exact Nat.mul_lt_mul_of_pos_left (by omega) (two_pos _ _)
theorem valA_mono (K : Nat) (f : Int) (hK : 1100 ≤ K) {a b : Nat} (h : a ≤ b) : valA K f a ≤ valA K f b := by
  induction b with
  | zero => rw [show a = 0 from by omega]; exact Nat.le_refl _
  | succ b ih =>
    rcases Nat.lt_or_ge a (b + 1) with h1 | h1
    · exact Nat.le_trans (ih (by omega)) (Nat.le_of_lt (valA_lt K f b hK))
    · rw [show a = b + 1 from by omega]; exact Nat.le_refl _
theorem valA_one {K : Nat} {f : Int} {a b X : Nat} (hK : 1100 ≤ K) (h1 : valA K f a ≤ X) (h2 : X < valA K f (a + 1)) (h3 : valA K f b ≤ X) (h4 : X < valA K f (b + 1)) : a = b := by
  rcases Nat.lt_trichotomy a b with h | h | h
  · have := valA_mono K f hK (show a + 1 ≤ b from h); omega
  · exact h
  · have := valA_mono K f hK (show b + 1 ≤ a from h); omega
end Go.Proofs.YtbkdaoicnobllabDoor
