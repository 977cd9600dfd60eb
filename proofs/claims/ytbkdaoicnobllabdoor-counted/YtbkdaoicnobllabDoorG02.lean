import Derived.Test.YtbkdaoicnobllabDoorG01
import Derived.Test.YtbkdaoicnobllabDoorG00
import Derived.WalkKit
import Derived.Test.YtbkdaoicnobllabDoorProg
import Derived.WalkSpells
import Derived.WalkLawsBesides
import Derived.Deep.QuietTactic
import Derived.BigQuiet

/- Plain mathematics: the texts of numbers in their order. -/
namespace Go.Proofs.YtbkdaoicnobllabDoor

theorem ExpR.order {aw : Int → Bool → Bool} {V V' n : Nat} {D L D' L' : List Nat} {e g e' g' : Int} {T T' : List UInt8} (ha : AwMono aw) (h : ExpR aw V n D e L g T) (h' : ExpR aw V' n D' e' L' g' T') (hv : V ≤ V') : Go.Proofs.YtbkdaoicnobllabDoor.val 3000 L g ≤ Go.Proofs.YtbkdaoicnobllabDoor.val 3000 L' g' := by
  have := rnd_order ha (n := n) (K := 3000) h.digs h'.digs h.headed h'.headed h.pos h'.pos h.lo h'.lo (by rw [h.val, h'.val]; exact hv)
  rw [h.val, h'.val] at this
  rw [h.val', h'.val']; exact this
theorem ExpR.modes {aw aw' : Int → Bool → Bool} {V n : Nat} {D L D' L' : List Nat} {e g e' g' : Int} {T T' : List UInt8} (ha : ∀ l o, 1 ≤ l → l ≤ 3 → aw l o = true → aw' l o = true) (h : ExpR aw V n D e L g T) (h' : ExpR aw' V n D' e' L' g' T') : Go.Proofs.YtbkdaoicnobllabDoor.val 3000 L g ≤ Go.Proofs.YtbkdaoicnobllabDoor.val 3000 L' g' := by
  have ht := top_same h.digs h'.digs h.headed h'.headed h.pos h'.pos (K := 3000) h.lo h'.lo (h.val.trans h'.val.symm)
  rw [h.val', h'.val', show e' + (D'.length : Int) - 1 - n + (3000 : Nat) = e + D.length - 1 - n + (3000 : Nat) from by omega]
  exact Nat.mul_le_mul_right _ (rndN_aw ha _ _)
/-- What 'parts' makes of a text. -/
structure Parted (T : List UInt8) (d : List UInt8) (e : Int) : Prop where
  ex : ∃ A B, T = A ++ 101 :: B ∧ (∀ c ∈ A, c ≠ 101) ∧ A.length ≤ 3000 ∧ PowB B ∧ B.length ≤ 8 ∧ d = keptD A A.length ∧ e = expV (foldE B B.length) - ((keptD A A.length).length - 1 : Nat)
/-- The text is not below the other. -/
def Above (T S : List UInt8) : Prop := ∃ a e b f, Parted T a e ∧ Parted S b f ∧ (f < e ∨ (e = f ∧ Op.bytesLess a b = false))
theorem ExpR.parted {aw : Int → Bool → Bool} {V n : Nat} {D L : List Nat} {e g : Int} {T : List UInt8} (h : ExpR aw V n D e L g T) (hn : n ≤ 800) (h1 : -1000 ≤ g + L.length - 1) (h2 : g + L.length - 1 ≤ 1000) : Parted T (rowT L g (g + L.length - 1) (n + 1)) (g + L.length - 1 - n) := by
  obtain ⟨p1, p2, p3⟩ := itoa_pow _ h1 h2
  have hk := sci_kept h.digs' g (g + L.length - 1) n
  refine ⟨sciT L g (g + L.length - 1) n, Lib.itoa (g + L.length - 1), h.text, sci_noe h.digs' _ _ _, by have := sciT_length L g (g + L.length - 1) n; omega, p1, p2, hk.symm, ?_⟩
  rw [hk, p3, rowT_length]; omega
theorem Parted.above {aw aw' : Int → Bool → Bool} {V V' n : Nat} {D L D' L' : List Nat} {e g e' g' : Int} {T T' : List UInt8} (h : ExpR aw V n D e L g T) (h' : ExpR aw' V' n D' e' L' g' T') (hn : n ≤ 800) (h1 : -1000 ≤ g + L.length - 1) (h2 : g + L.length - 1 ≤ 1000) (h1' : -1000 ≤ g' + L'.length - 1) (h2' : g' + L'.length - 1 ≤ 1000) (hv : val 3000 L g ≤ val 3000 L' g') : Above T' T := by
  refine ⟨_, _, _, _, h'.parted hn h1' h2', h.parted hn h1 h2, ?_⟩
  have ht := top_leq h'.digs' h.headed' h.pos' h.lo' h'.lo' hv
  rcases (by omega : g + L.length - 1 < g' + L'.length - 1 ∨ g + (L.length : Int) - 1 = g' + L'.length - 1) with hlt | he
  · exact .inl (by omega)
  · refine .inr ⟨by omega, ?_⟩
    rw [← he]
    exact rows_order h.digs' h'.digs' h.lo' h'.lo' (by omega) (by omega) h.lon hv
/-- Where the first digit of a number rounded stands. -/
theorem ExpR.tops {aw : Int → Bool → Bool} {V n : Nat} {D L : List Nat} {e g : Int} {T : List UInt8} (h : ExpR aw V n D e L g T) : e + D.length ≤ g + L.length ∧ g + L.length ≤ e + D.length + 1 := by
  have a := val_lt h.digs 3000 e h.lo
  have b := val_ge h.headed h.pos 3000 e h.lo
  rw [h.val] at a b
  have c := rndN_hi aw (k := (e + D.length - 1 - n + (3000 : Nat)).toNat) (m := (e + D.length + (3000 : Nat)).toNat) (by omega) a
  have d := rndN_lo aw (k := (e + D.length - 1 - n + (3000 : Nat)).toNat) (m := (e + D.length - 1 + (3000 : Nat)).toNat) (by omega) b
  rw [← h.val'] at c d
  have c' := val_ge h.headed' h.pos' 3000 g h.lo'
  have d' := val_lt h.digs' 3000 g h.lo'
  have hl := h.lo
  have hl' := h.lo'
  have hp := h.pos
  have hp' := h.pos'
  constructor
  · apply Int.not_lt.1; intro hlt
    have : 10 ^ (g + L.length + (3000 : Nat)).toNat ≤ 10 ^ (e + D.length - 1 + (3000 : Nat)).toNat := Nat.pow_le_pow_right (by omega) (by omega)
    omega
  · apply Int.not_lt.1; intro hlt
    have : 10 ^ (e + D.length + (3000 : Nat)).toNat < 10 ^ (g + L.length - 1 + (3000 : Nat)).toNat := Nat.pow_lt_pow_right (by omega) (by omega)
    omega
end Go.Proofs.YtbkdaoicnobllabDoor

/- Plain mathematics: powers of two as decimals. -/
namespace Go.Proofs.YtbkdaoicnobllabDoor

/-- 2^t times 10^K. -/
def two (K : Nat) (t : Int) : Nat := if 0 ≤ t then 2 ^ t.toNat * 10 ^ K else 5 ^ (-t).toNat * 10 ^ (K + t).toNat

theorem two_zero (K : Nat) : two K 0 = 10 ^ K := by simp [two]
theorem two_pos (K : Nat) (t : Int) : 0 < two K t := by
  unfold two; split
  · exact Nat.mul_pos (Nat.pow_pos (by omega)) (Nat.pow_pos (by omega))
  · exact Nat.mul_pos (Nat.pow_pos (by omega)) (Nat.pow_pos (by omega))
theorem two_up (K n : Nat) (t : Int) (h : 0 ≤ t) : two K (t + n) = two K t * 2 ^ n := by
  unfold two; rw [if_pos (by omega), if_pos h, show (t + n).toNat = t.toNat + n from by omega, Nat.pow_add]
  rw [Nat.mul_assoc, Nat.mul_comm (2 ^ n), ← Nat.mul_assoc]
theorem two_down (K n : Nat) (t : Int) (h : t ≤ 0) (hk : -(K : Int) ≤ t - n) : two K (t - n) * 10 ^ n = two K t * 5 ^ n := by
  have h1 : two K (t - n) = 5 ^ ((-t).toNat + n) * 10 ^ (K + (t - n)).toNat := by
    unfold two
    by_cases h0 : 0 ≤ t - n
    · have : t = 0 := by omega
      have : n = 0 := by omega
      subst_vars; simp
    · rw [if_neg h0, show (-(t - n)).toNat = (-t).toNat + n from by omega]
  have h2 : two K t = 5 ^ (-t).toNat * 10 ^ ((K + (t - n)).toNat + n) := by
    unfold two
    by_cases h0 : 0 ≤ t
    · have : t = 0 := by omega
      subst this; simp; congr 1; omega
    · rw [if_neg h0, show (K + t).toNat = (K + (t - n)).toNat + n from by omega]
  rw [h1, h2, Nat.pow_add, Nat.pow_add]
  grind
theorem val_down (K n : Nat) (L : List Nat) (e : Int) (hk : -(K : Int) ≤ e - n) : val K L (e - n) * 10 ^ n = val K L e := by
  unfold val; rw [Nat.mul_assoc, ← Nat.pow_add]; congr 2; omega
/-- Twice as much, half as much: all powers of two are in step. -/
theorem two_mul (K : Nat) (t : Int) (hk : -(K : Int) ≤ t) (n : Nat) : two K (t + n) = two K t * 2 ^ n := by
  by_cases h0 : 0 ≤ t
  · exact two_up K n t h0
  · by_cases h1 : t + n ≤ 0
    · have := two_down K n (t + n) h1 (by omega)
      rw [show t + n - n = t from by omega, show (10 : Nat) = 5 * 2 from rfl, Nat.mul_pow] at this
      have hp : 0 < 5 ^ n := Nat.pow_pos (by omega)
      apply Nat.eq_of_mul_eq_mul_right hp
      rw [← this]; grind
    · obtain ⟨a, ha⟩ : ∃ a : Nat, (a : Int) = -t := ⟨(-t).toNat, by omega⟩
      obtain ⟨b, hb⟩ : ∃ b : Nat, n = a + b := ⟨n - a, by omega⟩
      have h2 := two_down K a 0 (by omega) (by omega)
      rw [show (0 : Int) - a = t from by omega, two_zero] at h2
      have h3 := two_up K b 0 (by omega)
      rw [two_zero, show (0 : Int) + b = t + n from by omega] at h3
      rw [h3, hb, Nat.pow_add, ← Nat.mul_assoc]
      congr 1
      have hp : 0 < 5 ^ a := Nat.pow_pos (by omega)
      apply Nat.eq_of_mul_eq_mul_right hp
      rw [← h2, show (10 : Nat) = 5 * 2 from rfl, Nat.mul_pow]; grind

end Go.Proofs.YtbkdaoicnobllabDoor

namespace Go.Proofs.YtbkdaoicnobllabDoor

/-- The number's bits and the power of two of the last, less the least power, of an amount in a format of q bits behind the first. -/
def mA (q a : Nat) : Nat := if a / 2 ^ q = 0 then a % 2 ^ q else a % 2 ^ q + 2 ^ q
def xA (q a : Nat) : Nat := a / 2 ^ q - 1
/-- Bits behind the first; the power of two of the last bit of the least numbers. -/
def fQ (f : Int) : Nat := if f = 0 then 10 else if f = 1 then 23 else 52
def fE (f : Int) : Int := if f = 0 then -24 else if f = 1 then -149 else -1074
/-- The number that an amount says, times 10^K. -/
def valA (K : Nat) (f : Int) (a : Nat) : Nat := two K (fE f + xA (fQ f) a) * mA (fQ f) a
/-- The amount of infinity. -/
def infA (f : Int) : Int := if f = 0 then 31744 else if f = 1 then 2139095040 else 9218868437227405312
/-- Of two neighbours, is it the one away from 0 that is taken? -/
def awayB (mode : Int) (neg : Bool) (half : Int) (odd : Bool) : Bool :=
  if mode = 0 then half == 3 || (half == 2 && odd) else if mode = 1 then decide (2 ≤ half) else if mode = 3 then !neg else if mode = 4 then neg else false
end Go.Proofs.YtbkdaoicnobllabDoor

/- Plain mathematics: amounts and their numbers. -/
namespace Go.Proofs.YtbkdaoicnobllabDoor

theorem pQ0 : 2 ^ fQ 0 = 1024 := by simp [fQ]
theorem pQ1 : 2 ^ fQ 1 = 8388608 := by simp [fQ]
theorem pQ2 : 2 ^ fQ 2 = 4503599627370496 := by simp [fQ]
theorem fE_ge (f : Int) : -1074 ≤ fE f := by unfold fE; split <;> (try split) <;> omega
/-- An amount of exponent lo and of r more. -/
theorem valA_at (K : Nat) (f : Int) (lo r : Nat) (hr : r ≤ 2 ^ fQ f) (hK : 1100 ≤ K) :
    valA K f (lo * 2 ^ fQ f + r) = if lo = 0 then two K (fE f) * r else two K (fE f + (lo - 1 : Nat)) * (2 ^ fQ f + r) := by
  have hge := fE_ge f
  have hp : 0 < 2 ^ fQ f := Nat.pow_pos (by omega)
  unfold valA mA xA
  generalize 2 ^ fQ f = Q at *
  by_cases h : r = Q
  · subst h
    have e1 : (lo * r + r) / r = lo + 1 := by rw [← Nat.succ_mul, Nat.mul_div_cancel _ hp]
    have e2 : (lo * r + r) % r = 0 := by rw [← Nat.succ_mul, Nat.mul_mod_left]
    rw [e1, e2, if_neg (by omega)]
    by_cases h0 : lo = 0
    · rw [if_pos h0, h0]; simp
    · rw [if_neg h0, Nat.zero_add, show fE f + ((lo + 1 - 1 : Nat) : Int) = fE f + ((lo - 1 : Nat) : Int) + (1 : Nat) from by omega, two_mul K _ (by omega)]
      rw [Nat.pow_one, Nat.mul_assoc, Nat.two_mul]
  · have e1 : (lo * Q + r) / Q = lo := by rw [Nat.mul_comm, Nat.mul_add_div hp, Nat.div_eq_of_lt (by omega)]; omega
    have e2 : (lo * Q + r) % Q = r := by rw [Nat.mul_comm, Nat.mul_add_mod, Nat.mod_eq_of_lt (by omega)]
    rw [e1, e2]
    by_cases h0 : lo = 0
    · rw [if_pos h0, if_pos h0, h0]; simp
    · rw [if_neg h0, if_neg h0, Nat.add_comm r]
theorem valA_zero (K : Nat) (f : Int) : valA K f 0 = 0 := by unfold valA mA; simp

/-- Bit by bit: the last bits' worth. -/
theorem below_end (K : Nat) (f : Int) (lo m X : Nat) (hK : 1100 ≤ K)
    (h0 : lo = 0 → m < 2 ^ fQ f ∧ two K (fE f) * m ≤ X ∧ X < two K (fE f) * (m + 1))
    (h1 : lo ≠ 0 → 2 ^ fQ f ≤ m ∧ m < 2 * 2 ^ fQ f ∧ two K (fE f + (lo - 1 : Nat)) * m ≤ X ∧ X < two K (fE f + (lo - 1 : Nat)) * (m + 1)) :
    valA K f (lo * 2 ^ fQ f + (if lo = 0 then m else m - 2 ^ fQ f)) ≤ X ∧ X < valA K f (lo * 2 ^ fQ f + (if lo = 0 then m else m - 2 ^ fQ f) + 1) := by
  by_cases h : lo = 0
  · obtain ⟨a, b, c⟩ := h0 h
    rw [if_pos h, Nat.add_assoc, valA_at K f lo m (by omega) hK, valA_at K f lo (m + 1) (by omega) hK, if_pos h, if_pos h]
    exact ⟨b, c⟩
  · obtain ⟨a, b, c, d⟩ := h1 h
    rw [if_neg h, Nat.add_assoc, valA_at K f lo (m - 2 ^ fQ f) (by omega) hK, valA_at K f lo (m - 2 ^ fQ f + 1) (by omega) hK, if_neg h, if_neg h,
      show 2 ^ fQ f + (m - 2 ^ fQ f) = m from by omega, show 2 ^ fQ f + (m - 2 ^ fQ f + 1) = m + 1 from by omega]
    exact ⟨c, d⟩
end Go.Proofs.YtbkdaoicnobllabDoor

/- Plain mathematics: what a number is rounded to. -/
namespace Go.Proofs.YtbkdaoicnobllabDoor

/-- The least normal number's power of two. -/
def fLow (f : Int) : Int := if f = 0 then -14 else if f = 1 then -126 else -1022
/-- The amount of infinity. -/
def infN (f : Int) : Nat := if f = 0 then 31744 else if f = 1 then 2139095040 else 9218868437227405312

/-- The amount r and the flags fl to which the number X / 10^K is rounded (P6, P7). -/
def RoundSpec (K : Nat) (f mode : Int) (neg : Bool) (X : Nat) (r fl : Int) : Prop :=
  (X = 0 ∧ r = 0 ∧ fl = 0) ∨
  (0 < X ∧ valA K f (infN f) ≤ X ∧ fl = 3 ∧ r = if awayB mode neg 3 true = true then (infN f : Int) else (infN f : Int) - 1) ∨
  (0 < X ∧ X < valA K f (infN f) ∧ ∃ a : Nat, a < infN f ∧ valA K f a ≤ X ∧ X < valA K f (a + 1) ∧
    ((X = valA K f a ∧ r = a ∧ fl = 0) ∨
     (X ≠ valA K f a ∧ r = (if awayB mode neg (cmpN (X * 2) (valA K f a + valA K f (a + 1)) + 2) (a % 2 == 1) = true then (a : Int) + 1 else (a : Int)) ∧
      fl = 1 + (if X < two K (fLow f) then 4 else 0) + (if r = infN f then 2 else 0))))

theorem infN_le (f : Int) : 1 ≤ infN f ∧ infN f ≤ 9218868437227405312 := by unfold infN; split <;> (try split) <;> omega
end Go.Proofs.YtbkdaoicnobllabDoor

/- Plain mathematics: the numbers of amounts, in their order. -/
namespace Go.Proofs.YtbkdaoicnobllabDoor

/-- The format's bias. -/
def fB (f : Int) : Int := if f = 0 then 15 else if f = 1 then 127 else 1023
structure Fmt (f : Int) : Prop where
  e : fE f = 1 - fB f - fQ f
  low : fLow f = 1 - fB f
  b1 : 15 ≤ fB f
  b2 : fB f ≤ 1023
  q : fQ f ≤ 52
  i : (infN f : Int) = (2 * fB f + 1) * ((2 ^ fQ f : Nat) : Int)
  odd : ((infN f : Int) - 1) % 2 = 1
theorem fmt_of {f : Int} (h : 0 ≤ f ∧ f ≤ 2) : Fmt f := by
  have : f = 0 ∨ f = 1 ∨ f = 2 := by omega
  rcases this with rfl | rfl | rfl
  · exact ⟨by decide, by decide, by decide, by decide, by decide, by decide, by decide⟩
  · exact ⟨by decide, by decide, by decide, by decide, by decide, by decide, by decide⟩
  · exact ⟨by decide, by decide, by decide, by decide, by decide, by decide, by decide⟩

theorem valA_lt (K : Nat) (f : Int) (a : Nat) (hK : 1100 ≤ K) : valA K f a < valA K f (a + 1) := by
  have hp : 0 < 2 ^ fQ f := Nat.pow_pos (by omega)
  have ha : a = a / 2 ^ fQ f * 2 ^ fQ f + a % 2 ^ fQ f := by rw [Nat.mul_comm]; exact (Nat.div_add_mod a _).symm
  have hm : a % 2 ^ fQ f < 2 ^ fQ f := Nat.mod_lt _ hp
  rw [ha, Nat.add_assoc, valA_at K f _ _ (by omega) hK, valA_at K f _ _ (by omega) hK]
  split
  · exact Nat.mul_lt_mul_of_pos_left (by omega) (two_pos _ _)
  · exact Nat.mul_lt_mul_of_pos_left (by omega) (two_pos _ _)
theorem valA_mono (K : Nat) (f : Int) (hK : 1100 ≤ K) {a b : Nat} (h : a ≤ b) : valA K f a ≤ valA K f b := by
  induction b with
  | zero => rw [show a = 0 from by omega]; exact Nat.le_refl _
  | succ b ih =>
    rcases Nat.lt_or_ge a (b + 1) with h1 | h1
    · exact Nat.le_trans (ih (by omega)) (Nat.le_of_lt (valA_lt K f b hK))
    · rw [show a = b + 1 from by omega]; exact Nat.le_refl _
theorem valA_one {K : Nat} {f : Int} {a b X : Nat} (hK : 1100 ≤ K) (h1 : valA K f a ≤ X) (h2 : X < valA K f (a + 1)) (h3 : valA K f b ≤ X) (h4 : X < valA K f (b + 1)) : a = b := by
  rcases Nat.lt_trichotomy a b with h | h | h
  · have := valA_mono K f hK (show a + 1 ≤ b from h); omega
  · exact h
  · have := valA_mono K f hK (show b + 1 ≤ a from h); omega
end Go.Proofs.YtbkdaoicnobllabDoor

/- Rows of small numbers in memory. Nothing of the program but the model. -/
namespace Go.Proofs.YtbkdaoicnobllabDoor
open Go.RowKit

theorem hid {p : Prop} (h : p) : Hid p := h
theorem ret_int {k : IntKind} {a b : Int} (h : a = b) : Ending.returned (.int k a) = .returned (.int k b) := by rw [h]

/-- A slice value that reads as the row L. -/
def Row (w : World) (v : Value) (L : List Nat) : Prop :=
  (L = [] ∧ v = .slice none 0 0) ∨
  ∃ b off cap, v = .slice (some ⟨b, off, none⟩) L.length cap ∧ L.length ≤ cap ∧ cap ≤ maxLen ∧ b < w.heap.size ∧ ∀ j, j < L.length → w.cell? ⟨b, off + j, none⟩ = some (.int .i64 (L.getD j 0 : Nat))

theorem Row.nil (w : World) : Row w (.slice none 0 0) [] := .inl ⟨rfl, rfl⟩
theorem Row.below {w w' : World} {v : Value} {L : List Nat} {B : Nat} (h : Row w v L) (hb : Below B w w') (hB : w.heap.size ≤ B) : Row w' v L := by
  rcases h with h | ⟨b, off, cap, rfl, h1, h2, h3, h4⟩
  · exact .inl h
  · exact .inr ⟨b, off, cap, rfl, h1, h2, by have := hb.size; omega, fun j hj => (hb.cell (p := ⟨b, off + j, none⟩) (by show b < B; omega)).trans (h4 j hj)⟩

def ints (O : List Nat) : List Value := O.map fun d => Value.int .i64 (d : Nat)
theorem ints_getElem? (O : List Nat) (j : Nat) : (ints O)[j]? = if j < O.length then some (.int .i64 (O.getD j 0 : Nat)) else none := by
  unfold ints
  rw [List.getElem?_map]
  split
  · rename_i h; rw [List.getElem?_eq_getElem h, List.getD_eq_getElem?_getD, List.getElem?_eq_getElem h]; rfl
  · rename_i h; rw [List.getElem?_eq_none (by omega)]; rfl
theorem ints_append (a b : List Nat) : ints (a ++ b) = ints a ++ ints b := by simp [ints]
theorem ints_length (a : List Nat) : (ints a).length = a.length := by simp [ints]
theorem ints_one (d : Nat) : ints [d] = [Value.int .i64 (d : Nat)] := rfl
theorem ints_oneCell (a : List Nat) : ∀ u ∈ ints a, u.oneCell' = true := by
  intro u hu; simp [ints] at hu; obtain ⟨d, _, rfl⟩ := hu; rfl
theorem ints_set (a : List Nat) (j d : Nat) : (ints a).set j (.int .i64 (d : Nat)) = ints (a.set j d) := by simp [ints, List.map_set]
theorem ints_replicate (n : Nat) : List.replicate n (Value.int .i64 0) = ints (List.replicate n 0) := by simp [ints]
/-- A row that the call owns. -/
def Own (w : World) (base : Nat) (v : Value) (O : List Nat) : Prop := w.ownsRow base 3 1 v O.length (ints O)
theorem Own.nil (w : World) (base : Nat) : Own w base (.slice none 0 0) [] := World.ownsRow_nil w base _ _
theorem Own.row {w : World} {base : Nat} {v : Value} {O : List Nat} (h : Own w base v O) : Row w v O := by
  unfold Own at h
  rcases h.2 with ⟨rfl, h0⟩ | ⟨g, cap, cur, rfl, hb, hg, h1, h2, h3, h4⟩
  · exact .inl ⟨List.length_eq_zero_iff.1 h0, rfl⟩
  · refine .inr ⟨g, 0, cap, rfl, h1, h2, (Array.getElem?_eq_some_iff.1 hg).1, fun j hj => ?_⟩
    rw [Nat.zero_add, h.cellAt j (by omega), ints_getElem?, if_pos hj]

theorem Own.snoc {w : World} {base : Nat} {v : Value} {O : List Nat} {k : Nat} {z : Int} {d : Nat} (h : w.ownsRow base 3 1 v (k + 1) (ints O ++ [.int .i64 z])) (hO : O.length = k) (hz : z = (d : Nat)) : Own w base v (O ++ [d]) := by
  subst hz; unfold Own; rw [ints_append]; simp only [List.length_append, List.length_singleton]; rw [hO]; exact h
theorem Own.owns {w : World} {base : Nat} {v : Value} {O : List Nat} (h : Own w base v O) : w.ownsRow base 3 1 v O.length (ints O) := h
theorem Own.below {w w' : World} {base : Nat} {v : Value} {O : List Nat} (h : Own w base v O) {B : Nat} (hb : Below B w w') (hB : w.heap.size ≤ B) : Own w' base v O := by
  refine ⟨h.1, ?_⟩
  rcases h.2 with h2 | ⟨g, cap, cur, hv, hg, hh, r⟩
  · exact .inl h2
  · exact .inr ⟨g, cap, cur, hv, hg, by rw [hb.block g (Nat.lt_of_lt_of_le (Array.getElem?_eq_some_iff.1 hh).1 hB)]; exact hh, r⟩

theorem Own.form {w : World} {base : Nat} {v : Value} {O : List Nat} (h : Own w base v O) :
    (O = [] ∧ v = .slice none 0 0) ∨ ∃ g cap, v = .slice (some ⟨g, 0, none⟩) O.length cap ∧ base ≤ g ∧ g < w.heap.size ∧ O.length ≤ cap ∧ cap ≤ maxLen := by
  rcases h.2 with ⟨rfl, h0⟩ | ⟨g, cap, cur, rfl, hb, hg, h1, h2, _⟩
  · exact .inl ⟨List.length_eq_zero_iff.1 h0, rfl⟩
  · exact .inr ⟨g, cap, rfl, hb, (Array.getElem?_eq_some_iff.1 hg).1, h1, h2⟩
theorem Own.cell {w : World} {base g cap n : Nat} {O : List Nat} (h : Own w base (.slice (some ⟨g, 0, none⟩) n cap) O) (hn : O.length = n) (j : Nat) (hj : j < n) : w.cell? ⟨g, j, none⟩ = some (.int .i64 (O.getD j 0 : Nat)) := by
  unfold Own at h; rw [hn] at h
  rw [h.cellAt j (by omega), ints_getElem?, if_pos (by omega)]
theorem Own.frozen {w : World} {base g cap n : Nat} {O : List Nat} (h : Own w base (.slice (some ⟨g, 0, none⟩) n cap) O) (hn : O.length = n) (j : Nat) : w.frozen? ⟨g, j, none⟩ = false := by
  unfold Own at h; rw [hn] at h
  exact h.frozenAt j
theorem Own.store {w : World} {base g cap n : Nat} {O : List Nat} (h : Own w base (.slice (some ⟨g, 0, none⟩) n cap) O) (hn : O.length = n) (j d : Nat) : Own (w.setCell ⟨g, j, none⟩ (.int .i64 (d : Nat))) base (.slice (some ⟨g, 0, none⟩) n cap) (O.set j d) := by
  unfold Own at h ⊢; rw [hn] at h; rw [List.length_set, hn, ← ints_set]
  exact (h.stored j _).1

theorem Row.setCell {w : World} {v : Value} {L : List Nat} (h : Row w v L) (a : Addr) (u : Value) (hne : v.ownBlock ≠ some a.block) : Row (w.setCell a u) v L := by
  rcases h with h | ⟨b, off, cap, rfl, h1, h2, h3, h4⟩
  · exact .inl h
  · refine .inr ⟨b, off, cap, rfl, h1, h2, by simpa [World.setCell] using h3, fun j hj => ?_⟩
    rw [← h4 j hj]
    exact World.cell?_of_block (Below.heap_setCell w a u b (fun e => hne (by simp [Value.ownBlock, e])))
theorem Row.form {w : World} {v : Value} {L : List Nat} (h : Row w v L) : (L = [] ∧ v = .slice none 0 0) ∨ ∃ b off cap, v = .slice (some ⟨b, off, none⟩) L.length cap ∧ L.length ≤ cap ∧ cap ≤ maxLen ∧ b < w.heap.size := by
  rcases h with h | ⟨b, off, cap, rfl, h1, h2, h3, h4⟩
  · exact .inl h
  · exact .inr ⟨b, off, cap, rfl, h1, h2, h3⟩
theorem Row.isSlice {w : World} {v : Value} {L : List Nat} (h : Row w v L) : ∃ ao cap, v = .slice ao L.length cap := by
  rcases h.form with ⟨rfl, rfl⟩ | ⟨b, off, cap, rfl, _⟩
  · exact ⟨_, _, rfl⟩
  · exact ⟨_, _, rfl⟩
theorem Row.lt {w : World} {v : Value} {L : List Nat} (h : Row w v L) (g : Nat) (hg : v.ownBlock = some g) : g < w.heap.size := by
  rcases h.form with ⟨rfl, rfl⟩ | ⟨b, off, cap, rfl, _, _, h3⟩
  · simp [Value.ownBlock] at hg
  · simp [Value.ownBlock] at hg; omega

/-- A decimal that a call hands back: of at most 'len' digits, its places from 'lo' to below 'hi', its row in a block of which 'own' holds, its number times 10^K being V K. -/
structure Out (w : World) (v : Value) (L : List Nat) (e : Int) (len : Nat) (lo hi : Int) (own : Nat → Prop) (V : Nat → Nat) : Prop where
  row : Row w v L
  own : ∀ g, v.ownBlock = some g → own g
  norm : Norm L
  len : L.length ≤ len
  nil : L = [] → e = 0
  ne : L ≠ [] → lo ≤ e ∧ e + L.length ≤ hi
  val : ∀ K : Nat, -(K : Int) ≤ lo → val K L e = V K
theorem Out.setCell {w : World} {v : Value} {L : List Nat} {e : Int} {len : Nat} {lo hi : Int} {own : Nat → Prop} {V : Nat → Nat} (h : Out w v L e len lo hi own V) (a : Addr) (u : Value) (hne : ¬ own a.block) : Out (w.setCell a u) v L e len lo hi own V :=
  ⟨h.row.setCell a u (fun hh => hne (h.own _ hh)), h.own, h.norm, h.len, h.nil, h.ne, h.val⟩
theorem Out.below {w w' : World} {v : Value} {L : List Nat} {e : Int} {len : Nat} {lo hi : Int} {own : Nat → Prop} {V : Nat → Nat} (h : Out w v L e len lo hi own V) {B : Nat} (hb : Below B w w') (hB : w.heap.size ≤ B) : Out w' v L e len lo hi own V :=
  ⟨h.row.below hb hB, h.own, h.norm, h.len, h.nil, h.ne, h.val⟩
theorem Out.mono {w : World} {v : Value} {L : List Nat} {e : Int} {len len' : Nat} {lo hi lo' hi' : Int} {own own' : Nat → Prop} {V V' : Nat → Nat} (h : Out w v L e len lo hi own V) (h1 : len ≤ len') (h2 : lo' ≤ lo) (h3 : hi ≤ hi') (h4 : ∀ g, own g → own' g) (h5 : ∀ K : Nat, -(K : Int) ≤ lo' → V K = V' K) : Out w v L e len' lo' hi' own' V' :=
  ⟨h.row, fun g hg => h4 g (h.own g hg), h.norm, Nat.le_trans h.len h1, h.nil, fun hh => ⟨Int.le_trans h2 (h.ne hh).1, Int.le_trans (h.ne hh).2 h3⟩, fun K hK => (h.val K (Int.le_trans hK h2)).trans (h5 K hK)⟩
theorem Out.bounds {w : World} {v : Value} {L : List Nat} {e : Int} {len : Nat} {lo hi : Int} {own : Nat → Prop} {V : Nat → Nat} (h : Out w v L e len lo hi own V) (M : Int) (hl : -M ≤ lo) (hh : hi ≤ M) (h0 : 0 ≤ M) : -M ≤ e ∧ e ≤ M := by
  by_cases hL : L = []
  · rw [h.nil hL]; omega
  · have := h.ne hL; omega

theorem keep_cell {w w' : World} {a : Addr} {v : Value} (hb : Below w.heap.size w w') (h : w.cell? a = some v) : w'.cell? a = some v :=
  (hb.cell (p := a) (World.block_lt_of_cell? w a h)).trans h
end Go.Proofs.YtbkdaoicnobllabDoor

namespace Go.Proofs.YtbkdaoicnobllabDoor
open Go.RowKit

theorem Tryd.info_int : (Tryd.prog.info? 3).map (fun i => (i.zero, i.size, i.bytes)) = some (some (.int .i64 0), 1, 8) := by kernel_rfl
theorem two_cells {w : World} {B : Nat} {x y x0 y0 : Value} (c0 : w.cell? ⟨B, 0, none⟩ = some x0) (c1 : w.cell? ⟨B, 1, none⟩ = some y0) :
    ((w.setCell ⟨B, 0, none⟩ x).setCell ⟨B, 1, none⟩ y).cell? ⟨B, 0, none⟩ = some x ∧ ((w.setCell ⟨B, 0, none⟩ x).setCell ⟨B, 1, none⟩ y).cell? ⟨B, 1, none⟩ = some y := by
  constructor
  · rw [World.cell?_setCell_other _ _ _ _ (by simp)]
    exact World.cell?_setCell_same' _ _ _ (by rw [c0]; rfl)
  · exact World.cell?_setCell_same' _ _ _ (by rw [World.cell?_setCell_other _ _ _ _ (by simp), c1]; rfl)
theorem box4_below {w : World} {o1 o2 : Obj} : Below w.heap.size w ((w.alloc o1).alloc o2) := ((Below.refl _ _).alloc (Nat.le_refl _) _).alloc (by simp) _
/-- Two stores into one block. -/
theorem below_two {B : Nat} {a w : World} (h : Below B a w) {b : Nat} (hb : B ≤ b) (x y : Value) : Below B a ((w.setCell ⟨b, 0, none⟩ x).setCell ⟨b, 1, none⟩ y) := (h.setCell (p := ⟨b, 0, none⟩) hb x).setCell (p := ⟨b, 1, none⟩) hb y
end Go.Proofs.YtbkdaoicnobllabDoor

/- Plain mathematics: the bit of the sign. -/
namespace Go.Proofs.YtbkdaoicnobllabDoor
open Go.RowKit

theorem and_top (i y : Nat) (h : y < 2 ^ i) : y &&& 2 ^ i = 0 := by
  apply Nat.eq_of_testBit_eq
  intro j
  rw [Nat.testBit_and, Nat.testBit_two_pow, Nat.zero_testBit]
  by_cases hj : i = j
  · subst hj; rw [Nat.testBit_lt_two_pow h]; rfl
  · simp [hj]
theorem and_top2 (i y : Nat) (h : y < 2 ^ i) : (2 ^ i + y) &&& 2 ^ i = 2 ^ i := by
  apply Nat.eq_of_testBit_eq
  intro j
  rw [Nat.testBit_and, Nat.testBit_two_pow]
  by_cases hj : i = j
  · subst hj; rw [Nat.testBit_two_pow_add_eq, Nat.testBit_lt_two_pow h]; rfl
  · simp [hj]
theorem xor_top (i y : Nat) (h : y < 2 ^ i) : (2 ^ i + y) ^^^ 2 ^ i = y := by
  apply Nat.eq_of_testBit_eq
  intro j
  rw [Nat.testBit_xor, Nat.testBit_two_pow]
  rcases Nat.lt_trichotomy j i with hj | hj | hj
  · rw [Nat.testBit_two_pow_add_gt hj, show decide (i = j) = false from by simp; omega]; simp
  · subst hj; rw [Nat.testBit_two_pow_add_eq, Nat.testBit_lt_two_pow h]; simp
  · have h1 : 2 ^ i + y < 2 ^ j := by
      have : 2 ^ (i + 1) ≤ 2 ^ j := Nat.pow_le_pow_right (by omega) hj
      rw [Nat.pow_succ] at this; omega
    rw [Nat.testBit_lt_two_pow h1, Nat.testBit_lt_two_pow (x := y) (by omega)]; simp; omega
theorem ofInt_nat (n : Nat) (h : n < 18446744073709551616) : (BitVec.ofInt 64 (n : Int)).toNat = n := by
  rw [BitVec.ofInt_natCast, BitVec.toNat_ofNat]; exact Nat.mod_eq_of_lt h
theorem ofInt_neg (x : Int) (h1 : -9223372036854775808 ≤ x) (h2 : x < 0) : (BitVec.ofInt 64 x).toNat = (x + 18446744073709551616).toNat := by
  rw [BitVec.toNat_ofInt]
  have : x % ((2 ^ 64 : Nat) : Int) = x + 18446744073709551616 := by
    rw [show ((2 ^ 64 : Nat) : Int) = 18446744073709551616 from rfl]; omega
  rw [this]
/-- Neither the sign's bit nor what lies above it is set. -/
theorem sign_off (i : Nat) (hi : i ≤ 62) (x : Int) (h0 : 0 ≤ x) (h : x < ((2 ^ i : Nat) : Int)) : bits .and .i64 x ((2 ^ i : Nat) : Int) = 0 := by
  have hp : 2 ^ i ≤ 2 ^ 62 := Nat.pow_le_pow_right (by omega) hi
  obtain ⟨y, rfl⟩ : ∃ y : Nat, x = y := ⟨x.toNat, by omega⟩
  show IntKind.i64.wrap ((BitVec.ofInt 64 (y : Int) &&& BitVec.ofInt 64 ((2 ^ i : Nat) : Int)).toNat : Int) = _
  rw [BitVec.toNat_and, ofInt_nat y (by omega), ofInt_nat _ (by omega), and_top i y (by omega)]; rfl
theorem sign_on (i : Nat) (hi : i ≤ 62) (x : Int) (h0 : ((2 ^ i : Nat) : Int) ≤ x) (h : x < 2 * ((2 ^ i : Nat) : Int)) : bits .and .i64 x ((2 ^ i : Nat) : Int) = ((2 ^ i : Nat) : Int) ∧ bits .xor .i64 x ((2 ^ i : Nat) : Int) = x - ((2 ^ i : Nat) : Int) := by
  have hp : 2 ^ i ≤ 2 ^ 62 := Nat.pow_le_pow_right (by omega) hi
  obtain ⟨y, rfl⟩ : ∃ y : Nat, x = ((2 ^ i + y : Nat) : Int) := ⟨(x - ((2 ^ i : Nat) : Int)).toNat, by omega⟩
  have hy : y < 2 ^ i := by omega
  constructor
  · show IntKind.i64.wrap ((BitVec.ofInt 64 ((2 ^ i + y : Nat) : Int) &&& BitVec.ofInt 64 ((2 ^ i : Nat) : Int)).toNat : Int) = _
    rw [BitVec.toNat_and, ofInt_nat _ (by omega), ofInt_nat _ (by omega), and_top2 i y hy, IntKind.wrap_i64]
    generalize 2 ^ i = P at *
    omega
  · show IntKind.i64.wrap ((BitVec.ofInt 64 ((2 ^ i + y : Nat) : Int) ^^^ BitVec.ofInt 64 ((2 ^ i : Nat) : Int)).toNat : Int) = _
    rw [BitVec.toNat_xor, ofInt_nat _ (by omega), ofInt_nat _ (by omega), xor_top i y hy, IntKind.wrap_i64]
    generalize 2 ^ i = P at *
    omega
/-- The same of 64 bits. -/
theorem min_off (x : Int) (h0 : 0 ≤ x) (h : x ≤ 9223372036854775807) : bits .and .i64 x (-9223372036854775808) = 0 := by
  obtain ⟨y, rfl⟩ : ∃ y : Nat, x = y := ⟨x.toNat, by omega⟩
  show IntKind.i64.wrap ((BitVec.ofInt 64 (y : Int) &&& BitVec.ofInt 64 (-9223372036854775808)).toNat : Int) = _
  rw [BitVec.toNat_and, ofInt_nat y (by omega), show (BitVec.ofInt 64 (-9223372036854775808)).toNat = 2 ^ 63 from by decide, and_top 63 y (by omega)]; rfl
theorem min_on (x : Int) (h0 : -9223372036854775808 ≤ x) (h : x < 0) : bits .and .i64 x (-9223372036854775808) = -9223372036854775808 ∧ bits .xor .i64 x (-9223372036854775808) = x + 9223372036854775808 := by
  obtain ⟨y, hy⟩ : ∃ y : Nat, (y : Int) = x + 9223372036854775808 := ⟨(x + 9223372036854775808).toNat, by omega⟩
  have e1 : (BitVec.ofInt 64 x).toNat = 2 ^ 63 + y := by rw [ofInt_neg x h0 h]; omega
  have e2 : (BitVec.ofInt 64 (-9223372036854775808)).toNat = 2 ^ 63 := by decide
  constructor
  · show IntKind.i64.wrap ((BitVec.ofInt 64 x &&& BitVec.ofInt 64 (-9223372036854775808)).toNat : Int) = _
    rw [BitVec.toNat_and, e1, e2, and_top2 63 y (by omega)]; decide
  · show IntKind.i64.wrap ((BitVec.ofInt 64 x ^^^ BitVec.ofInt 64 (-9223372036854775808)).toNat : Int) = _
    rw [BitVec.toNat_xor, e1, e2, xor_top 63 y (by omega), IntKind.wrap_i64]
    omega
end Go.Proofs.YtbkdaoicnobllabDoor

/- Natural numbers as rows of limbs, the lowest first. -/
namespace Go.Proofs.YtbkdaoicnobllabDoor
open Go.RowKit

def nv : List Nat → Nat
  | [] => 0
  | d :: r => d + 1073741824 * nv r
def Lim (L : List Nat) : Prop := ∀ d, d ∈ L → d < 1073741824
theorem nv_append (a b : List Nat) : nv (a ++ b) = nv a + 1073741824 ^ a.length * nv b := by
  induction a with
  | nil => simp [nv]
  | cons d r ih =>
    simp only [List.cons_append, nv, ih, List.length_cons, Nat.pow_succ]
    rw [Nat.mul_add, Nat.mul_comm (1073741824 ^ r.length) 1073741824, Nat.mul_assoc, Nat.add_assoc]
theorem nv_snoc (a : List Nat) (d : Nat) : nv (a ++ [d]) = nv a + 1073741824 ^ a.length * d := by rw [nv_append]; simp [nv]
theorem nv_take_succ (L : List Nat) (i : Nat) (h : i < L.length) : nv (L.take (i + 1)) = nv (L.take i) + 1073741824 ^ i * L.getD i 0 := by
  rw [take_succ_getD L i h, nv_snoc, List.length_take, Nat.min_eq_left (by omega)]
theorem Lim.getD {L : List Nat} (h : Lim L) (i : Nat) : L.getD i 0 < 1073741824 := by
  rw [List.getD_eq_getElem?_getD]
  cases hi : L[i]? with
  | none => simp
  | some d => simpa using h d (List.mem_of_getElem? hi)
theorem Lim.set {L : List Nat} (h : Lim L) (i d : Nat) (hd : d < 1073741824) : Lim (L.set i d) := by
  intro x hx
  rcases List.mem_or_eq_of_mem_set hx with hx | rfl
  · exact h x hx
  · exact hd
theorem Lim.snoc {L : List Nat} (h : Lim L) (d : Nat) (hd : d < 1073741824) : Lim (L ++ [d]) := by
  intro x hx; rcases List.mem_append.1 hx with hx | hx
  · exact h x hx
  · rw [List.mem_singleton.1 hx]; exact hd
theorem Lim.take {L : List Nat} (h : Lim L) (n : Nat) : Lim (L.take n) := fun x hx => h x (List.mem_of_mem_take hx)
theorem nv_lt {L : List Nat} (h : Lim L) : nv L < 1073741824 ^ L.length := by
  induction L with
  | nil => simp [nv]
  | cons d r ih =>
    have h1 := ih (fun x hx => h x (List.mem_cons_of_mem _ hx))
    have h2 := h d List.mem_cons_self
    simp only [nv, List.length_cons, Nat.pow_succ]; omega
theorem nv_take_zeros (L : List Nat) (z : Nat) (h : ∀ j, z ≤ j → j < L.length → L.getD j 0 = 0) : nv (L.take z) = nv L := by
  induction L generalizing z with
  | nil => simp
  | cons d r ih =>
    cases z with
    | zero =>
      have h0 := h 0 (by omega) (by simp)
      simp at h0
      have := ih 0 (fun j _ hj => by have := h (j + 1) (by omega) (by simp; omega); simpa using this)
      simp [nv] at this ⊢
      rw [← this, h0]
    | succ z =>
      rw [List.take_succ_cons]
      simp only [nv]
      rw [ih z (fun j h1 hj => by have := h (j + 1) (by omega) (by simp; omega); simpa using this)]
/-- A limb's step of a product. -/
theorem mul_step (L M : List Nat) (i f c : Nat) (a : Nat) (hi : i < L.length) (hM : M.length = L.length)
    (h : nv (M.take i) + c * 1073741824 ^ i = nv (L.take i) * f + a) :
    nv ((M.set i ((L.getD i 0 * f + c) % 1073741824)).take (i + 1)) + (L.getD i 0 * f + c) / 1073741824 * 1073741824 ^ (i + 1) = nv (L.take (i + 1)) * f + a := by
  have e1 : (M.set i ((L.getD i 0 * f + c) % 1073741824)).take i = M.take i := by rw [List.take_set]; exact List.set_eq_of_length_le (by rw [List.length_take]; omega)
  rw [nv_take_succ _ i (by simp; omega), e1, getD_set M i i _ (by omega), if_pos rfl, nv_take_succ L i hi, Nat.pow_succ]
  generalize L.getD i 0 = x at *
  generalize 1073741824 ^ i = P at *
  have hs : P * ((x * f + c) % 1073741824) + (x * f + c) / 1073741824 * (P * 1073741824) = P * (x * f + c) := by
    have h2 : (x * f + c) % 1073741824 + 1073741824 * ((x * f + c) / 1073741824) = x * f + c := Nat.mod_add_div _ _
    calc P * ((x * f + c) % 1073741824) + (x * f + c) / 1073741824 * (P * 1073741824) = P * ((x * f + c) % 1073741824 + 1073741824 * ((x * f + c) / 1073741824)) := by grind
      _ = _ := by rw [h2]
  rw [Nat.add_assoc, hs, Nat.add_mul]
  have e3 : nv (M.take i) + P * (x * f + c) = (nv (M.take i) + c * P) + P * x * f := by grind
  rw [e3, h]; omega

/-- All blocks but those of S are as they were. -/
structure Turn (S : Nat → Prop) (w w' : World) : Prop where
  os : w'.os = w.os
  tape : w'.tape = w.tape
  output : w'.output = w.output
  size : w.heap.size ≤ w'.heap.size
  block : ∀ k, k < w.heap.size → ¬ S k → w'.heap[k]? = w.heap[k]?
theorem Turn.refl (S : Nat → Prop) (w : World) : Turn S w w := ⟨rfl, rfl, rfl, Nat.le_refl _, fun _ _ _ => rfl⟩
theorem Turn.trans {S S2 : Nat → Prop} {w w1 w2 : World} (h : Turn S w w1) (k : Turn S2 w1 w2) (hs : ∀ j, j < w.heap.size → S2 j → S j) : Turn S w w2 :=
  ⟨k.os.trans h.os, k.tape.trans h.tape, k.output.trans h.output, Nat.le_trans h.size k.size, fun j hj hn => (k.block j (Nat.lt_of_lt_of_le hj h.size) (fun h2 => hn (hs j hj h2))).trans (h.block j hj hn)⟩
theorem Turn.mono {S S2 : Nat → Prop} {w w1 : World} (h : Turn S w w1) (hs : ∀ j, j < w.heap.size → S j → S2 j) : Turn S2 w w1 :=
  ⟨h.os, h.tape, h.output, h.size, fun j hj hn => h.block j hj (fun h2 => hn (hs j hj h2))⟩
theorem Turn.setCell {S : Nat → Prop} {w w1 : World} (h : Turn S w w1) (a : Addr) (u : Value) (ha : S a.block) : Turn S w (w1.setCell a u) :=
  ⟨h.os, h.tape, h.output, by simpa [World.setCell] using h.size, fun j hj hn => (Below.heap_setCell w1 a u j (fun e => hn (e ▸ ha))).trans (h.block j hj hn)⟩
theorem Turn.below {S : Nat → Prop} {w w1 w2 : World} (h : Turn S w w1) (hb : Below w1.heap.size w1 w2) : Turn S w w2 :=
  ⟨hb.os.trans h.os, hb.tape.trans h.tape, hb.output.trans h.output, Nat.le_trans h.size hb.size, fun j hj hn => (hb.block j (Nat.lt_of_lt_of_le hj h.size)).trans (h.block j hj hn)⟩
theorem Turn.grown {S : Nat → Prop} {w w1 w2 : World} {row : Option Nat} (h : Turn S w w1) (hg : w1.grownBy w2 row) (hr : ∀ k, row = some k → k < w.heap.size → S k) : Turn S w w2 :=
  ⟨hg.os.trans h.os, hg.tape.trans h.tape, hg.output.trans h.output, Nat.le_trans h.size hg.size, fun j hj hn => (hg.block j (Nat.lt_of_lt_of_le hj h.size) (fun e => hn (hr j e.symm hj))).trans (h.block j hj hn)⟩

/-- A Nat of package nat at block b. -/
structure NatAt (w : World) (b : Nat) (v : Value) (L : List Nat) : Prop where
  cell : w.cell? ⟨b, 0, none⟩ = some v
  frozen : w.frozen? ⟨b, 0, none⟩ = false
  own : Own w 0 v L
  apart : v.ownBlock ≠ some b
  lim : Lim L
  nrm : 0 < L.length → L.getD (L.length - 1) 0 ≠ 0
/-- The blocks of a Nat. -/
def Foot (b : Nat) (v : Value) (k : Nat) : Prop := k = b ∨ v.ownBlock = some k
theorem keep_cell' {w w' : World} {a : Addr} {v : Value} (hb : Below w.heap.size w w') (h : w.cell? a = some v) : w'.cell? a = some v :=
  (hb.cell (p := a) (World.block_lt_of_cell? w a h)).trans h
theorem cell_of_turn {S : Nat → Prop} {w w1 : World} (h : Turn S w w1) {a : Addr} {v : Value} (hc : w.cell? a = some v) (hn : ¬ S a.block) : w1.cell? a = some v :=
  (World.cell?_of_block (w := w) (h.block a.block (World.block_lt_of_cell? w a hc) hn)).trans hc
theorem NatAt.turn {S : Nat → Prop} {w w1 : World} {b : Nat} {v : Value} {L : List Nat} (h : NatAt w b v L) (ht : Turn S w w1) (hs : ∀ k, Foot b v k → ¬ S k) : NatAt w1 b v L := by
  have hb := World.block_lt_of_cell? w _ h.cell
  refine ⟨cell_of_turn ht h.cell (hs _ (.inl rfl)), ?_, ?_, h.apart, h.lim, h.nrm⟩
  · rw [World.frozen?_of_block (w := w) (ht.block b hb (hs _ (.inl rfl)))]; exact h.frozen
  · refine ⟨h.own.1, ?_⟩
    rcases h.own.2 with h2 | ⟨g, cap, cur, hv, hg, hh, r⟩
    · exact .inl h2
    · exact .inr ⟨g, cap, cur, hv, hg, by rw [ht.block g (Array.getElem?_eq_some_iff.1 hh).1 (hs _ (.inr (by rw [hv]; rfl)))]; exact hh, r⟩

theorem NatAt.mk_set {w : World} {b : Nat} {v v' : Value} {L : List Nat} (hc : w.cell? ⟨b, 0, none⟩ = some v) (hf : w.frozen? ⟨b, 0, none⟩ = false) (ho : Own w 0 v' L) (hap : v'.ownBlock ≠ some b) (hl : Lim L) (hn : 0 < L.length → L.getD (L.length - 1) 0 ≠ 0) : NatAt (w.setCell ⟨b, 0, none⟩ v') b v' L := by
  refine ⟨World.cell?_setCell_same' _ _ _ (by rw [hc]; rfl), by rw [show (w.setCell ⟨b, 0, none⟩ v').frozen? ⟨b, 0, none⟩ = w.frozen? ⟨b, 0, none⟩ from by simp [go_sem]]; exact hf, ?_, hap, hl, hn⟩
  refine ⟨ho.1, ?_⟩
  rcases ho.2 with h2 | ⟨g, cap, cur, hv, hg, hh, r⟩
  · exact .inl h2
  · exact .inr ⟨g, cap, cur, hv, hg, by rw [Below.heap_setCell _ _ _ _ (fun e => hap (by rw [hv, e]; rfl))]; exact hh, r⟩
theorem Own.cutTo {w : World} {g n cap : Nat} {L : List Nat} (h : Own w 0 (.slice (some ⟨g, 0, none⟩) n cap) L) (hn : L.length = n) (m : Nat) (hm : m ≤ n) : Own w 0 (.slice (some ⟨g, 0, none⟩) m cap) (L.take m) := by
  unfold Own at *
  have hlen : (L.take m).length = m := by rw [List.length_take]; omega
  rw [hlen]
  refine ⟨by rw [ints_length, hlen]; omega, .inr ?_⟩
  rcases h.2 with ⟨h2, _⟩ | ⟨g', cap', cur, hv, hg, hh, h1, h3, h4, h5⟩
  · cases h2
  · rw [hn] at hv h1 h5
    simp only [Value.slice.injEq, Option.some.injEq, Addr.mk.injEq, and_true, true_and] at hv
    obtain ⟨rfl, rfl⟩ := hv
    refine ⟨g, cap, cur, rfl, hg, hh, by omega, h3, h4, ?_⟩
    rw [Nat.mul_one] at *
    have : ints (L.take m) = (ints L).take m := by unfold ints; rw [List.map_take]
    rw [this, ← h5, List.take_take, Nat.min_eq_left hm]

/-- What an operation on a Nat leaves: the Nat, with the number V, of at most 'len' limbs; nothing else has turned; its row is the old one or new. -/
def NatPost (w w' : World) (b : Nat) (v : Value) (V len : Nat) : Prop :=
  ∃ v' L', NatAt w' b v' L' ∧ nv L' = V ∧ L'.length ≤ len ∧ Turn (Foot b v) w w' ∧ (v'.ownBlock = v.ownBlock ∨ ∃ g, v'.ownBlock = some g ∧ w.heap.size ≤ g)
theorem NatPost.of_set {w : World} {b : Nat} {v v' : Value} {L : List Nat} {V len : Nat} (h : NatAt (w.setCell ⟨b, 0, none⟩ v') b v' L) (hv : nv L = V) (hl : L.length ≤ len) (ho : v'.ownBlock = v.ownBlock) : NatPost w (w.setCell ⟨b, 0, none⟩ v') b v V len :=
  ⟨v', L, h, hv, hl, (Turn.refl _ _).setCell _ _ (.inl rfl), .inl ho⟩

end Go.Proofs.YtbkdaoicnobllabDoor

namespace Go.Proofs.YtbkdaoicnobllabDoor
open Go.RowKit

set_option maxHeartbeats 400000 in
theorem isZero_any (b : Nat) (v : Value) (L : List Nat) (w : World) (h : NatAt w b v L) :
    Calls Tryd.prog 58 #[.pointer (some ⟨b, 0, none⟩)] w fun e w' => e = .returned (.bool (decide (L.length = 0))) ∧ w' = w := by
  obtain ⟨ao, cap, hv⟩ := h.own.row.isSlice
  subst hv
  have hc := h.cell
  clear h
  obtain ⟨n, hn⟩ : ∃ n, n = L.length := ⟨_, rfl⟩
  rw [← hn] at hc ⊢
  clear hn
  go_enter Tryd.func58, Tryd.ntmps58
  go_wp2
  go_ret
  exact ⟨congrArg (fun b => Ending.returned (Value.bool b)) (by rw [Bool.eq_iff_iff]; simp), rfl⟩

set_option maxRecDepth 100000 in
set_option maxHeartbeats 1000000 in
theorem trim_any (b : Nat) (v : Value) (L : List Nat) (w : World) (hc : w.cell? ⟨b, 0, none⟩ = some v) (hf : w.frozen? ⟨b, 0, none⟩ = false) (ho : Own w 0 v L) (hap : v.ownBlock ≠ some b) (hl : Lim L) (hlen : L.length ≤ 100000) :
    Calls Tryd.prog 64 #[.pointer (some ⟨b, 0, none⟩)] w fun e w' => e = .returned (.tuple #[]) ∧ NatPost w w' b v (nv L) L.length := by
  have HO := hid (And.intro ho (And.intro hap hl))
  rcases ho.form with ⟨h0, hv⟩ | ⟨g, cap, hv, hg1, hg2, hg3, hg4⟩
  · subst hv
    have H0 := hid h0
    clear ho hap hl h0 hlen
    go_enter Tryd.func64, Tryd.ntmps64
    go_wp2
    go_loop [2] (fun t => t = .int .i64 0) (fun _ => 0)
    case atStart => rfl
    case round =>
      subst hrel
      go_wp2
      go_end0
      exact ⟨rfl, NatPost.of_set (NatAt.mk_set hc hf HO.out.1 HO.out.2.1 HO.out.2.2 (fun h => by rw [H0.out] at h; simp at h)) rfl (Nat.le_refl _) rfl⟩
  · obtain ⟨n, hn⟩ : ∃ n, n = L.length := ⟨_, rfl⟩
    rw [← hn] at hv hlen hg3
    subst hv
    have HN := hid hn
    unfold maxLen at hg4
    clear ho hap hl hn hg1 hg2
    go_enter Tryd.func64, Tryd.ntmps64
    go_wp2
    go_loop [2] (fun t => ∃ m : Nat, m ≤ n ∧ t = .int .i64 m ∧ Hid (∀ j, m ≤ j → j < n → L.getD j 0 = 0)) (fun t => (intOf t).toNat)
    case atStart => exact ⟨n, Nat.le_refl _, rfl, fun j h1 h2 => by omega⟩
    case round =>
      obtain ⟨m, hm, rfl, HZ⟩ := hrel
      by_cases hpos : 0 < m
      · have cx := HO.out.1.cell HN.out.symm (m - 1) (by omega)
        obtain ⟨x, hx⟩ : ∃ x, x = L.getD (m - 1) 0 := ⟨_, rfl⟩
        rw [← hx] at cx
        have HX := hid hx
        clear hx
        by_cases hx0 : x = 0
        · have hb : ((x : Int) == 0) = true := by simp [hx0]
          have HX0 := hid hx0
          clear hx0
          go_wp2
          go_round
          case rel => exact ⟨m - 1, by omega, by go_num, fun j h1 h2 => if h : j = m - 1 then by rw [h, ← HX.out]; exact HX0.out else HZ.out j (by omega) h2⟩
          case measure => simp [intOf]; omega
        · have hb : ((x : Int) == 0) = false := by rw [beq_eq_false_iff_ne]; omega
          have HX0 := hid hx0
          clear hx0
          go_wp2
          go_end0
          refine ⟨rfl, NatPost.of_set (L := L.take m) (NatAt.mk_set hc hf (HO.out.1.cutTo HN.out.symm m hm) HO.out.2.1 (HO.out.2.2.take m) (fun _ => ?_)) (nv_take_zeros L m (fun j h1 h2 => HZ.out j h1 (by rw [HN.out]; exact h2))) (by rw [List.length_take, ← HN.out]; omega) rfl⟩
          rw [List.length_take, Nat.min_eq_left (by rw [← HN.out]; exact hm), List.getD_eq_getElem?_getD, List.getElem?_take_of_lt (by omega), ← List.getD_eq_getElem?_getD, ← HX.out]
          exact HX0.out
      · have hm0 : m = 0 := by omega
        subst hm0
        go_wp2
        go_end0
        exact ⟨rfl, NatPost.of_set (L := L.take 0) (NatAt.mk_set hc hf (HO.out.1.cutTo HN.out.symm 0 hm) HO.out.2.1 (HO.out.2.2.take 0) (fun h => by simp at h)) (nv_take_zeros L 0 (fun j h1 h2 => HZ.out j h1 (by rw [HN.out]; exact h2))) (by simp) rfl⟩

end Go.Proofs.YtbkdaoicnobllabDoor
