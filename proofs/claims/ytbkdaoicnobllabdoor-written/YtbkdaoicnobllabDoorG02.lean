import Derived.Test.YtbkdaoicnobllabDoorG01
import Derived.WalkKit
import Derived.Test.YtbkdaoicnobllabDoorG00
import Derived.Test.YtbkdaoicnobllabDoorProg
import Derived.WalkSpells
import Derived.WalkLawsBesides
import Derived.Deep.QuietTactic
import Derived.BigQuiet

/- Plain mathematics: the texts that a number rounded at a power of ten has. -/
namespace Go.Proofs.YtbkdaoicnobllabDoor

/-- The text of V / 10^3000 with n digits behind the first, and a power of ten. -/
structure ExpR (aw : Int → Bool → Bool) (V n : Nat) (D : List Nat) (e : Int) (L : List Nat) (g : Int) (T : List UInt8) : Prop where
  digs : Digs D
  headed : Headed D
  pos : 0 < D.length
  lo : -(3000 : Int) ≤ e
  val : val 3000 D e = V
  digs' : Digs L
  headed' : Headed L
  pos' : 0 < L.length
  lo' : -(3000 : Int) ≤ g
  lon : -(3000 : Int) ≤ g + L.length - 1 - n
  val' : Go.Proofs.YtbkdaoicnobllabDoor.val 3000 L g = rndN aw V (10 ^ (e + D.length - 1 - n + (3000 : Nat)).toNat) * 10 ^ (e + D.length - 1 - n + (3000 : Nat)).toNat
  text : T = sciT L g (g + L.length - 1) n ++ (101 :: Lib.itoa (g + L.length - 1))
def ExpQ (aw : Int → Bool → Bool) (V n : Nat) (T : List UInt8) : Prop := (V = 0 ∧ T = fixT [] 0 0 n ++ [101, 48]) ∨ ∃ D e L g, ExpR aw V n D e L g T
theorem ExpR.ne {aw : Int → Bool → Bool} {V n : Nat} {D L : List Nat} {e g : Int} {T : List UInt8} (h : ExpR aw V n D e L g T) : V ≠ 0 := by
  rw [← h.val]; unfold Go.Proofs.YtbkdaoicnobllabDoor.val
  exact Nat.ne_of_gt (Nat.mul_pos (h.headed.pos h.pos) (Nat.pow_pos (by omega)))
theorem ExpQ.same {aw : Int → Bool → Bool} {V n : Nat} {T T' : List UInt8} (h : ExpQ aw V n T) (h' : ExpQ aw V n T') : T = T' := by
  rcases h with ⟨h0, rfl⟩ | ⟨D, e, L, g, h⟩
  · rcases h' with ⟨_, rfl⟩ | ⟨D, e, L, g, h⟩
    · rfl
    · exact absurd h0 h.ne
  · rcases h' with ⟨h0, _⟩ | ⟨D', e', L', g', h'⟩
    · exact absurd h0 h.ne
    · have ht := top_same h.digs h'.digs h.headed h'.headed h.pos h'.pos (K := 3000) h.lo h'.lo (h.val.trans h'.val.symm)
      have hv : val 3000 L g = val 3000 L' g' := by
        rw [h.val', h'.val', show e' + (D'.length : Int) - 1 - n + (3000 : Nat) = e + D.length - 1 - n + (3000 : Nat) from by omega]
      have ht' := top_same h.digs' h'.digs' h.headed' h'.headed' h.pos' h'.pos' h.lo' h'.lo' hv
      rw [h.text, h'.text, ← ht', sciT_same h.digs' h'.digs' h.lo' h'.lo' hv h.lon]
theorem exp_prog {aw : Int → Bool → Bool} {V n : Nat} {D R : List Nat} {e p : Int} (hd : Digs D) (hh : Headed D) (hl : 0 < D.length) (he : -1080 ≤ e) (hn : n ≤ 800) (hV : val 3000 D e = V) (hp : p = e + D.length - 1 - n) (hR : Rnd aw D e p R) :
    ExpQ aw V n (expB (R.take (n + 1)) (n + 1) ++ (101 :: Lib.itoa (p + R.length - 1))) := by
  obtain ⟨c1, c2, c3, c4⟩ := hR.cut hd (c := n + 1) (by omega) (by omega)
  have hge := hR.ge
  rw [show (D.length + e - p).toNat = n + 1 from by omega] at hge
  have hv := c4 3000 (by omega) (by omega)
  refine .inr ⟨D, e, R.take (n + 1), p + R.length - (n + 1 : Nat), ⟨hd, hh, hl, by omega, hV, c1, c2, by omega, by omega, by rw [c3]; omega, ?_, ?_⟩⟩
  · rw [hv]; unfold val
    rw [hR.nval 3000 (by omega) (by omega), hV, hp]
  · rw [expB_rows (R.take (n + 1)) (p + R.length - 1) n (by omega), c3]
    have e1 : p + (R.length : Int) - 1 - ((n + 1 : Nat) : Int) + 1 = p + R.length - (n + 1 : Nat) := by omega
    have e2 : p + (R.length : Int) - ((n + 1 : Nat) : Int) + ((n + 1 : Nat) : Int) - 1 = p + R.length - 1 := by omega
    rw [e1, e2]
theorem exp_zero (aw : Int → Bool → Bool) (n : Nat) : ExpQ aw 0 n (expB (List.replicate (n + 1) 0) (n + 1) ++ (101 :: Lib.itoa 0)) := by
  refine .inl ⟨rfl, ?_⟩
  have hz : ∀ e p, dig (List.replicate (n + 1) 0) e p = 0 := by
    intro e p
    by_cases h1 : p < e
    · exact dig_lo _ h1
    · by_cases h2 : e + (List.replicate (n + 1) 0).length ≤ p
      · exact dig_hi _ (by omega)
      · rw [dig_mid (List.replicate (n + 1) 0) (e := e) (p := p) (by omega) (by omega) ((List.replicate (n + 1) 0).length - 1 - (p - e).toNat) (by omega)]
        simp [List.getD_eq_getElem?_getD, List.getElem?_replicate]
        split <;> rfl
  have hz2 : ∀ e p, dig ([] : List Nat) e p = 0 := by
    intro e p
    by_cases h1 : p < e
    · exact dig_lo _ h1
    · exact dig_hi _ (by simp; omega)
  rw [expB_rows _ 0 n (by simp)]
  unfold sciT fixT
  rw [show Lib.itoa 0 = [48] from by decide +kernel]
  rw [rowT_congr (M := []) (g := 0) 1 (fun p _ _ => by rw [hz, hz2]), rowT_congr (M := []) (g := 0) n (fun p _ _ => by rw [hz, hz2])]
  simp
theorem exp_ref {aw : Int → Bool → Bool} {V n : Nat} {D L : List Nat} {e g : Int} (hd : Norm D) (hl : 0 < D.length) (he : -1100 ≤ e) (hn : n ≤ 800) (hV : val 3000 D e = V) (hd' : Norm L) (hg : L ≠ [] → -2000 ≤ g)
    (hv : val 3000 L g = rndN aw V (10 ^ (e + D.length - 1 - n + (3000 : Nat)).toNat) * 10 ^ (e + D.length - 1 - n + (3000 : Nat)).toNat) :
    0 < L.length ∧ ExpQ aw V n (sciT L g (g + L.length - 1) n ++ (101 :: Lib.itoa (g + L.length - 1))) := by
  have hpos : 0 < L.length := by
    apply Nat.pos_of_ne_zero; intro h0
    rw [List.length_eq_zero_iff.1 h0] at hv
    have h1 := rndN_ge aw V (10 ^ (e + D.length - 1 - n + (3000 : Nat)).toNat)
    have hP : 0 < 10 ^ (e + D.length - 1 - n + (3000 : Nat)).toNat := Nat.pow_pos (by omega)
    have h2 : 10 ^ (e + D.length - 1 - n + (3000 : Nat)).toNat ≤ V := by
      rw [← hV]; unfold val
      refine Nat.le_trans ?_ (Nat.mul_le_mul_right _ (hd.headed.lo hl))
      rw [← Nat.pow_add]
      exact Nat.pow_le_pow_right (by omega) (by omega)
    have h3 := Nat.div_pos h2 hP
    have h4 : 0 < rndN aw V (10 ^ (e + D.length - 1 - n + (3000 : Nat)).toNat) := by omega
    have h5 := Nat.mul_pos h4 hP
    rw [← hv] at h5
    simp [val, num_nil] at h5
  have hg' := hg (fun h => by rw [h] at hpos; simp at hpos)
  exact ⟨hpos, .inr ⟨D, e, L, g, ⟨hd.digs, hd.headed, hl, by omega, hV, hd'.digs, hd'.headed, hpos, by omega, by omega, hv, rfl⟩⟩⟩
/-- The text of V / 10^3000 with n digits behind the point. -/
def FixQ (aw : Int → Bool → Bool) (V n : Nat) (T : List UInt8) : Prop := ∃ (L : List Nat) (g : Int), Digs L ∧ Headed L ∧ -(3000 : Int) ≤ g ∧ n ≤ 3000 ∧ val 3000 L g = rndN aw V (10 ^ (-(n : Int) + (3000 : Nat)).toNat) * 10 ^ (-(n : Int) + (3000 : Nat)).toNat ∧ T = fixT L g (highN L g) n
theorem high_same {K : Nat} {L M : List Nat} {e g : Int} (h1 : Digs L) (h2 : Digs M) (d1 : Headed L) (d2 : Headed M) (k1 : -(K : Int) ≤ e) (k2 : -(K : Int) ≤ g) (h : val K L e = val K M g) : highN L e = highN M g := by
  have z : ∀ {L : List Nat} {e : Int}, Headed L → L ≠ [] → val K L e ≠ 0 := fun {L e} hh hl => by
    unfold val
    exact Nat.ne_of_gt (Nat.mul_pos (hh.pos (List.length_pos_iff.2 hl)) (Nat.pow_pos (by omega)))
  unfold highN
  by_cases a : L = []
  · by_cases b : M = []
    · rw [if_pos a, if_pos b]
    · have := z (e := g) d2 b
      rw [← h, a] at this
      simp [val, num_nil] at this
  · by_cases b : M = []
    · have := z (e := e) d1 a
      rw [h, b] at this
      simp [val, num_nil] at this
    · rw [if_neg a, if_neg b, top_same h1 h2 d1 d2 (List.length_pos_iff.2 a) (List.length_pos_iff.2 b) k1 k2 h]
theorem FixQ.same {aw : Int → Bool → Bool} {V n : Nat} {T T' : List UInt8} (h : FixQ aw V n T) (h' : FixQ aw V n T') : T = T' := by
  obtain ⟨L, g, a1, a2, a3, a4, a5, rfl⟩ := h
  obtain ⟨M, k, b1, b2, b3, b4, b5, rfl⟩ := h'
  have hv := a5.trans b5.symm
  rw [high_same a1 b1 a2 b2 a3 b3 hv, fixT_same a1 b1 a3 b3 hv a4]
theorem fix_prog {aw : Int → Bool → Bool} {V n : Nat} {D R : List Nat} {e : Int} (he : -1080 ≤ e) (hn : n ≤ 800) (hV : val 3000 D e = V) (hR : Rnd aw D e (-(n : Int)) R) :
    FixQ aw V n (fixT R (-(n : Int)) ((R.length : Int) - n - 1).toNat n) := by
  refine ⟨R, -(n : Int), hR.digs, hR.headed, by omega, by omega, ?_, ?_⟩
  · unfold val; rw [hR.nval 3000 (by omega) (by omega), hV]
  · unfold highN
    by_cases h : R = []
    · rw [if_pos h]; subst h; rw [show ((([] : List Nat).length : Int) - n - 1).toNat = 0 from by simp]
    · rw [if_neg h, show ((R.length : Int) - n - 1).toNat = (max (-(n : Int) + R.length - 1) 0).toNat from by omega]
theorem rndN_zero (aw : Int → Bool → Bool) (P : Nat) : rndN aw 0 P = 0 := by unfold rndN leftN; simp
theorem fix_zero (aw : Int → Bool → Bool) (n : Nat) (hn : n ≤ 800) : FixQ aw 0 n (fixT [] (-(n : Int)) ((0 : Int) - n - 1).toNat n) := by
  refine ⟨[], -(n : Int), fun d h => by simp at h, fun h => by simp at h, by omega, by omega, ?_, ?_⟩
  · rw [rndN_zero]; simp [val, num_nil]
  · unfold highN; rw [if_pos rfl, show ((0 : Int) - n - 1).toNat = 0 from by omega]
theorem fix_ref {aw : Int → Bool → Bool} {V n : Nat} {L : List Nat} {g : Int} (hn : n ≤ 800) (hd' : Norm L) (hg0 : L = [] → g = 0) (hg : L ≠ [] → -2000 ≤ g)
    (hv : val 3000 L g = rndN aw V (10 ^ (-(n : Int) + (3000 : Nat)).toNat) * 10 ^ (-(n : Int) + (3000 : Nat)).toNat) : FixQ aw V n (fixT L g (highN L g) n) :=
  ⟨L, g, hd'.digs, hd'.headed, (Decidable.em (L = [])).elim (fun h => by have := hg0 h; omega) (fun h => by have := hg h; omega), by omega, hv, rfl⟩
theorem sciT_length (L : List Nat) (e top : Int) (n : Nat) : (sciT L e top n).length ≤ n + 2 := by
  unfold sciT; split <;> simp [rowT_length] <;> omega
theorem fixT_length (L : List Nat) (e : Int) (h b : Nat) : (fixT L e h b).length ≤ h + b + 2 := by
  unfold fixT; split <;> simp [rowT_length] <;> omega
end Go.Proofs.YtbkdaoicnobllabDoor

/- Plain mathematics: the shortest decimal that is rounded to an amount. -/
namespace Go.Proofs.YtbkdaoicnobllabDoor
open Go.RowKit

/-- X is picked in steps of P: H says which are rounded to the amount. -/
def StepYes (H : Nat → Prop) (V P X : Nat) : Prop :=
  (V % P = 0 ∧ X = V) ∨ (V % P ≠ 0 ∧ ((H (V / P * P) ∧ H (V / P * P + P) ∧ X = rndN (awayB 0 false) V P * P) ∨ (H (V / P * P) ∧ ¬ H (V / P * P + P) ∧ X = V / P * P) ∨ (¬ H (V / P * P) ∧ H (V / P * P + P) ∧ X = V / P * P + P)))
def StepNo (H : Nat → Prop) (V P : Nat) : Prop := V % P ≠ 0 ∧ ¬ H (V / P * P) ∧ ¬ H (V / P * P + P)
theorem StepYes.same {H : Nat → Prop} {V P X X' : Nat} (h : StepYes H V P X) (h' : StepYes H V P X') : X = X' := by
  rcases h with ⟨a, b⟩ | ⟨a, b⟩
  · rcases h' with ⟨a', b'⟩ | ⟨a', b'⟩
    · rw [b, b']
    · exact absurd a a'
  · rcases h' with ⟨a', b'⟩ | ⟨a', b'⟩
    · exact absurd a' a
    · rcases b with ⟨c, d, e⟩ | ⟨c, d, e⟩ | ⟨c, d, e⟩
      · rcases b' with ⟨c', d', e'⟩ | ⟨c', d', e'⟩ | ⟨c', d', e'⟩
        · rw [e, e']
        · exact absurd d d'
        · exact absurd c c'
      · rcases b' with ⟨c', d', e'⟩ | ⟨c', d', e'⟩ | ⟨c', d', e'⟩
        · exact absurd d' d
        · rw [e, e']
        · exact absurd c c'
      · rcases b' with ⟨c', d', e'⟩ | ⟨c', d', e'⟩ | ⟨c', d', e'⟩
        · exact absurd c' c
        · exact absurd c' c
        · rw [e, e']
theorem StepYes.not {H : Nat → Prop} {V P X : Nat} (h : StepYes H V P X) : ¬ StepNo H V P := by
  rintro ⟨n0, n1, n2⟩
  rcases h with ⟨a, b⟩ | ⟨a, b⟩
  · exact n0 a
  · rcases b with ⟨c, d, e⟩ | ⟨c, d, e⟩ | ⟨c, d, e⟩
    · exact n1 c
    · exact n1 c
    · exact n2 d
theorem left_zero (V P : Nat) : leftN V P = 0 ↔ V % P = 0 := by
  unfold leftN
  constructor
  · intro h; split at h
    · assumption
    · split at h
      · omega
      · split at h <;> omega
  · intro h; rw [if_pos h]
theorem rnd_cut (V P : Nat) : rndN (awayB 2 false) V P = V / P := by
  unfold rndN; rw [if_neg]; rintro ⟨_, h⟩; rw [show awayB 2 false (leftN V P) (V / P % 2 == 1) = false from rfl] at h; cases h
theorem rnd_up (V P : Nat) (h : V % P ≠ 0) : rndN (awayB 3 false) V P = V / P + 1 := by
  unfold rndN; rw [if_pos]
  exact ⟨fun h0 => h ((left_zero V P).1 h0), rfl⟩
theorem rnd_exact (aw : Int → Bool → Bool) (V P : Nat) (h : V % P = 0) : rndN aw V P * P = V := by
  unfold rndN
  rw [if_neg (fun hh => hh.1 ((left_zero V P).2 h))]
  have := Nat.div_add_mod V P
  rw [h, Nat.add_zero, Nat.mul_comm] at this; exact this
theorem rnd_either (aw : Int → Bool → Bool) (V P : Nat) : rndN aw V P * P = V / P * P ∨ rndN aw V P * P = V / P * P + P := by
  unfold rndN; split
  · right; rw [Nat.add_mul, Nat.one_mul]
  · left; rfl
/-- The first of the three that holds is picked. -/
theorem step_even {H : Nat → Prop} {V P : Nat} (h : H (rndN (awayB 0 false) V P * P)) : StepYes H V P (rndN (awayB 0 false) V P * P) := by
  by_cases h0 : V % P = 0
  · exact .inl ⟨h0, rnd_exact _ V P h0⟩
  · right; refine ⟨h0, ?_⟩
    rcases rnd_either (awayB 0 false) V P with e | e
    · by_cases h1 : H (V / P * P + P)
      · exact .inl ⟨by rw [e] at h; exact h, h1, rfl⟩
      · exact .inr (.inl ⟨by rw [e] at h; exact h, h1, e⟩)
    · by_cases h1 : H (V / P * P)
      · exact .inl ⟨h1, by rw [e] at h; exact h, rfl⟩
      · exact .inr (.inr ⟨h1, by rw [e] at h; exact h, e⟩)
theorem step_up {H : Nat → Prop} {V P : Nat} (hV : H V) (h0 : ¬ H (rndN (awayB 0 false) V P * P)) (h : H (rndN (awayB 3 false) V P * P)) : StepYes H V P (rndN (awayB 3 false) V P * P) := by
  have hm : V % P ≠ 0 := fun hm => h0 (by rw [rnd_exact _ V P hm]; exact hV)
  have hu : rndN (awayB 3 false) V P * P = V / P * P + P := by rw [rnd_up V P hm, Nat.add_mul, Nat.one_mul]
  rw [hu] at h ⊢
  rcases rnd_either (awayB 0 false) V P with e | e
  · exact .inr ⟨hm, .inr (.inr ⟨by rw [e] at h0; exact h0, h, rfl⟩)⟩
  · rw [e] at h0; exact absurd h h0
theorem step_cut {H : Nat → Prop} {V P : Nat} (hV : H V) (h0 : ¬ H (rndN (awayB 0 false) V P * P)) (h1 : ¬ H (rndN (awayB 3 false) V P * P)) (h : H (rndN (awayB 2 false) V P * P)) : StepYes H V P (rndN (awayB 2 false) V P * P) := by
  have hm : V % P ≠ 0 := fun hm => h0 (by rw [rnd_exact _ V P hm]; exact hV)
  have hu : rndN (awayB 3 false) V P * P = V / P * P + P := by rw [rnd_up V P hm, Nat.add_mul, Nat.one_mul]
  rw [hu] at h1
  rw [rnd_cut] at h ⊢
  exact .inr ⟨hm, .inr (.inl ⟨h, h1, rfl⟩)⟩
theorem step_none {H : Nat → Prop} {V P : Nat} (hV : H V) (h0 : ¬ H (rndN (awayB 0 false) V P * P)) (h1 : ¬ H (rndN (awayB 3 false) V P * P)) (h : ¬ H (rndN (awayB 2 false) V P * P)) : StepNo H V P := by
  have hm : V % P ≠ 0 := fun hm => h0 (by rw [rnd_exact _ V P hm]; exact hV)
  have hu : rndN (awayB 3 false) V P * P = V / P * P + P := by rw [rnd_up V P hm, Nat.add_mul, Nat.one_mul]
  rw [hu] at h1
  rw [rnd_cut] at h
  exact ⟨hm, h, h1⟩
theorem hold_self (K : Nat) (f : Int) (a : Nat) (hK : 1100 ≤ K) (ha : 0 < a) : Hold K f a (valA K f a) := by
  have m1 := valA_lt K f (a - 1) hK
  rw [show a - 1 + 1 = a from by omega] at m1
  have m2 := valA_lt K f a hK
  rw [Hold.iff]
  by_cases h : a % 2 = 0
  · exact .inl ⟨h, by omega, by omega⟩
  · exact .inr ⟨h, by omega, by omega⟩
/-- The picked decimal, in the least steps that pick one. -/
structure ShortAt (f : Int) (a : Nat) (D : List Nat) (e p : Int) (X : Nat) : Prop where
  digs : Digs D
  headed : Headed D
  pos : 0 < D.length
  lo : -(3000 : Int) ≤ e
  val : val 3000 D e = valA 3000 f a
  le : p ≤ e + D.length - 1
  yes : StepYes (Hold 3000 f a) (valA 3000 f a) (10 ^ (p + (3000 : Nat)).toNat) X
  no : ∀ q, p < q → q ≤ e + D.length - 1 → StepNo (Hold 3000 f a) (valA 3000 f a) (10 ^ (q + (3000 : Nat)).toNat)
theorem ShortAt.same {f : Int} {a : Nat} {D D' : List Nat} {e e' p p' : Int} {X X' : Nat} (h : ShortAt f a D e p X) (h' : ShortAt f a D' e' p' X') : X = X' := by
  have ht := top_same (K := 3000) h.digs h'.digs h.headed h'.headed h.pos h'.pos h.lo h'.lo (h.val.trans h'.val.symm)
  rcases Int.lt_trichotomy p p' with hp | hp | hp
  · exact absurd (h.no p' hp (by have := h'.le; omega)) h'.yes.not
  · subst hp; exact h.yes.same h'.yes
  · exact absurd (h'.no p hp (by have := h.le; omega)) h.yes.not
/-- The shortest text, plain or with a power of ten. -/
def shortT (pl : Bool) (L : List Nat) (g : Int) : List UInt8 :=
  if pl = true then fixT L g (highN L g) (-(min g 0)).toNat else sciT L g (g + L.length - 1) (L.length - 1) ++ (101 :: Lib.itoa (g + L.length - 1))
def ShortQ (pl : Bool) (f : Int) (a : Nat) (T : List UInt8) : Prop :=
  (a = 0 ∧ T = [48]) ∨ (0 < a ∧ ∃ D e p X L g, ShortAt f a D e p X ∧ Norm L ∧ L ≠ [] ∧ -(3000 : Int) ≤ g ∧ val 3000 L g = X ∧ T = shortT pl L g)
theorem norm_same {L M : List Nat} {g k : Int} (h1 : Norm L) (h2 : Norm M) (l : L ≠ []) (a : -(3000 : Int) ≤ g) (b : -(3000 : Int) ≤ k) (h : val 3000 L g = val 3000 M k) : L = M ∧ g = k := by
  unfold val at h
  obtain ⟨e1, e2⟩ := norm_unique h1 h2 h
  have := e2 l
  exact ⟨e1, by omega⟩
theorem ShortQ.same {pl : Bool} {f : Int} {a : Nat} {T T' : List UInt8} (h : ShortQ pl f a T) (h' : ShortQ pl f a T') : T = T' := by
  rcases h with ⟨h0, rfl⟩ | ⟨h0, D, e, p, X, L, g, h1, h2, h3, h4, h5, rfl⟩
  · rcases h' with ⟨_, rfl⟩ | ⟨h0', _⟩
    · rfl
    · omega
  · rcases h' with ⟨h0', _⟩ | ⟨_, D', e', p', X', L', g', h1', h2', h3', h4', h5', rfl⟩
    · omega
    · obtain ⟨rfl, rfl⟩ := norm_same h2 h2' h3 h4 h4' (h5.trans ((h1.same h1').trans h5'.symm))
      rfl
end Go.Proofs.YtbkdaoicnobllabDoor

/- Plain mathematics: known texts of known numbers, found by reckoning. -/
namespace Go.Proofs.YtbkdaoicnobllabDoor
set_option exponentiation.threshold 5000

theorem ex_digs (V : Nat) (h : 0 < V) : ∃ D, Digs D ∧ Headed D ∧ 0 < D.length ∧ num D = V := by
  induction V using Nat.strongRecOn with
  | ind V ih =>
    by_cases h10 : V < 10
    · refine ⟨[V], fun d hd => by rw [List.mem_singleton.1 hd]; omega, fun _ => by simp; omega, by simp, by simp [num_cons, num_nil]⟩
    · obtain ⟨D, h1, h2, h3, h4⟩ := ih (V / 10) (by omega) (by omega)
      refine ⟨D ++ [V % 10], h1.append (Digs.cons (by omega) Digs.nil), fun _ => ?_, by simp, ?_⟩
      · have := h2 h3
        rw [List.getElem_append_left h3]; exact this
      · rw [num_snoc, h4]; omega
theorem ex_val (V : Nat) (h : 0 < V) (top : Int) (h0 : -3000 ≤ top) (h1 : 10 ^ (top + (3000 : Nat)).toNat ≤ V) (h2 : V < 10 ^ (top + 1 + (3000 : Nat)).toNat) : ∃ D, Digs D ∧ Headed D ∧ 0 < D.length ∧ val 3000 D (-3000) = V ∧ (-3000 : Int) + D.length = top + 1 := by
  obtain ⟨D, d1, d2, d3, d4⟩ := ex_digs V h
  have hlo := d2.lo d3
  have hhi := num_lt d1
  rw [d4] at hlo hhi
  refine ⟨D, d1, d2, d3, by unfold val; rw [d4]; simp, ?_⟩
  have a : D.length ≤ (top + 1 + (3000 : Nat)).toNat := by
    apply Nat.le_of_not_lt; intro hlt
    have : 10 ^ (top + 1 + (3000 : Nat)).toNat ≤ 10 ^ (D.length - 1) := Nat.pow_le_pow_right (by omega) (by omega)
    omega
  have b : (top + (3000 : Nat)).toNat < D.length := by
    apply Nat.lt_of_not_le; intro hle
    have : 10 ^ D.length ≤ 10 ^ (top + (3000 : Nat)).toNat := Nat.pow_le_pow_right (by omega) hle
    omega
  omega
def holdC (f : Int) (a X : Nat) : Bool := decide ((a % 2 = 0 ∧ valA 3000 f (a - 1) + valA 3000 f a ≤ X * 2 ∧ X * 2 ≤ valA 3000 f a + valA 3000 f (a + 1)) ∨ (¬ a % 2 = 0 ∧ valA 3000 f (a - 1) + valA 3000 f a < X * 2 ∧ X * 2 < valA 3000 f a + valA 3000 f (a + 1)))
theorem holdC_iff (f : Int) (a X : Nat) : holdC f a X = true ↔ Hold 3000 f a X := by unfold holdC; rw [decide_eq_true_iff, Hold.iff]
def yesC (f : Int) (a P X : Nat) : Bool :=
  decide (valA 3000 f a % P = 0 ∧ X = valA 3000 f a) || (decide (valA 3000 f a % P ≠ 0) && ((holdC f a (valA 3000 f a / P * P) && holdC f a (valA 3000 f a / P * P + P) && decide (X = rndN (awayB 0 false) (valA 3000 f a) P * P)) || (holdC f a (valA 3000 f a / P * P) && !holdC f a (valA 3000 f a / P * P + P) && decide (X = valA 3000 f a / P * P)) || (!holdC f a (valA 3000 f a / P * P) && holdC f a (valA 3000 f a / P * P + P) && decide (X = valA 3000 f a / P * P + P))))
def noC (f : Int) (a P : Nat) : Bool := decide (valA 3000 f a % P ≠ 0) && !holdC f a (valA 3000 f a / P * P) && !holdC f a (valA 3000 f a / P * P + P)
theorem holdC_not {f : Int} {a X : Nat} (h : holdC f a X = false) : ¬ Hold 3000 f a X := fun hh => by rw [(holdC_iff f a X).2 hh] at h; cases h
theorem yesC_yes {f : Int} {a P X : Nat} (h : yesC f a P X = true) : StepYes (Hold 3000 f a) (valA 3000 f a) P X := by
  unfold yesC at h
  simp only [Bool.or_eq_true, Bool.and_eq_true, decide_eq_true_eq, Bool.not_eq_true'] at h
  rcases h with h | ⟨h0, (⟨⟨h1, h2⟩, h3⟩ | ⟨⟨h1, h2⟩, h3⟩) | ⟨⟨h1, h2⟩, h3⟩⟩
  · exact .inl h
  · exact .inr ⟨h0, .inl ⟨(holdC_iff _ _ _).1 h1, (holdC_iff _ _ _).1 h2, h3⟩⟩
  · exact .inr ⟨h0, .inr (.inl ⟨(holdC_iff _ _ _).1 h1, holdC_not h2, h3⟩)⟩
  · exact .inr ⟨h0, .inr (.inr ⟨holdC_not h1, (holdC_iff _ _ _).1 h2, h3⟩)⟩
theorem noC_no {f : Int} {a P : Nat} (h : noC f a P = true) : StepNo (Hold 3000 f a) (valA 3000 f a) P := by
  unfold noC at h
  simp only [Bool.and_eq_true, decide_eq_true_eq, Bool.not_eq_true'] at h
  exact ⟨h.1.1, holdC_not h.1.2, holdC_not h.2⟩
def normC (L : List Nat) : Bool := decide (L ≠ []) && L.all (fun d => decide (d ≤ 9)) && decide (L.getD 0 0 ≠ 0) && decide (L.getD (L.length - 1) 0 ≠ 0)
theorem normC_norm {L : List Nat} (h : normC L = true) : Norm L ∧ L ≠ [] := by
  unfold normC at h
  simp only [Bool.and_eq_true, decide_eq_true_eq, List.all_eq_true] at h
  obtain ⟨⟨⟨h1, h2⟩, h3⟩, h4⟩ := h
  refine ⟨⟨h2, fun hl => ?_, fun hl => ?_⟩, h1⟩
  · rw [List.getD_eq_getElem?_getD, List.getElem?_eq_getElem hl] at h3; exact h3
  · rw [List.getD_eq_getElem?_getD, List.getElem?_eq_getElem (by omega)] at h4; exact h4
/-- The number's shortest digits, found by reckoning. -/
def shortC (f : Int) (a : Nat) (L : List Nat) (g p top : Int) : Bool :=
  decide (0 < a) && normC L && decide (-3000 ≤ g) && decide (-3000 ≤ p) && decide (p ≤ top) && decide (10 ^ (top + (3000 : Nat)).toNat ≤ valA 3000 f a) && decide (valA 3000 f a < 10 ^ (top + 1 + (3000 : Nat)).toNat) &&
    yesC f a (10 ^ (p + (3000 : Nat)).toNat) (val 3000 L g) && (List.range (top - p).toNat).all (fun i => noC f a (10 ^ (p + 1 + i + (3000 : Nat)).toNat))
theorem short_eval {f : Int} {a : Nat} {L : List Nat} {g p top : Int} (pl : Bool) (h : shortC f a L g p top = true) : ShortQ pl f a (shortT pl L g) := by
  unfold shortC at h
  simp only [Bool.and_eq_true, decide_eq_true_eq, List.all_eq_true, List.mem_range] at h
  obtain ⟨⟨⟨⟨⟨⟨⟨⟨h1, h2⟩, h3⟩, h4⟩, h5⟩, h6⟩, h7⟩, h8⟩, h9⟩ := h
  obtain ⟨n1, n2⟩ := normC_norm h2
  have hp : 0 < valA 3000 f a := Nat.lt_of_lt_of_le (Nat.pow_pos (by omega)) h6
  obtain ⟨D, d1, d2, d3, d4, d5⟩ := ex_val _ hp top (by omega) h6 h7
  refine .inr ⟨h1, D, -3000, p, val 3000 L g, L, g, ⟨d1, d2, d3, by omega, d4, by omega, yesC_yes h8, fun q q1 q2 => ?_⟩, n1, n2, h3, rfl, rfl⟩
  have := noC_no (h9 (q - p - 1).toNat (by omega))
  rw [show p + 1 + (((q - p - 1).toNat : Nat) : Int) + (3000 : Nat) = q + (3000 : Nat) from by omega] at this
  exact this
/-- The text with a power of ten, found by reckoning. -/
def expC (V n : Nat) (L : List Nat) (g top : Int) : Bool :=
  decide (0 < V) && normC L && decide (-3000 ≤ g) && decide (-3000 ≤ g + L.length - 1 - n) && decide (-3000 ≤ top) && decide (10 ^ (top + (3000 : Nat)).toNat ≤ V) && decide (V < 10 ^ (top + 1 + (3000 : Nat)).toNat) &&
    decide (val 3000 L g = rndN (awayB 0 false) V (10 ^ (top - n + (3000 : Nat)).toNat) * 10 ^ (top - n + (3000 : Nat)).toNat)
theorem exp_eval {V n : Nat} {L : List Nat} {g top : Int} (h : expC V n L g top = true) : ExpQ (awayB 0 false) V n (sciT L g (g + L.length - 1) n ++ (101 :: Lib.itoa (g + L.length - 1))) := by
  unfold expC at h
  simp only [Bool.and_eq_true, decide_eq_true_eq] at h
  obtain ⟨⟨⟨⟨⟨⟨⟨h1, h2⟩, h3⟩, h3'⟩, h4⟩, h5⟩, h6⟩, h7⟩ := h
  obtain ⟨n1, n2⟩ := normC_norm h2
  obtain ⟨D, d1, d2, d3, d4, d5⟩ := ex_val _ h1 top h4 h5 h6
  refine .inr ⟨D, -3000, L, g, ⟨d1, d2, d3, by omega, d4, n1.digs, n1.headed, List.length_pos_iff.2 n2, h3, h3', ?_, rfl⟩⟩
  rw [h7, show (-3000 : Int) + D.length - 1 - n + (3000 : Nat) = top - n + (3000 : Nat) from by omega]
/-- The text without a power of ten, found by reckoning. -/
def fixC (V n : Nat) (L : List Nat) (g : Int) : Bool :=
  normC L && decide (-3000 ≤ g) && decide (n ≤ 3000) && decide (val 3000 L g = rndN (awayB 0 false) V (10 ^ (-(n : Int) + (3000 : Nat)).toNat) * 10 ^ (-(n : Int) + (3000 : Nat)).toNat)
theorem fix_eval {V n : Nat} {L : List Nat} {g : Int} (h : fixC V n L g = true) : FixQ (awayB 0 false) V n (fixT L g (highN L g) n) := by
  unfold fixC at h
  simp only [Bool.and_eq_true, decide_eq_true_eq] at h
  obtain ⟨⟨⟨h1, h2⟩, h3⟩, h4⟩ := h
  obtain ⟨n1, n2⟩ := normC_norm h1
  exact ⟨L, g, n1.digs, n1.headed, h2, h3, h4, rfl⟩
end Go.Proofs.YtbkdaoicnobllabDoor

/- Rows of small numbers in memory. Nothing of the program but the model. -/
namespace Go.Proofs.YtbkdaoicnobllabDoor
open Go.RowKit

theorem hid {p : Prop} (h : p) : Hid p := h
theorem ret_int {k : IntKind} {a b : Int} (h : a = b) : Ending.returned (.int k a) = .returned (.int k b) := by rw [h]

/-- A slice value that reads as the row L. -/
def Row (w : World) (v : Value) (L : List Nat) : Prop :=
  (L = [] ∧ v = .slice none 0 0) ∨
  ∃ b off cap, v = .slice (some ⟨b, off, none⟩) L.length cap ∧ L.length ≤ cap ∧ cap ≤ maxLen ∧ b < w.heap.size ∧ ∀ j, j < L.length → w.cell? ⟨b, off + j, none⟩ = some (.int .i64 (L.getD j 0 : Nat))

theorem Row.nil (w : World) : Row w (.slice none 0 0) [] := .inl ⟨rfl, rfl⟩
theorem Row.below {w w' : World} {v : Value} {L : List Nat} {B : Nat} (h : Row w v L) (hb : Below B w w') (hB : w.heap.size ≤ B) : Row w' v L := by
  rcases h with h | ⟨b, off, cap, rfl, h1, h2, h3, h4⟩
  · exact .inl h
  · exact .inr ⟨b, off, cap, rfl, h1, h2, by have := hb.size; omega, fun j hj => (hb.cell (p := ⟨b, off + j, none⟩) (by show b < B; omega)).trans (h4 j hj)⟩

def ints (O : List Nat) : List Value := O.map fun d => Value.int .i64 (d : Nat)
theorem ints_getElem? (O : List Nat) (j : Nat) : (ints O)[j]? = if j < O.length then some (.int .i64 (O.getD j 0 : Nat)) else none := by
  unfold ints
  rw [List.getElem?_map]
  split
  · rename_i h; rw [List.getElem?_eq_getElem h, List.getD_eq_getElem?_getD, List.getElem?_eq_getElem h]; rfl
  · rename_i h; rw [List.getElem?_eq_none (by omega)]; rfl
theorem ints_append (a b : List Nat) : ints (a ++ b) = ints a ++ ints b := by simp [ints]
theorem ints_length (a : List Nat) : (ints a).length = a.length := by simp [ints]
theorem ints_one (d : Nat) : ints [d] = [Value.int .i64 (d : Nat)] := rfl
theorem ints_oneCell (a : List Nat) : ∀ u ∈ ints a, u.oneCell' = true := by
  intro u hu; simp [ints] at hu; obtain ⟨d, _, rfl⟩ := hu; rfl
theorem ints_set (a : List Nat) (j d : Nat) : (ints a).set j (.int .i64 (d : Nat)) = ints (a.set j d) := by simp [ints, List.map_set]
theorem ints_replicate (n : Nat) : List.replicate n (Value.int .i64 0) = ints (List.replicate n 0) := by simp [ints]
/-- A row that the call owns. -/
def Own (w : World) (base : Nat) (v : Value) (O : List Nat) : Prop := w.ownsRow base 3 1 v O.length (ints O)
theorem Own.nil (w : World) (base : Nat) : Own w base (.slice none 0 0) [] := World.ownsRow_nil w base _ _
theorem Own.row {w : World} {base : Nat} {v : Value} {O : List Nat} (h : Own w base v O) : Row w v O := by
  unfold Own at h
  rcases h.2 with ⟨rfl, h0⟩ | ⟨g, cap, cur, rfl, hb, hg, h1, h2, h3, h4⟩
  · exact .inl ⟨List.length_eq_zero_iff.1 h0, rfl⟩
  · refine .inr ⟨g, 0, cap, rfl, h1, h2, (Array.getElem?_eq_some_iff.1 hg).1, fun j hj => ?_⟩
    rw [Nat.zero_add, h.cellAt j (by omega), ints_getElem?, if_pos hj]

theorem Own.snoc {w : World} {base : Nat} {v : Value} {O : List Nat} {k : Nat} {z : Int} {d : Nat} (h : w.ownsRow base 3 1 v (k + 1) (ints O ++ [.int .i64 z])) (hO : O.length = k) (hz : z = (d : Nat)) : Own w base v (O ++ [d]) := by
  subst hz; unfold Own; rw [ints_append]; simp only [List.length_append, List.length_singleton]; rw [hO]; exact h
theorem Own.owns {w : World} {base : Nat} {v : Value} {O : List Nat} (h : Own w base v O) : w.ownsRow base 3 1 v O.length (ints O) := h
theorem Own.below {w w' : World} {base : Nat} {v : Value} {O : List Nat} (h : Own w base v O) {B : Nat} (hb : Below B w w') (hB : w.heap.size ≤ B) : Own w' base v O := by
  refine ⟨h.1, ?_⟩
  rcases h.2 with h2 | ⟨g, cap, cur, hv, hg, hh, r⟩
  · exact .inl h2
  · exact .inr ⟨g, cap, cur, hv, hg, by rw [hb.block g (Nat.lt_of_lt_of_le (Array.getElem?_eq_some_iff.1 hh).1 hB)]; exact hh, r⟩

theorem Own.form {w : World} {base : Nat} {v : Value} {O : List Nat} (h : Own w base v O) :
    (O = [] ∧ v = .slice none 0 0) ∨ ∃ g cap, v = .slice (some ⟨g, 0, none⟩) O.length cap ∧ base ≤ g ∧ g < w.heap.size ∧ O.length ≤ cap ∧ cap ≤ maxLen := by
  rcases h.2 with ⟨rfl, h0⟩ | ⟨g, cap, cur, rfl, hb, hg, h1, h2, _⟩
  · exact .inl ⟨List.length_eq_zero_iff.1 h0, rfl⟩
  · exact .inr ⟨g, cap, rfl, hb, (Array.getElem?_eq_some_iff.1 hg).1, h1, h2⟩
theorem Own.cell {w : World} {base g cap n : Nat} {O : List Nat} (h : Own w base (.slice (some ⟨g, 0, none⟩) n cap) O) (hn : O.length = n) (j : Nat) (hj : j < n) : w.cell? ⟨g, j, none⟩ = some (.int .i64 (O.getD j 0 : Nat)) := by
  unfold Own at h; rw [hn] at h
  rw [h.cellAt j (by omega), ints_getElem?, if_pos (by omega)]
theorem Own.frozen {w : World} {base g cap n : Nat} {O : List Nat} (h : Own w base (.slice (some ⟨g, 0, none⟩) n cap) O) (hn : O.length = n) (j : Nat) : w.frozen? ⟨g, j, none⟩ = false := by
  unfold Own at h; rw [hn] at h
  exact h.frozenAt j
theorem Own.store {w : World} {base g cap n : Nat} {O : List Nat} (h : Own w base (.slice (some ⟨g, 0, none⟩) n cap) O) (hn : O.length = n) (j d : Nat) : Own (w.setCell ⟨g, j, none⟩ (.int .i64 (d : Nat))) base (.slice (some ⟨g, 0, none⟩) n cap) (O.set j d) := by
  unfold Own at h ⊢; rw [hn] at h; rw [List.length_set, hn, ← ints_set]
  exact (h.stored j _).1

theorem Row.setCell {w : World} {v : Value} {L : List Nat} (h : Row w v L) (a : Addr) (u : Value) (hne : v.ownBlock ≠ some a.block) : Row (w.setCell a u) v L := by
  rcases h with h | ⟨b, off, cap, rfl, h1, h2, h3, h4⟩
  · exact .inl h
  · refine .inr ⟨b, off, cap, rfl, h1, h2, by simpa [World.setCell] using h3, fun j hj => ?_⟩
    rw [← h4 j hj]
    exact World.cell?_of_block (Below.heap_setCell w a u b (fun e => hne (by simp [Value.ownBlock, e])))
theorem Row.form {w : World} {v : Value} {L : List Nat} (h : Row w v L) : (L = [] ∧ v = .slice none 0 0) ∨ ∃ b off cap, v = .slice (some ⟨b, off, none⟩) L.length cap ∧ L.length ≤ cap ∧ cap ≤ maxLen ∧ b < w.heap.size := by
  rcases h with h | ⟨b, off, cap, rfl, h1, h2, h3, h4⟩
  · exact .inl h
  · exact .inr ⟨b, off, cap, rfl, h1, h2, h3⟩
theorem Row.isSlice {w : World} {v : Value} {L : List Nat} (h : Row w v L) : ∃ ao cap, v = .slice ao L.length cap := by
  rcases h.form with ⟨rfl, rfl⟩ | ⟨b, off, cap, rfl, _⟩
  · exact ⟨_, _, rfl⟩
  · exact ⟨_, _, rfl⟩
theorem Row.lt {w : World} {v : Value} {L : List Nat} (h : Row w v L) (g : Nat) (hg : v.ownBlock = some g) : g < w.heap.size := by
  rcases h.form with ⟨rfl, rfl⟩ | ⟨b, off, cap, rfl, _, _, h3⟩
  · simp [Value.ownBlock] at hg
  · simp [Value.ownBlock] at hg; omega

/-- A decimal that a call hands back: of at most 'len' digits, its places from 'lo' to below 'hi', its row in a block of which 'own' holds, its number times 10^K being V K. -/
structure Out (w : World) (v : Value) (L : List Nat) (e : Int) (len : Nat) (lo hi : Int) (own : Nat → Prop) (V : Nat → Nat) : Prop where
  row : Row w v L
  own : ∀ g, v.ownBlock = some g → own g
  norm : Norm L
  len : L.length ≤ len
  nil : L = [] → e = 0
  ne : L ≠ [] → lo ≤ e ∧ e + L.length ≤ hi
  val : ∀ K : Nat, -(K : Int) ≤ lo → val K L e = V K
theorem Out.setCell {w : World} {v : Value} {L : List Nat} {e : Int} {len : Nat} {lo hi : Int} {own : Nat → Prop} {V : Nat → Nat} (h : Out w v L e len lo hi own V) (a : Addr) (u : Value) (hne : ¬ own a.block) : Out (w.setCell a u) v L e len lo hi own V :=
  ⟨h.row.setCell a u (fun hh => hne (h.own _ hh)), h.own, h.norm, h.len, h.nil, h.ne, h.val⟩
theorem Out.below {w w' : World} {v : Value} {L : List Nat} {e : Int} {len : Nat} {lo hi : Int} {own : Nat → Prop} {V : Nat → Nat} (h : Out w v L e len lo hi own V) {B : Nat} (hb : Below B w w') (hB : w.heap.size ≤ B) : Out w' v L e len lo hi own V :=
  ⟨h.row.below hb hB, h.own, h.norm, h.len, h.nil, h.ne, h.val⟩
theorem Out.mono {w : World} {v : Value} {L : List Nat} {e : Int} {len len' : Nat} {lo hi lo' hi' : Int} {own own' : Nat → Prop} {V V' : Nat → Nat} (h : Out w v L e len lo hi own V) (h1 : len ≤ len') (h2 : lo' ≤ lo) (h3 : hi ≤ hi') (h4 : ∀ g, own g → own' g) (h5 : ∀ K : Nat, -(K : Int) ≤ lo' → V K = V' K) : Out w v L e len' lo' hi' own' V' :=
  ⟨h.row, fun g hg => h4 g (h.own g hg), h.norm, Nat.le_trans h.len h1, h.nil, fun hh => ⟨Int.le_trans h2 (h.ne hh).1, Int.le_trans (h.ne hh).2 h3⟩, fun K hK => (h.val K (Int.le_trans hK h2)).trans (h5 K hK)⟩
theorem Out.bounds {w : World} {v : Value} {L : List Nat} {e : Int} {len : Nat} {lo hi : Int} {own : Nat → Prop} {V : Nat → Nat} (h : Out w v L e len lo hi own V) (M : Int) (hl : -M ≤ lo) (hh : hi ≤ M) (h0 : 0 ≤ M) : -M ≤ e ∧ e ≤ M := by
  by_cases hL : L = []
  · rw [h.nil hL]; omega
  · have := h.ne hL; omega

theorem keep_cell {w w' : World} {a : Addr} {v : Value} (hb : Below w.heap.size w w') (h : w.cell? a = some v) : w'.cell? a = some v :=
  (hb.cell (p := a) (World.block_lt_of_cell? w a h)).trans h
end Go.Proofs.YtbkdaoicnobllabDoor

namespace Go.Proofs.YtbkdaoicnobllabDoor
open Go.RowKit

theorem Tryd.info_int : (Tryd.prog.info? 3).map (fun i => (i.zero, i.size, i.bytes)) = some (some (.int .i64 0), 1, 8) := by kernel_rfl
theorem two_cells {w : World} {B : Nat} {x y x0 y0 : Value} (c0 : w.cell? ⟨B, 0, none⟩ = some x0) (c1 : w.cell? ⟨B, 1, none⟩ = some y0) :
    ((w.setCell ⟨B, 0, none⟩ x).setCell ⟨B, 1, none⟩ y).cell? ⟨B, 0, none⟩ = some x ∧ ((w.setCell ⟨B, 0, none⟩ x).setCell ⟨B, 1, none⟩ y).cell? ⟨B, 1, none⟩ = some y := by
  constructor
  · rw [World.cell?_setCell_other _ _ _ _ (by simp)]
    exact World.cell?_setCell_same' _ _ _ (by rw [c0]; rfl)
  · exact World.cell?_setCell_same' _ _ _ (by rw [World.cell?_setCell_other _ _ _ _ (by simp), c1]; rfl)
theorem box4_below {w : World} {o1 o2 : Obj} : Below w.heap.size w ((w.alloc o1).alloc o2) := ((Below.refl _ _).alloc (Nat.le_refl _) _).alloc (by simp) _
/-- Two stores into one block. -/
theorem below_two {B : Nat} {a w : World} (h : Below B a w) {b : Nat} (hb : B ≤ b) (x y : Value) : Below B a ((w.setCell ⟨b, 0, none⟩ x).setCell ⟨b, 1, none⟩ y) := (h.setCell (p := ⟨b, 0, none⟩) hb x).setCell (p := ⟨b, 1, none⟩) hb y
end Go.Proofs.YtbkdaoicnobllabDoor

namespace Go.Proofs.YtbkdaoicnobllabDoor
open Go.RowKit

/-- As they lie in memory. -/
def knC : Array Value := #[
  .string ⟨#[49]⟩, .int .i64 0, .int .i64 0, .int .i64 15360, .int .i64 0, .string ⟨#[49, 101, 48]⟩,
  .string ⟨#[54, 53, 53, 48, 52]⟩, .int .i64 0, .int .i64 0, .int .i64 31743, .int .i64 0, .string ⟨#[54, 46, 53, 53, 101, 52]⟩,
  .string ⟨#[54, 53, 53, 49, 57, 46, 57, 57, 57]⟩, .int .i64 0, .int .i64 0, .int .i64 31743, .int .i64 1, .string ⟨#[]⟩,
  .string ⟨#[54, 53, 53, 50, 48]⟩, .int .i64 0, .int .i64 0, .int .i64 31744, .int .i64 3, .string ⟨#[105, 110, 102]⟩,
  .string ⟨#[54, 53, 53, 50, 48]⟩, .int .i64 0, .int .i64 2, .int .i64 31743, .int .i64 1, .string ⟨#[]⟩,
  .string ⟨#[54, 53, 53, 51, 54]⟩, .int .i64 0, .int .i64 2, .int .i64 31743, .int .i64 3, .string ⟨#[]⟩,
  .string ⟨#[54, 53, 53, 48, 52, 46, 49]⟩, .int .i64 0, .int .i64 3, .int .i64 31744, .int .i64 3, .string ⟨#[]⟩,
  .string ⟨#[45, 54, 53, 53, 48, 52, 46, 49]⟩, .int .i64 0, .int .i64 3, .int .i64 64511, .int .i64 1, .string ⟨#[]⟩,
  .string ⟨#[53, 46, 57, 54, 48, 52, 54, 52, 52, 55, 55, 53, 51, 57, 48, 54, 50, 53, 101, 45, 56]⟩, .int .i64 0, .int .i64 0, .int .i64 1, .int .i64 0, .string ⟨#[54, 101, 45, 56]⟩,
  .string ⟨#[50, 46, 57, 56, 48, 50, 51, 50, 50, 51, 56, 55, 54, 57, 53, 51, 49, 50, 53, 101, 45, 56]⟩, .int .i64 0, .int .i64 0, .int .i64 0, .int .i64 5, .string ⟨#[]⟩,
  .string ⟨#[50, 46, 57, 56, 48, 50, 51, 50, 50, 51, 56, 55, 54, 57, 53, 51, 49, 50, 53, 101, 45, 56]⟩, .int .i64 0, .int .i64 1, .int .i64 1, .int .i64 5, .string ⟨#[]⟩,
  .string ⟨#[50, 46, 57, 56, 48, 50, 51, 50, 50, 51, 56, 55, 54, 57, 53, 51, 49, 50, 53, 49, 101, 45, 56]⟩, .int .i64 0, .int .i64 0, .int .i64 1, .int .i64 5, .string ⟨#[]⟩,
  .string ⟨#[49, 101, 45, 57, 57, 57, 57, 57, 57, 57, 57, 57, 57, 57, 57, 57, 57, 57, 57, 57, 57, 57, 57]⟩, .int .i64 0, .int .i64 3, .int .i64 1, .int .i64 5, .string ⟨#[]⟩,
  .string ⟨#[45, 49, 101, 45, 53, 48, 48]⟩, .int .i64 0, .int .i64 3, .int .i64 32768, .int .i64 5, .string ⟨#[]⟩,
  .string ⟨#[45, 49, 101, 45, 53, 48, 48]⟩, .int .i64 0, .int .i64 4, .int .i64 32769, .int .i64 5, .string ⟨#[]⟩,
  .string ⟨#[49, 101, 57, 57, 57, 57, 57, 57, 57, 57, 57, 57, 57, 57, 57, 57, 57, 57, 57, 57, 57, 57]⟩, .int .i64 0, .int .i64 4, .int .i64 31743, .int .i64 3, .string ⟨#[]⟩,
  .string ⟨#[51, 46, 52, 48, 50, 56, 50, 51, 53, 101, 51, 56]⟩, .int .i64 1, .int .i64 0, .int .i64 2139095039, .int .i64 1, .string ⟨#[51, 46, 52, 48, 50, 56, 50, 51, 53, 101, 51, 56]⟩,
  .string ⟨#[49, 46, 49, 55, 53, 52, 57, 52, 51, 53, 101, 45, 51, 56]⟩, .int .i64 1, .int .i64 0, .int .i64 8388608, .int .i64 5, .string ⟨#[49, 46, 49, 55, 53, 52, 57, 52, 52, 101, 45, 51, 56]⟩,
  .string ⟨#[49, 54, 55, 55, 55, 50, 49, 55]⟩, .int .i64 1, .int .i64 0, .int .i64 1266679808, .int .i64 1, .string ⟨#[]⟩,
  .string ⟨#[49, 54, 55, 55, 55, 50, 49, 55]⟩, .int .i64 1, .int .i64 1, .int .i64 1266679809, .int .i64 1, .string ⟨#[]⟩,
  .string ⟨#[48, 46, 49]⟩, .int .i64 1, .int .i64 0, .int .i64 1036831949, .int .i64 1, .string ⟨#[49, 101, 45, 49]⟩,
  .string ⟨#[49, 101, 50, 51]⟩, .int .i64 2, .int .i64 0, .int .i64 4950912855330343670, .int .i64 1, .string ⟨#[49, 101, 50, 51]⟩,
  .string ⟨#[53, 101, 45, 51, 50, 52]⟩, .int .i64 2, .int .i64 0, .int .i64 1, .int .i64 5, .string ⟨#[53, 101, 45, 51, 50, 52]⟩,
  .string ⟨#[50, 46, 50, 50, 53, 48, 55, 51, 56, 53, 56, 53, 48, 55, 50, 48, 49, 49, 101, 45, 51, 48, 56]⟩, .int .i64 2, .int .i64 0, .int .i64 4503599627370495, .int .i64 5, .string ⟨#[50, 46, 50, 50, 53, 48, 55, 51, 56, 53, 56, 53, 48, 55, 50, 48, 49, 101, 45, 51, 48, 56]⟩,
  .string ⟨#[50, 46, 50, 50, 53, 48, 55, 51, 56, 53, 56, 53, 48, 55, 50, 48, 49, 52, 101, 45, 51, 48, 56]⟩, .int .i64 2, .int .i64 0, .int .i64 4503599627370496, .int .i64 1, .string ⟨#[50, 46, 50, 50, 53, 48, 55, 51, 56, 53, 56, 53, 48, 55, 50, 48, 49, 52, 101, 45, 51, 48, 56]⟩,
  .string ⟨#[57, 48, 48, 55, 49, 57, 57, 50, 53, 52, 55, 52, 48, 57, 57, 51]⟩, .int .i64 2, .int .i64 0, .int .i64 4845873199050653696, .int .i64 1, .string ⟨#[]⟩,
  .string ⟨#[57, 48, 48, 55, 49, 57, 57, 50, 53, 52, 55, 52, 48, 57, 57, 51]⟩, .int .i64 2, .int .i64 1, .int .i64 4845873199050653697, .int .i64 1, .string ⟨#[]⟩,
  .string ⟨#[57, 48, 48, 55, 49, 57, 57, 50, 53, 52, 55, 52, 48, 57, 57, 51, 46, 48, 48, 48, 48, 48, 48, 48, 48, 48, 48, 48, 48, 48, 48, 48, 48, 48, 48, 48, 48, 48, 48, 48, 48, 48, 48, 48, 48, 48, 48, 48, 49]⟩, .int .i64 2, .int .i64 0, .int .i64 4845873199050653697, .int .i64 1, .string ⟨#[]⟩,
  .string ⟨#[49, 46, 55, 57, 55, 54, 57, 51, 49, 51, 52, 56, 54, 50, 51, 49, 53, 55, 101, 51, 48, 56]⟩, .int .i64 2, .int .i64 0, .int .i64 9218868437227405311, .int .i64 1, .string ⟨#[49, 46, 55, 57, 55, 54, 57, 51, 49, 51, 52, 56, 54, 50, 51, 49, 53, 55, 101, 51, 48, 56]⟩,
  .string ⟨#[49, 46, 55, 57, 55, 54, 57, 51, 49, 51, 52, 56, 54, 50, 51, 49, 53, 57, 101, 51, 48, 56]⟩, .int .i64 2, .int .i64 0, .int .i64 9218868437227405312, .int .i64 3, .string ⟨#[105, 110, 102]⟩,
  .string ⟨#[50, 46, 52, 55, 48, 51, 50, 56, 50, 50, 57, 50, 48, 54, 50, 51, 50, 55, 101, 45, 51, 50, 52]⟩, .int .i64 2, .int .i64 0, .int .i64 0, .int .i64 5, .string ⟨#[]⟩,
  .string ⟨#[50, 46, 52, 55, 48, 51, 50, 56, 50, 50, 57, 50, 48, 54, 50, 51, 50, 56, 101, 45, 51, 50, 52]⟩, .int .i64 2, .int .i64 0, .int .i64 1, .int .i64 5, .string ⟨#[]⟩,
  .string ⟨#[48, 46, 49]⟩, .int .i64 2, .int .i64 0, .int .i64 4591870180066957722, .int .i64 1, .string ⟨#[49, 101, 45, 49]⟩,
  .string ⟨#[49, 50, 51, 52, 53, 54, 55, 56, 57, 48, 49, 50, 51, 52, 53, 54, 55, 56]⟩, .int .i64 2, .int .i64 0, .int .i64 4862596447618666293, .int .i64 1, .string ⟨#[]⟩,
  .string ⟨#[48, 120, 49, 46, 56, 112, 49]⟩, .int .i64 2, .int .i64 0, .int .i64 4613937818241073152, .int .i64 0, .string ⟨#[51, 101, 48]⟩,
  .string ⟨#[48, 120, 49, 46, 102, 102, 102, 102, 102, 102, 102, 102, 102, 102, 102, 102, 102, 56, 112, 48]⟩, .int .i64 2, .int .i64 0, .int .i64 4611686018427387904, .int .i64 1, .string ⟨#[50, 101, 48]⟩]
end Go.Proofs.YtbkdaoicnobllabDoor
