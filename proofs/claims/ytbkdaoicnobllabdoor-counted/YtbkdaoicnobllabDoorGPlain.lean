import Derived.Test.YtbkdaoicnobllabDoorGText
import Derived.Test.YtbkdaoicnobllabDoorGRefA
import Derived.Test.YtbkdaoicnobllabDoorGMem
import Derived.Lib.ItoaLen
import Derived.Test.YtbkdaoicnobllabDoorGMath

namespace Go.Proofs.YtbkdaoicnobllabDoor
open Go.RowKit

theorem rowT_nil_iff (L : List Nat) (e hi : Int) (n : Nat) : rowT L e hi n = [] ↔ n = 0 := by
  constructor
  · intro h; have := rowT_length L e hi n; rw [h] at this; simpa using this.symm
  · rintro rfl; rfl
theorem fix_ptd (L : List Nat) (e : Int) (high cnt : Nat) : ptd (rowT L e high (high + 1)) (rowT L e (-1) cnt) = fixT L e high cnt := by
  unfold ptd fixT
  by_cases h : cnt = 0
  · rw [if_pos h, if_pos ((rowT_nil_iff _ _ _ _).2 h)]; simp
  · rw [if_neg h, if_neg (fun hh => h ((rowT_nil_iff _ _ _ _).1 hh))]
theorem sci_ptd (L : List Nat) (e top : Int) (cnt : Nat) : ptd (rowT L e top 1) (rowT L e (top - 1) cnt) = sciT L e top cnt := by
  unfold ptd sciT
  by_cases h : cnt = 0
  · rw [if_pos h, if_pos ((rowT_nil_iff _ _ _ _).2 h)]; simp
  · rw [if_neg h, if_neg (fun hh => h ((rowT_nil_iff _ _ _ _).1 hh))]
/-- From where on a number is written without a power of ten. -/
def highN (L : List Nat) (e : Int) : Nat := if L = [] then 0 else (max (e + L.length - 1) 0).toNat
/-- How many digits stand behind the point. -/
def cntN (e n : Int) : Nat := if n < 0 then (-(min e 0)).toNat else n.toNat
end Go.Proofs.YtbkdaoicnobllabDoor

namespace Go.Proofs.YtbkdaoicnobllabDoor
open Go.RowKit

/-- How many digits stand behind the first. -/
def cntS (L : List Nat) (n : Int) : Nat := if n < 0 then L.length - 1 else n.toNat
end Go.Proofs.YtbkdaoicnobllabDoor

/- Plain mathematics: the texts that a number rounded at a power of ten has. -/
namespace Go.Proofs.YtbkdaoicnobllabDoor

/-- The text of V / 10^3000 with n digits behind the first, and a power of ten. -/
structure ExpR (aw : Int → Bool → Bool) (V n : Nat) (D : List Nat) (e : Int) (L : List Nat) (g : Int) (T : List UInt8) : Prop where
  digs : Digs D
  headed : Headed D
  pos : 0 < D.length
  lo : -(3000 : Int) ≤ e
  val : val 3000 D e = V
  digs' : Digs L
  headed' : Headed L
  pos' : 0 < L.length
  lo' : -(3000 : Int) ≤ g
  lon : -(3000 : Int) ≤ g + L.length - 1 - n
  val' : Go.Proofs.YtbkdaoicnobllabDoor.val 3000 L g = rndN aw V (10 ^ (e + D.length - 1 - n + (3000 : Nat)).toNat) * 10 ^ (e + D.length - 1 - n + (3000 : Nat)).toNat
  text : T = sciT L g (g + L.length - 1) n ++ (101 :: Lib.itoa (g + L.length - 1))
def ExpQ (aw : Int → Bool → Bool) (V n : Nat) (T : List UInt8) : Prop := (V = 0 ∧ T = fixT [] 0 0 n ++ [101, 48]) ∨ ∃ D e L g, ExpR aw V n D e L g T
theorem ExpR.ne {aw : Int → Bool → Bool} {V n : Nat} {D L : List Nat} {e g : Int} {T : List UInt8} (h : ExpR aw V n D e L g T) : V ≠ 0 := by
  rw [← h.val]; unfold Go.Proofs.YtbkdaoicnobllabDoor.val
  exact Nat.ne_of_gt (Nat.mul_pos (h.headed.pos h.pos) (Nat.pow_pos (by omega)))
theorem ExpQ.same {aw : Int → Bool → Bool} {V n : Nat} {T T' : List UInt8} (h : ExpQ aw V n T) (h' : ExpQ aw V n T') : T = T' := by
  rcases h with ⟨h0, rfl⟩ | ⟨D, e, L, g, h⟩
  · rcases h' with ⟨_, rfl⟩ | ⟨D, e, L, g, h⟩
    · rfl
    · exact absurd h0 h.ne
  · rcases h' with ⟨h0, _⟩ | ⟨D', e', L', g', h'⟩
    · exact absurd h0 h.ne
    · have ht := top_same h.digs h'.digs h.headed h'.headed h.pos h'.pos (K := 3000) h.lo h'.lo (h.val.trans h'.val.symm)
      have hv : val 3000 L g = val 3000 L' g' := by
        rw [h.val', h'.val', show e' + (D'.length : Int) - 1 - n + (3000 : Nat) = e + D.length - 1 - n + (3000 : Nat) from by omega]
      have ht' := top_same h.digs' h'.digs' h.headed' h'.headed' h.pos' h'.pos' h.lo' h'.lo' hv
      rw [h.text, h'.text, ← ht', sciT_same h.digs' h'.digs' h.lo' h'.lo' hv h.lon]
theorem exp_prog {aw : Int → Bool → Bool} {V n : Nat} {D R : List Nat} {e p : Int} (hd : Digs D) (hh : Headed D) (hl : 0 < D.length) (he : -1080 ≤ e) (hn : n ≤ 800) (hV : val 3000 D e = V) (hp : p = e + D.length - 1 - n) (hR : Rnd aw D e p R) :
    ExpQ aw V n (expB (R.take (n + 1)) (n + 1) ++ (101 :: Lib.itoa (p + R.length - 1))) := by
  obtain ⟨c1, c2, c3, c4⟩ := hR.cut hd (c := n + 1) (by omega) (by omega)
  have hge := hR.ge
  rw [show (D.length + e - p).toNat = n + 1 from by omega] at hge
  have hv := c4 3000 (by omega) (by omega)
  refine .inr ⟨D, e, R.take (n + 1), p + R.length - (n + 1 : Nat), ⟨hd, hh, hl, by omega, hV, c1, c2, by omega, by omega, by rw [c3]; omega, ?_, ?_⟩⟩
  · rw [hv]; unfold val
    rw [hR.nval 3000 (by omega) (by omega), hV, hp]
  · rw [expB_rows (R.take (n + 1)) (p + R.length - 1) n (by omega), c3]
    have e1 : p + (R.length : Int) - 1 - ((n + 1 : Nat) : Int) + 1 = p + R.length - (n + 1 : Nat) := by omega
    have e2 : p + (R.length : Int) - ((n + 1 : Nat) : Int) + ((n + 1 : Nat) : Int) - 1 = p + R.length - 1 := by omega
    rw [e1, e2]
theorem exp_zero (aw : Int → Bool → Bool) (n : Nat) : ExpQ aw 0 n (expB (List.replicate (n + 1) 0) (n + 1) ++ (101 :: Lib.itoa 0)) := by
  refine .inl ⟨rfl, ?_⟩
  have hz : ∀ e p, dig (List.replicate (n + 1) 0) e p = 0 := by
    intro e p
    by_cases h1 : p < e
    · exact dig_lo _ h1
    · by_cases h2 : e + (List.replicate (n + 1) 0).length ≤ p
      · exact dig_hi _ (by omega)
      · rw [dig_mid (List.replicate (n + 1) 0) (e := e) (p := p) (by omega) (by omega) ((List.replicate (n + 1) 0).length - 1 - (p - e).toNat) (by omega)]
        simp [List.getD_eq_getElem?_getD, List.getElem?_replicate]
        split <;> rfl
  have hz2 : ∀ e p, dig ([] : List Nat) e p = 0 := by
    intro e p
    by_cases h1 : p < e
    · exact dig_lo _ h1
    · exact dig_hi _ (by simp; omega)
  rw [expB_rows _ 0 n (by simp)]
  unfold sciT fixT
  rw [show Lib.itoa 0 = [48] from by decide +kernel]
  rw [rowT_congr (M := []) (g := 0) 1 (fun p _ _ => by rw [hz, hz2]), rowT_congr (M := []) (g := 0) n (fun p _ _ => by rw [hz, hz2])]
  simp
theorem exp_ref {aw : Int → Bool → Bool} {V n : Nat} {D L : List Nat} {e g : Int} (hd : Norm D) (hl : 0 < D.length) (he : -1100 ≤ e) (hn : n ≤ 800) (hV : val 3000 D e = V) (hd' : Norm L) (hg : L ≠ [] → -2000 ≤ g)
    (hv : val 3000 L g = rndN aw V (10 ^ (e + D.length - 1 - n + (3000 : Nat)).toNat) * 10 ^ (e + D.length - 1 - n + (3000 : Nat)).toNat) :
    0 < L.length ∧ ExpQ aw V n (sciT L g (g + L.length - 1) n ++ (101 :: Lib.itoa (g + L.length - 1))) := by
  have hpos : 0 < L.length := by
    apply Nat.pos_of_ne_zero; intro h0
    rw [List.length_eq_zero_iff.1 h0] at hv
    have h1 := rndN_ge aw V (10 ^ (e + D.length - 1 - n + (3000 : Nat)).toNat)
    have hP : 0 < 10 ^ (e + D.length - 1 - n + (3000 : Nat)).toNat := Nat.pow_pos (by omega)
    have h2 : 10 ^ (e + D.length - 1 - n + (3000 : Nat)).toNat ≤ V := by
      rw [← hV]; unfold val
      refine Nat.le_trans ?_ (Nat.mul_le_mul_right _ (hd.headed.lo hl))
      rw [← Nat.pow_add]
      exact Nat.pow_le_pow_right (by omega) (by omega)
    have h3 := Nat.div_pos h2 hP
    have h4 : 0 < rndN aw V (10 ^ (e + D.length - 1 - n + (3000 : Nat)).toNat) := by omega
    have h5 := Nat.mul_pos h4 hP
    rw [← hv] at h5
    simp [val, num_nil] at h5
  have hg' := hg (fun h => by rw [h] at hpos; simp at hpos)
  exact ⟨hpos, .inr ⟨D, e, L, g, ⟨hd.digs, hd.headed, hl, by omega, hV, hd'.digs, hd'.headed, hpos, by omega, by omega, hv, rfl⟩⟩⟩
/-- The text of V / 10^3000 with n digits behind the point. -/
def FixQ (aw : Int → Bool → Bool) (V n : Nat) (T : List UInt8) : Prop := ∃ (L : List Nat) (g : Int), Digs L ∧ Headed L ∧ -(3000 : Int) ≤ g ∧ n ≤ 3000 ∧ val 3000 L g = rndN aw V (10 ^ (-(n : Int) + (3000 : Nat)).toNat) * 10 ^ (-(n : Int) + (3000 : Nat)).toNat ∧ T = fixT L g (highN L g) n
theorem high_same {K : Nat} {L M : List Nat} {e g : Int} (h1 : Digs L) (h2 : Digs M) (d1 : Headed L) (d2 : Headed M) (k1 : -(K : Int) ≤ e) (k2 : -(K : Int) ≤ g) (h : val K L e = val K M g) : highN L e = highN M g := by
  have z : ∀ {L : List Nat} {e : Int}, Headed L → L ≠ [] → val K L e ≠ 0 := fun {L e} hh hl => by
    unfold val
    exact Nat.ne_of_gt (Nat.mul_pos (hh.pos (List.length_pos_iff.2 hl)) (Nat.pow_pos (by omega)))
  unfold highN
  by_cases a : L = []
  · by_cases b : M = []
    · rw [if_pos a, if_pos b]
    · have := z (e := g) d2 b
      rw [← h, a] at this
      simp [val, num_nil] at this
  · by_cases b : M = []
    · have := z (e := e) d1 a
      rw [h, b] at this
      simp [val, num_nil] at this
    · rw [if_neg a, if_neg b, top_same h1 h2 d1 d2 (List.length_pos_iff.2 a) (List.length_pos_iff.2 b) k1 k2 h]
theorem FixQ.same {aw : Int → Bool → Bool} {V n : Nat} {T T' : List UInt8} (h : FixQ aw V n T) (h' : FixQ aw V n T') : T = T' := by
  obtain ⟨L, g, a1, a2, a3, a4, a5, rfl⟩ := h
  obtain ⟨M, k, b1, b2, b3, b4, b5, rfl⟩ := h'
  have hv := a5.trans b5.symm
  rw [high_same a1 b1 a2 b2 a3 b3 hv, fixT_same a1 b1 a3 b3 hv a4]
theorem fix_prog {aw : Int → Bool → Bool} {V n : Nat} {D R : List Nat} {e : Int} (he : -1080 ≤ e) (hn : n ≤ 800) (hV : val 3000 D e = V) (hR : Rnd aw D e (-(n : Int)) R) :
    FixQ aw V n (fixT R (-(n : Int)) ((R.length : Int) - n - 1).toNat n) := by
  refine ⟨R, -(n : Int), hR.digs, hR.headed, by omega, by omega, ?_, ?_⟩
  · unfold val; rw [hR.nval 3000 (by omega) (by omega), hV]
  · unfold highN
    by_cases h : R = []
    · rw [if_pos h]; subst h; rw [show ((([] : List Nat).length : Int) - n - 1).toNat = 0 from by simp]
    · rw [if_neg h, show ((R.length : Int) - n - 1).toNat = (max (-(n : Int) + R.length - 1) 0).toNat from by omega]
theorem rndN_zero (aw : Int → Bool → Bool) (P : Nat) : rndN aw 0 P = 0 := by unfold rndN leftN; simp
theorem fix_zero (aw : Int → Bool → Bool) (n : Nat) (hn : n ≤ 800) : FixQ aw 0 n (fixT [] (-(n : Int)) ((0 : Int) - n - 1).toNat n) := by
  refine ⟨[], -(n : Int), fun d h => by simp at h, fun h => by simp at h, by omega, by omega, ?_, ?_⟩
  · rw [rndN_zero]; simp [val, num_nil]
  · unfold highN; rw [if_pos rfl, show ((0 : Int) - n - 1).toNat = 0 from by omega]
theorem fix_ref {aw : Int → Bool → Bool} {V n : Nat} {L : List Nat} {g : Int} (hn : n ≤ 800) (hd' : Norm L) (hg0 : L = [] → g = 0) (hg : L ≠ [] → -2000 ≤ g)
    (hv : val 3000 L g = rndN aw V (10 ^ (-(n : Int) + (3000 : Nat)).toNat) * 10 ^ (-(n : Int) + (3000 : Nat)).toNat) : FixQ aw V n (fixT L g (highN L g) n) :=
  ⟨L, g, hd'.digs, hd'.headed, (Decidable.em (L = [])).elim (fun h => by have := hg0 h; omega) (fun h => by have := hg h; omega), by omega, hv, rfl⟩
theorem sciT_length (L : List Nat) (e top : Int) (n : Nat) : (sciT L e top n).length ≤ n + 2 := by
  unfold sciT; split <;> simp [rowT_length] <;> omega
theorem fixT_length (L : List Nat) (e : Int) (h b : Nat) : (fixT L e h b).length ≤ h + b + 2 := by
  unfold fixT; split <;> simp [rowT_length] <;> omega
end Go.Proofs.YtbkdaoicnobllabDoor
