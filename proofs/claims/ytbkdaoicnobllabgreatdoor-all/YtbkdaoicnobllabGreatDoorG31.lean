import Derived.Test.YtbkdaoicnobllabGreatDoorG30
import Derived.Test.YtbkdaoicnobllabGreatDoorG06

namespace Go.Proofs.YtbkdaoicnobllabGreatDoor

def amtOf (f mode : Int) (neg : Bool) (V U : Nat) (q : Int) : Int × Int :=
 roundP (fB f) ((2 ^ fQ f : Nat) : Int) (infN f) mode neg (lowPair (fQ f) (fB f) ((2 ^ fQ f : Nat) : Int) (infN f) V U q).1 (lowPair (fQ f) (fB f) ((2 ^ fQ f : Nat) : Int) (infN f) V U q).2 q
theorem numB_num (D : List Nat) : numB 10 D = num D := by
 have : ∀ n, ∀ D : List Nat, D.length = n → numB 10 D = num D := by
  intro n; induction n with
  | zero => intro D h; rw [List.length_eq_zero_iff.1 h]; rfl
  | succ n ih =>
   intro D h
   have hne : D ≠ [] := by intro e; rw [e] at h; simp at h
   rw [← List.dropLast_concat_getLast hne, numB_snoc, num_snoc, ih _ (by simp [h])]; omega
 exact this _ D rfl
theorem two_le {K : Nat} {a b : Int} (hK : -(K : Int) ≤ a) (h : a ≤ b) : two K a ≤ two K b := by
 have := two_mul K a hK (b - a).toNat
 rw [show a + ((b - a).toNat : Nat) = b from by omega] at this
 rw [this]; exact Nat.le_mul_of_pos_right _ (Nat.pow_pos (by omega))
theorem two_dec (K : Nat) (pw : Int) (hK : -(K : Int) ≤ pw) : 10 ^ (pw + K).toNat * 5 ^ (-pw).toNat = 5 ^ pw.toNat * two K pw := by
 unfold two
 by_cases h : 0 ≤ pw
 ·rw [if_pos h, show (-pw).toNat = 0 from by omega, show (pw + K).toNat = pw.toNat + K from by omega, Nat.pow_add, Nat.pow_zero, Nat.mul_one, ← Nat.mul_assoc, show (10 : Nat) = 5 * 2 from rfl, Nat.mul_pow]
 ·rw [if_neg h, show pw.toNat = 0 from by omega, Nat.pow_zero, Nat.one_mul, Nat.mul_comm, show pw + (K : Int) = K + pw from by omega]
theorem same_two {K : Nat} {q pw : Int} {a b : Nat} (hq : -(K : Int) ≤ q) (hp : -(K : Int) ≤ pw) (h : q + a = pw + b) : two K q * 2 ^ a = two K pw * 2 ^ b := by
 rw [← two_mul K q hq, ← two_mul K pw hp, h]
theorem same_dec {K : Nat} {N V U : Nat} {pw q : Int} (hK : -(K : Int) ≤ pw) (hq : -(K : Int) ≤ q) (h : SameVal (N * 5 ^ pw.toNat) (5 ^ (-pw).toNat) pw V U q) : N * 10 ^ (pw + K).toNat * U = V * two K q := by
 obtain ⟨a, b, h1, h2, h3⟩ := h
 have e1 := same_two hq hK h3
 have e2 := two_dec K pw hK
 subst h1 h2
 calc N * 10 ^ (pw + K).toNat * (5 ^ (-pw).toNat * 2 ^ b) = N * (10 ^ (pw + K).toNat * 5 ^ (-pw).toNat) * 2 ^ b := by grind
  _ = N * 5 ^ pw.toNat * (two K pw * 2 ^ b) := by rw [e2]; grind
  _ = N * 5 ^ pw.toNat * 2 ^ a * two K q := by rw [← e1]; grind
theorem same_hex {K : Nat} {N V U : Nat} {pw q : Int} (hK : -(K : Int) ≤ pw) (hq : -(K : Int) ≤ q) (h : SameVal N 1 pw V U q) : N * two K pw * U = V * two K q := by
 obtain ⟨a, b, h1, h2, h3⟩ := h
 have e1 := same_two hq hK h3
 subst h1 h2
 calc N * two K pw * (1 * 2 ^ b) = N * (two K pw * 2 ^ b) := by grind
  _ = N * 2 ^ a * two K q := by rw [← e1]; grind
theorem pow_lt_of {b x y : Nat} (hb : 1 < b) (h : b ^ x < b ^ y) : x < y := (Nat.pow_lt_pow_iff_right hb).1 h
theorem same_q {N V U x y : Nat} {pw q : Int} (h : SameVal N 1 pw V U q) (h1 : 2 ^ x ≤ N) (h2 : N < 2 ^ y) (hUV : U ≤ V) (hVU : V < 2 * U) : pw + x ≤ q ∧ q < pw + y := by
 obtain ⟨a, b, e1, e2, e3⟩ := h
 subst e1 e2
 have g1 : 2 ^ b < 2 ^ (y + a) := by
  rw [Nat.pow_add]
  have := Nat.mul_lt_mul_of_pos_right h2 (Nat.pow_pos (n := a) (show 0 < 2 by omega))
  omega
 have g2 : 2 ^ (x + a) < 2 ^ (b + 1) := by
  rw [Nat.pow_add, Nat.pow_succ]
  have := Nat.mul_le_mul_right (2 ^ a) h1
  omega
 have g3 := pow_lt_of (by omega) g1
 have g4 := pow_lt_of (by omega) g2
 omega
theorem pow_split (K : Nat) (x : Int) (h : -(K : Int) ≤ x) (n : Nat) : 10 ^ (x + n + K).toNat = 10 ^ n * 10 ^ (x + K).toNat := by
 rw [← Nat.pow_add]; congr 1; omega
theorem two_ten (K b : Nat) (t : Int) (h0 : 0 ≤ t) (h : t ≤ 3 * b) : two K t ≤ 10 ^ (b + K) := by
 unfold two
 rw [if_pos h0, Nat.pow_add]
 refine Nat.mul_le_mul_right _ (Nat.le_trans (Nat.pow_le_pow_right (by omega) (show t.toNat ≤ 3 * b by omega)) ?_)
 rw [Nat.pow_mul]
 exact Nat.pow_le_pow_left (by omega) b
theorem ten_two (K t c : Nat) (h : t + 1 ≤ 3 * c) (hc : 0 < c) (hct : c ≤ t) (hK : t ≤ K) : 10 ^ (K - c) * 2 < two K (-(t : Int)) := by
 unfold two
 rw [if_neg (by omega), show (-(-(t : Int))).toNat = (t - c) + c from by omega, show ((K : Int) + -(t : Int)).toNat = K - t from by omega, show K - c = (t - c) + (K - t) from by omega, Nat.pow_add 10, Nat.pow_add 5]
 have h1 : 2 ^ (t - c) * 2 < 5 ^ c := by
  rw [← Nat.pow_succ]
  refine Nat.lt_of_le_of_lt (Nat.pow_le_pow_right (by omega) (show (t - c).succ ≤ 2 * c by omega)) ?_
  rw [Nat.pow_mul]
  exact Nat.pow_lt_pow_left (by omega) (by omega)
 have h2 : 10 ^ (t - c) = 2 ^ (t - c) * 5 ^ (t - c) := by rw [← Nat.mul_pow]
 rw [h2]
 have h3 := Nat.mul_lt_mul_of_pos_right h1 (Nat.mul_pos (Nat.pow_pos (n := t - c) (show 0 < 5 by omega)) (Nat.pow_pos (n := K - t) (show 0 < 10 by omega)))
 refine Nat.lt_of_le_of_lt (Nat.le_of_eq ?_) (Nat.lt_of_lt_of_eq h3 ?_)
 ·generalize 2 ^ (t - c) = x; generalize 5 ^ (t - c) = y; generalize 10 ^ (K - t) = z; grind
 ·generalize 5 ^ (t - c) = y; generalize 10 ^ (K - t) = z; generalize 5 ^ c = x; grind
theorem held_beyond {K : Nat} {f : Int} (hf : Fmt f) (hK : 2500 ≤ K) : valA K f (infN f) ≤ 10 ^ (390 + (K : Int)).toNat := by
 have hb := hf.b2
 have hb1 := hf.b1
 rw [valA_inf hf (by omega), show (390 + (K : Int)).toNat = 390 + K from by omega]
 exact two_ten K 390 _ (by omega) (by omega)
theorem valA_least {K : Nat} {f : Int} (hf : Fmt f) (hK : 2500 ≤ K) : two K (-(1074 : Nat)) ≤ valA K f 1 := by
 have hv := valA_at K f 0 1 Nat.one_le_two_pow (by omega)
 rw [Nat.zero_mul, Nat.zero_add, if_pos rfl, Nat.mul_one] at hv
 rw [hv]
 have hb := hf.b2
 have hq := hf.q
 exact two_le (by omega) (by rw [hf.e]; omega)
theorem held_tiny {K : Nat} {f : Int} (hf : Fmt f) (hK : 2500 ≤ K) : 10 ^ (-390 + (K : Int)).toNat * 2 < valA K f 1 := by
 rw [show (-390 + (K : Int)).toNat = K - 390 from by omega]
 exact Nat.lt_of_lt_of_le (ten_two K 1074 390 (by omega) (by omega) (by omega) (by omega)) (valA_least hf hK)
theorem frac_ge {K X V U : Nat} {q : Int} (hX : X * U = V * two K q) (hU : 0 < U) (hUV : U ≤ V) : two K q ≤ X :=
 Nat.le_of_mul_le_mul_right (by rw [hX, Nat.mul_comm]; exact Nat.mul_le_mul_right _ hUV) hU
theorem frac_lt {K X V U : Nat} {q : Int} (hK : -(K : Int) ≤ q) (hX : X * U = V * two K q) (hVU : V < 2 * U) : X < two K (q + 1) := by
 have e2 := two_mul K q hK 1
 rw [Nat.pow_one] at e2
 rw [show q + 1 = q + (1 : Nat) from rfl, e2]
 apply Nat.lt_of_mul_lt_mul_right (a := U)
 rw [hX, Nat.mul_assoc, Nat.mul_comm (two K q)]
 exact Nat.mul_lt_mul_of_pos_right hVU (two_pos _ _)
theorem same_dec_q {N V U : Nat} {pw q : Int} (hN : 0 < N) (h : SameVal (N * 5 ^ pw.toNat) (5 ^ (-pw).toNat) pw V U q) (hVU : V < 2 * U) : pw - 3 * ((-pw).toNat : Int) ≤ q := by
 obtain ⟨a, b, h1, h2, h3⟩ := h
 subst h1 h2
 have g1 : 1 * 2 ^ a ≤ N * 5 ^ pw.toNat * 2 ^ a := Nat.mul_le_mul_right _ (Nat.mul_pos hN (Nat.pow_pos (by omega)))
 have g2 : 5 ^ (-pw).toNat ≤ 2 ^ (3 * (-pw).toNat) := by rw [Nat.pow_mul]; exact Nat.pow_le_pow_left (by omega) _
 have g3 : 2 ^ a < 2 ^ (3 * (-pw).toNat + b + 1) := by
  rw [Nat.pow_succ, Nat.pow_add]
  have := Nat.mul_le_mul_right (2 ^ b) g2
  omega
 have g4 := pow_lt_of (by omega) g3
 omega

def DecFrac (D : List Nat) (pw : Int) (V U : Nat) (q : Int) : Prop :=
 (400 < pw + D.length - 1 ∧ q = 5000) ∨ (pw + D.length - 1 < -400 ∧ q = -5000) ∨
 (-400 ≤ pw + D.length - 1 ∧ pw + D.length - 1 ≤ 400 ∧ SameVal (num D * 5 ^ pw.toNat) (5 ^ (-pw).toNat) pw V U q)
def PowLike (a b : Int) : Prop := (a = b ∧ -20000 ≤ a ∧ a ≤ 20000) ∨ (20000 ≤ a ∧ 20000 ≤ b) ∨ (a ≤ -20000 ∧ b ≤ -20000)

theorem lead_ge {D : List Nat} (h : D.getD 0 0 ≠ 0) : 10 ^ (D.length - 1) ≤ num D := by
 cases D with
 | nil => simp at h
 | cons d r =>
  simp at h
  rw [num_cons, List.length_cons, Nat.add_sub_cancel]
  have : 1 * 10 ^ r.length ≤ d * 10 ^ r.length := Nat.mul_le_mul_right _ (by omega)
  omega
theorem same_first {L D Dr : List Nat} {e er : Int} (hL : Norm L) (hL0 : L ≠ []) (hD : Digs D) (hD0 : D.getD 0 0 ≠ 0) (hn : num Dr = num D) (hle : er ≤ e) (hv : ∀ K2 : Nat, -(K2 : Int) ≤ er → val K2 L e = val K2 Dr er) : e + L.length = er + D.length ∧ num L * 10 ^ (e - er).toNat = num D := by
 have h1 := hv (-er).toNat (by omega)
 have hl : 0 < L.length := List.length_pos_iff.2 hL0
 unfold val at h1
 have h2 : num L * 10 ^ (e - er).toNat = num D := by
  apply Nat.eq_of_mul_eq_mul_right (Nat.pow_pos (n := (er + ((-er).toNat : Nat)).toNat) (show 0 < 10 by omega))
  rw [← hn, ← h1, Nat.mul_assoc, ← Nat.pow_add]; congr 2; omega
 have g1 := num_pos hL hl
 have g2 := num_lt hL.digs
 have g3 := lead_ge hD0
 have g4 := num_lt hD
 have hd : 0 < D.length := by
  rcases Nat.eq_zero_or_pos D.length with h | h
  ·rw [List.length_eq_zero_iff.1 h] at hD0; simp at hD0
  ·exact h
 refine ⟨?_, h2⟩
 have k1 : 10 ^ (L.length - 1 + (e - er).toNat) < 10 ^ D.length := by
  rw [Nat.pow_add]
  have := Nat.mul_le_mul_right (10 ^ (e - er).toNat) g1
  omega
 have k2 : 10 ^ (D.length - 1) < 10 ^ (L.length + (e - er).toNat) := by
  rw [Nat.pow_add]
  have := Nat.mul_lt_mul_of_pos_right g2 (Nat.pow_pos (n := (e - er).toNat) (show 0 < 10 by omega))
  omega
 have k3 := pow_lt_of (by omega) k1
 have k4 := pow_lt_of (by omega) k2
 omega

theorem dec_join {K : Nat} {f mode : Int} {neg : Bool} {D Dr L : List Nat} {pw er e b x1 x2 : Int} {V U : Nat} {q : Int} (hf : Fmt f) (hK : 30000 ≤ K) (hL : Norm L) (hD : Digs D) (hD0 : D.getD 0 0 ≠ 0) (hDl : D.length ≤ 900) (hn : num Dr = num D)
  (hle : L ≠ [] → er ≤ e) (hv : ∀ K2 : Nat, -(K2 : Int) ≤ er → val K2 L e = val K2 Dr er) (hb : 0 ≤ b ∧ b ≤ 900) (h1 : pw = x1 - b) (h2 : er = x2 - b) (hx : PowLike x1 x2) (hUV : U ≤ V) (hVU : V < 2 * U) (hfr : DecFrac D pw V U q) :
  RoundSpec K f mode neg (heldV K L e) (amtOf f mode neg V U q).1 (amtOf f mode neg V U q).2 := by
 have hb1 := hf.b1
 have hb2 := hf.b2
 have hq2 := hf.q
 have hdp : 0 < num D := Nat.lt_of_lt_of_le (Nat.pow_pos (by omega)) (lead_ge hD0)
 have hdl : 0 < D.length := by
  rcases Nat.eq_zero_or_pos D.length with h | h
  ·rw [List.length_eq_zero_iff.1 h] at hD0; simp at hD0
  ·exact h
 have hL0 : L ≠ [] := by
  intro h
  have h3 := hv (-er).toNat (by omega)
  rw [h, val_nil] at h3
  unfold val at h3
  have : 0 < num Dr * 10 ^ (er + ((-er).toNat : Nat)).toNat := Nat.mul_pos (by omega) (Nat.pow_pos (by omega))
  omega
 have hl : L.length ≠ 0 := fun h => hL0 (List.length_eq_zero_iff.1 h)
 obtain ⟨hm, hnum⟩ := same_first hL hL0 hD hD0 hn (hle hL0) hv
 have p390 : 0 < 10 ^ (390 + (K : Int)).toNat := Nat.pow_pos (by omega)
 have m390 : 0 < 10 ^ (-390 + (K : Int)).toNat := Nat.pow_pos (by omega)
 have bey : fB f < q → 390 < er + D.length - 1 → RoundSpec K f mode neg (heldV K L e) (amtOf f mode neg V U q).1 (amtOf f mode neg V U q).2 := by
  intro hq hh
  have e1 : heldV K L e = 10 ^ (390 + (K : Int)).toNat := by unfold heldV; rw [if_neg hl, if_pos (by omega)]
  rw [e1]; exact round_beyond hf p390 (held_beyond hf (by omega)) hq
 have tin : q < -fB f - fQ f → er + D.length - 1 < -390 → RoundSpec K f mode neg (heldV K L e) (amtOf f mode neg V U q).1 (amtOf f mode neg V U q).2 := by
  intro hq hh
  have e1 : heldV K L e = 10 ^ (-390 + (K : Int)).toNat := by unfold heldV; rw [if_neg hl, if_neg (by omega), if_pos (by omega)]
  rw [e1]; exact round_tiny hf (by omega) m390 (held_tiny hf (by omega)) hq
 rcases hx with ⟨hx, hx1, hx2⟩ | ⟨hx1, hx2⟩ | ⟨hx1, hx2⟩
 ·have hpe : pw = er := by omega
  rcases hfr with ⟨g1, g2⟩ | ⟨g1, g2⟩ | ⟨g1, g2, g3⟩
  ·exact bey (by omega) (by omega)
  ·exact tin (by omega) (by omega)
  ·have hqq := same_dec_q hdp g3 hVU
   by_cases hqK : q < -(K : Int)
   ·omega
   ·have hX := same_dec (K := K) (by omega) (by omega) g3
    by_cases hA : 390 < pw + D.length - 1
    ·refine bey ?_ (by omega)
     rcases Int.lt_or_le (fB f) q with h | h
     ·exact h
     ·exfalso
      have k1 := frac_lt (by omega) hX hVU
      have k2 := two_le (K := K) (a := q + 1) (b := fB f + 1) (by omega) (by omega)
      have k3 := two_ten K 390 (fB f + 1) (by omega) (by omega)
      have k4 : 10 ^ (390 + K) ≤ num D * 10 ^ (pw + K).toNat := by
       refine Nat.le_trans ?_ (Nat.mul_le_mul_right _ (lead_ge hD0))
       rw [← Nat.pow_add]
       exact Nat.pow_le_pow_right (by omega) (by omega)
      omega
    ·by_cases hB : pw + D.length - 1 < -390
     ·refine tin ?_ (by omega)
      rcases Int.lt_or_le q (-fB f - fQ f) with h | h
      ·exact h
      ·exfalso
       have k1 := frac_ge hX (by omega) hUV
       have k2 := two_le (K := K) (a := -(1075 : Nat)) (b := q) (by omega) (by omega)
       have k3 := ten_two K 1075 390 (by omega) (by omega) (by omega) (by omega)
       have k4 : num D * 10 ^ (pw + K).toNat ≤ 10 ^ (K - 390) := by
        refine Nat.le_trans (Nat.mul_le_mul_right _ (Nat.le_of_lt (num_lt hD))) ?_
        rw [← Nat.pow_add]
        exact Nat.pow_le_pow_right (by omega) (by omega)
       omega
     ·have e1 : heldV K L e = num D * 10 ^ (pw + K).toNat := by
       unfold heldV; rw [if_neg hl, if_neg (by omega), if_neg (by omega), hv K (by omega)]; unfold val; rw [hn, hpe]
      rw [e1]; exact round_same hf (by omega) (by omega) hX hUV hVU
 ·rcases hfr with ⟨g1, g2⟩ | ⟨g1, g2⟩ | ⟨g1, g2, g3⟩
  ·exact bey (by omega) (by omega)
  ·omega
  ·omega
 ·rcases hfr with ⟨g1, g2⟩ | ⟨g1, g2⟩ | ⟨g1, g2, g3⟩
  ·omega
  ·exact tin (by omega) (by omega)
  ·omega

theorem num16_append (a b : List Nat) : num16 (a ++ b) = num16 a * 16 ^ b.length + num16 b := by
 have : ∀ n, ∀ b : List Nat, b.length = n → num16 (a ++ b) = num16 a * 16 ^ b.length + num16 b := by
  intro n; induction n with
  | zero => intro b h; rw [List.length_eq_zero_iff.1 h]; simp [num16]
  | succ n ih =>
   intro b h
   have hne : b ≠ [] := by intro e; rw [e] at h; simp at h
   rw [← List.dropLast_concat_getLast hne, ← List.append_assoc, num16_snoc, num16_snoc, ih _ (by simp [h]), List.length_append, List.length_singleton, Nat.pow_succ]
   grind
 exact this _ b rfl
theorem num16_lead {D : List Nat} (h : D.getD 0 0 ≠ 0) : 16 ^ (D.length - 1) ≤ num16 D := by
 cases D with
 | nil => simp at h
 | cons d r =>
  simp at h
  have := num16_append [d] r
  rw [show [d] ++ r = d :: r from rfl] at this
  rw [this, List.length_cons, Nat.add_sub_cancel]
  have e : num16 [d] = d := by simp [num16]
  rw [e]
  have : 1 * 16 ^ r.length ≤ d * 16 ^ r.length := Nat.mul_le_mul_right _ (by omega)
  omega
theorem num16_some (D : List Nat) : (some16 D = true → 0 < num16 D) ∧ (some16 D = false → num16 D = 0) := by
 have : ∀ n, ∀ D : List Nat, D.length = n → (some16 D = true → 0 < num16 D) ∧ (some16 D = false → num16 D = 0) := by
  intro n; induction n with
  | zero => intro D h; rw [List.length_eq_zero_iff.1 h]; simp [num16, some16]
  | succ n ih =>
   intro D h
   have hne : D ≠ [] := by intro e; rw [e] at h; simp at h
   have hi := ih D.dropLast (by simp [h])
   rw [← List.dropLast_concat_getLast hne, num16_snoc]
   generalize D.getLast hne = x at *
   generalize D.dropLast = y at *
   have e : some16 (y ++ [x]) = (some16 y || decide (0 < x)) := by simp [some16]
   rw [e]
   cases hy : some16 y
   ·have := hi.2 hy
    rw [this]; simp
   ·have := hi.1 hy
    simp; omega
 exact this _ D rfl
theorem pow16 (n : Nat) : 16 ^ n = 2 ^ (4 * n) := by rw [Nat.pow_mul]
theorem hex_joinJ {K : Nat} {f mode : Int} {neg : Bool} {D : List Nat} {pw er b x1 x2 : Int} {V U : Nat} {q : Int} (hf : Fmt f) (hK : 30000 ≤ K) (hD : ∀ d, d ∈ D → d ≤ 15) (hD0 : D.getD 0 0 ≠ 0) (hDl : D.length ≤ 900)
  (hb : 0 ≤ b ∧ b ≤ 3600) (h1 : pw = x1 - b) (h2 : er = x2 - b) (hx : PowLike x1 x2) (hUV : U ≤ V) (hVU : V < 2 * U) (hfr : SameVal (num16 D) 1 pw V U q) :
  RoundSpec K f mode neg (sixV K D er) (amtOf f mode neg V U q).1 (amtOf f mode neg V U q).2 := by
 have hb1 := hf.b1
 have hb2 := hf.b2
 have hq2 := hf.q
 have hdl : 0 < D.length := by
  rcases Nat.eq_zero_or_pos D.length with h | h
  ·rw [List.length_eq_zero_iff.1 h] at hD0; simp at hD0
  ·exact h
 have hl : D.length ≠ 0 := by omega
 have g1 := num16_lead hD0
 have g2 := num16_lt D hD
 rw [pow16] at g1 g2
 obtain ⟨q1, q2⟩ := same_q hfr g1 g2 hUV hVU
 have p390 : 0 < 10 ^ (390 + (K : Int)).toNat := Nat.pow_pos (by omega)
 have m390 : 0 < 10 ^ (-390 + (K : Int)).toNat := Nat.pow_pos (by omega)
 have bey : fB f < q → 1200 < 4 * (D.length : Int) + er → RoundSpec K f mode neg (sixV K D er) (amtOf f mode neg V U q).1 (amtOf f mode neg V U q).2 := by
  intro hq hh
  have e1 : sixV K D er = 10 ^ (390 + (K : Int)).toNat := by unfold sixV; rw [if_neg hl, if_pos hh]
  rw [e1]; exact round_beyond hf p390 (held_beyond hf (by omega)) hq
 have tin : q < -fB f - fQ f → 4 * (D.length : Int) + er < -1200 → RoundSpec K f mode neg (sixV K D er) (amtOf f mode neg V U q).1 (amtOf f mode neg V U q).2 := by
  intro hq hh
  have e1 : sixV K D er = 10 ^ (-390 + (K : Int)).toNat := by unfold sixV; rw [if_neg hl, if_neg (by omega), if_pos hh]
  rw [e1]; exact round_tiny hf (by omega) m390 (held_tiny hf (by omega)) hq
 rcases hx with ⟨hx, hx1, hx2⟩ | ⟨hx1, hx2⟩ | ⟨hx1, hx2⟩
 ·have hpe : pw = er := by omega
  by_cases hA : 1200 < 4 * (D.length : Int) + er
  ·exact bey (by omega) hA
  ·by_cases hB : 4 * (D.length : Int) + er < -1200
   ·exact tin (by omega) hB
   ·have hX := same_hex (K := K) (by omega) (by omega) hfr
    have hsp : D = D.take 300 ++ D.drop 300 := (List.take_append_drop 300 D).symm
    have hnm := num16_append (D.take 300) (D.drop 300)
    rw [← hsp, List.length_drop] at hnm
    have hmin : D.length - min D.length 300 = D.length - 300 := by omega
    have e2 : two K (er + 4 * ((D.length - 300 : Nat) : Int)) = two K pw * 16 ^ (D.length - 300) := by
     have := two_mul K pw (by omega) (4 * (D.length - 300))
     rw [pow16, ← this]; congr 1; omega
    by_cases hs : some16 (D.drop 300) = true
    ·have e1 : sixV K D er = (num16 (D.take 300) * 2 + 1) * two K (er + 4 * ((D.length - 300 : Nat) : Int) - 1) := by
      unfold sixV; rw [if_neg hl, if_neg hA, if_neg hB, if_pos hs, hmin]
     have hlen : 300 < D.length := by
      rcases Nat.lt_or_ge 300 D.length with h | h
      ·exact h
      ·rw [List.drop_eq_nil_of_le h] at hs; simp [some16] at hs
     have hr0 := (num16_some (D.drop 300)).1 hs
     have hr1 := num16_lt (D.drop 300) (fun d hd => hD d (List.mem_of_mem_drop hd))
     rw [List.length_drop] at hr1
     rw [e1]
     have e3 : two K (er + 4 * ((D.length - 300 : Nat) : Int)) = two K (er + 4 * ((D.length - 300 : Nat) : Int) - 1) * 2 := by
      have := two_mul K (er + 4 * ((D.length - 300 : Nat) : Int) - 1) (by omega) 1
      rw [Nat.pow_one] at this
      rw [← this]; congr 1; omega
     have hz := two_pos K (er + 4 * ((D.length - 300 : Nat) : Int) - 1)
     have hp := two_pos K pw
     refine round_near (X := num16 D * two K pw) (u := two K (er + 4 * ((D.length - 300 : Nat) : Int))) (n := num16 (D.take 300)) (q := er + 4 * ((D.length - 300 : Nat) : Int)) hf (by omega) (by omega) hX hUV hVU (by omega) rfl ?_ ?_ ?_ ?_
     ·rw [e2, hnm]
      have := Nat.mul_lt_mul_of_pos_right (show num16 (D.take 300) * 16 ^ (D.length - 300) < num16 (D.take 300) * 16 ^ (D.length - 300) + num16 (D.drop 300) by omega) hp
      refine Nat.lt_of_le_of_lt (Nat.le_of_eq ?_) this
      grind
     ·rw [e2, hnm]
      have := Nat.mul_lt_mul_of_pos_right (show num16 (D.take 300) * 16 ^ (D.length - 300) + num16 (D.drop 300) < num16 (D.take 300) * 16 ^ (D.length - 300) + 16 ^ (D.length - 300) by omega) hp
      refine Nat.lt_of_lt_of_eq this ?_
      grind
     ·rw [e3]
      have := Nat.mul_lt_mul_of_pos_right (show num16 (D.take 300) * 2 < num16 (D.take 300) * 2 + 1 by omega) hz
      refine Nat.lt_of_le_of_lt (Nat.le_of_eq ?_) this
      grind
     ·rw [e3]
      have := Nat.mul_lt_mul_of_pos_right (show num16 (D.take 300) * 2 + 1 < (num16 (D.take 300) + 1) * 2 by omega) hz
      refine Nat.lt_of_lt_of_eq this ?_
      grind
    ·have e1 : sixV K D er = num16 D * two K pw := by
      unfold sixV; rw [if_neg hl, if_neg hA, if_neg hB, if_neg hs, hmin, e2, hnm, (num16_some (D.drop 300)).2 (by simpa using hs), Nat.add_zero]; grind
     rw [e1]; exact round_same hf (by omega) (by omega) hX hUV hVU
 ·exact bey (by omega) (by omega)
 ·exact tin (by omega) (by omega)
end Go.Proofs.YtbkdaoicnobllabGreatDoor

namespace Go.Proofs.YtbkdaoicnobllabGreatDoor
set_option maxRecDepth 100000
set_option maxHeartbeats 1000000
open Go.RowKit

structure RdrAt (w : World) (b : Nat) (s : ByteArray) (a : Nat) : Prop where
 c0 : w.cell? ⟨b, 0, none⟩ = some (.string s)
 c1 : w.cell? ⟨b, 1, none⟩ = some (.int .i64 a)
 fz : w.frozen? ⟨b, 1, none⟩ = false
structure RPost (w w' : World) (b : Nat) (s : ByteArray) (a : Nat) : Prop where
 rdr : RdrAt w' b s a
 turn : Turn (fun k => k = b) w w'
def atB (s : ByteArray) (a x : Nat) : Bool := decide (a < s.size) && ((chs s).getD a 0 == x)
def passTo (s : ByteArray) (a x : Nat) : Nat := if atB s a x = true then a + 1 else a
theorem passTo_yes {s : ByteArray} {a x : Nat} (h : atB s a x = true) : passTo s a x = a + 1 := if_pos h
theorem passTo_no {s : ByteArray} {a x : Nat} (h : atB s a x = false) : passTo s a x = a := if_neg (by rw [h]; simp)
theorem RdrAt.still {w w1 : World} {b a : Nat} {s : ByteArray} (h : RdrAt w b s a) (hs : Still w w1) : RdrAt w1 b s a :=
 ⟨(hs.cell _).trans h.c0, (hs.cell _).trans h.c1, by rw [World.frozen?_of_block (w := w) (by rw [hs.heap])]; exact h.fz⟩
theorem RPost.still {w w1 : World} {b a : Nat} {s : ByteArray} (h : RdrAt w b s a) (hs : Still w w1) : RPost w w1 b s a := ⟨h.still hs, hs.turn _⟩
theorem RPost.trans {w w1 w2 : World} {b a a2 : Nat} {s : ByteArray} (h : RPost w w1 b s a) (k : RPost w1 w2 b s a2) : RPost w w2 b s a2 := ⟨k.rdr, h.turn.trans k.turn (fun _ _ h => h)⟩
theorem RdrAt.set {w : World} {b a : Nat} {s : ByteArray} (h : RdrAt w b s a) (a' : Nat) : RPost w (w.setCell ⟨b, 1, none⟩ (.int .i64 (a' : Nat))) b s a' := by
 refine ⟨⟨?_, World.cell?_setCell_same' _ _ _ (by rw [h.c1]; rfl), ?_⟩, (Turn.refl _ _).setCell _ _ rfl⟩
 ·rw [World.cell?_setCell_other _ _ _ _ (by simp)]; exact h.c0
 ·rw [show (w.setCell ⟨b, 1, none⟩ (.int .i64 (a' : Nat))).frozen? ⟨b, 1, none⟩ = w.frozen? ⟨b, 1, none⟩ from by simp [go_sem]]; exact h.fz

theorem pass_any (b a x : Nat) (s : ByteArray) (w : World) (h : RdrAt w b s a) (ha : a ≤ s.size) (hs : s.size ≤ 900) :
  Calls Tryz.prog 58 #[.pointer (some ⟨b, 0, none⟩), .int .u8 x] w fun e w' => e = .returned (.bool (atB s a x)) ∧ RPost w w' b s (passTo s a x) := by
 have c0 := h.c0
 have c1 := h.c1
 have HH := hid h
 clear h
 go_enter Tryz.func58, Tryz.ntmps58
 by_cases hlt : a < s.size
 ·have tb : decide ((s.size : Int) ≤ (a : Int)) = false := by simp; omega
  have hg := chs_get s a hlt
  by_cases hx : s[a].toNat = x
  ·have tx : (((s[a].toNat : Nat) : Int) != (x : Int)) = false := by simp [hx]
   have HA : Hid (atB s a x = true) := by unfold Hid atB; rw [hg, hx]; simp [hlt]
   have HG := hid hg
   clear hx hg
   go_wp2_with fail
   go_quiet (fail)
   have HR := hid (RPost.still HH.out ((Still.refl w).drewN nq))
   clear c0 c1 HH
   generalize w.drewN nq = w1 at *
   have c1 := HR.out.rdr.c1
   have fz := HR.out.rdr.fz
   go_wp2
   go_ret
   refine ⟨by rw [HA.out]; rfl, HR.out.trans ?_⟩
   rw [passTo_yes HA.out, show (a : Int) + 1 = ((a + 1 : Nat) : Int) from by omega]
   exact HR.out.rdr.set (a + 1)
  ·have tx : (((s[a].toNat : Nat) : Int) != (x : Int)) = true := by simp; omega
   have HA : Hid (atB s a x = false) := by unfold Hid atB; rw [hg]; simp [hx]
   clear hx hg
   go_wp2_with fail
   go_quiet (fail)
   have HR := hid (RPost.still HH.out ((Still.refl w).drewN nq))
   clear c0 c1 HH
   generalize w.drewN nq = w1 at *
   go_wp2
   go_ret
   exact ⟨by rw [HA.out]; rfl, by rw [passTo_no HA.out]; exact HR.out⟩
 ·have tb : decide ((s.size : Int) ≤ (a : Int)) = true := by simp; omega
  have HA : Hid (atB s a x = false) := by unfold Hid atB; simp [hlt]
  go_wp2_with fail
  go_quiet (fail)
  have HR := hid (RPost.still HH.out ((Still.refl w).drewN nq))
  clear c0 c1 HH
  generalize w.drewN nq = w1 at *
  go_wp2
  go_ret
  exact ⟨by rw [HA.out]; rfl, by rw [passTo_no HA.out]; exact HR.out⟩

def sgnL (s : ByteArray) (a : Nat) : Nat := if atB s a 45 = true ∨ atB s a 43 = true then a + 1 else a
theorem sign_any (b a : Nat) (s : ByteArray) (w : World) (h : RdrAt w b s a) (ha : a ≤ s.size) (hs : s.size ≤ 900) :
  Calls Tryz.prog 38 #[.pointer (some ⟨b, 0, none⟩)] w fun e w' => e = .returned (.bool (atB s a 45)) ∧ RPost w w' b s (sgnL s a) := by
 have HX := hid (pass_any b a 45 s w h ha hs)
 clear h
 go_enter Tryz.func38, Tryz.ntmps38
 go_wp2_with fail
 refine HX.out.mono ?_
 rintro e w1 ⟨rfl, h1⟩
 clear HX
 cases h45 : atB s a 45
 ·rw [passTo_no h45] at h1
  have HX2 := hid (pass_any b a 43 s w1 h1.rdr ha hs)
  have H1 := hid h1
  have H45 := hid h45
  clear h1 h45
  go_wp2_with fail
  refine HX2.out.mono ?_
  rintro e w2 ⟨rfl, h2⟩
  have HF : Hid (RPost w w2 b s (sgnL s a)) := by
   have e : sgnL s a = passTo s a 43 := by unfold sgnL passTo; rw [H45.out]; simp
   rw [e]
   exact H1.out.trans h2
  clear HX2 h2
  go_wp2
  go_ret
  exact ⟨by rw [H45.out]; rfl, HF.out⟩
 ·rw [passTo_yes h45] at h1
  have HF : Hid (RPost w w1 b s (sgnL s a)) := by
   unfold Hid sgnL
   rw [if_pos (.inl h45)]
   exact h1
  have H45 := hid h45
  clear h1 h45
  go_wp2
  go_ret
  exact ⟨by rw [H45.out]; rfl, HF.out⟩

theorem next_byte (b a : Nat) (s : ByteArray) (w : World) (h : RdrAt w b s a) (ha : a ≤ s.size) (_hs : s.size ≤ 900) :
  Calls Tryz.prog 59 #[.pointer (some ⟨b, 0, none⟩)] w fun e w' => e = .returned (.int .u8 ((chs s).getD a 0 : Nat)) ∧ Still w w' := by
 have c0 := h.c0
 have c1 := h.c1
 clear h
 go_enter Tryz.func59, Tryz.ntmps59
 by_cases hlt : a < s.size
 ·have HG := hid (chs_get s a hlt)
  have tb : decide ((s.size : Int) ≤ (a : Int)) = false := by simp; omega
  go_wp2_with fail
  go_quiet (fail)
  have hst := (Still.refl w).drewN nq
  have HS := hid hst
  have d0 := (hst.cell _).trans c0
  have d1 := (hst.cell _).trans c1
  clear c0 c1 hst
  generalize w.drewN nq = w1 at *
  have tb2 : decide (s.size ≤ a) = false := by simp; omega
  go_wp2_with fail
  go_quiet (fail)
  have HS2 := hid (HS.out.drewN nq)
  clear d0 d1 HS
  generalize w1.drewN nq = w2 at *
  go_wp2
  go_ret
  exact ⟨by rw [HG.out]; rfl, HS2.out⟩
 ·have HG : Hid ((chs s).getD a 0 = 0) := by unfold Hid; rw [List.getD_eq_getElem?_getD, List.getElem?_eq_none (by rw [chs_length]; omega)]; rfl
  have tb : decide ((s.size : Int) ≤ (a : Int)) = true := by simp; omega
  go_wp2_with fail
  go_quiet (fail)
  have HS := hid ((Still.refl w).drewN nq)
  clear c0 c1
  generalize w.drewN nq = w1 at *
  have tb2 : decide (s.size ≤ a) = true := by simp; omega
  go_wp2
  go_ret
  exact ⟨by rw [HG.out]; rfl, HS.out⟩

def digV (x base : Nat) : Int := if 48 ≤ x ∧ x ≤ 57 then (x : Int) - 48 else if base = 16 ∧ 97 ≤ x ∧ x ≤ 102 then (x : Int) - 87 else -1
theorem digitValue_any (x base : Nat) (w : World) (hx : x < 256) :
  Calls Tryz.prog 130 #[.int .u8 x, .int .i64 base] w fun e w' => e = .returned (.int .i64 (digV x base)) ∧ w' = w := by
 go_enter Tryz.func130, Tryz.ntmps130
 by_cases h1 : 48 ≤ x ∧ x ≤ 57
 ·have HD : Hid (digV x base = (x : Int) - 48) := by unfold Hid digV; rw [if_pos h1]
  obtain ⟨h2, h3⟩ := h1
  go_wp2
  all_goals (go_ret; exact ⟨by rw [HD.out]; rfl, rfl⟩)
 ·by_cases h5 : base = 16 ∧ 97 ≤ x ∧ x ≤ 102
  ·have HD : Hid (digV x base = (x : Int) - 97 + 10) := by unfold Hid digV; rw [if_neg h1, if_pos h5]; omega
   obtain ⟨rfl, h6, h7⟩ := h5
   have h8 : 57 < (x : Int) := by omega
   clear h1
   go_wp2
   all_goals (go_ret; exact ⟨by rw [HD.out]; rfl, rfl⟩)
  ·have HD : Hid (digV x base = -1) := by unfold Hid digV; rw [if_neg h1, if_neg h5]
   by_cases h48 : x < 48
   ·have h8 : (x : Int) < 48 := by omega
    have h9 : (x : Int) < 97 := by omega
    have t1 : decide ((48 : Int) ≤ x) = false := by simp; omega
    have t2 : decide ((97 : Int) ≤ x) = false := by simp; omega
    clear h1 h5 h48
    by_cases hb : base = 16
    ·subst hb
     go_wp2
     all_goals (go_ret; exact ⟨by rw [HD.out]; rfl, rfl⟩)
    ·have hbb : ((base : Int) == 16) = false := by simp; omega
     go_wp2
     all_goals (go_ret; exact ⟨by rw [HD.out]; rfl, rfl⟩)
   ·have h57 : 57 < x := by omega
    have t0 : decide ((48 : Int) ≤ x) = true := by simp; omega
    have t1 : decide ((x : Int) ≤ 57) = false := by simp; omega
    by_cases hb : base = 16
    ·subst hb
     by_cases h97 : 97 ≤ x
     ·have t3 : decide ((97 : Int) ≤ x) = true := by simp; omega
      have t4 : decide ((x : Int) ≤ 102) = false := by simp; omega
      clear h1 h5
      go_wp2
      all_goals (go_ret; exact ⟨by rw [HD.out]; rfl, rfl⟩)
     ·have t3 : decide ((97 : Int) ≤ x) = false := by simp; omega
      clear h1 h5
      go_wp2
      all_goals (go_ret; exact ⟨by rw [HD.out]; rfl, rfl⟩)
    ·have hbb : ((base : Int) == 16) = false := by simp; omega
     clear h1 h5
     go_wp2
     all_goals (go_ret; exact ⟨by rw [HD.out]; rfl, rfl⟩)
end Go.Proofs.YtbkdaoicnobllabGreatDoor

namespace Go.Proofs.YtbkdaoicnobllabGreatDoor
set_option maxRecDepth 100000
set_option maxHeartbeats 1000000
open Go.RowKit

def hexB (s : ByteArray) (a : Nat) : Bool := atB s a 48 && atB s (a + 1) 120
theorem hexAhead_any (b a : Nat) (s : ByteArray) (w : World) (h : RdrAt w b s a) (ha : a ≤ s.size) (hs : s.size ≤ 900) :
  Calls Tryz.prog 61 #[.pointer (some ⟨b, 0, none⟩)] w fun e w' => e = .returned (.bool (hexB s a)) ∧ Still w w' := by
 have c0 := h.c0
 have c1 := h.c1
 clear h
 go_enter Tryz.func61, Tryz.ntmps61
 go_wp2_with fail
 go_quiet (fail)
 have hst := (Still.refl w).drewN nq
 have HS := hid hst
 have d0 := (hst.cell _).trans c0
 have d1 := (hst.cell _).trans c1
 clear c0 c1 hst
 generalize w.drewN nq = w1 at *
 by_cases hlt : a + 2 ≤ s.size
 ·have hl1 : a < s.size := by omega
  obtain ⟨a1, ha1⟩ : ∃ a1 : Nat, a1 = a + 1 := ⟨_, rfl⟩
  have hl2 : a1 < s.size := by omega
  have hai : (a : Int) + 1 = (a1 : Int) := by omega
  have g1 := chs_get s a hl1
  have g2 := chs_get s a1 hl2
  have t0 : decide ((s.size : Int) - a < 2) = false := by simp; omega
  have hw1 : IntKind.i64.wrap (a1 : Int) = (a1 : Int) := by rw [IntKind.wrap_i64]; omega
  have HA1 := hid ha1
  by_cases h0 : s[a].toNat = 48
  ·have t1 : (((s[a].toNat : Nat) : Int) == 48) = true := by simp [h0]
   have HA : Hid (hexB s a = (((s[a1].toNat : Nat) : Int) == 120)) := by
    unfold Hid hexB atB
    rw [← ha1, g1, g2, h0]
    generalize s[a1].toNat = x
    rw [decide_eq_true hl1, decide_eq_true hl2]
    cases hh : (x == 120)
    ·have : ¬ x = 120 := by simpa using hh
     symm; simp; omega
    ·have : x = 120 := by simpa using hh
     symm; simp; omega
   clear g1 g2 h0 ha1
   go_wp2_with fail
   go_quiet (fail)
   have HS2 := hid (HS.out.drewN nq)
   clear d0 d1 HS
   generalize w1.drewN nq = w2 at *
   go_wp2
   go_ret
   exact ⟨by rw [HA.out]; rfl, HS2.out⟩
  ·have t1 : (((s[a].toNat : Nat) : Int) == 48) = false := by simp; omega
   have HA : Hid (hexB s a = false) := by
    unfold Hid hexB atB
    rw [g1]
    simp [h0]
   clear g1 g2 h0 ha1
   go_wp2_with fail
   go_quiet (fail)
   have HS2 := hid (HS.out.drewN nq)
   clear d0 d1 HS
   generalize w1.drewN nq = w2 at *
   go_wp2
   go_ret
   exact ⟨by rw [HA.out]; rfl, HS2.out⟩
 ·have t0 : decide ((s.size : Int) - a < 2) = true := by simp; omega
  have HA : Hid (hexB s a = false) := by
   unfold Hid hexB atB
   rw [decide_eq_false (show ¬ a + 1 < s.size by omega)]
   simp
  go_wp2
  go_ret
  exact ⟨by rw [HA.out]; rfl, HS.out⟩
end Go.Proofs.YtbkdaoicnobllabGreatDoor

namespace Go.Proofs.YtbkdaoicnobllabGreatDoor
set_option maxRecDepth 100000
set_option maxHeartbeats 1000000
open Go.RowKit

def wordN (s : ByteArray) : Nat → List Nat → Nat
 | _, [] => 0
 | a, x :: r => if atB s a x = true then 1 + wordN s (a + 1) r else 0
theorem wordN_at (s : ByteArray) (l : List Nat) : ∀ (a n : Nat), n ≤ l.length → (∀ j, j < n → atB s (a + j) (l.getD j 0) = true) → (n < l.length → atB s (a + n) (l.getD n 0) = false) → wordN s a l = n := by
 induction l with
 | nil => intro a n h _ _; simp at h; rw [h]; rfl
 | cons x r ih =>
  intro a n hn h1 h2
  cases n with
  | zero =>
   have := h2 (by simp)
   simp at this
   simp [wordN, this]
  | succ n =>
   have h0 := h1 0 (by omega)
   simp at h0
   have := ih (a + 1) n (by simpa using hn) (fun j hj => by have := h1 (j + 1) (by omega); simpa [Nat.add_assoc, Nat.add_comm 1] using this) (fun hl => by have := h2 (by simpa using hl); simpa [Nat.add_assoc, Nat.add_comm 1] using this)
   simp [wordN, h0, this]; omega
theorem atB_lt {s : ByteArray} {a x : Nat} (h : atB s a x = true) : a < s.size := by
 unfold atB at h; simp at h; exact h.1

theorem word_any (b a : Nat) (s wd : ByteArray) (w : World) (h : RdrAt w b s a) (ha : a ≤ s.size) (hs : s.size ≤ 900) (hwd : wd.size ≤ 100) :
  Calls Tryz.prog 60 #[.pointer (some ⟨b, 0, none⟩), .string wd] w fun e w' => e = .returned (.int .i64 (wordN s a (chs wd))) ∧ RPost w w' b s (a + wordN s a (chs wd)) := by
 have HH := hid h
 clear h
 go_enter Tryz.func60, Tryz.ntmps60
 go_wp2
 go_loopw [5] (fun nn wr => ∃ n : Nat, nn = .int .i64 n ∧ n ≤ wd.size ∧ Hid (RPost w wr b s (a + n)) ∧ a + n ≤ s.size ∧ Hid (∀ j, j < n → atB s (a + j) ((chs wd).getD j 0) = true)) (fun nn _ => wd.size - (intOf nn).toNat)
 case atStart => exact ⟨0, rfl, Nat.zero_le _, RPost.still HH.out (Still.refl w), by omega, fun j hj => absurd hj (by omega)⟩
 case round =>
  clear HH
  obtain ⟨n, rfl, hn, HR, han, HJ⟩ := hrel
  by_cases hlt : n < wd.size
  ·have HG := hid (chs_get wd n hlt)
   have HX := hid (pass_any b (a + n) wd[n].toNat s wr HR.out.rdr han hs)
   go_wp2_with fail
   refine HX.out.mono ?_
   rintro e w1 ⟨rfl, h1⟩
   have HR1 := hid (HR.out.trans h1)
   clear HX HR h1
   cases hc : atB s (a + n) wd[n].toNat
   ·have HW : Hid (wordN s a (chs wd) = n) := wordN_at s (chs wd) a n (by rw [chs_length]; omega) HJ.out (fun _ => by rw [HG.out]; exact hc)
    rw [passTo_no hc] at HR1
    clear hc HJ HG
    go_wp2
    go_ret
    exact ⟨by rw [HW.out]; rfl, by rw [HW.out]; exact HR1.out⟩
   ·have han2 : a + (n + 1) ≤ s.size := by have := atB_lt hc; omega
    have HJ2 : Hid (∀ j, j < n + 1 → atB s (a + j) ((chs wd).getD j 0) = true) := by
     intro j hj
     rcases Nat.lt_or_ge j n with h | h
     ·exact HJ.out j h
     ·rw [show j = n from by omega, HG.out]; exact hc
    rw [passTo_yes hc] at HR1
    clear hc HJ HG
    go_wp2
    go_roundw
    case rel => exact ⟨n + 1, by go_num, by omega, HR1.out, han2, HJ2.out⟩
    case measure => simp [intOf]; omega
  ·have hnn : n = wd.size := by omega
   have HW : Hid (wordN s a (chs wd) = n) := wordN_at s (chs wd) a n (by rw [chs_length]; omega) HJ.out (fun h => by rw [chs_length] at h; omega)
   clear HJ
   go_wp2
   go_ret
   exact ⟨by rw [HW.out]; rfl, by rw [HW.out]; exact HR.out⟩
end Go.Proofs.YtbkdaoicnobllabGreatDoor

namespace Go.Proofs.YtbkdaoicnobllabGreatDoor

structure Path (l : List Nat) (a st : Nat) : Prop where
 le : a ≤ l.length
 st : stAt l a = st
 ok : ∀ j, j ≤ a → stAt l j ≠ 28
theorem Path.zero (l : List Nat) : Path l 0 0 := ⟨Nat.zero_le _, rfl, fun j hj => by rw [show j = 0 from by omega]; show (0 : Nat) ≠ 28; omega⟩
theorem Path.step {l : List Nat} {a st st' : Nat} (h : Path l a st) (ha : a < l.length) (hn : nextS st (l.getD a 0) = st') (h28 : st' ≠ 28) : Path l (a + 1) st' := by
 have e : stAt l (a + 1) = st' := by rw [stAt_succ l a ha, h.st]; exact hn
 refine ⟨ha, e, fun j hj => ?_⟩
 rcases Nat.lt_or_ge a j with g | g
 ·rw [show j = a + 1 from by omega, e]; exact h28
 ·exact h.ok j g
structure LRun (q : Nat → Bool) (l : List Nat) (a k : Nat) : Prop where
 ge : a ≤ k
 le : k ≤ l.length
 all : ∀ c, c ∈ cut l a k → q c = true
 fin : k < l.length → q (l.getD k 0) = false
theorem mem_cut {l : List Nat} {a k j : Nat} (h1 : a ≤ j) (h2 : j < k) (h3 : k ≤ l.length) : l.getD j 0 ∈ cut l a k := by
 unfold cut
 rw [List.mem_iff_getElem?]
 refine ⟨j - a, ?_⟩
 rw [List.getElem?_drop, show a + (j - a) = j from by omega, List.getElem?_take_of_lt h2, List.getD_eq_getElem?_getD, List.getElem?_eq_getElem (by omega)]; rfl
theorem Path.run {l : List Nat} {a st : Nat} (h : Path l a st) (h28 : st ≠ 28) (q : Nat → Bool) (hq : ∀ c, q c = true → nextS st c = st) : ∀ k, a ≤ k → k ≤ l.length → (∀ c, c ∈ cut l a k → q c = true) → Path l k st := by
 intro k
 induction k with
 | zero => intro hk _ _; rw [show (0 : Nat) = a from by omega]; exact h
 | succ k ih =>
  intro hk hkl hall
  rcases Nat.lt_or_ge a (k + 1) with g | g
  ·have h1 := ih (by omega) (by omega) (fun c hc => hall c (by rw [cut_snoc l a k (by omega) (by omega)]; exact List.mem_append_left _ hc))
   exact h1.step hkl (hq _ (hall _ (mem_cut (by omega) (by omega) hkl))) h28
  ·rw [show k + 1 = a from by omega]; exact h
theorem Path.run1 {l : List Nat} {a st st' k : Nat} (h : Path l a st) (h28 : st' ≠ 28) (q : Nat → Bool) (hq : ∀ c, q c = true → nextS st c = st') (hq2 : ∀ c, q c = true → nextS st' c = st') (hr : LRun q l a k) (hak : a < k) : Path l k st' := by
 have h1 := h.step (Nat.lt_of_lt_of_le hak hr.le) (hq _ (hr.all _ (mem_cut (Nat.le_refl _) hak hr.le))) h28
 refine h1.run h28 q hq2 k hak hr.le (fun c hc => hr.all c ?_)
 unfold cut at hc ⊢
 rw [← List.drop_drop] at hc
 exact List.mem_of_mem_drop hc
theorem cut_nil {l : List Nat} {a k : Nat} (h1 : a ≤ k) (h2 : k ≤ l.length) : cut l a k = [] ↔ k = a := by
 unfold cut; rw [List.drop_eq_nil_iff, List.length_take, Nat.min_eq_left h2]; omega

theorem digV_isDig (c : Nat) : (0 ≤ digV c 10 ↔ isDig c = true) ∧ (digV c 10 = -1 → isDig c = false) ∧ (isDig c = true → digV c 10 = ((c - 48 : Nat) : Int)) := by
 unfold digV isDig
 by_cases h : 48 ≤ c ∧ c ≤ 57
 ·rw [if_pos h]; simp [h]; omega
 ·rw [if_neg h]; simp
  by_cases h1 : 48 ≤ c
  ·simp [h1]; omega
  ·simp [h1]
theorem digV_isHexc (c : Nat) : (0 ≤ digV c 16 ↔ isHexc c = true) ∧ (digV c 16 = -1 → isHexc c = false) ∧ (isHexc c = true → digV c 16 = (hexv c : Int)) := by
 unfold digV isHexc isDig hexv
 by_cases h : 48 ≤ c ∧ c ≤ 57
 ·rw [if_pos h]; simp [h]; omega
 ·rw [if_neg h]
  by_cases h2 : 97 ≤ c ∧ c ≤ 102
  ·rw [if_pos ⟨rfl, h2⟩, if_neg (show ¬ c ≤ 57 by omega)]; simp [h2]; omega
  ·rw [if_neg (fun hh => h2 hh.2)]
   have e1 : (decide (48 ≤ c) && decide (c ≤ 57)) = false := by simp; omega
   have e2 : (decide (97 ≤ c) && decide (c ≤ 102)) = false := by simp; omega
   rw [e1, e2]; simp
def push (base : Nat) (D : List Nat) (c : Nat) : List Nat := if 0 < digV c base ∨ 0 < D.length then D ++ [(digV c base).toNat] else D
def pushes (base : Nat) (D : List Nat) (X : List Nat) : List Nat := X.foldl (push base) D
theorem pushes_snoc (base : Nat) (D X : List Nat) (c : Nat) : pushes base D (X ++ [c]) = push base (pushes base D X) c := by unfold pushes; rw [List.foldl_append]; rfl
theorem pushes_append (base : Nat) (D X Y : List Nat) : pushes base D (X ++ Y) = pushes base (pushes base D X) Y := by unfold pushes; rw [List.foldl_append]
theorem pushes_len (base : Nat) (D X : List Nat) : (pushes base D X).length ≤ D.length + X.length := by
 induction X generalizing D with
 | nil => simp [pushes]
 | cons c r ih =>
  have h := ih (push base D c)
  have h2 : (push base D c).length ≤ D.length + 1 := by unfold push; split <;> simp
  show (pushes base (push base D c) r).length ≤ _
  simp; omega

def Mant (q : Nat → Bool) (l : List Nat) (a k2 : Nat) (X : List Nat) (b : Nat) (pt : Bool) : Prop :=
 (pt = false ∧ LRun q l a k2 ∧ (k2 < l.length → l.getD k2 0 ≠ 46) ∧ X = cut l a k2 ∧ b = 0) ∨
 (pt = true ∧ ∃ k1, LRun q l a k1 ∧ k1 < l.length ∧ l.getD k1 0 = 46 ∧ LRun q l (k1 + 1) k2 ∧ X = cut l a k1 ++ cut l (k1 + 1) k2 ∧ b = k2 - (k1 + 1))
def capPow (l : List Nat) : Nat := l.foldl (fun p c => if p < 1000000 then p * 10 + (c - 48) else p) 0
theorem capPow_snoc (l : List Nat) (c : Nat) : capPow (l ++ [c]) = if capPow l < 1000000 then capPow l * 10 + (c - 48) else capPow l := by unfold capPow; rw [List.foldl_append]; rfl
def sgnI (ng : Bool) (p : Int) : Int := if ng = true then -p else p
def Powr (l : List Nat) (a k : Nat) (ok : Bool) (x : Int) : Prop :=
 ∃ (a1 : Nat) (ng : Bool), ((a < l.length ∧ sgn (l.getD a 0) = true ∧ a1 = a + 1 ∧ ng = (l.getD a 0 == 45)) ∨ ((a < l.length → sgn (l.getD a 0) = false) ∧ a1 = a ∧ ng = false)) ∧
  LRun isDig l a1 k ∧ ok = decide (a1 < k) ∧ x = sgnI ng (capPow (cut l a1 k))
def DecRes (l : List Nat) (a k : Nat) (ok : Bool) (D : List Nat) (pw : Int) : Prop :=
  ∃ k2 X b pt, Mant isDig l a k2 X b pt ∧ D = pushes 10 [] X ∧
    ((X = [] ∧ ok = false ∧ k = k2) ∨ (X ≠ [] ∧ ok = true ∧ k = k2 ∧ pw = -(b : Int) ∧ (k2 < l.length → l.getD k2 0 ≠ 101)) ∨
     (X ≠ [] ∧ k2 < l.length ∧ l.getD k2 0 = 101 ∧ ∃ x, Powr l (k2 + 1) k ok x ∧ pw = -(b : Int) + x))
def HexRes (l : List Nat) (a k : Nat) (ok : Bool) (D : List Nat) (pw : Int) : Prop :=
 (LRun isHexc l a a ∧ ok = false ∧ k = a) ∨
 (∃ k2 X b pt, Mant isHexc l a k2 X b pt ∧ (a < l.length ∧ isHexc (l.getD a 0) = true) ∧ D = pushes 16 [] X ∧
  ((ok = false ∧ k = k2 ∧ (k2 < l.length → l.getD k2 0 ≠ 112)) ∨ (k2 < l.length ∧ l.getD k2 0 = 112 ∧ ∃ x, Powr l (k2 + 1) k ok x ∧ pw = -4 * (b : Int) + x)))

structure Stop (l : List Nat) (k : Nat) (ok : Bool) (st : Nat) : Prop where
 path : Path l k st
 fin : k < l.length → nextS st (l.getD k 0) = 28
 ok : ok = endsB st
theorem powr_stop {l : List Nat} {a k : Nat} {ok : Bool} {x : Int} (e0 e1 e2 : Nat) (hp : Path l a e0)
  (h0 : ∀ c, nextS e0 c = if isDig c = true then e2 else if sgn c = true then e1 else 28) (h1 : ∀ c, nextS e1 c = if isDig c = true then e2 else 28) (h2 : ∀ c, nextS e2 c = if isDig c = true then e2 else 28)
  (n1 : e1 ≠ 28) (n2 : e2 ≠ 28) (k0 : endsB e0 = false) (k1 : endsB e1 = false) (k2 : endsB e2 = true) (h : Powr l a k ok x) : ∃ st, Stop l k ok st ∧ (ok = true → st = e2) := by
 obtain ⟨a1, ng, hs, hr, hok, _⟩ := h
 have sg : ∀ c, sgn c = true → isDig c = false := by
  intro c hc; unfold sgn at hc; simp at hc; rcases hc with rfl | rfl <;> rfl
 have key : ∃ e, Path l a1 e ∧ (∀ c, isDig c = true → nextS e c = e2) ∧ (a1 < l.length → isDig (l.getD a1 0) = false → nextS e (l.getD a1 0) = 28) ∧ endsB e = false := by
  rcases hs with ⟨g1, g2, g3, _⟩ | ⟨g1, g2, _⟩
  ·refine ⟨e1, ?_, fun c hc => by rw [h1, if_pos hc], fun _ hd => by rw [h1, hd]; rfl, k1⟩
   rw [g3]
   exact hp.step g1 (by rw [h0, sg _ g2, g2]; rfl) n1
  ·refine ⟨e0, by rw [g2]; exact hp, fun c hc => by rw [h0, if_pos hc], fun hl hd => by rw [h0, hd, g2, g1 (by rw [← g2]; exact hl)]; rfl, k0⟩
 obtain ⟨e, p1, p2, p3, p4⟩ := key
 rcases Nat.lt_or_ge a1 k with hlt | hge
 ·have hp2 := p1.run1 n2 isDig p2 (fun c hc => by rw [h2, if_pos hc]) hr hlt
  exact ⟨e2, ⟨hp2, fun hk => by rw [h2, hr.fin hk]; rfl, by rw [hok, k2]; simpa using hlt⟩, fun _ => rfl⟩
 ·have hk : k = a1 := Nat.le_antisymm hge hr.ge
  subst hk
  exact ⟨e, ⟨p1, fun hk => p3 hk (hr.fin hk), by rw [hok, p4]; simp⟩, fun h => by rw [hok] at h; simp at h⟩
end Go.Proofs.YtbkdaoicnobllabGreatDoor
