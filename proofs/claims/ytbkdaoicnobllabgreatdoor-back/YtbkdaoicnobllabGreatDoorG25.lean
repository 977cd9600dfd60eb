import Derived.Test.YtbkdaoicnobllabGreatDoorG24
import Derived.Test.YtbkdaoicnobllabGreatDoorG02

/- Plain mathematics: what was printed is read as what it was. -/
namespace Go.Proofs.YtbkdaoicnobllabGreatDoor
set_option exponentiation.threshold 40000

/-- How far the neighbours are, at least. -/
theorem gap_up {f : Int} (hf : 0 ≤ f ∧ f ≤ 2) {a : Nat} (h1 : (a : Int) < infN f) : valA 3000 f a ≤ 9007199254740992 * (valA 3000 f (a + 1) - valA 3000 f a) := by
  obtain ⟨e1, e2⟩ := valA_step (K := 3000) f a (by omega)
  have hm := (sx_bd hf h1).2.2
  have ht := two_pos 3000 (fE f + (xA (fQ f) a : Nat))
  generalize two 3000 (fE f + (xA (fQ f) a : Nat)) = t at *
  generalize mA (fQ f) a = M at *
  rw [e1, e2, Nat.mul_add, Nat.mul_one, Nat.add_sub_cancel_left, Nat.mul_comm t]
  exact Nat.mul_le_mul_right t hm
theorem gap_down {f : Int} (hf : 0 ≤ f ∧ f ≤ 2) {a : Nat} (h0 : 0 < a) (h1 : (a : Int) < infN f) : valA 3000 f a ≤ 9007199254740992 * (valA 3000 f a - valA 3000 f (a - 1)) := by
  obtain ⟨b, rfl⟩ : ∃ b, a = b + 1 := ⟨a - 1, by omega⟩
  rw [Nat.add_sub_cancel]
  obtain ⟨e1, e2⟩ := valA_step (K := 3000) f b (by omega)
  have hl := mA_lt (fQ f) b
  have hm : mA (fQ f) b + 1 ≤ 9007199254740992 := by
    rcases (by omega : f = 0 ∨ f = 1 ∨ f = 2) with rfl | rfl | rfl
    · rw [pQ0] at hl; omega
    · rw [pQ1] at hl; omega
    · rw [pQ2] at hl; omega
  generalize two 3000 (fE f + (xA (fQ f) b : Nat)) = t at *
  generalize mA (fQ f) b = M at *
  rw [e1, e2, Nat.mul_add, Nat.mul_one, Nat.add_sub_cancel_left, ← Nat.mul_succ, Nat.mul_comm t]
  exact Nat.mul_le_mul_right t hm
theorem rnd_near (V P : Nat) (hP : 0 < P) : 2 * (rndN (awayB 0 false) V P * P) ≤ 2 * V + P ∧ 2 * V ≤ 2 * (rndN (awayB 0 false) V P * P) + P := by
  have hd := Nat.div_add_mod V P
  have hm := Nat.mod_lt V hP
  rw [Nat.mul_comm] at hd
  have hs : (V / P + 1) * P = V / P * P + P := by rw [Nat.add_mul, Nat.one_mul]
  unfold rndN
  split
  · rename_i h
    obtain ⟨h0, h1⟩ := h
    rw [hs]
    rw [away_zero] at h1
    have hl : leftN V P = 3 ∨ leftN V P = 2 := by
      simp only [Bool.or_eq_true, Bool.and_eq_true, beq_iff_eq] at h1
      rcases h1 with h1 | h1
      · exact .inl h1
      · exact .inr h1.1
    unfold leftN at hl
    split at hl
    · omega
    · split at hl
      · omega
      · omega
  · rename_i h
    have hl : leftN V P ≠ 3 := by
      intro h3
      apply h
      refine ⟨by omega, ?_⟩
      rw [away_zero, h3]; rfl
    unfold leftN at hl
    split at hl
    · omega
    · split at hl
      · omega
      · split at hl
        · omega
        · omega
/-- In steps that are less than the neighbours are apart the nearest is the number's. -/
theorem near_own {f : Int} {a P : Nat} (hP : 0 < P) (h0 : 0 < a) (h1 : P < valA 3000 f (a + 1) - valA 3000 f a) (h2 : P < valA 3000 f a - valA 3000 f (a - 1)) : Hold 3000 f a (rndN (awayB 0 false) (valA 3000 f a) P * P) := by
  obtain ⟨n1, n2⟩ := rnd_near (valA 3000 f a) P hP
  have m1 := valA_lt 3000 f (a - 1) (by omega)
  rw [show a - 1 + 1 = a from by omega] at m1
  rw [Hold.iff]
  by_cases he : a % 2 = 0
  · exact .inl ⟨he, by omega, by omega⟩
  · exact .inr ⟨he, by omega, by omega⟩
theorem far_steps {f : Int} (hf : 0 ≤ f ∧ f ≤ 2) {a : Nat} (h0 : 0 < a) (h1 : (a : Int) < infN f) {k : Nat} (hk : 10 ^ (k + 16) ≤ valA 3000 f a) : 10 ^ k < valA 3000 f (a + 1) - valA 3000 f a ∧ 10 ^ k < valA 3000 f a - valA 3000 f (a - 1) := by
  have g1 := gap_up hf h1
  have g2 := gap_down hf h0 h1
  rw [Nat.pow_add, show (10 : Nat) ^ 16 = 10000000000000000 from by decide] at hk
  have hp : 0 < 10 ^ k := Nat.pow_pos (by omega)
  generalize 10 ^ k = P at *
  generalize valA 3000 f (a + 1) - valA 3000 f a = A at *
  generalize valA 3000 f a - valA 3000 f (a - 1) = B at *
  omega
theorem StepYes.hold {H : Nat → Prop} {V P X : Nat} (h : StepYes H V P X) (hV : H V) : H X := by
  rcases h with ⟨_, rfl⟩ | ⟨_, ⟨h1, h2, rfl⟩ | ⟨h1, _, rfl⟩ | ⟨_, h2, rfl⟩⟩
  · exact hV
  · rcases rnd_either (awayB 0 false) V P with e | e
    · rw [e]; exact h1
    · rw [e]; exact h2
  · exact h1
  · exact h2
theorem StepYes.mult {H : Nat → Prop} {V P X : Nat} (h : StepYes H V P X) : X % P = 0 ∧ V / P * P ≤ X ∧ X ≤ V / P * P + P := by
  rcases h with ⟨h0, rfl⟩ | ⟨_, ⟨h1, h2, rfl⟩ | ⟨h1, _, rfl⟩ | ⟨_, h2, rfl⟩⟩
  · have := Nat.div_add_mod X P
    rw [h0, Nat.add_zero, Nat.mul_comm] at this
    exact ⟨h0, by omega, by omega⟩
  · refine ⟨Nat.mul_mod_left _ _, ?_⟩
    rcases rnd_either (awayB 0 false) V P with e | e <;> omega
  · exact ⟨Nat.mul_mod_left _ _, by omega, by omega⟩
  · exact ⟨by rw [← Nat.succ_mul]; exact Nat.mul_mod_left _ _, by omega, by omega⟩
theorem hold_bd {f : Int} (hf : 0 ≤ f ∧ f ≤ 2) {a X : Nat} (h0 : 0 < a) (h1 : (a : Int) < infN f) (h : Hold 3000 f a X) : 10 ^ 2610 ≤ X ∧ X < 10 ^ 3390 := by
  obtain ⟨b1, b2⟩ := valA_bd hf h0 h1
  have b3 : valA 3000 f (a + 1) < 10 ^ 3380 := by
    refine Nat.lt_of_le_of_lt (valA_mono 3000 f (by omega) (show a + 1 ≤ infN f by omega)) ?_
    rcases (by omega : f = 0 ∨ f = 1 ∨ f = 2) with rfl | rfl | rfl <;> decide +kernel
  have e1 : (10 : Nat) ^ 2610 * 10000000000 = 10 ^ 2620 := by rw [show (10000000000 : Nat) = 10 ^ 10 from by decide, ← Nat.pow_add]
  have e2 : (10 : Nat) ^ 3380 * 10000000000 = 10 ^ 3390 := by rw [show (10000000000 : Nat) = 10 ^ 10 from by decide, ← Nat.pow_add]
  rw [Hold.iff] at h
  generalize (10 : Nat) ^ 2610 = A at *
  generalize (10 : Nat) ^ 2620 = B at *
  generalize (10 : Nat) ^ 3380 = C at *
  generalize (10 : Nat) ^ 3390 = D at *
  rcases h with ⟨_, h2, h3⟩ | ⟨_, h2, h3⟩ <;> exact ⟨by omega, by omega⟩
/-- Seventeen digits are always enough. -/
theorem ShortAt.steps {f : Int} (hf : 0 ≤ f ∧ f ≤ 2) {a : Nat} (h0 : 0 < a) (h1 : (a : Int) < infN f) {D : List Nat} {e p : Int} {X : Nat} (h : ShortAt f a D e p X) : e + D.length - 1 - 16 ≤ p ∧ -500 ≤ e + D.length - 1 := by
  have hb := valA_bd hf h0 h1
  have hg := val_ge h.headed h.pos 3000 e h.lo
  have hlt := val_lt h.digs 3000 e h.lo
  rw [h.val] at hg hlt
  have ht : (2620 : Nat) < (e + D.length + (3000 : Nat)).toNat := (Nat.pow_lt_pow_iff_right (a := 10) (by omega)).1 (Nat.lt_of_le_of_lt hb.1 hlt)
  refine ⟨?_, by omega⟩
  apply Int.not_lt.1; intro hp
  have hno := h.no (e + D.length - 1 - 16) (by omega) (by omega)
  obtain ⟨k, hk⟩ : ∃ k : Nat, (e + D.length - 1 - 16 + (3000 : Nat)).toNat = k := ⟨_, rfl⟩
  rw [hk] at hno
  have hs := far_steps hf h0 h1 (k := k) (by rw [show k + 16 = (e + D.length - 1 + (3000 : Nat)).toNat from by omega]; exact hg)
  have hh := near_own (P := 10 ^ k) (Nat.pow_pos (by omega)) h0 hs.1 hs.2
  obtain ⟨_, n1, n2⟩ := hno
  rcases rnd_either (awayB 0 false) (valA 3000 f a) (10 ^ k) with e | e
  · rw [e] at hh; exact n1 hh
  · rw [e] at hh; exact n2 hh
/-- The shortest digits: where they lie. -/
theorem short_rows {f : Int} (hf : 0 ≤ f ∧ f ≤ 2) {a : Nat} (h0 : 0 < a) (h1 : (a : Int) < infN f) {D L : List Nat} {e p g : Int} {X : Nat} (h : ShortAt f a D e p X) (hn : Norm L) (hl : L ≠ []) (hg : -(3000 : Int) ≤ g) (hv : val 3000 L g = X) :
    p ≤ g ∧ e + D.length ≤ g + L.length ∧ g + L.length ≤ e + D.length + 1 ∧ (g + L.length = e + D.length + 1 → X = 10 ^ (e + D.length + (3000 : Nat)).toNat) ∧ L.length ≤ 18 := by
  obtain ⟨s1, s2⟩ := h.steps hf h0 h1
  have hple := h.le
  have hp := List.length_pos_iff.2 hl
  obtain ⟨m1, m2, m3⟩ := h.yes.mult
  have hge := val_ge h.headed h.pos 3000 e h.lo
  have hlt := val_lt h.digs 3000 e h.lo
  rw [h.val] at hge hlt
  have lge := val_ge hn.headed hp 3000 g hg
  have llt := val_lt hn.digs 3000 g hg
  rw [hv] at lge llt
  -- the steps do not pass the number's power
  obtain ⟨k, hk⟩ : ∃ k : Nat, k = (p + (3000 : Nat)).toNat := ⟨_, rfl⟩
  rw [← hk] at m1 m2 m3
  have hpg : p ≤ g := by
    apply Int.not_lt.1; intro hlt2
    have hu := norm_last hn hl
    unfold val at hv
    obtain ⟨c, hc⟩ : ∃ c, k = (g + (3000 : Nat)).toNat + 1 + c := ⟨k - (g + (3000 : Nat)).toNat - 1, by omega⟩
    rw [← hv, hc, Nat.pow_add, Nat.pow_succ] at m1
    have hq : 0 < 10 ^ (g + (3000 : Nat)).toNat := Nat.pow_pos (by omega)
    rw [Nat.mul_comm (num L), Nat.mul_assoc, Nat.mul_mod_mul_left] at m1
    have hz : num L % (10 * 10 ^ c) = 0 := by
      rcases Nat.mul_eq_zero.1 m1 with z | z
      · omega
      · exact z
    have hz2 : num L % 10 = 0 := by
      have := Nat.mod_mul_right_mod (num L) 10 (10 ^ c)
      rw [hz] at this; simpa using this.symm
    exact hu hz2
  have hP : 0 < 10 ^ k := Nat.pow_pos (by omega)
  -- X between the powers of ten
  have x1 : 10 ^ (e + D.length - 1 + (3000 : Nat)).toNat ≤ X := by
    refine Nat.le_trans ?_ m2
    obtain ⟨c, hc⟩ : ∃ c, (e + D.length - 1 + (3000 : Nat)).toNat = c + k := ⟨(e + D.length - 1 + (3000 : Nat)).toNat - k, by omega⟩
    rw [hc, Nat.pow_add] at hge ⊢
    exact Nat.mul_le_mul_right _ ((Nat.le_div_iff_mul_le hP).2 hge)
  have x2 : X ≤ 10 ^ (e + D.length + (3000 : Nat)).toNat := by
    refine Nat.le_trans m3 ?_
    obtain ⟨c, hc⟩ : ∃ c, (e + D.length + (3000 : Nat)).toNat = c + k := ⟨(e + D.length + (3000 : Nat)).toNat - k, by omega⟩
    rw [hc, Nat.pow_add] at hlt ⊢
    rw [← Nat.succ_mul]
    exact Nat.mul_le_mul_right _ ((Nat.div_lt_iff_lt_mul hP).2 hlt)
  have t1 := (Nat.pow_lt_pow_iff_right (a := 10) (by omega)).1 (Nat.lt_of_le_of_lt x1 llt)
  have t2 := (Nat.pow_le_pow_iff_right (a := 10) (by omega)).1 (Nat.le_trans lge x2)
  refine ⟨hpg, by omega, by omega, fun he => ?_, by omega⟩
  rw [show g + (L.length : Int) - 1 + (3000 : Nat) = e + D.length + (3000 : Nat) from by omega] at lge
  omega
theorem round_even {K : Nat} {f : Int} {neg : Bool} {X : Nat} {r fl : Int} (h : RoundSpec K f 0 neg X r fl) : RoundSpec K f 0 false X r fl := by
  cases neg
  · exact h
  · exact h
theorem Says.hold {l : List Nat} {X : Nat} {neg : Bool} {f b fl at' err : Int} {a : Nat} (hs : Says l (X * 10 ^ 27000)) (hl : (minusL neg l).length ≤ 900) (hf : 0 ≤ f ∧ f ≤ 2) (h0 : 0 < a) (h1 : (a : Int) < infN f) (hX : 0 < X) (hp : ProgSpec 30000 (minusL neg l) f 0 b fl at' err) :
    err = 0 ∧ ∃ r, b = signedV f neg r ∧ (r = (a : Int) ↔ Hold 3000 f a X) := by
  obtain ⟨_, q2, r, q3, q4⟩ := hs.reads hl ⟨hf.1, hf.2, by omega, by omega⟩ hp
  have q5 := round_scale (K := 3000) (c := 27000) (by omega) (round_even q3)
  exact ⟨q2, r, q4, round_hold (by omega) hX h0 (by omega) q5⟩
/-- The text with a minus ahead, if so. -/
def minusT (neg : Bool) (T : List UInt8) : List UInt8 := (if neg = true then [45] else []) ++ T
theorem chs_minusT (neg : Bool) (T : List UInt8) : chs (str (minusT neg T)) = minusL neg (chs (str T)) := by
  rw [chs_str, chs_str]
  cases neg <;> rfl
theorem minusT_length (neg : Bool) (T : List UInt8) : (minusL neg (chs (str T))).length ≤ T.length + 1 := by
  rw [← chs_minusT, chs_str, List.length_map]
  unfold minusT; rw [List.length_append]; split <;> simp; omega
theorem says_zero : Says [48] 0 := ⟨48, [], 2, rfl, rfl, rfl, by omega, by decide +kernel⟩
theorem says_zero16 : Says [48, 120, 48, 112, 48] 0 := ⟨48, [120, 48, 112, 48], 15, rfl, rfl, by decide, by omega, by decide +kernel⟩
theorem Says.zero {l : List Nat} {neg : Bool} {f m b fl at' err : Int} (hs : Says l 0) (hl : (minusL neg l).length ≤ 900) (hv : 0 ≤ f ∧ f ≤ 2 ∧ 0 ≤ m ∧ m ≤ 4) (hp : ProgSpec 30000 (minusL neg l) f m b fl at' err) : b = signedV f neg 0 ∧ fl = 0 ∧ at' = 0 ∧ err = 0 := by
  obtain ⟨q1, q2, r, q3, q4⟩ := hs.reads hl hv hp
  obtain ⟨z1, z2⟩ := RoundSpec.zero q3
  exact ⟨by rw [q4, z1], z2, q1, q2⟩
/-- The shortest text says its number. -/
theorem short_says {f : Int} (hf : 0 ≤ f ∧ f ≤ 2) {a : Nat} (h0 : 0 < a) (h1 : (a : Int) < infN f) {T : List UInt8} (h : ShortQ false f a T) : ∃ X, Says (chs (str T)) (X * 10 ^ 27000) ∧ Hold 3000 f a X ∧ 0 < X ∧ T.length ≤ 40 := by
  rcases h with ⟨h, _⟩ | ⟨_, D, e, p, X, L, g, h2, h3, h4, h5, h6, rfl⟩
  · omega
  · have hh := h2.yes.hold (hold_self 3000 f a (by omega) h0)
    obtain ⟨b1, b2⟩ := hold_bd hf h0 h1 hh
    obtain ⟨_, _, _, _, r5⟩ := short_rows hf h0 h1 h2 h3 h4 h5 h6
    have hp := List.length_pos_iff.2 h4
    obtain ⟨w1, w2⟩ := row_range h3.digs h3.headed hp h5 (by rw [h6]; exact b1) (by rw [h6]; exact b2)
    have hlen := (itoa_pow (g + L.length - 1) (by omega) (by omega)).2.1
    have hsl := sciT_length L g (g + L.length - 1) (L.length - 1)
    unfold shortT
    rw [if_neg (by decide)]
    refine ⟨X, ?_, hh, Nat.lt_of_lt_of_le (Nat.pow_pos (by omega)) b1, by rw [List.length_append, List.length_cons]; omega⟩
    have := sci_says (L := L) (g := g) (top := g + L.length - 1) (n := L.length - 1) h3.digs h5 (by omega) (by omega) (by omega) (by omega) (by
      rw [show g + (L.length : Int) - 1 - ((L.length - 1 : Nat) : Int) = g from by omega]
      exact val_mod L 3000 g g (by omega) (by omega)) (by rw [h6]; exact b1) (by rw [h6]; exact b2)
    rw [h6] at this
    exact this
theorem rowT_app (L : List Nat) (e hi : Int) (m n : Nat) : rowT L e hi (m + n) = rowT L e hi m ++ rowT L e (hi - m) n := by
  induction n with
  | zero => simp [rowT]
  | succ n ih =>
    rw [← Nat.add_assoc, rowT, ih, rowT, ← List.append_assoc, show hi - ((m + n : Nat) : Int) = hi - (m : Int) - n from by omega]
/-- The shortest text without a power says its number. -/
theorem plain_text {f : Int} (hf : 0 ≤ f ∧ f ≤ 2) {a : Nat} (h0 : 0 < a) (h1 : (a : Int) < infN f) {T : List UInt8} (h : ShortQ true f a T) (hT : T.length ≤ 900) : ∃ X, Says (chs (str T)) (X * 10 ^ 27000) ∧ Hold 3000 f a X ∧ 0 < X := by
  rcases h with ⟨h, _⟩ | ⟨_, D, e, p, X, L, g, h2, h3, h4, h5, h6, hTT⟩
  · omega
  · have hh := h2.yes.hold (hold_self 3000 f a (by omega) h0)
    obtain ⟨b1, b2⟩ := hold_bd hf h0 h1 hh
    have hp := List.length_pos_iff.2 h4
    refine ⟨X, ?_, hh, Nat.lt_of_lt_of_le (Nat.pow_pos (by omega)) b1⟩
    unfold shortT at hTT
    rw [if_pos rfl] at hTT
    obtain ⟨b, hb⟩ : ∃ b : Nat, b = (-(min g 0)).toNat := ⟨_, rfl⟩
    obtain ⟨hi, hhi⟩ : ∃ hi : Nat, hi = highN L g := ⟨_, rfl⟩
    rw [← hb, ← hhi] at hTT
    have hhv : (hi : Int) = max (g + L.length - 1) 0 := by rw [hhi]; unfold highN; rw [if_neg h4]; omega
    have hlb : b ≤ 900 := by
      rw [hTT] at hT
      unfold fixT at hT
      by_cases hb0 : b = 0
      · omega
      · rw [if_neg hb0] at hT
        simp [rowT_length] at hT
        omega
    have e1 : chs (str T) = (rowT L g hi (hi + 1)).map UInt8.toNat ++ ptL (decide (b ≠ 0)) ++ (rowT L g (-1) b).map UInt8.toNat := by
      rw [chs_str, hTT]
      unfold fixT
      by_cases hb0 : b = 0
      · subst hb0; simp [ptL, rowT]
      · rw [if_neg hb0]; simp [ptL, hb0]
    rw [e1]
    have hBl : ((rowT L g (-1) b).map UInt8.toNat).length = b := by rw [List.length_map, rowT_length]
    refine plain_says (e := -(b : Int)) (row_all h3.digs g hi (hi + 1)) (row_all h3.digs g (-1) b) (fun hn => by
        have := congrArg List.length hn
        rw [List.length_map, rowT_length] at this
        simp at this) (fun hpt => by
        have hb0 : b = 0 := by simpa using hpt
        subst hb0; rfl) (fun hpt hn => by
        have hb0 : b ≠ 0 := by simpa using hpt
        rw [hn] at hBl
        simp at hBl
        omega) (by rw [hBl]) (by rw [hBl]; omega) ?_ b1 b2
    have e2 : (rowT L g hi (hi + 1)).map UInt8.toNat ++ (rowT L g (-1) b).map UInt8.toNat = (rowT L g hi (hi + 1 + b)).map UInt8.toNat := by
      rw [rowT_app L g hi (hi + 1) b, List.map_append, show (hi : Int) - ((hi + 1 : Nat) : Int) = -1 from by omega]
    rw [e2]
    have n1 := num_row h3.digs 3000 g hi h5 (hi + 1 + b) (by omega)
    rw [show (hi : Int) + 1 - ((hi + 1 + b : Nat) : Int) + (3000 : Nat) = -(b : Int) + (3000 : Nat) from by omega, h6] at n1
    have hlt := val_lt h3.digs 3000 g h5
    rw [h6] at hlt
    have hP : 0 < 10 ^ (-(b : Int) + (3000 : Nat)).toNat := Nat.pow_pos (by omega)
    have hq : X / 10 ^ (-(b : Int) + (3000 : Nat)).toNat < 10 ^ (hi + 1 + b) := by
      rw [Nat.div_lt_iff_lt_mul hP, ← Nat.pow_add]
      exact Nat.lt_of_lt_of_le hlt (Nat.pow_le_pow_right (by omega) (by omega))
    rw [Nat.mod_eq_of_lt hq] at n1
    have hz : X % 10 ^ (-(b : Int) + (3000 : Nat)).toNat = 0 := by
      rw [← h6]; exact val_mod L 3000 g (-(b : Int)) (by omega) (by omega)
    unfold val
    rw [n1]
    have := Nat.div_add_mod X (10 ^ (-(b : Int) + (3000 : Nat)).toNat)
    rw [hz, Nat.add_zero, Nat.mul_comm] at this
    exact this
/-- Seventeen digits say a number of which this one is the nearest. -/
theorem exp_says {f : Int} (hf : 0 ≤ f ∧ f ≤ 2) {a : Nat} (h0 : 0 < a) (h1 : (a : Int) < infN f) {T : List UInt8} (h : ExpQ (awayB 0 false) (valA 3000 f a) 16 T) : ∃ X, Says (chs (str T)) (X * 10 ^ 27000) ∧ Hold 3000 f a X ∧ 0 < X ∧ T.length ≤ 40 := by
  obtain ⟨bb1, bb2⟩ := valA_bd hf h0 h1
  obtain ⟨D, e, L, g, h⟩ := h.some (Nat.lt_of_lt_of_le (Nat.pow_pos (by omega)) bb1)
  have hg := val_ge h.headed h.pos 3000 e h.lo
  have hlt := val_lt h.digs 3000 e h.lo
  rw [h.val] at hg hlt
  have ht : (2620 : Nat) < (e + D.length + (3000 : Nat)).toNat := (Nat.pow_lt_pow_iff_right (a := 10) (by omega)).1 (Nat.lt_of_le_of_lt bb1 hlt)
  obtain ⟨k, hk⟩ : ∃ k : Nat, (e + D.length - 1 - (16 : Nat) + (3000 : Nat)).toNat = k := ⟨_, rfl⟩
  have hs := far_steps hf h0 h1 (k := k) (by rw [show k + 16 = (e + D.length - 1 + (3000 : Nat)).toNat from by omega]; exact hg)
  have hh := near_own (P := 10 ^ k) (Nat.pow_pos (by omega)) h0 hs.1 hs.2
  have hv := h.val'
  rw [hk] at hv
  rw [← hv] at hh
  obtain ⟨b1, b2⟩ := hold_bd hf h0 h1 hh
  obtain ⟨w1, w2⟩ := row_range h.digs' h.headed' h.pos' h.lo' b1 b2
  have hlen := (itoa_pow (g + L.length - 1) (by omega) (by omega)).2.1
  have hsl := sciT_length L g (g + L.length - 1) 16
  refine ⟨val 3000 L g, ?_, hh, Nat.lt_of_lt_of_le (Nat.pow_pos (by omega)) b1, by rw [h.text, List.length_append, List.length_cons]; omega⟩
  have hT := h.text
  have := sci_says (L := L) (g := g) (top := g + L.length - 1) (n := 16) h.digs' h.lo' (by omega) (by omega) (by omega) (by omega) h.whole b1 b2
  rw [← hT] at this
  exact this
theorem zero_says (n : Nat) (hn : n ≤ 800) : Says (chs (str (fixT [] 0 0 n ++ [101, 48]))) 0 := by
  have hs : fixT [] 0 0 n ++ [101, 48] = sciT [] 0 0 n ++ 101 :: [48] := by unfold fixT sciT; rfl
  rw [hs]
  have hA := row_all Digs.nil 0 0 1
  have hB := row_all Digs.nil 0 (0 - 1) n
  have hBl : ((rowT [] 0 (0 - 1) n).map UInt8.toNat).length = n := by rw [List.length_map, rowT_length]
  have hpw : PowT (([48] : List UInt8).map UInt8.toNat) := ⟨[], [48], rfl, .inl rfl, fun c hc => by rw [List.mem_singleton.1 hc]; rfl, by simp⟩
  have hpv : expVal (([48] : List UInt8).map UInt8.toNat) = 0 := by decide
  have hpl := sci_parts [] 0 0 n [48]
  obtain ⟨t1, t2, t3⟩ := text_num 30000 hpl (.inl rfl) hA hB (by simp [rowT]) (fun h => by
      have hn0 : n = 0 := by simpa using h
      subst hn0; rfl) hpw
  obtain ⟨c, r, hc, hcd⟩ : ∃ c r, chs (str (sciT [] 0 0 n ++ 101 :: [48])) = c :: r ∧ isDig c = true := by
    rw [hpl]
    exact ⟨_, _, rfl, hA _ (by simp [rowT])⟩
  have hs := digit_sgn hcd
  have hbody : body (chs (str (sciT [] 0 0 n ++ 101 :: [48]))) = chs (str (sciT [] 0 0 n ++ 101 :: [48])) := by
    rw [hc]; simp [body, hs]
  refine ⟨c, r, 9, hc, hs, ?_, by omega, ?_⟩
  · rcases t1 with ⟨_, _, _, _, _, _, h⟩ | ⟨_, h, _, _⟩
    · cases h
    · unfold stAt at h; rw [List.take_length] at h; exact h.symm
  · rw [hbody] at t2
    rw [t2, hpv, hBl]
    exact held_zero (hA.app hB) (by rw [vals_app, num_append, num_zero_row, num_zero_row, Nat.zero_mul]) (by omega)
/-- A text that says a number that is rounded to the amount. -/
def Good (f : Int) (a : Nat) (T : List UInt8) : Prop := (a = 0 ∧ Says (chs (str T)) 0) ∨ (0 < a ∧ ∃ X, Says (chs (str T)) (X * 10 ^ 27000) ∧ Hold 3000 f a X ∧ 0 < X)
theorem Good.back {f : Int} (hf : 0 ≤ f ∧ f ≤ 2) {a : Nat} (h1 : (a : Int) < infN f) {T : List UInt8} {neg : Bool} {b fl at' err : Int} (h : Good f a T) (hl : (minusT neg T).length ≤ 900) (hp : PParse (str (minusT neg T)) f 0 b fl at' err) : b = signedV f neg a ∧ err = 0 := by
  have hs := prog_spec (K := 30000) (by omega) hp
  rw [chs_minusT] at hs
  have hl2 : (minusL neg (chs (str T))).length ≤ 900 := by rw [← chs_minusT, chs_str, List.length_map]; exact hl
  rcases h with ⟨rfl, h⟩ | ⟨h0, X, h, hh, hX⟩
  · obtain ⟨z1, _, _, z4⟩ := h.zero hl2 ⟨hf.1, hf.2, by omega, by omega⟩ hs
    exact ⟨z1, z4⟩
  · obtain ⟨q1, r, q2, q3⟩ := h.hold hl2 hf h0 h1 hX hs
    exact ⟨by rw [q2, q3.2 hh], q1⟩
theorem short_good {f : Int} (hf : 0 ≤ f ∧ f ≤ 2) {a : Nat} (h1 : (a : Int) < infN f) {T : List UInt8} (h : ShortQ false f a T) : Good f a T ∧ T.length ≤ 40 := by
  rcases Nat.eq_zero_or_pos a with h0 | h0
  · rcases h with ⟨_, rfl⟩ | ⟨h2, _⟩
    · exact ⟨.inl ⟨h0, says_zero⟩, by decide⟩
    · omega
  · obtain ⟨X, s1, s2, s3, s4⟩ := short_says hf h0 h1 h
    exact ⟨.inr ⟨h0, X, s1, s2, s3⟩, s4⟩
theorem plain_good {f : Int} (hf : 0 ≤ f ∧ f ≤ 2) {a : Nat} (h1 : (a : Int) < infN f) {T : List UInt8} (h : ShortQ true f a T) (hl : T.length ≤ 900) : Good f a T := by
  rcases Nat.eq_zero_or_pos a with h0 | h0
  · rcases h with ⟨_, rfl⟩ | ⟨h2, _⟩
    · exact .inl ⟨h0, says_zero⟩
    · omega
  · obtain ⟨X, s1, s2, s3⟩ := plain_text hf h0 h1 h hl
    exact .inr ⟨h0, X, s1, s2, s3⟩
theorem exp_good {f : Int} (hf : 0 ≤ f ∧ f ≤ 2) {a : Nat} (h1 : (a : Int) < infN f) {T : List UInt8} {neg : Bool} (h : ExpQ (awayB 0 neg) (valA 3000 f a) 16 T) : Good f a T ∧ T.length ≤ 40 := by
  have h : ExpQ (awayB 0 false) (valA 3000 f a) 16 T := by cases neg <;> exact h
  rcases Nat.eq_zero_or_pos a with h0 | h0
  · subst h0
    rcases h with ⟨_, rfl⟩ | ⟨D, e, L, g, h⟩
    · exact ⟨.inl ⟨rfl, zero_says 16 (by omega)⟩, by rw [List.length_append]; have := fixT_length [] 0 0 16; simp only [List.length_cons, List.length_nil]; omega⟩
    · exact absurd (valA_none 3000 f) h.ne
  · obtain ⟨X, s1, s2, s3, s4⟩ := exp_says hf h0 h1 h
    exact ⟨.inr ⟨h0, X, s1, s2, s3⟩, s4⟩
theorem hex_back {f : Int} (hf : 0 ≤ f ∧ f ≤ 2) {a : Nat} (h1 : (a : Int) < infN f) {T : List UInt8} {neg : Bool} {m b fl at' err : Int} (hm : 0 ≤ m ∧ m ≤ 4) (h : HexQ f a T) (hp : PParse (str (minusT neg T)) f m b fl at' err) : b = signedV f neg a ∧ fl = 0 ∧ at' = 0 ∧ err = 0 := by
  have hs := prog_spec (K := 30000) (by omega) hp
  rw [chs_minusT] at hs
  have hl := hexQ_length hf h1 h
  have hl2 : (minusL neg (chs (str T))).length ≤ 900 := by have := minusT_length neg T; omega
  rcases Nat.eq_zero_or_pos a with h0 | h0
  · subst h0
    rcases h with ⟨_, rfl⟩ | ⟨h2, _⟩
    · exact Says.zero (l := [48, 120, 48, 112, 48]) says_zero16 hl2 ⟨hf.1, hf.2, hm.1, hm.2⟩ hs
    · omega
  · obtain ⟨q1, q2, r, q3, q4⟩ := (hexQ_says hf h0 h1 h).reads hl2 ⟨hf.1, hf.2, hm.1, hm.2⟩ hs
    obtain ⟨z1, z2⟩ := round_self (by omega) (by omega) q3
    exact ⟨by rw [q4, z1], z2, q1, q2⟩
theorem inf_back {f : Int} (hf : 0 ≤ f ∧ f ≤ 2) {b fl at' err : Int} (hp : PParse (str [105, 110, 102]) f 0 b fl at' err) : b = infN f ∧ err = 0 := by
  have hs := prog_spec (K := 30000) (by omega) hp
  have hr : ReadSpec (chs (str [105, 110, 102])) 18 (chs (str [105, 110, 102])).length true := read_of_fold (by rw [chs_str]; decide) rfl
  rcases hs with ⟨gv, _⟩ | ⟨_, gl, _⟩ | ⟨_, _, st2, x, ok, hr2, hc2⟩
  · exact absurd ⟨hf.1, hf.2, by omega, by omega⟩ gv
  · rw [chs_str] at gl; simp at gl
  · obtain ⟨q1, q2, q3⟩ := ReadSpec.one hr hr2
    subst q1 q3
    rcases hc2 with ⟨c0, _⟩ | ⟨_, c1, c2, ho⟩
    · cases c0
    · rcases ho with ⟨o1, _⟩ | ⟨_, o1, _⟩ | ⟨o1, _⟩
      · omega
      · rw [show decide ((chs (str [105, 110, 102])).getD 0 0 = 45) = false from by rw [chs_str]; decide] at o1
        exact ⟨o1, c2⟩
      · omega
theorem nan_back {f : Int} (hf : 0 ≤ f ∧ f ≤ 2) {b fl at' err : Int} (hp : PParse (str [110, 97, 110]) f 0 b fl at' err) : b = nanP f ∧ err = 0 := by
  have hs := prog_spec (K := 30000) (by omega) hp
  have hr : ReadSpec (chs (str [110, 97, 110])) 27 (chs (str [110, 97, 110])).length true := read_of_fold (by rw [chs_str]; decide) rfl
  rcases hs with ⟨gv, _⟩ | ⟨_, gl, _⟩ | ⟨_, _, st2, x, ok, hr2, hc2⟩
  · exact absurd ⟨hf.1, hf.2, by omega, by omega⟩ gv
  · rw [chs_str] at gl; simp at gl
  · obtain ⟨q1, q2, q3⟩ := ReadSpec.one hr hr2
    subst q1 q3
    rcases hc2 with ⟨c0, _⟩ | ⟨_, c1, c2, ho⟩
    · cases c0
    · rcases ho with ⟨_, o1, _⟩ | ⟨o1, _⟩ | ⟨o1, _⟩
      · exact ⟨o1, c2⟩
      · omega
      · omega
end Go.Proofs.YtbkdaoicnobllabGreatDoor

namespace Go.Proofs.YtbkdaoicnobllabGreatDoor
open Go.RowKit

/-- Which of n things. -/
def pickV (c : Int) (n : Nat) : Nat := (if c < 0 then -(c + 1) else c).toNat % n
set_option maxRecDepth 100000 in
set_option maxHeartbeats 1000000 in
theorem pick_any (c : Int) (n : Nat) (hn : 0 < n) (hn2 : n ≤ 1000000) (hc : -9223372036854775808 ≤ c ∧ c ≤ 9223372036854775807) (w : World) :
    Calls Tryz.prog 20 #[.int .i64 c, .int .i64 n] w fun e w' => e = .returned (.int .i64 (pickV c n : Nat)) ∧ w' = w := by
  obtain ⟨N, hN⟩ : ∃ N : Int, N = (n : Int) := ⟨_, rfl⟩
  have hN0 : (N == 0) = false := by simp; omega
  have hN1 : 0 < N := by omega
  have hN2 : N ≤ 1000000 := by omega
  have HN := hid hN
  rw [← hN]
  obtain ⟨hc1, hc2⟩ := hc
  go_enter Tryz.func20, Tryz.ntmps20
  by_cases h0 : c < 0
  · have t : decide (c < 0) = true := by simpa using h0
    have HE : Hid (-((c + 1).tmod N) = (pickV c n : Nat)) := by
      unfold Hid pickV
      rw [← Int.neg_tmod, if_pos h0, HN.out, Int.tmod_eq_emod_of_nonneg (by omega)]
      have : -(c + 1) = ((-(c + 1)).toNat : Nat) := by omega
      rw [this]; simp
    clear hN hn hn2
    go_wp2
    all_goals (go_ret; exact ⟨by rw [← HE.out]; rfl, rfl⟩)
  · have t : decide (c < 0) = false := by simpa using h0
    have HE : Hid ((c % N) = (pickV c n : Nat)) := by
      unfold Hid pickV
      rw [if_neg h0, HN.out]
      have : c = (c.toNat : Nat) := by omega
      rw [this]; simp
    clear hN hn hn2
    go_wp2
    all_goals (go_ret; exact ⟨by rw [← HE.out]; rfl, rfl⟩)
/-- A format's bits. -/
def fW (f : Int) : Int := if f = 0 then 16 else if f = 1 then 32 else 64
set_option maxRecDepth 100000 in
set_option maxHeartbeats 1000000 in
theorem form_any (b : Int) (hb : -9223372036854775808 ≤ b ∧ b ≤ 9223372036854775807) (w : World) :
    Calls Tryz.prog 11 #[.int .i64 b] w fun e w' => e = .returned (.tuple #[.int .i64 (pickV b 3 : Nat), .int .i64 (fW (pickV b 3 : Nat)), .int .i64 (fQ (pickV b 3 : Nat))]) ∧ w' = w := by
  have HX := hid (pick_any b 3 (by omega) (by omega) hb w)
  have h3 : pickV b 3 < 3 := Nat.mod_lt _ (by omega)
  obtain ⟨p, hp⟩ : ∃ p, p = pickV b 3 := ⟨_, rfl⟩
  rw [← hp] at HX h3 ⊢
  clear hp
  go_enter Tryz.func11, Tryz.ntmps11
  go_wp2_with fail
  refine HX.out.mono ?_
  rintro e w' ⟨rfl, rfl⟩
  clear HX
  rcases (by omega : p = 0 ∨ p = 1 ∨ p = 2) with rfl | rfl | rfl
  · go_wp2
    all_goals (go_ret3; exact ⟨rfl, rfl⟩)
  · go_wp2
    all_goals (go_ret3; exact ⟨rfl, rfl⟩)
  · go_wp2
    all_goals (go_ret3; exact ⟨rfl, rfl⟩)
/-- The lower bits alone. -/
theorem and_mask (x : Int) (i : Nat) (hi : i ≤ 63) : bits .and .i64 x ((2 ^ i - 1 : Nat) : Int) = x % ((2 ^ i : Nat) : Int) := by
  have hp : 2 ^ i ≤ 2 ^ 63 := Nat.pow_le_pow_right (by omega) hi
  have h0 : 0 < 2 ^ i := Nat.pow_pos (by omega)
  have h1 : (BitVec.ofInt 64 ((2 ^ i - 1 : Nat) : Int)).toNat = 2 ^ i - 1 := by
    rw [BitVec.ofInt_natCast, BitVec.toNat_ofNat]; exact Nat.mod_eq_of_lt (by omega)
  have h2 : ((BitVec.ofInt 64 x).toNat : Int) = x % ((2 ^ 64 : Nat) : Int) := by
    rw [BitVec.toNat_ofInt]; have : 0 ≤ x % ((2 ^ 64 : Nat) : Int) := Int.emod_nonneg _ (by omega); omega
  have hd : ((2 ^ i : Nat) : Int) ∣ ((2 ^ 64 : Nat) : Int) := Int.natCast_dvd_natCast.2 (Nat.pow_dvd_pow 2 (show i ≤ 64 by omega))
  unfold bits
  show IntKind.i64.wrap ((BitVec.ofInt 64 x &&& BitVec.ofInt 64 ((2 ^ i - 1 : Nat) : Int)).toNat : Int) = _
  rw [BitVec.toNat_and, h1, Nat.and_two_pow_sub_one_eq_mod, Int.natCast_emod, h2, Int.emod_emod_of_dvd _ hd, IntKind.wrap_i64]
  have h3 : 0 ≤ x % ((2 ^ i : Nat) : Int) := Int.emod_nonneg _ (by omega)
  have h4 : x % ((2 ^ i : Nat) : Int) < ((2 ^ i : Nat) : Int) := Int.emod_lt_of_pos _ (by omega)
  generalize x % ((2 ^ i : Nat) : Int) = y at *
  generalize 2 ^ i = P at *
  omega
end Go.Proofs.YtbkdaoicnobllabGreatDoor
