import Derived.Test.YtbkdaoicnobllabGreatDoorG24
import Derived.Test.YtbkdaoicnobllabGreatDoorG22

/- Plain mathematics: what was printed is read as what it was. -/
namespace Go.Proofs.YtbkdaoicnobllabGreatDoor
set_option exponentiation.threshold 40000

/-- How far the neighbours are, at least. -/
theorem gap_up {f : Int} (hf : 0 ≤ f ∧ f ≤ 2) {a : Nat} (h1 : (a : Int) < infN f) : valA 3000 f a ≤ 9007199254740992 * (valA 3000 f (a + 1) - valA 3000 f a) := by
  obtain ⟨e1, e2⟩ := valA_step (K := 3000) f a (by omega)
  have hm := (sx_bd hf h1).2.2
  have ht := two_pos 3000 (fE f + (xA (fQ f) a : Nat))
  generalize two 3000 (fE f + (xA (fQ f) a : Nat)) = t at *
  generalize mA (fQ f) a = M at *
  rw [e1, e2, Nat.mul_add, Nat.mul_one, Nat.add_sub_cancel_left, Nat.mul_comm t]
  exact Nat.mul_le_mul_right t hm
theorem gap_down {f : Int} (hf : 0 ≤ f ∧ f ≤ 2) {a : Nat} (h0 : 0 < a) (h1 : (a : Int) < infN f) : valA 3000 f a ≤ 9007199254740992 * (valA 3000 f a - valA 3000 f (a - 1)) := by
  obtain ⟨b, rfl⟩ : ∃ b, a = b + 1 := ⟨a - 1, by omega⟩
  rw [Nat.add_sub_cancel]
  obtain ⟨e1, e2⟩ := valA_step (K := 3000) f b (by omega)
  have hl := mA_lt (fQ f) b
  have hm : mA (fQ f) b + 1 ≤ 9007199254740992 := by
    rcases (by omega : f = 0 ∨ f = 1 ∨ f = 2) with rfl | rfl | rfl
    · rw [pQ0] at hl; omega
    · rw [pQ1] at hl; omega
    · rw [pQ2] at hl; omega
  generalize two 3000 (fE f + (xA (fQ f) b : Nat)) = t at *
  generalize mA (fQ f) b = M at *
  rw [e1, e2, Nat.mul_add, Nat.mul_one, Nat.add_sub_cancel_left, ← Nat.mul_succ, Nat.mul_comm t]
  exact Nat.mul_le_mul_right t hm
theorem rnd_near (V P : Nat) (hP : 0 < P) : 2 * (rndN (awayB 0 false) V P * P) ≤ 2 * V + P ∧ 2 * V ≤ 2 * (rndN (awayB 0 false) V P * P) + P := by
  have hd := Nat.div_add_mod V P
  have hm := Nat.mod_lt V hP
  rw [Nat.mul_comm] at hd
  have hs : (V / P + 1) * P = V / P * P + P := by rw [Nat.add_mul, Nat.one_mul]
  unfold rndN
  split
  · rename_i h
    obtain ⟨h0, h1⟩ := h
    rw [hs]
    rw [away_zero] at h1
    have hl : leftN V P = 3 ∨ leftN V P = 2 := by
      simp only [Bool.or_eq_true, Bool.and_eq_true, beq_iff_eq] at h1
      rcases h1 with h1 | h1
      · exact .inl h1
      · exact .inr h1.1
    unfold leftN at hl
    split at hl
    · omega
    · split at hl
      · omega
      · omega
  · rename_i h
    have hl : leftN V P ≠ 3 := by
      intro h3
      apply h
      refine ⟨by omega, ?_⟩
      rw [away_zero, h3]; rfl
    unfold leftN at hl
    split at hl
    · omega
    · split at hl
      · omega
      · split at hl
        · omega
        · omega
/-- In steps that are less than the neighbours are apart the nearest is the number's. -/
theorem near_own {f : Int} {a P : Nat} (hP : 0 < P) (h0 : 0 < a) (h1 : P < valA 3000 f (a + 1) - valA 3000 f a) (h2 : P < valA 3000 f a - valA 3000 f (a - 1)) : Hold 3000 f a (rndN (awayB 0 false) (valA 3000 f a) P * P) := by
  obtain ⟨n1, n2⟩ := rnd_near (valA 3000 f a) P hP
  have m1 := valA_lt 3000 f (a - 1) (by omega)
  rw [show a - 1 + 1 = a from by omega] at m1
  rw [Hold.iff]
  by_cases he : a % 2 = 0
  · exact .inl ⟨he, by omega, by omega⟩
  · exact .inr ⟨he, by omega, by omega⟩
theorem far_steps {f : Int} (hf : 0 ≤ f ∧ f ≤ 2) {a : Nat} (h0 : 0 < a) (h1 : (a : Int) < infN f) {k : Nat} (hk : 10 ^ (k + 16) ≤ valA 3000 f a) : 10 ^ k < valA 3000 f (a + 1) - valA 3000 f a ∧ 10 ^ k < valA 3000 f a - valA 3000 f (a - 1) := by
  have g1 := gap_up hf h1
  have g2 := gap_down hf h0 h1
  rw [Nat.pow_add, show (10 : Nat) ^ 16 = 10000000000000000 from by decide] at hk
  have hp : 0 < 10 ^ k := Nat.pow_pos (by omega)
  generalize 10 ^ k = P at *
  generalize valA 3000 f (a + 1) - valA 3000 f a = A at *
  generalize valA 3000 f a - valA 3000 f (a - 1) = B at *
  omega
theorem StepYes.hold {H : Nat → Prop} {V P X : Nat} (h : StepYes H V P X) (hV : H V) : H X := by
  rcases h with ⟨_, rfl⟩ | ⟨_, ⟨h1, h2, rfl⟩ | ⟨h1, _, rfl⟩ | ⟨_, h2, rfl⟩⟩
  · exact hV
  · rcases rnd_either (awayB 0 false) V P with e | e
    · rw [e]; exact h1
    · rw [e]; exact h2
  · exact h1
  · exact h2
theorem StepYes.mult {H : Nat → Prop} {V P X : Nat} (h : StepYes H V P X) : X % P = 0 ∧ V / P * P ≤ X ∧ X ≤ V / P * P + P := by
  rcases h with ⟨h0, rfl⟩ | ⟨_, ⟨h1, h2, rfl⟩ | ⟨h1, _, rfl⟩ | ⟨_, h2, rfl⟩⟩
  · have := Nat.div_add_mod X P
    rw [h0, Nat.add_zero, Nat.mul_comm] at this
    exact ⟨h0, by omega, by omega⟩
  · refine ⟨Nat.mul_mod_left _ _, ?_⟩
    rcases rnd_either (awayB 0 false) V P with e | e <;> omega
  · exact ⟨Nat.mul_mod_left _ _, by omega, by omega⟩
  · exact ⟨by rw [← Nat.succ_mul]; exact Nat.mul_mod_left _ _, by omega, by omega⟩
theorem hold_bd {f : Int} (hf : 0 ≤ f ∧ f ≤ 2) {a X : Nat} (h0 : 0 < a) (h1 : (a : Int) < infN f) (h : Hold 3000 f a X) : 10 ^ 2610 ≤ X ∧ X < 10 ^ 3390 := by
  obtain ⟨b1, b2⟩ := valA_bd hf h0 h1
  have b3 : valA 3000 f (a + 1) < 10 ^ 3380 := by
    refine Nat.lt_of_le_of_lt (valA_mono 3000 f (by omega) (show a + 1 ≤ infN f by omega)) ?_
    rcases (by omega : f = 0 ∨ f = 1 ∨ f = 2) with rfl | rfl | rfl <;> decide +kernel
  have e1 : (10 : Nat) ^ 2610 * 10000000000 = 10 ^ 2620 := by rw [show (10000000000 : Nat) = 10 ^ 10 from by decide, ← Nat.pow_add]
  have e2 : (10 : Nat) ^ 3380 * 10000000000 = 10 ^ 3390 := by rw [show (10000000000 : Nat) = 10 ^ 10 from by decide, ← Nat.pow_add]
  rw [Hold.iff] at h
  generalize (10 : Nat) ^ 2610 = A at *
  generalize (10 : Nat) ^ 2620 = B at *
  generalize (10 : Nat) ^ 3380 = C at *
  generalize (10 : Nat) ^ 3390 = D at *
  rcases h with ⟨_, h2, h3⟩ | ⟨_, h2, h3⟩ <;> exact ⟨by omega, by omega⟩
/-- Seventeen digits are always enough. -/
theorem ShortAt.steps {f : Int} (hf : 0 ≤ f ∧ f ≤ 2) {a : Nat} (h0 : 0 < a) (h1 : (a : Int) < infN f) {D : List Nat} {e p : Int} {X : Nat} (h : ShortAt f a D e p X) : e + D.length - 1 - 16 ≤ p ∧ -500 ≤ e + D.length - 1 := by
  have hb := valA_bd hf h0 h1
  have hg := val_ge h.headed h.pos 3000 e h.lo
  have hlt := val_lt h.digs 3000 e h.lo
  rw [h.val] at hg hlt
  have ht : (2620 : Nat) < (e + D.length + (3000 : Nat)).toNat := (Nat.pow_lt_pow_iff_right (a := 10) (by omega)).1 (Nat.lt_of_le_of_lt hb.1 hlt)
  refine ⟨?_, by omega⟩
  apply Int.not_lt.1; intro hp
  have hno := h.no (e + D.length - 1 - 16) (by omega) (by omega)
  obtain ⟨k, hk⟩ : ∃ k : Nat, (e + D.length - 1 - 16 + (3000 : Nat)).toNat = k := ⟨_, rfl⟩
  rw [hk] at hno
  have hs := far_steps hf h0 h1 (k := k) (by rw [show k + 16 = (e + D.length - 1 + (3000 : Nat)).toNat from by omega]; exact hg)
  have hh := near_own (P := 10 ^ k) (Nat.pow_pos (by omega)) h0 hs.1 hs.2
  obtain ⟨_, n1, n2⟩ := hno
  rcases rnd_either (awayB 0 false) (valA 3000 f a) (10 ^ k) with e | e
  · rw [e] at hh; exact n1 hh
  · rw [e] at hh; exact n2 hh
/-- The shortest digits: where they lie. -/
theorem short_rows {f : Int} (hf : 0 ≤ f ∧ f ≤ 2) {a : Nat} (h0 : 0 < a) (h1 : (a : Int) < infN f) {D L : List Nat} {e p g : Int} {X : Nat} (h : ShortAt f a D e p X) (hn : Norm L) (hl : L ≠ []) (hg : -(3000 : Int) ≤ g) (hv : val 3000 L g = X) :
    p ≤ g ∧ e + D.length ≤ g + L.length ∧ g + L.length ≤ e + D.length + 1 ∧ (g + L.length = e + D.length + 1 → X = 10 ^ (e + D.length + (3000 : Nat)).toNat) ∧ L.length ≤ 18 := by
  obtain ⟨s1, s2⟩ := h.steps hf h0 h1
  have hple := h.le
  have hp := List.length_pos_iff.2 hl
  obtain ⟨m1, m2, m3⟩ := h.yes.mult
  have hge := val_ge h.headed h.pos 3000 e h.lo
  have hlt := val_lt h.digs 3000 e h.lo
  rw [h.val] at hge hlt
  have lge := val_ge hn.headed hp 3000 g hg
  have llt := val_lt hn.digs 3000 g hg
  rw [hv] at lge llt
  -- the steps do not pass the number's power
  obtain ⟨k, hk⟩ : ∃ k : Nat, k = (p + (3000 : Nat)).toNat := ⟨_, rfl⟩
  rw [← hk] at m1 m2 m3
  have hpg : p ≤ g := by
    apply Int.not_lt.1; intro hlt2
    have hu := norm_last hn hl
    unfold val at hv
    obtain ⟨c, hc⟩ : ∃ c, k = (g + (3000 : Nat)).toNat + 1 + c := ⟨k - (g + (3000 : Nat)).toNat - 1, by omega⟩
    rw [← hv, hc, Nat.pow_add, Nat.pow_succ] at m1
    have hq : 0 < 10 ^ (g + (3000 : Nat)).toNat := Nat.pow_pos (by omega)
    rw [Nat.mul_comm (num L), Nat.mul_assoc, Nat.mul_mod_mul_left] at m1
    have hz : num L % (10 * 10 ^ c) = 0 := by
      rcases Nat.mul_eq_zero.1 m1 with z | z
      · omega
      · exact z
    have hz2 : num L % 10 = 0 := by
      have := Nat.mod_mul_right_mod (num L) 10 (10 ^ c)
      rw [hz] at this; simpa using this.symm
    exact hu hz2
  have hP : 0 < 10 ^ k := Nat.pow_pos (by omega)
  -- X between the powers of ten
  have x1 : 10 ^ (e + D.length - 1 + (3000 : Nat)).toNat ≤ X := by
    refine Nat.le_trans ?_ m2
    obtain ⟨c, hc⟩ : ∃ c, (e + D.length - 1 + (3000 : Nat)).toNat = c + k := ⟨(e + D.length - 1 + (3000 : Nat)).toNat - k, by omega⟩
    rw [hc, Nat.pow_add] at hge ⊢
    exact Nat.mul_le_mul_right _ ((Nat.le_div_iff_mul_le hP).2 hge)
  have x2 : X ≤ 10 ^ (e + D.length + (3000 : Nat)).toNat := by
    refine Nat.le_trans m3 ?_
    obtain ⟨c, hc⟩ : ∃ c, (e + D.length + (3000 : Nat)).toNat = c + k := ⟨(e + D.length + (3000 : Nat)).toNat - k, by omega⟩
    rw [hc, Nat.pow_add] at hlt ⊢
    rw [← Nat.succ_mul]
    exact Nat.mul_le_mul_right _ ((Nat.div_lt_iff_lt_mul hP).2 hlt)
  have t1 := (Nat.pow_lt_pow_iff_right (a := 10) (by omega)).1 (Nat.lt_of_le_of_lt x1 llt)
  have t2 := (Nat.pow_le_pow_iff_right (a := 10) (by omega)).1 (Nat.le_trans lge x2)
  refine ⟨hpg, by omega, by omega, fun he => ?_, by omega⟩
  rw [show g + (L.length : Int) - 1 + (3000 : Nat) = e + D.length + (3000 : Nat) from by omega] at lge
  omega
theorem round_even {K : Nat} {f : Int} {neg : Bool} {X : Nat} {r fl : Int} (h : RoundSpec K f 0 neg X r fl) : RoundSpec K f 0 false X r fl := by
  cases neg
  · exact h
  · exact h
theorem Says.hold {l : List Nat} {X : Nat} {neg : Bool} {f b fl at' err : Int} {a : Nat} (hs : Says l (X * 10 ^ 27000)) (hl : (minusL neg l).length ≤ 900) (hf : 0 ≤ f ∧ f ≤ 2) (h0 : 0 < a) (h1 : (a : Int) < infN f) (hX : 0 < X) (hp : ProgSpec 30000 (minusL neg l) f 0 b fl at' err) :
    err = 0 ∧ ∃ r, b = signedV f neg r ∧ (r = (a : Int) ↔ Hold 3000 f a X) := by
  obtain ⟨_, q2, r, q3, q4⟩ := hs.reads hl ⟨hf.1, hf.2, by omega, by omega⟩ hp
  have q5 := round_scale (K := 3000) (c := 27000) (by omega) (round_even q3)
  exact ⟨q2, r, q4, round_hold (by omega) hX h0 (by omega) q5⟩
/-- The text with a minus ahead, if so. -/
def minusT (neg : Bool) (T : List UInt8) : List UInt8 := (if neg = true then [45] else []) ++ T
theorem chs_minusT (neg : Bool) (T : List UInt8) : chs (str (minusT neg T)) = minusL neg (chs (str T)) := by
  rw [chs_str, chs_str]
  cases neg <;> rfl
theorem minusT_length (neg : Bool) (T : List UInt8) : (minusL neg (chs (str T))).length ≤ T.length + 1 := by
  rw [← chs_minusT, chs_str, List.length_map]
  unfold minusT; rw [List.length_append]; split <;> simp; omega
theorem says_zero : Says [48] 0 := ⟨48, [], 2, rfl, rfl, rfl, by omega, by decide +kernel⟩
theorem says_zero16 : Says [48, 120, 48, 112, 48] 0 := ⟨48, [120, 48, 112, 48], 15, rfl, rfl, by decide, by omega, by decide +kernel⟩
theorem Says.zero {l : List Nat} {neg : Bool} {f m b fl at' err : Int} (hs : Says l 0) (hl : (minusL neg l).length ≤ 900) (hv : 0 ≤ f ∧ f ≤ 2 ∧ 0 ≤ m ∧ m ≤ 4) (hp : ProgSpec 30000 (minusL neg l) f m b fl at' err) : b = signedV f neg 0 ∧ fl = 0 ∧ at' = 0 ∧ err = 0 := by
  obtain ⟨q1, q2, r, q3, q4⟩ := hs.reads hl hv hp
  obtain ⟨z1, z2⟩ := RoundSpec.zero q3
  exact ⟨by rw [q4, z1], z2, q1, q2⟩
/-- The shortest text says its number. -/
theorem short_says {f : Int} (hf : 0 ≤ f ∧ f ≤ 2) {a : Nat} (h0 : 0 < a) (h1 : (a : Int) < infN f) {T : List UInt8} (h : ShortQ false f a T) : ∃ X, Says (chs (str T)) (X * 10 ^ 27000) ∧ Hold 3000 f a X ∧ 0 < X ∧ T.length ≤ 40 := by
  rcases h with ⟨h, _⟩ | ⟨_, D, e, p, X, L, g, h2, h3, h4, h5, h6, rfl⟩
  · omega
  · have hh := h2.yes.hold (hold_self 3000 f a (by omega) h0)
    obtain ⟨b1, b2⟩ := hold_bd hf h0 h1 hh
    obtain ⟨_, _, _, _, r5⟩ := short_rows hf h0 h1 h2 h3 h4 h5 h6
    have hp := List.length_pos_iff.2 h4
    obtain ⟨w1, w2⟩ := row_range h3.digs h3.headed hp h5 (by rw [h6]; exact b1) (by rw [h6]; exact b2)
    have hlen := (itoa_pow (g + L.length - 1) (by omega) (by omega)).2.1
    have hsl := sciT_length L g (g + L.length - 1) (L.length - 1)
    unfold shortT
    rw [if_neg (by decide)]
    refine ⟨X, ?_, hh, Nat.lt_of_lt_of_le (Nat.pow_pos (by omega)) b1, by rw [List.length_append, List.length_cons]; omega⟩
    have := sci_says (L := L) (g := g) (top := g + L.length - 1) (n := L.length - 1) h3.digs h5 (by omega) (by omega) (by omega) (by omega) (by
      rw [show g + (L.length : Int) - 1 - ((L.length - 1 : Nat) : Int) = g from by omega]
      exact val_mod L 3000 g g (by omega) (by omega)) (by rw [h6]; exact b1) (by rw [h6]; exact b2)
    rw [h6] at this
    exact this
theorem rowT_app (L : List Nat) (e hi : Int) (m n : Nat) : rowT L e hi (m + n) = rowT L e hi m ++ rowT L e (hi - m) n := by
  induction n with
  | zero => simp [rowT]
  | succ n ih =>
    rw [← Nat.add_assoc, rowT, ih, rowT, ← List.append_assoc, show hi - ((m + n : Nat) : Int) = hi - (m : Int) - n from by omega]
/-- The shortest text without a power says its number. -/
theorem plain_text {f : Int} (hf : 0 ≤ f ∧ f ≤ 2) {a : Nat} (h0 : 0 < a) (h1 : (a : Int) < infN f) {T : List UInt8} (h : ShortQ true f a T) (hT : T.length ≤ 900) : ∃ X, Says (chs (str T)) (X * 10 ^ 27000) ∧ Hold 3000 f a X ∧ 0 < X := by
  rcases h with ⟨h, _⟩ | ⟨_, D, e, p, X, L, g, h2, h3, h4, h5, h6, hTT⟩
  · omega
  · have hh := h2.yes.hold (hold_self 3000 f a (by omega) h0)
    obtain ⟨b1, b2⟩ := hold_bd hf h0 h1 hh
    have hp := List.length_pos_iff.2 h4
    refine ⟨X, ?_, hh, Nat.lt_of_lt_of_le (Nat.pow_pos (by omega)) b1⟩
    unfold shortT at hTT
    rw [if_pos rfl] at hTT
    obtain ⟨b, hb⟩ : ∃ b : Nat, b = (-(min g 0)).toNat := ⟨_, rfl⟩
    obtain ⟨hi, hhi⟩ : ∃ hi : Nat, hi = highN L g := ⟨_, rfl⟩
    rw [← hb, ← hhi] at hTT
    have hhv : (hi : Int) = max (g + L.length - 1) 0 := by rw [hhi]; unfold highN; rw [if_neg h4]; omega
    have hlb : b ≤ 900 := by
      rw [hTT] at hT
      unfold fixT at hT
      by_cases hb0 : b = 0
      · omega
      · rw [if_neg hb0] at hT
        simp [rowT_length] at hT
        omega
    have e1 : chs (str T) = (rowT L g hi (hi + 1)).map UInt8.toNat ++ ptL (decide (b ≠ 0)) ++ (rowT L g (-1) b).map UInt8.toNat := by
      rw [chs_str, hTT]
      unfold fixT
      by_cases hb0 : b = 0
      · subst hb0; simp [ptL, rowT]
      · rw [if_neg hb0]; simp [ptL, hb0]
    rw [e1]
    have hBl : ((rowT L g (-1) b).map UInt8.toNat).length = b := by rw [List.length_map, rowT_length]
    refine plain_says (e := -(b : Int)) (row_all h3.digs g hi (hi + 1)) (row_all h3.digs g (-1) b) (fun hn => by
        have := congrArg List.length hn
        rw [List.length_map, rowT_length] at this
        simp at this) (fun hpt => by
        have hb0 : b = 0 := by simpa using hpt
        subst hb0; rfl) (fun hpt hn => by
        have hb0 : b ≠ 0 := by simpa using hpt
        rw [hn] at hBl
        simp at hBl
        omega) (by rw [hBl]) (by rw [hBl]; omega) ?_ b1 b2
    have e2 : (rowT L g hi (hi + 1)).map UInt8.toNat ++ (rowT L g (-1) b).map UInt8.toNat = (rowT L g hi (hi + 1 + b)).map UInt8.toNat := by
      rw [rowT_app L g hi (hi + 1) b, List.map_append, show (hi : Int) - ((hi + 1 : Nat) : Int) = -1 from by omega]
    rw [e2]
    have n1 := num_row h3.digs 3000 g hi h5 (hi + 1 + b) (by omega)
    rw [show (hi : Int) + 1 - ((hi + 1 + b : Nat) : Int) + (3000 : Nat) = -(b : Int) + (3000 : Nat) from by omega, h6] at n1
    have hlt := val_lt h3.digs 3000 g h5
    rw [h6] at hlt
    have hP : 0 < 10 ^ (-(b : Int) + (3000 : Nat)).toNat := Nat.pow_pos (by omega)
    have hq : X / 10 ^ (-(b : Int) + (3000 : Nat)).toNat < 10 ^ (hi + 1 + b) := by
      rw [Nat.div_lt_iff_lt_mul hP, ← Nat.pow_add]
      exact Nat.lt_of_lt_of_le hlt (Nat.pow_le_pow_right (by omega) (by omega))
    rw [Nat.mod_eq_of_lt hq] at n1
    have hz : X % 10 ^ (-(b : Int) + (3000 : Nat)).toNat = 0 := by
      rw [← h6]; exact val_mod L 3000 g (-(b : Int)) (by omega) (by omega)
    unfold val
    rw [n1]
    have := Nat.div_add_mod X (10 ^ (-(b : Int) + (3000 : Nat)).toNat)
    rw [hz, Nat.add_zero, Nat.mul_comm] at this
    exact this
/-- Seventeen digits say a number of which this one is the nearest. -/
theorem exp_says {f : Int} (hf : 0 ≤ f ∧ f ≤ 2) {a : Nat} (h0 : 0 < a) (h1 : (a : Int) < infN f) {T : List UInt8} (h : ExpQ (awayB 0 false) (valA 3000 f a) 16 T) : ∃ X, Says (chs (str T)) (X * 10 ^ 27000) ∧ Hold 3000 f a X ∧ 0 < X ∧ T.length ≤ 40 := by
  obtain ⟨bb1, bb2⟩ := valA_bd hf h0 h1
  obtain ⟨D, e, L, g, h⟩ := h.some (Nat.lt_of_lt_of_le (Nat.pow_pos (by omega)) bb1)
  have hg := val_ge h.headed h.pos 3000 e h.lo
  have hlt := val_lt h.digs 3000 e h.lo
  rw [h.val] at hg hlt
  have ht : (2620 : Nat) < (e + D.length + (3000 : Nat)).toNat := (Nat.pow_lt_pow_iff_right (a := 10) (by omega)).1 (Nat.lt_of_le_of_lt bb1 hlt)
  obtain ⟨k, hk⟩ : ∃ k : Nat, (e + D.length - 1 - (16 : Nat) + (3000 : Nat)).toNat = k := ⟨_, rfl⟩
  have hs := far_steps hf h0 h1 (k := k) (by rw [show k + 16 = (e + D.length - 1 + (3000 : Nat)).toNat from by omega]; exact hg)
  have hh := near_own (P := 10 ^ k) (Nat.pow_pos (by omega)) h0 hs.1 hs.2
  have hv := h.val'
  rw [hk] at hv
  rw [← hv] at hh
  obtain ⟨b1, b2⟩ := hold_bd hf h0 h1 hh
  obtain ⟨w1, w2⟩ := row_range h.digs' h.headed' h.pos' h.lo' b1 b2
  have hlen := (itoa_pow (g + L.length - 1) (by omega) (by omega)).2.1
  have hsl := sciT_length L g (g + L.length - 1) 16
  refine ⟨val 3000 L g, ?_, hh, Nat.lt_of_lt_of_le (Nat.pow_pos (by omega)) b1, by rw [h.text, List.length_append, List.length_cons]; omega⟩
  have hT := h.text
  have := sci_says (L := L) (g := g) (top := g + L.length - 1) (n := 16) h.digs' h.lo' (by omega) (by omega) (by omega) (by omega) h.whole b1 b2
  rw [← hT] at this
  exact this
theorem zero_says (n : Nat) (hn : n ≤ 800) : Says (chs (str (fixT [] 0 0 n ++ [101, 48]))) 0 := by
  have hs : fixT [] 0 0 n ++ [101, 48] = sciT [] 0 0 n ++ 101 :: [48] := by unfold fixT sciT; rfl
  rw [hs]
  have hA := row_all Digs.nil 0 0 1
  have hB := row_all Digs.nil 0 (0 - 1) n
  have hBl : ((rowT [] 0 (0 - 1) n).map UInt8.toNat).length = n := by rw [List.length_map, rowT_length]
  have hpw : PowT (([48] : List UInt8).map UInt8.toNat) := ⟨[], [48], rfl, .inl rfl, fun c hc => by rw [List.mem_singleton.1 hc]; rfl, by simp⟩
  have hpv : expVal (([48] : List UInt8).map UInt8.toNat) = 0 := by decide
  have hpl := sci_parts [] 0 0 n [48]
  obtain ⟨t1, t2, t3⟩ := text_num 30000 hpl (.inl rfl) hA hB (by simp [rowT]) (fun h => by
      have hn0 : n = 0 := by simpa using h
      subst hn0; rfl) hpw
  obtain ⟨c, r, hc, hcd⟩ : ∃ c r, chs (str (sciT [] 0 0 n ++ 101 :: [48])) = c :: r ∧ isDig c = true := by
    rw [hpl]
    exact ⟨_, _, rfl, hA _ (by simp [rowT])⟩
  have hs := digit_sgn hcd
  have hbody : body (chs (str (sciT [] 0 0 n ++ 101 :: [48]))) = chs (str (sciT [] 0 0 n ++ 101 :: [48])) := by
    rw [hc]; simp [body, hs]
  refine ⟨c, r, 9, hc, hs, ?_, by omega, ?_⟩
  · rcases t1 with ⟨_, _, _, _, _, _, h⟩ | ⟨_, h, _, _⟩
    · cases h
    · unfold stAt at h; rw [List.take_length] at h; exact h.symm
  · rw [hbody] at t2
    rw [t2, hpv, hBl]
    exact held_zero (hA.app hB) (by rw [vals_app, num_append, num_zero_row, num_zero_row, Nat.zero_mul]) (by omega)
/-- A text that says a number that is rounded to the amount. -/
def Good (f : Int) (a : Nat) (T : List UInt8) : Prop := (a = 0 ∧ Says (chs (str T)) 0) ∨ (0 < a ∧ ∃ X, Says (chs (str T)) (X * 10 ^ 27000) ∧ Hold 3000 f a X ∧ 0 < X)
theorem Good.back {f : Int} (hf : 0 ≤ f ∧ f ≤ 2) {a : Nat} (h1 : (a : Int) < infN f) {T : List UInt8} {neg : Bool} {b fl at' err : Int} (h : Good f a T) (hl : (minusT neg T).length ≤ 900) (hp : PParse (str (minusT neg T)) f 0 b fl at' err) : b = signedV f neg a ∧ err = 0 := by
  have hs := prog_spec (K := 30000) (by omega) hp
  rw [chs_minusT] at hs
  have hl2 : (minusL neg (chs (str T))).length ≤ 900 := by rw [← chs_minusT, chs_str, List.length_map]; exact hl
  rcases h with ⟨rfl, h⟩ | ⟨h0, X, h, hh, hX⟩
  · obtain ⟨z1, _, _, z4⟩ := h.zero hl2 ⟨hf.1, hf.2, by omega, by omega⟩ hs
    exact ⟨z1, z4⟩
  · obtain ⟨q1, r, q2, q3⟩ := h.hold hl2 hf h0 h1 hX hs
    exact ⟨by rw [q2, q3.2 hh], q1⟩
theorem short_good {f : Int} (hf : 0 ≤ f ∧ f ≤ 2) {a : Nat} (h1 : (a : Int) < infN f) {T : List UInt8} (h : ShortQ false f a T) : Good f a T ∧ T.length ≤ 40 := by
  rcases Nat.eq_zero_or_pos a with h0 | h0
  · rcases h with ⟨_, rfl⟩ | ⟨h2, _⟩
    · exact ⟨.inl ⟨h0, says_zero⟩, by decide⟩
    · omega
  · obtain ⟨X, s1, s2, s3, s4⟩ := short_says hf h0 h1 h
    exact ⟨.inr ⟨h0, X, s1, s2, s3⟩, s4⟩
theorem plain_good {f : Int} (hf : 0 ≤ f ∧ f ≤ 2) {a : Nat} (h1 : (a : Int) < infN f) {T : List UInt8} (h : ShortQ true f a T) (hl : T.length ≤ 900) : Good f a T := by
  rcases Nat.eq_zero_or_pos a with h0 | h0
  · rcases h with ⟨_, rfl⟩ | ⟨h2, _⟩
    · exact .inl ⟨h0, says_zero⟩
    · omega
  · obtain ⟨X, s1, s2, s3⟩ := plain_text hf h0 h1 h hl
    exact .inr ⟨h0, X, s1, s2, s3⟩
theorem exp_good {f : Int} (hf : 0 ≤ f ∧ f ≤ 2) {a : Nat} (h1 : (a : Int) < infN f) {T : List UInt8} {neg : Bool} (h : ExpQ (awayB 0 neg) (valA 3000 f a) 16 T) : Good f a T ∧ T.length ≤ 40 := by
  have h : ExpQ (awayB 0 false) (valA 3000 f a) 16 T := by cases neg <;> exact h
  rcases Nat.eq_zero_or_pos a with h0 | h0
  · subst h0
    rcases h with ⟨_, rfl⟩ | ⟨D, e, L, g, h⟩
    · exact ⟨.inl ⟨rfl, zero_says 16 (by omega)⟩, by rw [List.length_append]; have := fixT_length [] 0 0 16; simp only [List.length_cons, List.length_nil]; omega⟩
    · exact absurd (valA_none 3000 f) h.ne
  · obtain ⟨X, s1, s2, s3, s4⟩ := exp_says hf h0 h1 h
    exact ⟨.inr ⟨h0, X, s1, s2, s3⟩, s4⟩
theorem hex_back {f : Int} (hf : 0 ≤ f ∧ f ≤ 2) {a : Nat} (h1 : (a : Int) < infN f) {T : List UInt8} {neg : Bool} {m b fl at' err : Int} (hm : 0 ≤ m ∧ m ≤ 4) (h : HexQ f a T) (hp : PParse (str (minusT neg T)) f m b fl at' err) : b = signedV f neg a ∧ fl = 0 ∧ at' = 0 ∧ err = 0 := by
  have hs := prog_spec (K := 30000) (by omega) hp
  rw [chs_minusT] at hs
  have hl := hexQ_length hf h1 h
  have hl2 : (minusL neg (chs (str T))).length ≤ 900 := by have := minusT_length neg T; omega
  rcases Nat.eq_zero_or_pos a with h0 | h0
  · subst h0
    rcases h with ⟨_, rfl⟩ | ⟨h2, _⟩
    · exact Says.zero (l := [48, 120, 48, 112, 48]) says_zero16 hl2 ⟨hf.1, hf.2, hm.1, hm.2⟩ hs
    · omega
  · obtain ⟨q1, q2, r, q3, q4⟩ := (hexQ_says hf h0 h1 h).reads hl2 ⟨hf.1, hf.2, hm.1, hm.2⟩ hs
    obtain ⟨z1, z2⟩ := round_self (by omega) (by omega) q3
    exact ⟨by rw [q4, z1], z2, q1, q2⟩
theorem inf_back {f : Int} (hf : 0 ≤ f ∧ f ≤ 2) {b fl at' err : Int} (hp : PParse (str [105, 110, 102]) f 0 b fl at' err) : b = infN f ∧ err = 0 := by
  have hs := prog_spec (K := 30000) (by omega) hp
  have hr : ReadSpec (chs (str [105, 110, 102])) 18 (chs (str [105, 110, 102])).length true := read_of_fold (by rw [chs_str]; decide) rfl
  rcases hs with ⟨gv, _⟩ | ⟨_, gl, _⟩ | ⟨_, _, st2, x, ok, hr2, hc2⟩
  · exact absurd ⟨hf.1, hf.2, by omega, by omega⟩ gv
  · rw [chs_str] at gl; simp at gl
  · obtain ⟨q1, q2, q3⟩ := ReadSpec.one hr hr2
    subst q1 q3
    rcases hc2 with ⟨c0, _⟩ | ⟨_, c1, c2, ho⟩
    · cases c0
    · rcases ho with ⟨o1, _⟩ | ⟨_, o1, _⟩ | ⟨o1, _⟩
      · omega
      · rw [show decide ((chs (str [105, 110, 102])).getD 0 0 = 45) = false from by rw [chs_str]; decide] at o1
        exact ⟨o1, c2⟩
      · omega
theorem nan_back {f : Int} (hf : 0 ≤ f ∧ f ≤ 2) {b fl at' err : Int} (hp : PParse (str [110, 97, 110]) f 0 b fl at' err) : b = nanP f ∧ err = 0 := by
  have hs := prog_spec (K := 30000) (by omega) hp
  have hr : ReadSpec (chs (str [110, 97, 110])) 27 (chs (str [110, 97, 110])).length true := read_of_fold (by rw [chs_str]; decide) rfl
  rcases hs with ⟨gv, _⟩ | ⟨_, gl, _⟩ | ⟨_, _, st2, x, ok, hr2, hc2⟩
  · exact absurd ⟨hf.1, hf.2, by omega, by omega⟩ gv
  · rw [chs_str] at gl; simp at gl
  · obtain ⟨q1, q2, q3⟩ := ReadSpec.one hr hr2
    subst q1 q3
    rcases hc2 with ⟨c0, _⟩ | ⟨_, c1, c2, ho⟩
    · cases c0
    · rcases ho with ⟨_, o1, _⟩ | ⟨o1, _⟩ | ⟨o1, _⟩
      · exact ⟨o1, c2⟩
      · omega
      · omega
end Go.Proofs.YtbkdaoicnobllabGreatDoor

/- Plain mathematics: nothing shorter is read as the number. -/
namespace Go.Proofs.YtbkdaoicnobllabGreatDoor
set_option exponentiation.threshold 40000

theorem mult_between {V P m X : Nat} (hP : 0 < P) (hm : 0 < m) (h0 : X % (P * m) = 0) (h1 : V / P * P ≤ X) (h2 : X ≤ V / P * P + P) : X = V / (P * m) * (P * m) ∨ X = V / (P * m) * (P * m) + P * m := by
  rw [← Nat.div_div_eq_div_mul]
  generalize V / P = q at *
  obtain ⟨k, hk⟩ : ∃ k, X = k * (P * m) := ⟨X / (P * m), by
    have := Nat.div_add_mod X (P * m)
    rw [h0, Nat.add_zero, Nat.mul_comm] at this; exact this.symm⟩
  have e1 : k * (P * m) = k * m * P := by rw [Nat.mul_comm P m, Nat.mul_assoc]
  rw [hk, e1] at h1 h2
  rw [← Nat.succ_mul] at h2
  have a1 : q ≤ k * m := Nat.le_of_mul_le_mul_right h1 hP
  have a2 : k * m ≤ q + 1 := Nat.le_of_mul_le_mul_right h2 hP
  have b1 := Nat.div_mul_le_self q m
  have b2 := Nat.lt_div_mul_add (a := q) hm
  have c1 : q / m * m ≤ k * m := Nat.le_trans b1 a1
  have c2 : k * m ≤ (q / m + 1) * m := by rw [Nat.succ_mul]; omega
  have d1 : q / m ≤ k := Nat.le_of_mul_le_mul_right c1 hm
  have d2 : k ≤ q / m + 1 := Nat.le_of_mul_le_mul_right c2 hm
  rcases (by omega : k = q / m ∨ k = q / m + 1) with e | e
  · left; rw [hk, e]
  · right; rw [hk, e, Nat.succ_mul]
theorem even_gap {f : Int} {a : Nat} (h : a % 2 ^ fQ f ≠ 0) : valA 3000 f (a + 1) + valA 3000 f (a - 1) = 2 * valA 3000 f a := by
  have hp : 0 < 2 ^ fQ f := Nat.pow_pos (by omega)
  obtain ⟨b, rfl⟩ : ∃ b, a = b + 1 := ⟨a - 1, by
    rcases Nat.eq_zero_or_pos a with h0 | h0
    · rw [h0] at h; simp at h
    · omega⟩
  rw [Nat.add_sub_cancel]
  obtain ⟨e1, e2⟩ := valA_step (K := 3000) f b (by omega)
  obtain ⟨g1, g2⟩ := valA_step (K := 3000) f (b + 1) (by omega)
  have hd : (b + 1) / 2 ^ fQ f = b / 2 ^ fQ f := by
    have := @Nat.succ_div b (2 ^ fQ f)
    rw [this, if_neg (fun hdv => h (Nat.mod_eq_zero_of_dvd hdv)), Nat.add_zero]
  have hx : xA (fQ f) (b + 1) = xA (fQ f) b := by unfold xA; rw [hd]
  rw [hx] at g1 g2
  have hq : two 3000 (fE f + (xA (fQ f) b : Nat)) * (mA (fQ f) b + 1) = two 3000 (fE f + (xA (fQ f) b : Nat)) * mA (fQ f) (b + 1) := by rw [← e2, ← g1]
  have hm := Nat.eq_of_mul_eq_mul_left (two_pos 3000 _) hq
  rw [e1, g2, e2, ← hm]
  generalize two 3000 (fE f + (xA (fQ f) b : Nat)) = t
  generalize mA (fQ f) b = M
  grind
/-- Where the neighbours lie as near, the nearest decimal is picked. -/
theorem step_even' {f : Int} {a P X : Nat} (hP : 0 < P) (hg : valA 3000 f (a + 1) + valA 3000 f (a - 1) = 2 * valA 3000 f a) (h : StepYes (Hold 3000 f a) (valA 3000 f a) P X) : X = rndN (awayB 0 false) (valA 3000 f a) P * P := by
  have hd := Nat.div_add_mod (valA 3000 f a) P
  have hm := Nat.mod_lt (valA 3000 f a) hP
  rw [Nat.mul_comm] at hd
  rcases h with ⟨h0, rfl⟩ | ⟨h0, ⟨_, _, h3⟩ | ⟨h1, h2, rfl⟩ | ⟨h1, h2, rfl⟩⟩
  · exact (rnd_exact _ _ _ h0).symm
  · exact h3
  · rw [Hold.iff] at h1 h2
    have hl : leftN (valA 3000 f a) P = 1 := by
      unfold leftN
      rw [if_neg h0]
      by_cases hh : 2 * (valA 3000 f a % P) < P
      · rw [if_pos hh]
      · exfalso; apply h2
        rcases h1 with ⟨p, q, r⟩ | ⟨p, q, r⟩
        · exact .inl ⟨p, by omega, by omega⟩
        · exact .inr ⟨p, by omega, by omega⟩
    unfold rndN
    rw [if_neg]
    rw [hl, away_zero]
    rintro ⟨_, h⟩
    simp at h
  · rw [Hold.iff] at h1 h2
    have hl : leftN (valA 3000 f a) P = 3 := by
      unfold leftN
      rw [if_neg h0]
      by_cases hh : 2 * (valA 3000 f a % P) ≤ P
      · exfalso; apply h1
        rcases h2 with ⟨p, q, r⟩ | ⟨p, q, r⟩
        · exact .inl ⟨p, by omega, by omega⟩
        · exact .inr ⟨p, by omega, by omega⟩
      · rw [if_neg (by omega), if_neg (by omega)]
    unfold rndN
    rw [if_pos, Nat.succ_mul]
    rw [hl, away_zero]
    exact ⟨by decide, by simp⟩
theorem ShortAt.place {f : Int} (hf : 0 ≤ f ∧ f ≤ 2) {a : Nat} (h0 : 0 < a) (h1 : (a : Int) < infN f) {D L : List Nat} {e p g : Int} {X : Nat} (h : ShortAt f a D e p X) (hn : Norm L) (hl : L ≠ []) (hg : -(3000 : Int) ≤ g) (hv : Go.Proofs.YtbkdaoicnobllabGreatDoor.val 3000 L g = X) :
    (g + L.length = e + D.length ∧ g = p) ∨ (g + L.length = e + D.length + 1 ∧ L.length = 1 ∧ p = e + D.length - 1) := by
  obtain ⟨s1, s2⟩ := h.steps hf h0 h1
  obtain ⟨r1, r2, r3, r4, r5⟩ := short_rows hf h0 h1 h hn hl hg hv
  have hh := h.yes.hold (hold_self 3000 f a (by omega) h0)
  obtain ⟨_, m2, m3⟩ := h.yes.mult
  have hple := h.le
  have hp := List.length_pos_iff.2 hl
  -- no step between is passed by
  have key : ∀ q : Int, p < q → q ≤ e + D.length - 1 → X % 10 ^ (q + (3000 : Nat)).toNat ≠ 0 := fun q q1 q2 hz => by
    obtain ⟨n0, n1, n2⟩ := h.no q q1 q2
    obtain ⟨c, hc⟩ : ∃ c, (q + (3000 : Nat)).toNat = (p + (3000 : Nat)).toNat + c := ⟨(q + (3000 : Nat)).toNat - (p + (3000 : Nat)).toNat, by omega⟩
    rw [hc, Nat.pow_add] at hz n1 n2
    rcases mult_between (Nat.pow_pos (by omega)) (Nat.pow_pos (by omega)) hz m2 m3 with x | x
    · rw [← x] at n1; exact n1 hh
    · rw [← x] at n2; exact n2 hh
  rcases (by omega : g + L.length = e + D.length ∨ g + L.length = e + D.length + 1) with he | he
  · left
    refine ⟨he, ?_⟩
    rcases (by omega : g = p ∨ p < g) with x | x
    · exact x
    · exact absurd (by rw [← hv]; exact val_mod L 3000 g g (by omega) (by omega)) (key g x (by omega))
  · right
    have hX := r4 he
    have hu := norm_same (L := L) (M := [1]) (g := g) (k := e + D.length) hn ⟨fun d hd => by rw [List.mem_singleton.1 hd]; omega, fun _ => by simp, fun _ => by simp⟩ hl hg (by omega) (by rw [hv, hX]; unfold Go.Proofs.YtbkdaoicnobllabGreatDoor.val; simp [num_cons, num_nil])
    refine ⟨he, by rw [hu.1]; rfl, ?_⟩
    rcases (by omega : p = e + D.length - 1 ∨ p < e + D.length - 1) with x | x
    · exact x
    · refine absurd ?_ (key (e + D.length - 1) x (by omega))
      rw [hX, show (e + D.length + (3000 : Nat)).toNat = (e + D.length - 1 + (3000 : Nat)).toNat + 1 from by omega, Nat.pow_succ]
      exact Nat.mul_mod_right _ _
theorem sci_parted {L : List Nat} (hd : Digs L) (g top : Int) (n : Nat) (hn : n ≤ 800) (h1 : -1000 ≤ top) (h2 : top ≤ 1000) : Parted (sciT L g top n ++ (101 :: Lib.itoa top)) (rowT L g top (n + 1)) (top - n) := by
  obtain ⟨p1, p2, p3⟩ := itoa_pow _ h1 h2
  have hk := sci_kept hd g top n
  refine ⟨sciT L g top n, Lib.itoa top, rfl, sci_noe hd _ _ _, by have := sciT_length L g top n; omega, p1, p2, hk.symm, ?_⟩
  rw [hk, p3, rowT_length]; omega
/-- A text of digits and a power that says a number that is not rounded to the amount. -/
def NotRead (f : Int) (a : Nat) (g : Int) (M : Nat) : Prop := ∀ (A pw : List Nat) (b fl at' err : Int), AllD A → A ≠ [] → A.length ≤ 20 → num (vals A) = M → PowT pw → expVal pw = g → pw.length ≤ 10 → ProgSpec 30000 (A ++ 101 :: pw) f 0 b fl at' err → b ≠ a
theorem not_read {f : Int} (hf : 0 ≤ f ∧ f ≤ 2) {a : Nat} (h0 : 0 < a) (h1 : (a : Int) < infN f) {g : Int} (hg : -2000 ≤ g) {M : Nat} (hb1 : 10 ^ 2610 ≤ M * 10 ^ (g + (3000 : Nat)).toNat) (hb2 : M * 10 ^ (g + (3000 : Nat)).toNat < 10 ^ 3390) (hh : ¬ Hold 3000 f a (M * 10 ^ (g + (3000 : Nat)).toNat)) : NotRead f a g M := fun A pw b fl at' err hA hA0 hAl hM hpw he hpl hp => by
  obtain ⟨_, _, r, q3, q4⟩ := like_text (pre := []) (A := A) (B := []) (pt := false) (pw := pw) (S := A) (e := g) (by simp [ptL]) (.inl rfl) hA (fun c hc => by cases hc) (by simpa using hA0) (fun _ => rfl) hpw hA hg (by rw [he]; simp; omega) (by rw [he]; simp) ⟨hf.1, hf.2, by omega, by omega⟩ (by rw [List.length_append, List.length_cons]; omega) hp
  have hv : val 3000 (vals A) g = M * 10 ^ (g + (3000 : Nat)).toNat := by unfold val; rw [hM]
  rw [like_val hA hg hv hb1 hb2] at q3
  have q5 := round_scale (K := 3000) (c := 27000) (by omega) q3
  have q6 := round_hold (by omega) (Nat.lt_of_lt_of_le (Nat.pow_pos (by omega)) hb1) h0 (by omega) q5
  intro hba
  apply hh
  apply q6.1
  rw [q4] at hba
  exact hba
theorem top_range {f : Int} (hf : 0 ≤ f ∧ f ≤ 2) {a : Nat} (h0 : 0 < a) (h1 : (a : Int) < infN f) {X : Nat} (hh : Hold 3000 f a X) {L : List Nat} {g : Int} (hn : Norm L) (hl : L ≠ []) (hg : -(3000 : Int) ≤ g) (hv : val 3000 L g = X) : -385 ≤ g + L.length - 1 ∧ g + L.length - 1 ≤ 385 := by
  obtain ⟨b1, b2⟩ := valA_bd hf h0 h1
  have b3 : valA 3000 f (a + 1) < 10 ^ 3380 := by
    refine Nat.lt_of_le_of_lt (valA_mono 3000 f (by omega) (show a + 1 ≤ infN f by omega)) ?_
    rcases (by omega : f = 0 ∨ f = 1 ∨ f = 2) with rfl | rfl | rfl <;> decide +kernel
  have e1 : (10 : Nat) ^ 2619 * 10 = 10 ^ 2620 := by rw [← Nat.pow_succ]
  have hp := List.length_pos_iff.2 hl
  have lge := val_ge hn.headed hp 3000 g hg
  have llt := val_lt hn.digs 3000 g hg
  rw [hv] at lge llt
  have c1 : 10 ^ 2619 ≤ X ∧ X < 10 ^ 3380 := by
    rw [Hold.iff] at hh
    generalize (10 : Nat) ^ 2619 = A at *
    generalize (10 : Nat) ^ 2620 = B at *
    generalize (10 : Nat) ^ 3380 = C at *
    rcases hh with ⟨_, h2, h3⟩ | ⟨_, h2, h3⟩ <;> exact ⟨by omega, by omega⟩
  have t1 := (Nat.pow_lt_pow_iff_right (a := 10) (by omega)).1 (Nat.lt_of_le_of_lt c1.1 llt)
  have t2 := (Nat.pow_lt_pow_iff_right (a := 10) (by omega)).1 (Nat.lt_of_le_of_lt lge c1.2)
  omega
/-- What is known of the shortest text. -/
structure ShortF (f : Int) (a : Nat) (T d : List UInt8) (g : Int) : Prop where
  pos : 1 ≤ d.length
  le : d.length ≤ 18
  byte : ∀ c ∈ d, 48 ≤ c.toNat ∧ c.toNat ≤ 57
  parted : Parted T d g
  last : ∀ _h : 0 < d.length, d[d.length - 1] ≠ 48
  g1 : -1000 ≤ g
  g2 : g ≤ 1000
  same : a % 2 ^ fQ f ≠ 0 → ExpQ (awayB 0 false) (valA 3000 f a) (d.length - 1) T
  low : 2 ≤ d.length → NotRead f a (g + 1) (num (vals ((d.take (d.length - 1)).map UInt8.toNat)))
  high : 2 ≤ d.length → NotRead f a (g + 1) (num (vals ((d.take (d.length - 1)).map UInt8.toNat)) + 1)
theorem short_f {f : Int} (hf : 0 ≤ f ∧ f ≤ 2) {a : Nat} (h0 : 0 < a) (h1 : (a : Int) < infN f) {T : List UInt8} (h : ShortQ false f a T) : ∃ d g, ShortF f a T d g := by
  rcases h with ⟨h, _⟩ | ⟨_, D, e, p, X, L, g, h2, h3, h4, h5, h6, rfl⟩
  · omega
  · have hh := h2.yes.hold (hold_self 3000 f a (by omega) h0)
    obtain ⟨b1, b2⟩ := hold_bd hf h0 h1 hh
    obtain ⟨r1, r2, r3, r4, r5⟩ := short_rows hf h0 h1 h2 h3 h4 h5 h6
    have hat := h2.place hf h0 h1 h3 h4 h5 h6
    have hp := List.length_pos_iff.2 h4
    obtain ⟨w1, w2⟩ := top_range hf h0 h1 hh h3 h4 h5 h6
    obtain ⟨n, hn⟩ : ∃ n, L.length = n + 1 := ⟨L.length - 1, by omega⟩
    obtain ⟨top, htop⟩ : ∃ top : Int, top = g + L.length - 1 := ⟨_, rfl⟩
    have hTe : shortT false L g = sciT L g top n ++ (101 :: Lib.itoa top) := by
      unfold shortT; rw [if_neg (by decide), ← htop, hn, Nat.add_sub_cancel]
    have hlen : (rowT L g top (n + 1)).length = n + 1 := rowT_length _ _ _ _
    have hdt : (rowT L g top (n + 1)).take n = rowT L g top n := by
      rw [rowT, List.take_left' (rowT_length _ _ _ _)]
    have hpos10 : 0 < 10 ^ (g + (3000 : Nat)).toNat := Nat.pow_pos (by omega)
    have hlt := val_lt h3.digs 3000 g h5
    have hge := val_ge h3.headed hp 3000 g h5
    -- the digits ahead of the last
    have hnum : 1 ≤ n → num (vals ((rowT L g top n).map UInt8.toNat)) = X / 10 ^ (g + 1 + (3000 : Nat)).toNat := fun hn1 => by
      have := num_row h3.digs 3000 g top h5 n (by omega)
      rw [show top + 1 - (n : Int) + (3000 : Nat) = g + 1 + (3000 : Nat) from by omega, h6] at this
      rw [this]
      apply Nat.mod_eq_of_lt
      rw [Nat.div_lt_iff_lt_mul (Nat.pow_pos (by omega)), ← Nat.pow_add]
      rw [h6] at hlt
      exact Nat.lt_of_lt_of_le hlt (Nat.pow_le_pow_right (by omega) (by omega))
    have hstep : 1 ≤ n → X / 10 ^ (g + 1 + (3000 : Nat)).toNat = valA 3000 f a / 10 ^ (g + 1 + (3000 : Nat)).toNat ∧ ¬ Hold 3000 f a (X / 10 ^ (g + 1 + (3000 : Nat)).toNat * 10 ^ (g + 1 + (3000 : Nat)).toNat) ∧ ¬ Hold 3000 f a ((X / 10 ^ (g + 1 + (3000 : Nat)).toNat + 1) * 10 ^ (g + 1 + (3000 : Nat)).toNat) := fun hn1 => by
      rcases hat with ⟨c1, rfl⟩ | ⟨_, c2, _⟩
      · obtain ⟨_, n1, n2⟩ := h2.no (g + 1) (by omega) (by omega)
        obtain ⟨_, m2, m3⟩ := h2.yes.mult
        have hu := norm_last h3 h4
        have hG : 10 ^ (g + 1 + (3000 : Nat)).toNat = 10 ^ (g + (3000 : Nat)).toNat * 10 := by
          rw [show (g + 1 + (3000 : Nat)).toNat = (g + (3000 : Nat)).toNat + 1 from by omega, Nat.pow_succ]
        have hXv : X = num L * 10 ^ (g + (3000 : Nat)).toNat := h6.symm
        have e1 : X / 10 ^ (g + 1 + (3000 : Nat)).toNat = valA 3000 f a / 10 ^ (g + 1 + (3000 : Nat)).toNat := by
          rw [hG, ← Nat.div_div_eq_div_mul, ← Nat.div_div_eq_div_mul]
          rw [hXv] at m2 m3 ⊢
          rw [Nat.mul_div_cancel _ hpos10]
          rw [← Nat.succ_mul] at m3
          have x1 := Nat.le_of_mul_le_mul_right m2 hpos10
          have x2 := Nat.le_of_mul_le_mul_right m3 hpos10
          generalize valA 3000 f a / 10 ^ (g + (3000 : Nat)).toNat = q at *
          omega
        refine ⟨e1, ?_, ?_⟩
        · rw [e1]; exact n1
        · rw [e1, Nat.succ_mul]; exact n2
      · omega
    have hbd : 1 ≤ n → 10 ^ 2610 ≤ X / 10 ^ (g + 1 + (3000 : Nat)).toNat * 10 ^ (g + 1 + (3000 : Nat)).toNat ∧ (X / 10 ^ (g + 1 + (3000 : Nat)).toNat + 1) * 10 ^ (g + 1 + (3000 : Nat)).toNat < 10 ^ 3390 := fun hn1 => by
      have hG : 0 < 10 ^ (g + 1 + (3000 : Nat)).toNat := Nat.pow_pos (by omega)
      rw [h6] at hge hlt
      constructor
      · refine Nat.le_trans (Nat.pow_le_pow_right (by omega) (show 2610 ≤ (g + L.length - 1 + (3000 : Nat)).toNat by omega)) ?_
        obtain ⟨c, hc⟩ : ∃ c, (g + L.length - 1 + (3000 : Nat)).toNat = c + (g + 1 + (3000 : Nat)).toNat := ⟨(g + L.length - 1 + (3000 : Nat)).toNat - (g + 1 + (3000 : Nat)).toNat, by omega⟩
        rw [hc, Nat.pow_add] at hge ⊢
        exact Nat.mul_le_mul_right _ ((Nat.le_div_iff_mul_le hG).2 hge)
      · refine Nat.lt_of_le_of_lt (m := 10 ^ (g + L.length + (3000 : Nat)).toNat) ?_ (Nat.pow_lt_pow_right (by omega) (by omega))
        obtain ⟨c, hc⟩ : ∃ c, (g + L.length + (3000 : Nat)).toNat = c + (g + 1 + (3000 : Nat)).toNat := ⟨(g + L.length + (3000 : Nat)).toNat - (g + 1 + (3000 : Nat)).toNat, by omega⟩
        rw [hc, Nat.pow_add] at hlt ⊢
        exact Nat.mul_le_mul_right _ ((Nat.div_lt_iff_lt_mul hG).2 hlt)
    refine ⟨rowT L g top (n + 1), g, ⟨by omega, by omega, rowT_byte h3.digs g top (n + 1), ?_, fun hl0 => ?_, by omega, by omega, fun hm => ?_, fun hn2 => ?_, fun hn2 => ?_⟩⟩
    · have := sci_parted h3.digs g top n (by omega) (by omega) (by omega)
      rw [show top - (n : Int) = g from by omega] at this
      rw [hTe]; exact this
    · have hlast : (rowT L g top (n + 1))[(rowT L g top (n + 1)).length - 1] = UInt8.ofNat (48 + dig L g g) := by
        simp only [rowT, List.length_append, rowT_length, List.length_singleton, Nat.add_sub_cancel]
        rw [List.getElem_append_right (by rw [rowT_length]; exact Nat.le_refl _)]
        simp [rowT_length, show top - (n : Int) = g from by omega]
      rw [hlast]
      have hdv := dig_val h3.digs 3000 g g h5 h5
      have hd9 := dig_le h3.digs g g
      have hdn : dig L g g ≠ 0 := by
        rw [← hdv]; unfold val
        rw [Nat.mul_div_cancel _ hpos10]
        exact norm_last h3 h4
      intro hc
      have := congrArg UInt8.toNat hc
      simp at this
      omega
    · rw [hlen, Nat.add_sub_cancel, hTe]
      have hx := step_even' (Nat.pow_pos (by omega)) (even_gap hm) h2.yes
      refine .inr ⟨D, e, L, g, ⟨h2.digs, h2.headed, h2.pos, h2.lo, h2.val, h3.digs, h3.headed, hp, h5, by omega, ?_, by rw [htop]⟩⟩
      rw [h6, hx]
      rcases hat with ⟨c1, c2⟩ | ⟨c1, c2, c3⟩
      · rw [show e + (D.length : Int) - 1 - n = p from by omega]
      · rw [show e + (D.length : Int) - 1 - n = p from by omega]
    · rw [hlen, Nat.add_sub_cancel, hdt, hnum (by omega)]
      exact not_read hf h0 h1 (by omega) (hbd (by omega)).1 (Nat.lt_of_le_of_lt (Nat.div_mul_le_self _ _) b2) (hstep (by omega)).2.1
    · rw [hlen, Nat.add_sub_cancel, hdt, hnum (by omega)]
      refine not_read hf h0 h1 (by omega) ?_ ?_ (hstep (by omega)).2.2
      · rw [Nat.succ_mul]; exact Nat.le_trans (hbd (by omega)).1 (Nat.le_add_right _ _)
      · exact (hbd (by omega)).2
end Go.Proofs.YtbkdaoicnobllabGreatDoor
