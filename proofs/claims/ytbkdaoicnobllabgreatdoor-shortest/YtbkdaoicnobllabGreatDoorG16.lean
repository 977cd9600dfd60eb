import Derived.Test.YtbkdaoicnobllabGreatDoorG15
import Derived.Test.YtbkdaoicnobllabGreatDoorG00
import Derived.Test.YtbkdaoicnobllabGreatDoorG11

namespace Go.Proofs.YtbkdaoicnobllabGreatDoor

/-- There is one answer. -/
theorem RoundSpec.one {K : Nat} {f mode : Int} {neg : Bool} {X : Nat} {r fl r' fl' : Int} (hK : 1100 ≤ K) (h : RoundSpec K f mode neg X r fl) (h' : RoundSpec K f mode neg X r' fl') : r = r' ∧ fl = fl' := by
  rcases h with ⟨h0, h1, h2⟩ | ⟨h0, h1, h2, h3⟩ | ⟨h0, h1, a, ha, h2, h3, h4⟩
  · rcases h' with ⟨g0, g1, g2⟩ | ⟨g0, _⟩ | ⟨g0, _⟩
    · rw [h1, h2, g1, g2]; exact ⟨rfl, rfl⟩
    · omega
    · omega
  · rcases h' with ⟨g0, g1, g2⟩ | ⟨g0, g1, g2, g3⟩ | ⟨g0, g1, _⟩
    · omega
    · rw [h2, h3, g2, g3]; exact ⟨rfl, rfl⟩
    · omega
  · rcases h' with ⟨g0, g1, g2⟩ | ⟨g0, g1, g2, g3⟩ | ⟨g0, g1, b, gb, g2, g3, g4⟩
    · omega
    · omega
    · have hab := valA_one hK h2 h3 g2 g3
      subst hab
      rcases h4 with ⟨h4, h5, h6⟩ | ⟨h4, h5, h6⟩
      · rcases g4 with ⟨g4, g5, g6⟩ | ⟨g4, g5, g6⟩
        · rw [h5, h6, g5, g6]; exact ⟨rfl, rfl⟩
        · exact absurd h4 g4
      · rcases g4 with ⟨g4, g5, g6⟩ | ⟨g4, g5, g6⟩
        · exact absurd g4 h4
        · have e : r = r' := h5.trans g5.symm
          rw [h6, g6, e]; exact ⟨rfl, rfl⟩

theorem valA_low {K : Nat} {f : Int} (hf : Fmt f) (hK : 1100 ≤ K) : valA K f (2 ^ fQ f) = two K (fLow f) := by
  have h := valA_at K f 0 (2 ^ fQ f) (Nat.le_refl _) hK
  rw [Nat.zero_mul, Nat.zero_add, if_pos rfl] at h
  have hb := hf.b2
  have hq := hf.q
  rw [h, ← two_mul K _ (by rw [hf.e]; omega), hf.e, hf.low]
  congr 1; omega
theorem infN_eq {f : Int} (hf : Fmt f) : infN f = (2 * fB f + 1).toNat * 2 ^ fQ f := by
  have h := hf.i
  have hb := hf.b1
  have e : (2 * fB f + 1) = (((2 * fB f + 1).toNat : Nat) : Int) := by omega
  rw [e] at h
  exact_mod_cast h
theorem valA_inf {K : Nat} {f : Int} (hf : Fmt f) (hK : 1100 ≤ K) : valA K f (infN f) = two K (fB f + 1) := by
  have h := valA_at K f (2 * fB f + 1).toNat 0 (Nat.zero_le _) hK
  have hb := hf.b1
  have hb2 := hf.b2
  have hq := hf.q
  rw [Nat.add_zero, ← infN_eq hf, if_neg (by omega), Nat.add_zero, ← two_mul K _ (by rw [hf.e]; omega), hf.e] at h
  rw [h]; congr 1; omega

/-- What the lower neighbour and the rest make, where these are right. -/
theorem round_fill {K : Nat} {f mode : Int} {neg : Bool} {X A : Nat} {re pw : Int} (hf : Fmt f) (hK : 1100 ≤ K) (hX : 0 < X) (hA : A < infN f) (h1 : valA K f A ≤ X) (h2 : X < valA K f (A + 1)) (h3 : X = valA K f A ↔ re = 0)
    (h4 : re ≠ 0 → cmpN (X * 2) (valA K f A + valA K f (A + 1)) + 2 = re) (hp : pw ≤ fB f) :
    RoundSpec K f mode neg X (roundP (fB f) ((2 ^ fQ f : Nat) : Int) (infN f) mode neg A re pw).1 (roundP (fB f) ((2 ^ fQ f : Nat) : Int) (infN f) mode neg A re pw).2 := by
  have hlow : X < two K (fLow f) ↔ A < 2 ^ fQ f := by
    rw [← valA_low hf hK]
    constructor
    · intro h
      rcases Nat.lt_or_ge A (2 ^ fQ f) with g | g
      · exact g
      · have := valA_mono K f hK g; omega
    · intro h
      have := valA_mono K f hK (show A + 1 ≤ 2 ^ fQ f from h); omega
  have hinf : X < valA K f (infN f) := by have := valA_mono K f hK (show A + 1 ≤ infN f from hA); omega
  refine .inr (.inr ⟨hX, hinf, A, hA, h1, h2, ?_⟩)
  unfold roundP
  have hodd : ((A : Int) % 2 == 1) = (A % 2 == 1) := by
    rw [Bool.eq_iff_iff]; simp; omega
  by_cases hr : re = 0
  · rw [if_pos hr]; exact .inl ⟨h3.2 hr, rfl, rfl⟩
  · rw [if_neg hr]
    refine .inr ⟨fun h => hr (h3.1 h), ?_⟩
    rw [h4 hr, hodd]
    by_cases hc : awayB mode neg re (A % 2 == 1) = true
    · rw [if_pos hc, if_pos hc]
      refine ⟨rfl, ?_⟩
      show 1 + (if (A : Int) < ((2 ^ fQ f : Nat) : Int) then 4 else 0) + (if fB f < pw ∨ (A : Int) + 1 = infN f then 2 else 0) = 1 + (if X < two K (fLow f) then 4 else 0) + (if (A : Int) + 1 = infN f then 2 else 0)
      congr 1
      · congr 1
        by_cases hl : X < two K (fLow f)
        · rw [if_pos hl, if_pos (by have := hlow.1 hl; exact_mod_cast this)]
        · rw [if_neg hl, if_neg (fun h => hl (hlow.2 (by exact_mod_cast h)))]
      · by_cases hl : (A : Int) + 1 = infN f
        · rw [if_pos hl, if_pos (.inr hl)]
        · rw [if_neg hl, if_neg (by omega)]
    · rw [if_neg hc, if_neg hc]
      refine ⟨rfl, ?_⟩
      show 1 + (if (A : Int) < ((2 ^ fQ f : Nat) : Int) then 4 else 0) + (if fB f < pw ∨ (A : Int) = infN f then 2 else 0) = 1 + (if X < two K (fLow f) then 4 else 0) + (if (A : Int) = infN f then 2 else 0)
      congr 1
      · congr 1
        by_cases hl : X < two K (fLow f)
        · rw [if_pos hl, if_pos (by have := hlow.1 hl; exact_mod_cast this)]
        · rw [if_neg hl, if_neg (fun h => hl (hlow.2 (by exact_mod_cast h)))]
      · by_cases hl : (A : Int) = infN f
        · rw [if_pos hl, if_pos (.inr hl)]
        · rw [if_neg hl, if_neg (by omega)]
/-- T and beyond. -/
theorem round_beyond {K : Nat} {f mode : Int} {neg : Bool} {X V U : Nat} {pw : Int} (hf : Fmt f) (hX : 0 < X) (h : valA K f (infN f) ≤ X) (hp : fB f < pw) :
    RoundSpec K f mode neg X (roundP (fB f) ((2 ^ fQ f : Nat) : Int) (infN f) mode neg (lowPair (fQ f) (fB f) ((2 ^ fQ f : Nat) : Int) (infN f) V U pw).1 (lowPair (fQ f) (fB f) ((2 ^ fQ f : Nat) : Int) (infN f) V U pw).2 pw).1
      (roundP (fB f) ((2 ^ fQ f : Nat) : Int) (infN f) mode neg (lowPair (fQ f) (fB f) ((2 ^ fQ f : Nat) : Int) (infN f) V U pw).1 (lowPair (fQ f) (fB f) ((2 ^ fQ f : Nat) : Int) (infN f) V U pw).2 pw).2 := by
  refine .inr (.inl ⟨hX, h, ?_⟩)
  unfold lowPair
  rw [if_pos hp]
  unfold roundP
  rw [if_neg (show ¬ (3 : Int) = 0 by decide)]
  have hodd : (((infN f : Int) - 1) % 2 == 1) = true := by rw [hf.odd]; rfl
  have hi := hf.i
  have hb := hf.b1
  have hN : (0 : Int) < ((2 ^ fQ f : Nat) : Int) := by have : 0 < 2 ^ fQ f := Nat.pow_pos (by omega); omega
  have hle : (2 * fB f + 1) * ((2 ^ fQ f : Nat) : Int) ≥ 3 * ((2 ^ fQ f : Nat) : Int) := Int.mul_le_mul_of_nonneg_right (by omega) (by omega)
  rw [hodd]
  by_cases hc : awayB mode neg 3 true = true
  · rw [if_pos hc, if_pos hc]
    refine ⟨?_, by show (infN f : Int) - 1 + 1 = infN f; omega⟩
    show 1 + (if (infN f : Int) - 1 < ((2 ^ fQ f : Nat) : Int) then (4 : Int) else 0) + (if fB f < pw ∨ (infN f : Int) - 1 + 1 = infN f then 2 else 0) = 3
    rw [if_neg (by omega), if_pos (.inl hp)]; rfl
  · rw [if_neg hc, if_neg hc]
    refine ⟨?_, rfl⟩
    show 1 + (if (infN f : Int) - 1 < ((2 ^ fQ f : Nat) : Int) then (4 : Int) else 0) + (if fB f < pw ∨ (infN f : Int) - 1 = infN f then 2 else 0) = 3
    rw [if_neg (by omega), if_pos (.inl hp)]; rfl
/-- Nearer to 0 than half of the least number. -/
theorem round_tiny {K : Nat} {f mode : Int} {neg : Bool} {X V U : Nat} {pw : Int} (hf : Fmt f) (hK : 1100 ≤ K) (hX : 0 < X) (h : X * 2 < valA K f 1) (hp : pw < -fB f - fQ f) :
    RoundSpec K f mode neg X (roundP (fB f) ((2 ^ fQ f : Nat) : Int) (infN f) mode neg (lowPair (fQ f) (fB f) ((2 ^ fQ f : Nat) : Int) (infN f) V U pw).1 (lowPair (fQ f) (fB f) ((2 ^ fQ f : Nat) : Int) (infN f) V U pw).2 pw).1
      (roundP (fB f) ((2 ^ fQ f : Nat) : Int) (infN f) mode neg (lowPair (fQ f) (fB f) ((2 ^ fQ f : Nat) : Int) (infN f) V U pw).1 (lowPair (fQ f) (fB f) ((2 ^ fQ f : Nat) : Int) (infN f) V U pw).2 pw).2 := by
  have hb := hf.b1
  have hi : 0 < infN f := by rw [infN_eq hf]; exact Nat.mul_pos (by omega) (Nat.pow_pos (by omega))
  have e : lowPair (fQ f) (fB f) ((2 ^ fQ f : Nat) : Int) (infN f) V U pw = (0, 1) := by
    unfold lowPair; rw [if_neg (by omega), if_pos (by omega), if_pos (by omega)]
  rw [e]
  have hz := valA_zero K f
  exact round_fill (A := 0) (re := 1) hf hK hX hi (by omega) (by rw [Nat.zero_add]; omega) (by rw [hz]; omega) (fun _ => by rw [hz, cmpN_lt (by rw [Nat.zero_add, Nat.zero_add]; omega)]; rfl) (by omega)

/-- The comparisons of a number with its neighbours, from a division. -/
theorem cell_of {g m U T X A1 A2 : Nat} (hg : 0 < g) (hU : 0 < U) (hX : X * (2 * U) = g * T) (hm : m = T / (2 * U)) (h1 : A1 = g * m) (h2 : A2 = g * (m + 1)) :
    A1 ≤ X ∧ X < A2 ∧ (X = A1 ↔ restOf (T % (2 * U)) U = 0) ∧ (restOf (T % (2 * U)) U ≠ 0 → cmpN (X * 2) (A1 + A2) + 2 = restOf (T % (2 * U)) U) := by
  have hd : 2 * U * m + T % (2 * U) = T := by rw [hm]; exact Nat.div_add_mod T (2 * U)
  have hr : T % (2 * U) < 2 * U := Nat.mod_lt _ (by omega)
  generalize T % (2 * U) = r at *
  subst h1 h2
  have hU2 : 0 < 2 * U := by omega
  have e1 : X * (2 * U) = g * m * (2 * U) + g * r := by rw [hX, ← hd, Nat.mul_add]; congr 1; grind
  have e2 : g * (m + 1) * (2 * U) = g * m * (2 * U) + g * (2 * U) := by grind
  have l1 : g * r < g * (2 * U) := Nat.mul_lt_mul_of_pos_left hr hg
  refine ⟨Nat.le_of_mul_le_mul_right (by rw [e1]; omega) hU2, Nat.lt_of_mul_lt_mul_right (a := 2 * U) (by rw [e1, e2]; omega), ?_, ?_⟩
  · unfold restOf
    constructor
    · intro h
      have h0 : g * r = 0 := by rw [h] at e1; omega
      rcases Nat.mul_eq_zero.1 h0 with h0 | h0
      · omega
      · rw [if_pos h0]
    · intro h
      by_cases hr0 : r = 0
      · rw [hr0, Nat.mul_zero, Nat.add_zero] at e1
        exact Nat.eq_of_mul_eq_mul_right hU2 e1
      · rw [if_neg hr0] at h
        split at h
        · omega
        · split at h <;> omega
  · intro h
    unfold restOf at h ⊢
    have e3 : (X * 2) * (2 * U) = (g * m + g * m) * (2 * U) + 2 * (g * r) := by grind
    have e4 : (g * m + g * (m + 1)) * (2 * U) = (g * m + g * m) * (2 * U) + 2 * (g * U) := by grind
    by_cases hr0 : r = 0
    · rw [if_pos hr0] at h; omega
    · rw [if_neg hr0]
      by_cases hlt : r < U
      · rw [if_pos hlt, cmpN_lt]
        · rfl
        · have l2 : g * r < g * U := Nat.mul_lt_mul_of_pos_left hlt hg
          exact Nat.lt_of_mul_lt_mul_right (a := 2 * U) (by rw [e3, e4]; omega)
      · rw [if_neg hlt]
        by_cases heq : r = U
        · rw [if_pos heq, cmpN_eq]
          · rfl
          · rw [heq] at e3; exact Nat.eq_of_mul_eq_mul_right hU2 (by rw [e3, e4])
        · rw [if_neg heq, cmpN_gt]
          · rfl
          · have l2 : g * U < g * r := Nat.mul_lt_mul_of_pos_left (by omega) hg
            exact Nat.lt_of_mul_lt_mul_right (a := 2 * U) (by rw [e3, e4]; omega)
/-- A number's cell: the amount below it, its worth, how what is left compares. -/
structure Cell (K : Nat) (f : Int) (V U : Nat) (pw : Int) (A g m T : Nat) (re : Int) : Prop where
  pos : 0 < g
  lt : A < infN f
  a1 : valA K f A = g * m
  a2 : valA K f (A + 1) = g * (m + 1)
  low : lowPair (fQ f) (fB f) ((2 ^ fQ f : Nat) : Int) (infN f) V U pw = ((A : Int), re)
  m : m = T / (2 * U)
  re : re = restOf (T % (2 * U)) U
  eq : ∀ X : Nat, X * U = V * two K pw → X * (2 * U) = g * T
theorem cell_sub {K : Nat} {f : Int} {V U : Nat} {pw : Int} (hf : Fmt f) (hK : 2500 ≤ K) (hVU : V < 2 * U) (h1 : pw < 1 - fB f) (h2 : -fB f - fQ f ≤ pw) :
    ∃ A m T re, Cell K f V U pw A (two K (fE f)) m T re := by
  have hb := hf.b1
  have hb2 := hf.b2
  have hq := hf.q
  have he := hf.e
  obtain ⟨c, hc⟩ : ∃ c : Nat, c = ((fQ f : Int) + 1 - (1 - fB f - pw)).toNat := ⟨_, rfl⟩
  have hci : (c : Int) = (fQ f : Int) + 1 - (1 - fB f - pw) := by omega
  have hm := take_lt (c := c) hVU
  have hcq : 2 ^ c ≤ 2 ^ fQ f := Nat.pow_le_pow_right (by omega) (by omega)
  have hpN : 0 < 2 ^ fQ f := Nat.pow_pos (by omega)
  refine ⟨V * 2 ^ c / (2 * U), V * 2 ^ c / (2 * U), V * 2 ^ c, _, two_pos _ _, ?_, ?_, ?_, ?_, rfl, rfl, ?_⟩
  · rw [infN_eq hf]
    have : 1 * 2 ^ fQ f ≤ (2 * fB f + 1).toNat * 2 ^ fQ f := Nat.mul_le_mul_right _ (by omega)
    omega
  · have h := valA_at K f 0 (V * 2 ^ c / (2 * U)) (by omega) (by omega)
    rw [Nat.zero_mul, Nat.zero_add, if_pos rfl] at h; exact h
  · have h := valA_at K f 0 (V * 2 ^ c / (2 * U) + 1) (by omega) (by omega)
    rw [Nat.zero_mul, Nat.zero_add, if_pos rfl] at h; exact h
  · unfold lowPair; rw [if_neg (by omega), if_pos h1, if_neg (by omega), ← hc]
  · intro X hX
    have e1 : two K pw * 2 = two K (fE f) * 2 ^ c := by
      have e2 := two_mul K pw (by omega) 1
      rw [Nat.pow_one] at e2
      rw [← e2, ← two_mul K _ (by omega)]
      congr 1; omega
    rw [Nat.mul_left_comm, hX, Nat.mul_left_comm, Nat.mul_comm 2, e1, Nat.mul_left_comm]
theorem cell_nrm {K : Nat} {f : Int} {V U : Nat} {pw : Int} (hf : Fmt f) (hK : 2500 ≤ K) (hUV : U ≤ V) (hVU : V < 2 * U) (h1 : 1 - fB f ≤ pw) (h2 : pw ≤ fB f) :
    ∃ A m T re, Cell K f V U pw A (two K (pw - fQ f)) m T re := by
  have hb := hf.b1
  have hb2 := hf.b2
  have hq := hf.q
  have he := hf.e
  have hU : 0 < U := by omega
  have hpN : 0 < 2 ^ fQ f := Nat.pow_pos (by omega)
  have hm := take_lt (c := fQ f + 1) hVU
  have hm2 : 2 ^ fQ f ≤ V * 2 ^ (fQ f + 1) / (2 * U) := by
    rw [Nat.le_div_iff_mul_le (by omega), Nat.pow_succ, Nat.mul_comm V, Nat.mul_assoc, ]
    exact Nat.mul_le_mul_left _ (Nat.mul_le_mul_left 2 hUV)
  obtain ⟨m, hmm⟩ : ∃ m, m = V * 2 ^ (fQ f + 1) / (2 * U) := ⟨_, rfl⟩
  obtain ⟨x, hx⟩ : ∃ x : Nat, x = (pw - (1 - fB f)).toNat := ⟨_, rfl⟩
  have hxi : (x : Int) = pw - (1 - fB f) := by omega
  rw [← hmm] at hm hm2
  rw [Nat.pow_succ] at hm
  have ea : m + x * 2 ^ fQ f = (x + 1) * 2 ^ fQ f + (m - 2 ^ fQ f) := by rw [Nat.succ_mul]; omega
  have ep : fE f + ((x + 1 - 1 : Nat) : Int) = pw - fQ f := by omega
  refine ⟨m + x * 2 ^ fQ f, m, V * 2 ^ (fQ f + 1), _, two_pos _ _, ?_, ?_, ?_, ?_, hmm, rfl, ?_⟩
  · rw [infN_eq hf]
    have h3 : (x + 2) * 2 ^ fQ f ≤ (2 * fB f + 1).toNat * 2 ^ fQ f := Nat.mul_le_mul_right _ (by omega)
    have h4 : (x + 2) * 2 ^ fQ f = x * 2 ^ fQ f + 2 ^ fQ f * 2 := by grind
    omega
  · rw [ea, valA_at K f _ _ (by omega) (by omega), if_neg (by omega), ep]
    congr 1; omega
  · rw [ea, Nat.add_assoc, valA_at K f _ _ (by omega) (by omega), if_neg (by omega), ep]
    congr 1; omega
  · unfold lowPair; rw [if_neg (by omega), if_neg (by omega), ← hmm]
    congr 1
    rw [← hxi]; push_cast; rfl
  · intro X hX
    have e1 : two K pw = two K (pw - fQ f) * 2 ^ fQ f := by
      rw [← two_mul K _ (by omega)]; congr 1; omega
    rw [Nat.mul_left_comm, hX, e1, Nat.pow_succ]; grind
theorem cell_any {K : Nat} {f : Int} {V U : Nat} {pw : Int} (hf : Fmt f) (hK : 2500 ≤ K) (hUV : U ≤ V) (hVU : V < 2 * U) (h1 : -fB f - fQ f ≤ pw) (h2 : pw ≤ fB f) :
    ∃ A s m T re, Cell K f V U pw A (two K s) m T re ∧ pw - fQ f ≤ s ∧ fE f ≤ s ∧ s ≤ pw + 1 := by
  have he := hf.e
  have hb := hf.b1
  by_cases h : pw < 1 - fB f
  · obtain ⟨A, m, T, re, hc⟩ := cell_sub hf hK hVU h h1
    exact ⟨A, fE f, m, T, re, hc, by omega, by omega, by omega⟩
  · obtain ⟨A, m, T, re, hc⟩ := cell_nrm hf hK hUV hVU (by omega) h2
    exact ⟨A, pw - fQ f, m, T, re, hc, by omega, by omega, by omega⟩
/-- The number itself: over, under and power say X. -/
theorem round_same {K : Nat} {f mode : Int} {neg : Bool} {X V U : Nat} {pw : Int} (hf : Fmt f) (hK : 2500 ≤ K) (hKp : -(K : Int) ≤ pw) (hX : X * U = V * two K pw) (hUV : U ≤ V) (hVU : V < 2 * U) :
    RoundSpec K f mode neg X (roundP (fB f) ((2 ^ fQ f : Nat) : Int) (infN f) mode neg (lowPair (fQ f) (fB f) ((2 ^ fQ f : Nat) : Int) (infN f) V U pw).1 (lowPair (fQ f) (fB f) ((2 ^ fQ f : Nat) : Int) (infN f) V U pw).2 pw).1
      (roundP (fB f) ((2 ^ fQ f : Nat) : Int) (infN f) mode neg (lowPair (fQ f) (fB f) ((2 ^ fQ f : Nat) : Int) (infN f) V U pw).1 (lowPair (fQ f) (fB f) ((2 ^ fQ f : Nat) : Int) (infN f) V U pw).2 pw).2 := by
  have hb := hf.b1
  have hb2 := hf.b2
  have hq := hf.q
  have he := hf.e
  have hU : 0 < U := by omega
  have hge : two K pw ≤ X := Nat.le_of_mul_le_mul_right (by rw [hX, Nat.mul_comm]; exact Nat.mul_le_mul_right _ hUV) hU
  have hlt : X < two K (pw + 1) := by
    have e2 := two_mul K pw (by omega) 1
    rw [Nat.pow_one] at e2
    rw [show pw + 1 = pw + (1 : Nat) from rfl, e2]
    apply Nat.lt_of_mul_lt_mul_right (a := U)
    rw [hX, Nat.mul_assoc, Nat.mul_comm (two K pw)]
    exact Nat.mul_lt_mul_of_pos_right hVU (two_pos _ _)
  have hX0 : 0 < X := Nat.lt_of_lt_of_le (two_pos _ _) hge
  by_cases hA : fB f < pw
  · refine round_beyond hf hX0 ?_ hA
    rw [valA_inf hf (by omega)]
    refine Nat.le_trans ?_ hge
    have e3 := two_mul K (fB f + 1) (by omega) (pw - (fB f + 1)).toNat
    rw [show fB f + 1 + ((pw - (fB f + 1)).toNat : Nat) = pw from by omega] at e3
    rw [e3]; exact Nat.le_mul_of_pos_right _ (Nat.pow_pos (by omega))
  · by_cases hB : pw < -fB f - fQ f
    · refine round_tiny hf (by omega) hX0 ?_ hB
      have hv := valA_at K f 0 1 Nat.one_le_two_pow (by omega)
      rw [Nat.zero_mul, Nat.zero_add, if_pos rfl, Nat.mul_one] at hv
      rw [hv]
      have e3 := two_mul K (pw + 1) (by omega) (fE f - (pw + 1)).toNat
      rw [show pw + 1 + ((fE f - (pw + 1)).toNat : Nat) = fE f from by omega] at e3
      rw [e3]
      have : 2 ^ 1 ≤ 2 ^ (fE f - (pw + 1)).toNat := Nat.pow_le_pow_right (by omega) (by omega)
      have h5 : two K (pw + 1) * 2 ≤ two K (pw + 1) * 2 ^ (fE f - (pw + 1)).toNat := Nat.mul_le_mul_left _ (by omega)
      omega
    · obtain ⟨A, s, m, T, re, hc, _⟩ := cell_any (pw := pw) hf hK hUV hVU (by omega) (by omega)
      obtain ⟨c1, c2, c3, c4⟩ := cell_of hc.pos hU (hc.eq X hX) hc.m hc.a1 hc.a2
      rw [hc.low]
      rw [← hc.re] at c3 c4
      exact round_fill hf (by omega) hX0 hc.lt c1 c2 c3 c4 (by omega)
/-- A number of which only is known between which neighbouring multiples of a small power of two it lies: Y, for X. -/
theorem round_near {K : Nat} {f mode : Int} {neg : Bool} {X Y V U u n : Nat} {pw q : Int} (hf : Fmt f) (hK : 2500 ≤ K) (hKp : -(K : Int) ≤ q) (hX : X * U = V * two K pw) (hUV : U ≤ V) (hVU : V < 2 * U)
    (hq : q < pw - 60) (hu : u = two K q) (x1 : n * u < X) (x2 : X < (n + 1) * u) (y1 : n * u < Y) (y2 : Y < (n + 1) * u) :
    RoundSpec K f mode neg Y (roundP (fB f) ((2 ^ fQ f : Nat) : Int) (infN f) mode neg (lowPair (fQ f) (fB f) ((2 ^ fQ f : Nat) : Int) (infN f) V U pw).1 (lowPair (fQ f) (fB f) ((2 ^ fQ f : Nat) : Int) (infN f) V U pw).2 pw).1
      (roundP (fB f) ((2 ^ fQ f : Nat) : Int) (infN f) mode neg (lowPair (fQ f) (fB f) ((2 ^ fQ f : Nat) : Int) (infN f) V U pw).1 (lowPair (fQ f) (fB f) ((2 ^ fQ f : Nat) : Int) (infN f) V U pw).2 pw).2 := by
  have hb := hf.b1
  have hb2 := hf.b2
  have hqq := hf.q
  have he := hf.e
  have hU : 0 < U := by omega
  have hY0 : 0 < Y := by omega
  have hu0 : 0 < u := by rw [hu]; exact two_pos _ _
  -- a multiple of u compares with Y as with X
  have mul1 : ∀ t : Nat, t * u ≤ X ↔ t * u ≤ Y := by
    intro t
    rcases Nat.lt_or_ge n t with h | h
    · have := Nat.mul_le_mul_right u (show n + 1 ≤ t from h); omega
    · have := Nat.mul_le_mul_right u h; omega
  have mul2 : ∀ t : Nat, X < t * u ↔ Y < t * u := by intro t; have := mul1 t; omega
  have mul3 : ∀ t : Nat, X ≠ t * u ∧ Y ≠ t * u := by
    intro t
    rcases Nat.lt_or_ge n t with h | h
    · have := Nat.mul_le_mul_right u (show n + 1 ≤ t from h); omega
    · have := Nat.mul_le_mul_right u h; omega
  have pw2 : ∀ t : Int, q ≤ t → two K t = 2 ^ (t - q).toNat * u := by
    intro t ht
    have := two_mul K q hKp (t - q).toNat
    rw [show q + ((t - q).toNat : Nat) = t from by omega] at this
    rw [this, hu, Nat.mul_comm]
  have hge : two K pw ≤ X := Nat.le_of_mul_le_mul_right (by rw [hX, Nat.mul_comm]; exact Nat.mul_le_mul_right _ hUV) hU
  have hlt : X < two K (pw + 1) := by
    have e2 := two_mul K pw (by omega) 1
    rw [Nat.pow_one] at e2
    rw [show pw + 1 = pw + (1 : Nat) from rfl, e2]
    apply Nat.lt_of_mul_lt_mul_right (a := U)
    rw [hX, Nat.mul_assoc, Nat.mul_comm (two K pw)]
    exact Nat.mul_lt_mul_of_pos_right hVU (two_pos _ _)
  by_cases hA : fB f < pw
  · refine round_beyond hf hY0 ?_ hA
    rw [valA_inf hf (by omega)]
    have hyp : two K pw ≤ Y := by rw [pw2 pw (by omega)] at hge ⊢; exact (mul1 _).1 hge
    refine Nat.le_trans ?_ hyp
    have e3 := two_mul K (fB f + 1) (by omega) (pw - (fB f + 1)).toNat
    rw [show fB f + 1 + ((pw - (fB f + 1)).toNat : Nat) = pw from by omega] at e3
    rw [e3]; exact Nat.le_mul_of_pos_right _ (Nat.pow_pos (by omega))
  · have hly : Y < two K (pw + 1) := by rw [pw2 (pw + 1) (by omega)] at hlt ⊢; exact (mul2 _).1 hlt
    by_cases hB : pw < -fB f - fQ f
    · refine round_tiny hf (by omega) hY0 ?_ hB
      have hv := valA_at K f 0 1 Nat.one_le_two_pow (by omega)
      rw [Nat.zero_mul, Nat.zero_add, if_pos rfl, Nat.mul_one] at hv
      rw [hv]
      have e3 := two_mul K (pw + 1) (by omega) (fE f - (pw + 1)).toNat
      rw [show pw + 1 + ((fE f - (pw + 1)).toNat : Nat) = fE f from by omega] at e3
      rw [e3]
      have : 2 ^ 1 ≤ 2 ^ (fE f - (pw + 1)).toNat := Nat.pow_le_pow_right (by omega) (by omega)
      have h5 : two K (pw + 1) * 2 ≤ two K (pw + 1) * 2 ^ (fE f - (pw + 1)).toNat := Nat.mul_le_mul_left _ (by omega)
      omega
    · obtain ⟨A, s, m, T, re, hc, hs1, hs2, hs3⟩ := cell_any (pw := pw) hf hK hUV hVU (by omega) (by omega)
      obtain ⟨c1, c2, c3, c4⟩ := cell_of hc.pos hU (hc.eq X hX) hc.m hc.a1 hc.a2
      rw [hc.low]
      rw [← hc.re] at c3 c4
      obtain ⟨z, hz⟩ : ∃ z, two K s = 2 * z * u := ⟨2 ^ (s - q - 1).toNat, by
        rw [pw2 s (by omega), show (s - q).toNat = (s - q - 1).toNat + 1 from by omega, Nat.pow_succ, Nat.mul_comm (2 ^ _) 2]⟩
      have a1 : valA K f A = 2 * z * m * u := by rw [hc.a1, hz]; grind
      have a2 : valA K f (A + 1) = 2 * z * (m + 1) * u := by rw [hc.a2, hz]; grind
      have am : valA K f A + valA K f (A + 1) = 2 * (z * (2 * m + 1) * u) := by rw [a1, a2]; grind
      have hn0 : re ≠ 0 := by
        intro h0
        have := c3.2 h0
        rw [a1] at this
        exact (mul3 _).1 this
      have hcmp : cmpN (Y * 2) (valA K f A + valA K f (A + 1)) = cmpN (X * 2) (valA K f A + valA K f (A + 1)) := by
        rw [am]
        have k1 := mul2 (z * (2 * m + 1))
        have k2 := mul3 (z * (2 * m + 1))
        generalize z * (2 * m + 1) * u = t at *
        unfold cmpN
        by_cases hh : X < t
        · rw [if_pos (by omega), if_pos (by omega)]
        · rw [if_neg (by omega), if_neg (by omega), if_neg (by omega), if_neg (by omega)]
      refine round_fill hf (by omega) hY0 hc.lt ?_ ?_ ?_ (fun _ => ?_) (by omega)
      · rw [a1] at c1 ⊢; exact (mul1 _).1 c1
      · rw [a2] at c2 ⊢; exact (mul2 _).1 c2
      · constructor
        · intro h; rw [a1] at h; exact absurd h (mul3 _).2
        · intro h; exact absurd h hn0
      · rw [hcmp]; exact c4 hn0
end Go.Proofs.YtbkdaoicnobllabGreatDoor

namespace Go.Proofs.YtbkdaoicnobllabGreatDoor

/-- The amount and flags of a fraction. -/
def amtOf (f mode : Int) (neg : Bool) (V U : Nat) (q : Int) : Int × Int :=
  roundP (fB f) ((2 ^ fQ f : Nat) : Int) (infN f) mode neg (lowPair (fQ f) (fB f) ((2 ^ fQ f : Nat) : Int) (infN f) V U q).1 (lowPair (fQ f) (fB f) ((2 ^ fQ f : Nat) : Int) (infN f) V U q).2 q
theorem numB_num (D : List Nat) : numB 10 D = num D := by
  have : ∀ n, ∀ D : List Nat, D.length = n → numB 10 D = num D := by
    intro n; induction n with
    | zero => intro D h; rw [List.length_eq_zero_iff.1 h]; rfl
    | succ n ih =>
      intro D h
      have hne : D ≠ [] := by intro e; rw [e] at h; simp at h
      rw [← List.dropLast_concat_getLast hne, numB_snoc, num_snoc, ih _ (by simp [h])]; omega
  exact this _ D rfl
theorem two_le {K : Nat} {a b : Int} (hK : -(K : Int) ≤ a) (h : a ≤ b) : two K a ≤ two K b := by
  have := two_mul K a hK (b - a).toNat
  rw [show a + ((b - a).toNat : Nat) = b from by omega] at this
  rw [this]; exact Nat.le_mul_of_pos_right _ (Nat.pow_pos (by omega))
theorem two_dec (K : Nat) (pw : Int) (hK : -(K : Int) ≤ pw) : 10 ^ (pw + K).toNat * 5 ^ (-pw).toNat = 5 ^ pw.toNat * two K pw := by
  unfold two
  by_cases h : 0 ≤ pw
  · rw [if_pos h, show (-pw).toNat = 0 from by omega, show (pw + K).toNat = pw.toNat + K from by omega, Nat.pow_add, Nat.pow_zero, Nat.mul_one, ← Nat.mul_assoc, show (10 : Nat) = 5 * 2 from rfl, Nat.mul_pow]
  · rw [if_neg h, show pw.toNat = 0 from by omega, Nat.pow_zero, Nat.one_mul, Nat.mul_comm, show pw + (K : Int) = K + pw from by omega]
theorem same_two {K : Nat} {q pw : Int} {a b : Nat} (hq : -(K : Int) ≤ q) (hp : -(K : Int) ≤ pw) (h : q + a = pw + b) : two K q * 2 ^ a = two K pw * 2 ^ b := by
  rw [← two_mul K q hq, ← two_mul K pw hp, h]
theorem same_dec {K : Nat} {N V U : Nat} {pw q : Int} (hK : -(K : Int) ≤ pw) (hq : -(K : Int) ≤ q) (h : SameVal (N * 5 ^ pw.toNat) (5 ^ (-pw).toNat) pw V U q) : N * 10 ^ (pw + K).toNat * U = V * two K q := by
  obtain ⟨a, b, h1, h2, h3⟩ := h
  have e1 := same_two hq hK h3
  have e2 := two_dec K pw hK
  subst h1 h2
  calc N * 10 ^ (pw + K).toNat * (5 ^ (-pw).toNat * 2 ^ b) = N * (10 ^ (pw + K).toNat * 5 ^ (-pw).toNat) * 2 ^ b := by grind
    _ = N * 5 ^ pw.toNat * (two K pw * 2 ^ b) := by rw [e2]; grind
    _ = N * 5 ^ pw.toNat * 2 ^ a * two K q := by rw [← e1]; grind
theorem same_hex {K : Nat} {N V U : Nat} {pw q : Int} (hK : -(K : Int) ≤ pw) (hq : -(K : Int) ≤ q) (h : SameVal N 1 pw V U q) : N * two K pw * U = V * two K q := by
  obtain ⟨a, b, h1, h2, h3⟩ := h
  have e1 := same_two hq hK h3
  subst h1 h2
  calc N * two K pw * (1 * 2 ^ b) = N * (two K pw * 2 ^ b) := by grind
    _ = N * 2 ^ a * two K q := by rw [← e1]; grind
theorem pow_lt_of {b x y : Nat} (hb : 1 < b) (h : b ^ x < b ^ y) : x < y := (Nat.pow_lt_pow_iff_right hb).1 h
/-- How far a number of so many bits lies, whatever the power. -/
theorem same_q {N V U x y : Nat} {pw q : Int} (h : SameVal N 1 pw V U q) (h1 : 2 ^ x ≤ N) (h2 : N < 2 ^ y) (hUV : U ≤ V) (hVU : V < 2 * U) : pw + x ≤ q ∧ q < pw + y := by
  obtain ⟨a, b, e1, e2, e3⟩ := h
  subst e1 e2
  have g1 : 2 ^ b < 2 ^ (y + a) := by
    rw [Nat.pow_add]
    have := Nat.mul_lt_mul_of_pos_right h2 (Nat.pow_pos (n := a) (show 0 < 2 by omega))
    omega
  have g2 : 2 ^ (x + a) < 2 ^ (b + 1) := by
    rw [Nat.pow_add, Nat.pow_succ]
    have := Nat.mul_le_mul_right (2 ^ a) h1
    omega
  have g3 := pow_lt_of (by omega) g1
  have g4 := pow_lt_of (by omega) g2
  omega
theorem pow_split (K : Nat) (x : Int) (h : -(K : Int) ≤ x) (n : Nat) : 10 ^ (x + n + K).toNat = 10 ^ n * 10 ^ (x + K).toNat := by
  rw [← Nat.pow_add]; congr 1; omega
theorem two_ten (K b : Nat) (t : Int) (h0 : 0 ≤ t) (h : t ≤ 3 * b) : two K t ≤ 10 ^ (b + K) := by
  unfold two
  rw [if_pos h0, Nat.pow_add]
  refine Nat.mul_le_mul_right _ (Nat.le_trans (Nat.pow_le_pow_right (by omega) (show t.toNat ≤ 3 * b by omega)) ?_)
  rw [Nat.pow_mul]
  exact Nat.pow_le_pow_left (by omega) b
theorem ten_two (K t c : Nat) (h : t + 1 ≤ 3 * c) (hc : 0 < c) (hct : c ≤ t) (hK : t ≤ K) : 10 ^ (K - c) * 2 < two K (-(t : Int)) := by
  unfold two
  rw [if_neg (by omega), show (-(-(t : Int))).toNat = (t - c) + c from by omega, show ((K : Int) + -(t : Int)).toNat = K - t from by omega, show K - c = (t - c) + (K - t) from by omega, Nat.pow_add 10, Nat.pow_add 5]
  have h1 : 2 ^ (t - c) * 2 < 5 ^ c := by
    rw [← Nat.pow_succ]
    refine Nat.lt_of_le_of_lt (Nat.pow_le_pow_right (by omega) (show (t - c).succ ≤ 2 * c by omega)) ?_
    rw [Nat.pow_mul]
    exact Nat.pow_lt_pow_left (by omega) (by omega)
  have h2 : 10 ^ (t - c) = 2 ^ (t - c) * 5 ^ (t - c) := by rw [← Nat.mul_pow]
  rw [h2]
  have h3 := Nat.mul_lt_mul_of_pos_right h1 (Nat.mul_pos (Nat.pow_pos (n := t - c) (show 0 < 5 by omega)) (Nat.pow_pos (n := K - t) (show 0 < 10 by omega)))
  refine Nat.lt_of_le_of_lt (Nat.le_of_eq ?_) (Nat.lt_of_lt_of_eq h3 ?_)
  · generalize 2 ^ (t - c) = x; generalize 5 ^ (t - c) = y; generalize 10 ^ (K - t) = z; grind
  · generalize 5 ^ (t - c) = y; generalize 10 ^ (K - t) = z; generalize 5 ^ c = x; grind
/-- 10^390 is beyond all formats, 10^-390 nearer to 0 than half of the least number. -/
theorem held_beyond {K : Nat} {f : Int} (hf : Fmt f) (hK : 2500 ≤ K) : valA K f (infN f) ≤ 10 ^ (390 + (K : Int)).toNat := by
  have hb := hf.b2
  have hb1 := hf.b1
  rw [valA_inf hf (by omega), show (390 + (K : Int)).toNat = 390 + K from by omega]
  exact two_ten K 390 _ (by omega) (by omega)
theorem valA_least {K : Nat} {f : Int} (hf : Fmt f) (hK : 2500 ≤ K) : two K (-(1074 : Nat)) ≤ valA K f 1 := by
  have hv := valA_at K f 0 1 Nat.one_le_two_pow (by omega)
  rw [Nat.zero_mul, Nat.zero_add, if_pos rfl, Nat.mul_one] at hv
  rw [hv]
  have hb := hf.b2
  have hq := hf.q
  exact two_le (by omega) (by rw [hf.e]; omega)
theorem held_tiny {K : Nat} {f : Int} (hf : Fmt f) (hK : 2500 ≤ K) : 10 ^ (-390 + (K : Int)).toNat * 2 < valA K f 1 := by
  rw [show (-390 + (K : Int)).toNat = K - 390 from by omega]
  exact Nat.lt_of_lt_of_le (ten_two K 1074 390 (by omega) (by omega) (by omega) (by omega)) (valA_least hf hK)
/-- Where a number lies, from over and under. -/
theorem frac_ge {K X V U : Nat} {q : Int} (hX : X * U = V * two K q) (hU : 0 < U) (hUV : U ≤ V) : two K q ≤ X :=
  Nat.le_of_mul_le_mul_right (by rw [hX, Nat.mul_comm]; exact Nat.mul_le_mul_right _ hUV) hU
theorem frac_lt {K X V U : Nat} {q : Int} (hK : -(K : Int) ≤ q) (hX : X * U = V * two K q) (hVU : V < 2 * U) : X < two K (q + 1) := by
  have e2 := two_mul K q hK 1
  rw [Nat.pow_one] at e2
  rw [show q + 1 = q + (1 : Nat) from rfl, e2]
  apply Nat.lt_of_mul_lt_mul_right (a := U)
  rw [hX, Nat.mul_assoc, Nat.mul_comm (two K q)]
  exact Nat.mul_lt_mul_of_pos_right hVU (two_pos _ _)
/-- The power of a decimal's fraction is not too far down. -/
theorem same_dec_q {N V U : Nat} {pw q : Int} (hN : 0 < N) (h : SameVal (N * 5 ^ pw.toNat) (5 ^ (-pw).toNat) pw V U q) (hVU : V < 2 * U) : pw - 3 * ((-pw).toNat : Int) ≤ q := by
  obtain ⟨a, b, h1, h2, h3⟩ := h
  subst h1 h2
  have g1 : 1 * 2 ^ a ≤ N * 5 ^ pw.toNat * 2 ^ a := Nat.mul_le_mul_right _ (Nat.mul_pos hN (Nat.pow_pos (by omega)))
  have g2 : 5 ^ (-pw).toNat ≤ 2 ^ (3 * (-pw).toNat) := by rw [Nat.pow_mul]; exact Nat.pow_le_pow_left (by omega) _
  have g3 : 2 ^ a < 2 ^ (3 * (-pw).toNat + b + 1) := by
    rw [Nat.pow_succ, Nat.pow_add]
    have := Nat.mul_le_mul_right (2 ^ b) g2
    omega
  have g4 := pow_lt_of (by omega) g3
  omega

/-- What the program makes of a decimal. -/
def DecFrac (D : List Nat) (pw : Int) (V U : Nat) (q : Int) : Prop :=
  (400 < pw + D.length - 1 ∧ q = 5000) ∨ (pw + D.length - 1 < -400 ∧ q = -5000) ∨
  (-400 ≤ pw + D.length - 1 ∧ pw + D.length - 1 ≤ 400 ∧ SameVal (num D * 5 ^ pw.toNat) (5 ^ (-pw).toNat) pw V U q)
/-- Powers that were held in different ways. -/
def PowLike (a b : Int) : Prop := (a = b ∧ -20000 ≤ a ∧ a ≤ 20000) ∨ (20000 ≤ a ∧ 20000 ≤ b) ∨ (a ≤ -20000 ∧ b ≤ -20000)

theorem lead_ge {D : List Nat} (h : D.getD 0 0 ≠ 0) : 10 ^ (D.length - 1) ≤ num D := by
  cases D with
  | nil => simp at h
  | cons d r =>
    simp at h
    rw [num_cons, List.length_cons, Nat.add_sub_cancel]
    have : 1 * 10 ^ r.length ≤ d * 10 ^ r.length := Nat.mul_le_mul_right _ (by omega)
    omega
/-- The same number: its first digit stands at the same power of ten. -/
theorem same_first {L D Dr : List Nat} {e er : Int} (hL : Norm L) (hL0 : L ≠ []) (hD : Digs D) (hD0 : D.getD 0 0 ≠ 0) (hn : num Dr = num D) (hle : er ≤ e) (hv : ∀ K2 : Nat, -(K2 : Int) ≤ er → val K2 L e = val K2 Dr er) : e + L.length = er + D.length ∧ num L * 10 ^ (e - er).toNat = num D := by
  have h1 := hv (-er).toNat (by omega)
  have hl : 0 < L.length := List.length_pos_iff.2 hL0
  unfold val at h1
  have h2 : num L * 10 ^ (e - er).toNat = num D := by
    apply Nat.eq_of_mul_eq_mul_right (Nat.pow_pos (n := (er + ((-er).toNat : Nat)).toNat) (show 0 < 10 by omega))
    rw [← hn, ← h1, Nat.mul_assoc, ← Nat.pow_add]; congr 2; omega
  have g1 := num_pos hL hl
  have g2 := num_lt hL.digs
  have g3 := lead_ge hD0
  have g4 := num_lt hD
  have hd : 0 < D.length := by
    rcases Nat.eq_zero_or_pos D.length with h | h
    · rw [List.length_eq_zero_iff.1 h] at hD0; simp at hD0
    · exact h
  refine ⟨?_, h2⟩
  have k1 : 10 ^ (L.length - 1 + (e - er).toNat) < 10 ^ D.length := by
    rw [Nat.pow_add]
    have := Nat.mul_le_mul_right (10 ^ (e - er).toNat) g1
    omega
  have k2 : 10 ^ (D.length - 1) < 10 ^ (L.length + (e - er).toNat) := by
    rw [Nat.pow_add]
    have := Nat.mul_lt_mul_of_pos_right g2 (Nat.pow_pos (n := (e - er).toNat) (show 0 < 10 by omega))
    omega
  have k3 := pow_lt_of (by omega) k1
  have k4 := pow_lt_of (by omega) k2
  omega

theorem dec_join {K : Nat} {f mode : Int} {neg : Bool} {D Dr L : List Nat} {pw er e b x1 x2 : Int} {V U : Nat} {q : Int} (hf : Fmt f) (hK : 30000 ≤ K) (hL : Norm L) (hD : Digs D) (hD0 : D.getD 0 0 ≠ 0) (hDl : D.length ≤ 900) (hn : num Dr = num D)
    (hle : L ≠ [] → er ≤ e) (hv : ∀ K2 : Nat, -(K2 : Int) ≤ er → val K2 L e = val K2 Dr er) (hb : 0 ≤ b ∧ b ≤ 900) (h1 : pw = x1 - b) (h2 : er = x2 - b) (hx : PowLike x1 x2) (hUV : U ≤ V) (hVU : V < 2 * U) (hfr : DecFrac D pw V U q) :
    RoundSpec K f mode neg (heldV K L e) (amtOf f mode neg V U q).1 (amtOf f mode neg V U q).2 := by
  have hb1 := hf.b1
  have hb2 := hf.b2
  have hq2 := hf.q
  have hdp : 0 < num D := Nat.lt_of_lt_of_le (Nat.pow_pos (by omega)) (lead_ge hD0)
  have hdl : 0 < D.length := by
    rcases Nat.eq_zero_or_pos D.length with h | h
    · rw [List.length_eq_zero_iff.1 h] at hD0; simp at hD0
    · exact h
  have hL0 : L ≠ [] := by
    intro h
    have h3 := hv (-er).toNat (by omega)
    rw [h, val_nil] at h3
    unfold val at h3
    have : 0 < num Dr * 10 ^ (er + ((-er).toNat : Nat)).toNat := Nat.mul_pos (by omega) (Nat.pow_pos (by omega))
    omega
  have hl : L.length ≠ 0 := fun h => hL0 (List.length_eq_zero_iff.1 h)
  obtain ⟨hm, hnum⟩ := same_first hL hL0 hD hD0 hn (hle hL0) hv
  have p390 : 0 < 10 ^ (390 + (K : Int)).toNat := Nat.pow_pos (by omega)
  have m390 : 0 < 10 ^ (-390 + (K : Int)).toNat := Nat.pow_pos (by omega)
  have bey : fB f < q → 390 < er + D.length - 1 → RoundSpec K f mode neg (heldV K L e) (amtOf f mode neg V U q).1 (amtOf f mode neg V U q).2 := by
    intro hq hh
    have e1 : heldV K L e = 10 ^ (390 + (K : Int)).toNat := by unfold heldV; rw [if_neg hl, if_pos (by omega)]
    rw [e1]; exact round_beyond hf p390 (held_beyond hf (by omega)) hq
  have tin : q < -fB f - fQ f → er + D.length - 1 < -390 → RoundSpec K f mode neg (heldV K L e) (amtOf f mode neg V U q).1 (amtOf f mode neg V U q).2 := by
    intro hq hh
    have e1 : heldV K L e = 10 ^ (-390 + (K : Int)).toNat := by unfold heldV; rw [if_neg hl, if_neg (by omega), if_pos (by omega)]
    rw [e1]; exact round_tiny hf (by omega) m390 (held_tiny hf (by omega)) hq
  rcases hx with ⟨hx, hx1, hx2⟩ | ⟨hx1, hx2⟩ | ⟨hx1, hx2⟩
  · have hpe : pw = er := by omega
    rcases hfr with ⟨g1, g2⟩ | ⟨g1, g2⟩ | ⟨g1, g2, g3⟩
    · exact bey (by omega) (by omega)
    · exact tin (by omega) (by omega)
    · have hqq := same_dec_q hdp g3 hVU
      by_cases hqK : q < -(K : Int)
      · omega
      · have hX := same_dec (K := K) (by omega) (by omega) g3
        by_cases hA : 390 < pw + D.length - 1
        · refine bey ?_ (by omega)
          rcases Int.lt_or_le (fB f) q with h | h
          · exact h
          · exfalso
            have k1 := frac_lt (by omega) hX hVU
            have k2 := two_le (K := K) (a := q + 1) (b := fB f + 1) (by omega) (by omega)
            have k3 := two_ten K 390 (fB f + 1) (by omega) (by omega)
            have k4 : 10 ^ (390 + K) ≤ num D * 10 ^ (pw + K).toNat := by
              refine Nat.le_trans ?_ (Nat.mul_le_mul_right _ (lead_ge hD0))
              rw [← Nat.pow_add]
              exact Nat.pow_le_pow_right (by omega) (by omega)
            omega
        · by_cases hB : pw + D.length - 1 < -390
          · refine tin ?_ (by omega)
            rcases Int.lt_or_le q (-fB f - fQ f) with h | h
            · exact h
            · exfalso
              have k1 := frac_ge hX (by omega) hUV
              have k2 := two_le (K := K) (a := -(1075 : Nat)) (b := q) (by omega) (by omega)
              have k3 := ten_two K 1075 390 (by omega) (by omega) (by omega) (by omega)
              have k4 : num D * 10 ^ (pw + K).toNat ≤ 10 ^ (K - 390) := by
                refine Nat.le_trans (Nat.mul_le_mul_right _ (Nat.le_of_lt (num_lt hD))) ?_
                rw [← Nat.pow_add]
                exact Nat.pow_le_pow_right (by omega) (by omega)
              omega
          · have e1 : heldV K L e = num D * 10 ^ (pw + K).toNat := by
              unfold heldV; rw [if_neg hl, if_neg (by omega), if_neg (by omega), hv K (by omega)]; unfold val; rw [hn, hpe]
            rw [e1]; exact round_same hf (by omega) (by omega) hX hUV hVU
  · rcases hfr with ⟨g1, g2⟩ | ⟨g1, g2⟩ | ⟨g1, g2, g3⟩
    · exact bey (by omega) (by omega)
    · omega
    · omega
  · rcases hfr with ⟨g1, g2⟩ | ⟨g1, g2⟩ | ⟨g1, g2, g3⟩
    · omega
    · exact tin (by omega) (by omega)
    · omega

theorem num16_append (a b : List Nat) : num16 (a ++ b) = num16 a * 16 ^ b.length + num16 b := by
  have : ∀ n, ∀ b : List Nat, b.length = n → num16 (a ++ b) = num16 a * 16 ^ b.length + num16 b := by
    intro n; induction n with
    | zero => intro b h; rw [List.length_eq_zero_iff.1 h]; simp [num16]
    | succ n ih =>
      intro b h
      have hne : b ≠ [] := by intro e; rw [e] at h; simp at h
      rw [← List.dropLast_concat_getLast hne, ← List.append_assoc, num16_snoc, num16_snoc, ih _ (by simp [h]), List.length_append, List.length_singleton, Nat.pow_succ]
      grind
  exact this _ b rfl
theorem num16_lead {D : List Nat} (h : D.getD 0 0 ≠ 0) : 16 ^ (D.length - 1) ≤ num16 D := by
  cases D with
  | nil => simp at h
  | cons d r =>
    simp at h
    have := num16_append [d] r
    rw [show [d] ++ r = d :: r from rfl] at this
    rw [this, List.length_cons, Nat.add_sub_cancel]
    have e : num16 [d] = d := by simp [num16]
    rw [e]
    have : 1 * 16 ^ r.length ≤ d * 16 ^ r.length := Nat.mul_le_mul_right _ (by omega)
    omega
theorem num16_some (D : List Nat) : (some16 D = true → 0 < num16 D) ∧ (some16 D = false → num16 D = 0) := by
  have : ∀ n, ∀ D : List Nat, D.length = n → (some16 D = true → 0 < num16 D) ∧ (some16 D = false → num16 D = 0) := by
    intro n; induction n with
    | zero => intro D h; rw [List.length_eq_zero_iff.1 h]; simp [num16, some16]
    | succ n ih =>
      intro D h
      have hne : D ≠ [] := by intro e; rw [e] at h; simp at h
      have hi := ih D.dropLast (by simp [h])
      rw [← List.dropLast_concat_getLast hne, num16_snoc]
      generalize D.getLast hne = x at *
      generalize D.dropLast = y at *
      have e : some16 (y ++ [x]) = (some16 y || decide (0 < x)) := by simp [some16]
      rw [e]
      cases hy : some16 y
      · have := hi.2 hy
        rw [this]; simp
      · have := hi.1 hy
        simp; omega
  exact this _ D rfl
theorem pow16 (n : Nat) : 16 ^ n = 2 ^ (4 * n) := by rw [Nat.pow_mul]
/-- The same for base 16. -/
theorem hex_joinJ {K : Nat} {f mode : Int} {neg : Bool} {D : List Nat} {pw er b x1 x2 : Int} {V U : Nat} {q : Int} (hf : Fmt f) (hK : 30000 ≤ K) (hD : ∀ d, d ∈ D → d ≤ 15) (hD0 : D.getD 0 0 ≠ 0) (hDl : D.length ≤ 900)
    (hb : 0 ≤ b ∧ b ≤ 3600) (h1 : pw = x1 - b) (h2 : er = x2 - b) (hx : PowLike x1 x2) (hUV : U ≤ V) (hVU : V < 2 * U) (hfr : SameVal (num16 D) 1 pw V U q) :
    RoundSpec K f mode neg (sixV K D er) (amtOf f mode neg V U q).1 (amtOf f mode neg V U q).2 := by
  have hb1 := hf.b1
  have hb2 := hf.b2
  have hq2 := hf.q
  have hdl : 0 < D.length := by
    rcases Nat.eq_zero_or_pos D.length with h | h
    · rw [List.length_eq_zero_iff.1 h] at hD0; simp at hD0
    · exact h
  have hl : D.length ≠ 0 := by omega
  have g1 := num16_lead hD0
  have g2 := num16_lt D hD
  rw [pow16] at g1 g2
  obtain ⟨q1, q2⟩ := same_q hfr g1 g2 hUV hVU
  have p390 : 0 < 10 ^ (390 + (K : Int)).toNat := Nat.pow_pos (by omega)
  have m390 : 0 < 10 ^ (-390 + (K : Int)).toNat := Nat.pow_pos (by omega)
  have bey : fB f < q → 1200 < 4 * (D.length : Int) + er → RoundSpec K f mode neg (sixV K D er) (amtOf f mode neg V U q).1 (amtOf f mode neg V U q).2 := by
    intro hq hh
    have e1 : sixV K D er = 10 ^ (390 + (K : Int)).toNat := by unfold sixV; rw [if_neg hl, if_pos hh]
    rw [e1]; exact round_beyond hf p390 (held_beyond hf (by omega)) hq
  have tin : q < -fB f - fQ f → 4 * (D.length : Int) + er < -1200 → RoundSpec K f mode neg (sixV K D er) (amtOf f mode neg V U q).1 (amtOf f mode neg V U q).2 := by
    intro hq hh
    have e1 : sixV K D er = 10 ^ (-390 + (K : Int)).toNat := by unfold sixV; rw [if_neg hl, if_neg (by omega), if_pos hh]
    rw [e1]; exact round_tiny hf (by omega) m390 (held_tiny hf (by omega)) hq
  rcases hx with ⟨hx, hx1, hx2⟩ | ⟨hx1, hx2⟩ | ⟨hx1, hx2⟩
  · have hpe : pw = er := by omega
    by_cases hA : 1200 < 4 * (D.length : Int) + er
    · exact bey (by omega) hA
    · by_cases hB : 4 * (D.length : Int) + er < -1200
      · exact tin (by omega) hB
      · have hX := same_hex (K := K) (by omega) (by omega) hfr
        have hsp : D = D.take 300 ++ D.drop 300 := (List.take_append_drop 300 D).symm
        have hnm := num16_append (D.take 300) (D.drop 300)
        rw [← hsp, List.length_drop] at hnm
        have hmin : D.length - min D.length 300 = D.length - 300 := by omega
        have e2 : two K (er + 4 * ((D.length - 300 : Nat) : Int)) = two K pw * 16 ^ (D.length - 300) := by
          have := two_mul K pw (by omega) (4 * (D.length - 300))
          rw [pow16, ← this]; congr 1; omega
        by_cases hs : some16 (D.drop 300) = true
        · have e1 : sixV K D er = (num16 (D.take 300) * 2 + 1) * two K (er + 4 * ((D.length - 300 : Nat) : Int) - 1) := by
            unfold sixV; rw [if_neg hl, if_neg hA, if_neg hB, if_pos hs, hmin]
          have hlen : 300 < D.length := by
            rcases Nat.lt_or_ge 300 D.length with h | h
            · exact h
            · rw [List.drop_eq_nil_of_le h] at hs; simp [some16] at hs
          have hr0 := (num16_some (D.drop 300)).1 hs
          have hr1 := num16_lt (D.drop 300) (fun d hd => hD d (List.mem_of_mem_drop hd))
          rw [List.length_drop] at hr1
          rw [e1]
          have e3 : two K (er + 4 * ((D.length - 300 : Nat) : Int)) = two K (er + 4 * ((D.length - 300 : Nat) : Int) - 1) * 2 := by
            have := two_mul K (er + 4 * ((D.length - 300 : Nat) : Int) - 1) (by omega) 1
            rw [Nat.pow_one] at this
            rw [← this]; congr 1; omega
          have hz := two_pos K (er + 4 * ((D.length - 300 : Nat) : Int) - 1)
          have hp := two_pos K pw
          refine round_near (X := num16 D * two K pw) (u := two K (er + 4 * ((D.length - 300 : Nat) : Int))) (n := num16 (D.take 300)) (q := er + 4 * ((D.length - 300 : Nat) : Int)) hf (by omega) (by omega) hX hUV hVU (by omega) rfl ?_ ?_ ?_ ?_
          · rw [e2, hnm]
            have := Nat.mul_lt_mul_of_pos_right (show num16 (D.take 300) * 16 ^ (D.length - 300) < num16 (D.take 300) * 16 ^ (D.length - 300) + num16 (D.drop 300) by omega) hp
            refine Nat.lt_of_le_of_lt (Nat.le_of_eq ?_) this
            grind
          · rw [e2, hnm]
            have := Nat.mul_lt_mul_of_pos_right (show num16 (D.take 300) * 16 ^ (D.length - 300) + num16 (D.drop 300) < num16 (D.take 300) * 16 ^ (D.length - 300) + 16 ^ (D.length - 300) by omega) hp
            refine Nat.lt_of_lt_of_eq this ?_
            grind
          · rw [e3]
            have := Nat.mul_lt_mul_of_pos_right (show num16 (D.take 300) * 2 < num16 (D.take 300) * 2 + 1 by omega) hz
            refine Nat.lt_of_le_of_lt (Nat.le_of_eq ?_) this
            grind
          · rw [e3]
            have := Nat.mul_lt_mul_of_pos_right (show num16 (D.take 300) * 2 + 1 < (num16 (D.take 300) + 1) * 2 by omega) hz
            refine Nat.lt_of_lt_of_eq this ?_
            grind
        · have e1 : sixV K D er = num16 D * two K pw := by
            unfold sixV; rw [if_neg hl, if_neg hA, if_neg hB, if_neg hs, hmin, e2, hnm, (num16_some (D.drop 300)).2 (by simpa using hs), Nat.add_zero]; grind
          rw [e1]; exact round_same hf (by omega) (by omega) hX hUV hVU
  · exact bey (by omega) (by omega)
  · exact tin (by omega) (by omega)
end Go.Proofs.YtbkdaoicnobllabGreatDoor
