import Derived.Test.YtbkdaoicnobllaaDoorGRefB
import Derived.Test.YtbkdaoicnobllaaDoorGRefF
import Derived.Test.YtbkdaoicnobllaaDoorGMath
import Derived.Test.YtbkdaoicnobllaaDoorGPlain
import Derived.Test.YtbkdaoicnobllaaDoorGTo

/- Plain mathematics: the numbers of amounts, in their order. -/
namespace Go.Proofs.YtbkdaoicnobllaaDoor

/-- The format's bias. -/
def fB (f : Int) : Int := if f = 0 then 15 else if f = 1 then 127 else 1023
structure Fmt (f : Int) : Prop where
  e : fE f = 1 - fB f - fQ f
  low : fLow f = 1 - fB f
  b1 : 15 ≤ fB f
  b2 : fB f ≤ 1023
  q : fQ f ≤ 52
  i : (infN f : Int) = (2 * fB f + 1) * ((2 ^ fQ f : Nat) : Int)
  odd : ((infN f : Int) - 1) % 2 = 1
theorem fmt_of {f : Int} (h : 0 ≤ f ∧ f ≤ 2) : Fmt f := by
  have : f = 0 ∨ f = 1 ∨ f = 2 := by omega
  rcases this with rfl | rfl | rfl
  · exact ⟨by decide, by decide, by decide, by decide, by decide, by decide, by decide⟩
  · exact ⟨by decide, by decide, by decide, by decide, by decide, by decide, by decide⟩
  · exact ⟨by decide, by decide, by decide, by decide, by decide, by decide, by decide⟩

theorem valA_lt (K : Nat) (f : Int) (a : Nat) (hK : 1100 ≤ K) : valA K f a < valA K f (a + 1) := by
  have hp : 0 < 2 ^ fQ f := Nat.pow_pos (by omega)
  have ha : a = a / 2 ^ fQ f * 2 ^ fQ f + a % 2 ^ fQ f := by rw [Nat.mul_comm]; exact (Nat.div_add_mod a _).symm
  have hm : a % 2 ^ fQ f < 2 ^ fQ f := Nat.mod_lt _ hp
  rw [ha, Nat.add_assoc, valA_at K f _ _ (by omega) hK, valA_at K f _ _ (by omega) hK]
  split
  · exact Nat.mul_lt_mul_of_pos_left (by omega) (two_pos _ _)
  · exact Nat.mul_lt_mul_of_pos_left (by omega) (two_pos _ _)
theorem valA_mono (K : Nat) (f : Int) (hK : 1100 ≤ K) {a b : Nat} (h : a ≤ b) : valA K f a ≤ valA K f b := by
  induction b with
  | zero => rw [show a = 0 from by omega]; exact Nat.le_refl _
  | succ b ih =>
    rcases Nat.lt_or_ge a (b + 1) with h1 | h1
    · exact Nat.le_trans (ih (by omega)) (Nat.le_of_lt (valA_lt K f b hK))
    · rw [show a = b + 1 from by omega]; exact Nat.le_refl _
theorem valA_one {K : Nat} {f : Int} {a b X : Nat} (hK : 1100 ≤ K) (h1 : valA K f a ≤ X) (h2 : X < valA K f (a + 1)) (h3 : valA K f b ≤ X) (h4 : X < valA K f (b + 1)) : a = b := by
  rcases Nat.lt_trichotomy a b with h | h | h
  · have := valA_mono K f hK (show a + 1 ≤ b from h); omega
  · exact h
  · have := valA_mono K f hK (show b + 1 ≤ a from h); omega
end Go.Proofs.YtbkdaoicnobllaaDoor

/- Plain mathematics: a number has one row of digits without noughts at its ends. -/
namespace Go.Proofs.YtbkdaoicnobllaaDoor

theorem num_inj : ∀ (n : Nat) (A B : List Nat), A.length = n → B.length = n → Digs A → Digs B → num A = num B → A = B := by
  intro n
  induction n with
  | zero => intro A B ha hb _ _ _; rw [List.length_eq_zero_iff.1 ha, List.length_eq_zero_iff.1 hb]
  | succ n ih =>
    intro A B ha hb hA hB h
    have nA : A ≠ [] := by intro e; rw [e] at ha; simp at ha
    have nB : B ≠ [] := by intro e; rw [e] at hb; simp at hb
    have eA := List.dropLast_concat_getLast nA
    have eB := List.dropLast_concat_getLast nB
    have dA : A.getLast nA ≤ 9 := hA _ (List.getLast_mem nA)
    have dB : B.getLast nB ≤ 9 := hB _ (List.getLast_mem nB)
    rw [← eA, ← eB, num_snoc, num_snoc] at h
    have h1 : A.getLast nA = B.getLast nB := by omega
    have h2 : num A.dropLast = num B.dropLast := by omega
    have := ih A.dropLast B.dropLast (by simp [ha]) (by simp [hb]) (fun d hd => hA d (List.dropLast_subset A hd)) (fun d hd => hB d (List.dropLast_subset B hd)) h2
    rw [← eA, ← eB, this, h1]
theorem norm_last {L : List Nat} (h : Norm L) (hl : L ≠ []) : num L % 10 ≠ 0 := by
  have e := List.dropLast_concat_getLast hl
  have hd : L.getLast hl ≤ 9 := h.digs _ (List.getLast_mem hl)
  have h0 : 0 < L.length := List.length_pos_iff.2 hl
  have hn := h.last h0
  have hg : L.getLast hl = L[L.length - 1] := List.getLast_eq_getElem hl
  rw [← e, num_snoc]
  omega
theorem norm_one_way {L1 L2 : List Nat} (h1 : Norm L1) (h2 : Norm L2) {a b : Nat} (hab : a ≤ b) (h : num L1 * 10 ^ a = num L2 * 10 ^ b) : L1 = L2 ∧ (L1 ≠ [] → a = b) := by
  have hc : num L1 = num L2 * 10 ^ (b - a) := by
    apply Nat.eq_of_mul_eq_mul_right (Nat.pow_pos (n := a) (show 0 < 10 by omega))
    rw [h, Nat.mul_assoc, ← Nat.pow_add]; congr 2; omega
  by_cases e1 : L1 = []
  · have hz : num L2 = 0 := by
      rw [e1, num_nil] at hc
      rcases Nat.mul_eq_zero.1 hc.symm with g | g
      · exact g
      · have : 0 < 10 ^ (b - a) := Nat.pow_pos (by omega)
        omega
    refine ⟨?_, fun g => absurd e1 g⟩
    rcases Nat.eq_zero_or_pos L2.length with g | g
    · rw [e1, List.length_eq_zero_iff.1 g]
    · have h3 := num_pos h2 g
      have : 0 < 10 ^ (L2.length - 1) := Nat.pow_pos (by omega)
      omega
  · have hd : b - a = 0 := by
      rcases Nat.eq_zero_or_pos (b - a) with g | g
      · exact g
      · exfalso
        apply norm_last h1 e1
        rw [hc, show b - a = (b - a - 1) + 1 from by omega, Nat.pow_succ, ← Nat.mul_assoc]
        exact Nat.mul_mod_left _ _
    rw [hd, Nat.pow_zero, Nat.mul_one] at hc
    have l1 : 0 < L1.length := List.length_pos_iff.2 e1
    have p1 := num_pos h1 l1
    have e2 : L2 ≠ [] := by
      intro g
      rw [g, num_nil] at hc
      have : 0 < 10 ^ (L1.length - 1) := Nat.pow_pos (by omega)
      omega
    have l2 : 0 < L2.length := List.length_pos_iff.2 e2
    have p2 := num_pos h2 l2
    have q1 := num_lt h1.digs
    have q2 := num_lt h2.digs
    have k1 : L1.length - 1 < L2.length := (Nat.pow_lt_pow_iff_right (a := 10) (by omega)).1 (by omega)
    have k2 : L2.length - 1 < L1.length := (Nat.pow_lt_pow_iff_right (a := 10) (by omega)).1 (by omega)
    exact ⟨num_inj L1.length L1 L2 rfl (by omega) h1.digs h2.digs hc, fun _ => by omega⟩
/-- One number has one form. -/
theorem norm_unique {L1 L2 : List Nat} (h1 : Norm L1) (h2 : Norm L2) {a b : Nat} (h : num L1 * 10 ^ a = num L2 * 10 ^ b) : L1 = L2 ∧ (L1 ≠ [] → a = b) := by
  rcases Nat.le_total a b with g | g
  · exact norm_one_way h1 h2 g h
  · obtain ⟨e1, e2⟩ := norm_one_way h2 h1 g h.symm
    exact ⟨e1.symm, fun hn => (e2 (by rw [e1]; exact hn)).symm⟩
end Go.Proofs.YtbkdaoicnobllaaDoor

/- Plain mathematics: the decimals that are rounded to one number. -/
namespace Go.Proofs.YtbkdaoicnobllaaDoor
open Go.RowKit

/-- X lies within the points half of the way to the neighbours of the amount a; these belong to it if a is even. -/
def Hold (K : Nat) (f : Int) (a X : Nat) : Prop :=
  if a % 2 = 0 then valA K f (a - 1) + valA K f a ≤ X * 2 ∧ X * 2 ≤ valA K f a + valA K f (a + 1) else valA K f (a - 1) + valA K f a < X * 2 ∧ X * 2 < valA K f a + valA K f (a + 1)
theorem Hold.iff (K : Nat) (f : Int) (a X : Nat) : Hold K f a X ↔ (a % 2 = 0 ∧ valA K f (a - 1) + valA K f a ≤ X * 2 ∧ X * 2 ≤ valA K f a + valA K f (a + 1)) ∨ (¬ a % 2 = 0 ∧ valA K f (a - 1) + valA K f a < X * 2 ∧ X * 2 < valA K f a + valA K f (a + 1)) := by
  unfold Hold; split <;> rename_i h <;> simp [h]
theorem away_zero (half : Int) (odd : Bool) : awayB 0 false half odd = (half == 3 || (half == 2 && odd)) := rfl
theorem round_hold {K : Nat} {f : Int} {X a : Nat} {r fl : Int} (hK : 1100 ≤ K) (hX : 0 < X) (ha : 0 < a) (ha2 : a < infN f) (h : RoundSpec K f 0 false X r fl) : r = (a : Int) ↔ Hold K f a X := by
  have m1 := valA_lt K f (a - 1) hK
  rw [show a - 1 + 1 = a from by omega] at m1
  have m2 := valA_lt K f a hK
  rw [Hold.iff]
  rcases h with ⟨h0, _⟩ | ⟨_, h1, _, h2⟩ | ⟨_, _, a0, h1, h2, h3, h4⟩
  · omega
  · have m3 := valA_mono K f hK (show a + 1 ≤ infN f from ha2)
    have : awayB 0 false 3 true = true := rfl
    rw [if_pos this] at h2
    constructor
    · intro h; omega
    · intro h; omega
  · rcases h4 with ⟨h5, h6, _⟩ | ⟨h5, h6, _⟩
    · rcases Nat.lt_trichotomy a0 a with hl | hl | hl
      · have m3 := valA_mono K f hK (show a0 ≤ a - 1 by omega)
        constructor <;> intro h <;> omega
      · subst hl
        constructor
        · intro _; by_cases he : a0 % 2 = 0
          · exact .inl ⟨he, by omega, by omega⟩
          · exact .inr ⟨he, by omega, by omega⟩
        · intro _; exact h6
      · have m3 := valA_mono K f hK (show a + 1 ≤ a0 by omega)
        constructor <;> intro h <;> omega
    · rw [away_zero] at h6
      rcases (by omega : a0 + 1 < a ∨ a0 + 1 = a ∨ a0 = a ∨ a < a0) with hl | hl | hl | hl
      · have m3 := valA_mono K f hK (show a0 + 1 ≤ a - 1 by omega)
        constructor
        · intro h; split at h6 <;> omega
        · intro h; omega
      · subst hl
        rw [show a0 + 1 - 1 = a0 from by omega] at *
        rcases Nat.lt_trichotomy (X * 2) (valA K f a0 + valA K f (a0 + 1)) with hc | hc | hc
        · rw [cmpN_lt hc] at h6
          have e : ((-1 + 2 : Int) == 3 || ((-1 + 2 : Int) == 2 && (a0 % 2 == 1))) = false := rfl
          rw [e] at h6
          simp at h6
          constructor <;> intro h <;> omega
        · rw [cmpN_eq hc] at h6
          by_cases ho : a0 % 2 = 1
          · have e : ((0 + 2 : Int) == 3 || ((0 + 2 : Int) == 2 && (a0 % 2 == 1))) = true := by rw [ho]; rfl
            rw [e] at h6
            simp at h6
            constructor <;> intro h <;> omega
          · have e : ((0 + 2 : Int) == 3 || ((0 + 2 : Int) == 2 && (a0 % 2 == 1))) = false := by rw [show a0 % 2 = 0 from by omega]; rfl
            rw [e] at h6
            simp at h6
            constructor <;> intro h <;> omega
        · rw [cmpN_gt hc] at h6
          have e : ((1 + 2 : Int) == 3 || ((1 + 2 : Int) == 2 && (a0 % 2 == 1))) = true := rfl
          rw [e] at h6
          simp at h6
          constructor <;> intro h <;> omega
      · subst hl
        rcases Nat.lt_trichotomy (X * 2) (valA K f a0 + valA K f (a0 + 1)) with hc | hc | hc
        · rw [cmpN_lt hc] at h6
          have e : ((-1 + 2 : Int) == 3 || ((-1 + 2 : Int) == 2 && (a0 % 2 == 1))) = false := rfl
          rw [e] at h6
          simp at h6
          constructor <;> intro h <;> omega
        · rw [cmpN_eq hc] at h6
          by_cases ho : a0 % 2 = 1
          · have e : ((0 + 2 : Int) == 3 || ((0 + 2 : Int) == 2 && (a0 % 2 == 1))) = true := by rw [ho]; rfl
            rw [e] at h6
            simp at h6
            constructor <;> intro h <;> omega
          · have e : ((0 + 2 : Int) == 3 || ((0 + 2 : Int) == 2 && (a0 % 2 == 1))) = false := by rw [show a0 % 2 = 0 from by omega]; rfl
            rw [e] at h6
            simp at h6
            constructor <;> intro h <;> omega
        · rw [cmpN_gt hc] at h6
          have e : ((1 + 2 : Int) == 3 || ((1 + 2 : Int) == 2 && (a0 % 2 == 1))) = true := rfl
          rw [e] at h6
          simp at h6
          constructor <;> intro h <;> omega
      · have m3 := valA_mono K f hK (show a + 1 ≤ a0 by omega)
        constructor
        · intro h; split at h6 <;> omega
        · intro h; omega
end Go.Proofs.YtbkdaoicnobllaaDoor

/- Plain mathematics: the shortest decimal that is rounded to an amount. -/
namespace Go.Proofs.YtbkdaoicnobllaaDoor
open Go.RowKit

/-- X is picked in steps of P: H says which are rounded to the amount. -/
def StepYes (H : Nat → Prop) (V P X : Nat) : Prop :=
  (V % P = 0 ∧ X = V) ∨ (V % P ≠ 0 ∧ ((H (V / P * P) ∧ H (V / P * P + P) ∧ X = rndN (awayB 0 false) V P * P) ∨ (H (V / P * P) ∧ ¬ H (V / P * P + P) ∧ X = V / P * P) ∨ (¬ H (V / P * P) ∧ H (V / P * P + P) ∧ X = V / P * P + P)))
def StepNo (H : Nat → Prop) (V P : Nat) : Prop := V % P ≠ 0 ∧ ¬ H (V / P * P) ∧ ¬ H (V / P * P + P)
theorem StepYes.same {H : Nat → Prop} {V P X X' : Nat} (h : StepYes H V P X) (h' : StepYes H V P X') : X = X' := by
  rcases h with ⟨a, b⟩ | ⟨a, b⟩
  · rcases h' with ⟨a', b'⟩ | ⟨a', b'⟩
    · rw [b, b']
    · exact absurd a a'
  · rcases h' with ⟨a', b'⟩ | ⟨a', b'⟩
    · exact absurd a' a
    · rcases b with ⟨c, d, e⟩ | ⟨c, d, e⟩ | ⟨c, d, e⟩
      · rcases b' with ⟨c', d', e'⟩ | ⟨c', d', e'⟩ | ⟨c', d', e'⟩
        · rw [e, e']
        · exact absurd d d'
        · exact absurd c c'
      · rcases b' with ⟨c', d', e'⟩ | ⟨c', d', e'⟩ | ⟨c', d', e'⟩
        · exact absurd d' d
        · rw [e, e']
        · exact absurd c c'
      · rcases b' with ⟨c', d', e'⟩ | ⟨c', d', e'⟩ | ⟨c', d', e'⟩
        · exact absurd c' c
        · exact absurd c' c
        · rw [e, e']
theorem StepYes.not {H : Nat → Prop} {V P X : Nat} (h : StepYes H V P X) : ¬ StepNo H V P := by
  rintro ⟨n0, n1, n2⟩
  rcases h with ⟨a, b⟩ | ⟨a, b⟩
  · exact n0 a
  · rcases b with ⟨c, d, e⟩ | ⟨c, d, e⟩ | ⟨c, d, e⟩
    · exact n1 c
    · exact n1 c
    · exact n2 d
theorem left_zero (V P : Nat) : leftN V P = 0 ↔ V % P = 0 := by
  unfold leftN
  constructor
  · intro h; split at h
    · assumption
    · split at h
      · omega
      · split at h <;> omega
  · intro h; rw [if_pos h]
theorem rnd_cut (V P : Nat) : rndN (awayB 2 false) V P = V / P := by
  unfold rndN; rw [if_neg]; rintro ⟨_, h⟩; rw [show awayB 2 false (leftN V P) (V / P % 2 == 1) = false from rfl] at h; cases h
theorem rnd_up (V P : Nat) (h : V % P ≠ 0) : rndN (awayB 3 false) V P = V / P + 1 := by
  unfold rndN; rw [if_pos]
  exact ⟨fun h0 => h ((left_zero V P).1 h0), rfl⟩
theorem rnd_exact (aw : Int → Bool → Bool) (V P : Nat) (h : V % P = 0) : rndN aw V P * P = V := by
  unfold rndN
  rw [if_neg (fun hh => hh.1 ((left_zero V P).2 h))]
  have := Nat.div_add_mod V P
  rw [h, Nat.add_zero, Nat.mul_comm] at this; exact this
theorem rnd_either (aw : Int → Bool → Bool) (V P : Nat) : rndN aw V P * P = V / P * P ∨ rndN aw V P * P = V / P * P + P := by
  unfold rndN; split
  · right; rw [Nat.add_mul, Nat.one_mul]
  · left; rfl
/-- The first of the three that holds is picked. -/
theorem step_even {H : Nat → Prop} {V P : Nat} (h : H (rndN (awayB 0 false) V P * P)) : StepYes H V P (rndN (awayB 0 false) V P * P) := by
  by_cases h0 : V % P = 0
  · exact .inl ⟨h0, rnd_exact _ V P h0⟩
  · right; refine ⟨h0, ?_⟩
    rcases rnd_either (awayB 0 false) V P with e | e
    · by_cases h1 : H (V / P * P + P)
      · exact .inl ⟨by rw [e] at h; exact h, h1, rfl⟩
      · exact .inr (.inl ⟨by rw [e] at h; exact h, h1, e⟩)
    · by_cases h1 : H (V / P * P)
      · exact .inl ⟨h1, by rw [e] at h; exact h, rfl⟩
      · exact .inr (.inr ⟨h1, by rw [e] at h; exact h, e⟩)
theorem step_up {H : Nat → Prop} {V P : Nat} (hV : H V) (h0 : ¬ H (rndN (awayB 0 false) V P * P)) (h : H (rndN (awayB 3 false) V P * P)) : StepYes H V P (rndN (awayB 3 false) V P * P) := by
  have hm : V % P ≠ 0 := fun hm => h0 (by rw [rnd_exact _ V P hm]; exact hV)
  have hu : rndN (awayB 3 false) V P * P = V / P * P + P := by rw [rnd_up V P hm, Nat.add_mul, Nat.one_mul]
  rw [hu] at h ⊢
  rcases rnd_either (awayB 0 false) V P with e | e
  · exact .inr ⟨hm, .inr (.inr ⟨by rw [e] at h0; exact h0, h, rfl⟩)⟩
  · rw [e] at h0; exact absurd h h0
theorem step_cut {H : Nat → Prop} {V P : Nat} (hV : H V) (h0 : ¬ H (rndN (awayB 0 false) V P * P)) (h1 : ¬ H (rndN (awayB 3 false) V P * P)) (h : H (rndN (awayB 2 false) V P * P)) : StepYes H V P (rndN (awayB 2 false) V P * P) := by
  have hm : V % P ≠ 0 := fun hm => h0 (by rw [rnd_exact _ V P hm]; exact hV)
  have hu : rndN (awayB 3 false) V P * P = V / P * P + P := by rw [rnd_up V P hm, Nat.add_mul, Nat.one_mul]
  rw [hu] at h1
  rw [rnd_cut] at h ⊢
  exact .inr ⟨hm, .inr (.inl ⟨h, h1, rfl⟩)⟩
theorem step_none {H : Nat → Prop} {V P : Nat} (hV : H V) (h0 : ¬ H (rndN (awayB 0 false) V P * P)) (h1 : ¬ H (rndN (awayB 3 false) V P * P)) (h : ¬ H (rndN (awayB 2 false) V P * P)) : StepNo H V P := by
  have hm : V % P ≠ 0 := fun hm => h0 (by rw [rnd_exact _ V P hm]; exact hV)
  have hu : rndN (awayB 3 false) V P * P = V / P * P + P := by rw [rnd_up V P hm, Nat.add_mul, Nat.one_mul]
  rw [hu] at h1
  rw [rnd_cut] at h
  exact ⟨hm, h, h1⟩
theorem hold_self (K : Nat) (f : Int) (a : Nat) (hK : 1100 ≤ K) (ha : 0 < a) : Hold K f a (valA K f a) := by
  have m1 := valA_lt K f (a - 1) hK
  rw [show a - 1 + 1 = a from by omega] at m1
  have m2 := valA_lt K f a hK
  rw [Hold.iff]
  by_cases h : a % 2 = 0
  · exact .inl ⟨h, by omega, by omega⟩
  · exact .inr ⟨h, by omega, by omega⟩
/-- The picked decimal, in the least steps that pick one. -/
structure ShortAt (f : Int) (a : Nat) (D : List Nat) (e p : Int) (X : Nat) : Prop where
  digs : Digs D
  headed : Headed D
  pos : 0 < D.length
  lo : -(3000 : Int) ≤ e
  val : val 3000 D e = valA 3000 f a
  le : p ≤ e + D.length - 1
  yes : StepYes (Hold 3000 f a) (valA 3000 f a) (10 ^ (p + (3000 : Nat)).toNat) X
  no : ∀ q, p < q → q ≤ e + D.length - 1 → StepNo (Hold 3000 f a) (valA 3000 f a) (10 ^ (q + (3000 : Nat)).toNat)
theorem ShortAt.same {f : Int} {a : Nat} {D D' : List Nat} {e e' p p' : Int} {X X' : Nat} (h : ShortAt f a D e p X) (h' : ShortAt f a D' e' p' X') : X = X' := by
  have ht := top_same (K := 3000) h.digs h'.digs h.headed h'.headed h.pos h'.pos h.lo h'.lo (h.val.trans h'.val.symm)
  rcases Int.lt_trichotomy p p' with hp | hp | hp
  · exact absurd (h.no p' hp (by have := h'.le; omega)) h'.yes.not
  · subst hp; exact h.yes.same h'.yes
  · exact absurd (h'.no p hp (by have := h.le; omega)) h.yes.not
/-- The shortest text, plain or with a power of ten. -/
def shortT (pl : Bool) (L : List Nat) (g : Int) : List UInt8 :=
  if pl = true then fixT L g (highN L g) (-(min g 0)).toNat else sciT L g (g + L.length - 1) (L.length - 1) ++ (101 :: Lib.itoa (g + L.length - 1))
def ShortQ (pl : Bool) (f : Int) (a : Nat) (T : List UInt8) : Prop :=
  (a = 0 ∧ T = [48]) ∨ (0 < a ∧ ∃ D e p X L g, ShortAt f a D e p X ∧ Norm L ∧ L ≠ [] ∧ -(3000 : Int) ≤ g ∧ val 3000 L g = X ∧ T = shortT pl L g)
theorem norm_same {L M : List Nat} {g k : Int} (h1 : Norm L) (h2 : Norm M) (l : L ≠ []) (a : -(3000 : Int) ≤ g) (b : -(3000 : Int) ≤ k) (h : val 3000 L g = val 3000 M k) : L = M ∧ g = k := by
  unfold val at h
  obtain ⟨e1, e2⟩ := norm_unique h1 h2 h
  have := e2 l
  exact ⟨e1, by omega⟩
theorem ShortQ.same {pl : Bool} {f : Int} {a : Nat} {T T' : List UInt8} (h : ShortQ pl f a T) (h' : ShortQ pl f a T') : T = T' := by
  rcases h with ⟨h0, rfl⟩ | ⟨h0, D, e, p, X, L, g, h1, h2, h3, h4, h5, rfl⟩
  · rcases h' with ⟨_, rfl⟩ | ⟨h0', _⟩
    · rfl
    · omega
  · rcases h' with ⟨h0', _⟩ | ⟨_, D', e', p', X', L', g', h1', h2', h3', h4', h5', rfl⟩
    · omega
    · obtain ⟨rfl, rfl⟩ := norm_same h2 h2' h3 h4 h4' (h5.trans ((h1.same h1').trans h5'.symm))
      rfl
end Go.Proofs.YtbkdaoicnobllaaDoor

/- Plain mathematics: decimals compared by their digits. -/
namespace Go.Proofs.YtbkdaoicnobllaaDoor

def SameTo (A B : List Nat) (k : Nat) : Prop := ∀ j, j < k → A.getD j 0 = B.getD j 0
theorem SameTo.zero (A B : List Nat) : SameTo A B 0 := fun j h => by omega
theorem SameTo.next {A B : List Nat} {k : Nat} (h : SameTo A B k) (h1 : A.getD k 0 = B.getD k 0) : SameTo A B (k + 1) := fun j hj => by
  rcases (by omega : j < k ∨ j = k) with g | g
  · exact h j g
  · rw [g]; exact h1
theorem SameTo.symm {A B : List Nat} {k : Nat} (h : SameTo A B k) : SameTo B A k := fun j hj => (h j hj).symm
theorem SameTo.first {A B : List Nat} {k : Nat} (h : SameTo A B k) : firstL A k = firstL B k := by
  unfold firstL
  exact List.map_congr_left fun i hi => h i (List.mem_range.1 hi)
theorem cmp_top {A B : List Nat} {ea eb : Int} {K : Nat} (hA : Digs A) (hB : Headed B) (lB : 0 < B.length) (k1 : -(K : Int) ≤ ea) (k2 : -(K : Int) ≤ eb) (h : ea + A.length < eb + B.length) : val K A ea < val K B eb := by
  have a := val_hi hA K ea (ea + A.length) (by omega) k1
  have hp : 0 < 10 ^ (ea + A.length + K).toNat := Nat.pow_pos (by omega)
  have b : 10 ^ (ea + A.length + K).toNat ≤ val K B eb := by
    unfold val
    refine Nat.le_trans ?_ (Nat.mul_le_mul_right _ (hB.lo lB))
    rw [← Nat.pow_add]
    exact Nat.pow_le_pow_right (by omega) (by omega)
  rcases Nat.div_eq_zero_iff.1 a with g | g
  · omega
  · omega
theorem cmp_at {A B : List Nat} {ea eb : Int} {K i : Nat} (hA : Digs A) (hB : Digs B) (k1 : -(K : Int) ≤ ea) (k2 : -(K : Int) ≤ eb) (h : ea + A.length = eb + B.length) (hs : SameTo A B i) (hi : A.getD i 0 < B.getD i 0) : val K A ea < val K B eb := by
  have hib : i < B.length := by
    apply Nat.lt_of_not_le; intro hle
    rw [List.getD_eq_getElem?_getD (l := B), List.getElem?_eq_none hle] at hi
    simp at hi
  obtain ⟨p, hp⟩ : ∃ p : Int, p = eb + B.length - (i + 1 : Nat) := ⟨_, rfl⟩
  have q1 := kept_num hA K ea p k1 (by omega)
  have q2 := kept_num hB K eb p k2 (by omega)
  rw [show (A.length + ea - p).toNat = i + 1 from by omega, firstL_succ, num_snoc, hs.first] at q1
  rw [show (B.length + eb - p).toNat = i + 1 from by omega, firstL_succ, num_snoc] at q2
  apply Nat.lt_of_not_le; intro hle
  have := Nat.div_le_div_right (c := 10 ^ (p + K).toNat) hle
  omega
theorem cmp_all {A B : List Nat} {ea eb : Int} {K n : Nat} (hA : Digs A) (hB : Digs B) (k1 : -(K : Int) ≤ ea) (k2 : -(K : Int) ≤ eb) (h : ea + A.length = eb + B.length) (hn : n = max A.length B.length) (hs : SameTo A B n) : val K A ea = val K B eb := by
  obtain ⟨p, hp⟩ : ∃ p : Int, p = eb + B.length - n := ⟨_, rfl⟩
  have q1 := kept_num hA K ea p k1 (by omega)
  have q2 := kept_num hB K eb p k2 (by omega)
  rw [show (A.length + ea - p).toNat = n from by omega, hs.first] at q1
  rw [show (B.length + eb - p).toNat = n from by omega] at q2
  have hd : ∀ (L : List Nat) (e : Int), p ≤ e → -(K : Int) ≤ p → val K L e = val K L e / 10 ^ (p + K).toNat * 10 ^ (p + K).toNat := fun L e g1 g2 => by
    unfold val
    rw [show (e + K).toNat = (e - p).toNat + (p + K).toNat from by omega, Nat.pow_add, ← Nat.mul_assoc, Nat.mul_div_cancel _ (Nat.pow_pos (by omega))]
  rw [hd A ea (by omega) (by omega), hd B eb (by omega) (by omega), ← q1, ← q2]
theorem cmpN_scale (a b c : Nat) (h : 0 < c) : cmpN (a * c) (b * c) = cmpN a b := by
  rcases Nat.lt_trichotomy a b with g | g | g
  · rw [cmpN_lt g, cmpN_lt (Nat.mul_lt_mul_of_pos_right g h)]
  · rw [cmpN_eq g, cmpN_eq (by rw [g])]
  · rw [cmpN_gt g, cmpN_gt (Nat.mul_lt_mul_of_pos_right g h)]
theorem cmp_val (A B : List Nat) (ea eb : Int) (K c : Nat) (k1 : -(K : Int) ≤ ea) (k2 : -(K : Int) ≤ eb) : cmpN (val (K + c) A ea) (val (K + c) B eb) = cmpN (val K A ea) (val K B eb) := by
  rw [val_more K c A ea k1, val_more K c B eb k2, cmpN_scale _ _ _ (Nat.pow_pos (by omega))]
end Go.Proofs.YtbkdaoicnobllaaDoor

/- Plain mathematics: the reference's choice of the shortest decimal. -/
namespace Go.Proofs.YtbkdaoicnobllaaDoor
open Go.RowKit

theorem ref_exact {H : Nat → Prop} {V P : Nat} (h : V % P = 0) : StepYes H V P (V / P * P) := by
  refine .inl ⟨h, ?_⟩
  have := Nat.div_add_mod V P
  rw [h, Nat.add_zero, Nat.mul_comm] at this; exact this
theorem ref_both_hi {H : Nat → Prop} {V P : Nat} (h : V % P ≠ 0) (a : H (V / P * P)) (b : H (V / P * P + P)) (c : leftN V P = 3 ∨ (leftN V P = 2 ∧ V / P % 2 = 1)) : StepYes H V P (V / P * P + P) := by
  refine .inr ⟨h, .inl ⟨a, b, ?_⟩⟩
  unfold rndN
  rw [if_pos, Nat.add_mul, Nat.one_mul]
  refine ⟨fun h0 => h ((left_zero V P).1 h0), ?_⟩
  rw [away_zero]
  rcases c with c | ⟨c, d⟩
  · rw [c]; rfl
  · rw [c, d]; rfl
theorem ref_both_lo {H : Nat → Prop} {V P : Nat} (h : V % P ≠ 0) (a : H (V / P * P)) (b : H (V / P * P + P)) (c : ¬ (leftN V P = 3 ∨ (leftN V P = 2 ∧ V / P % 2 = 1))) : StepYes H V P (V / P * P) := by
  refine .inr ⟨h, .inl ⟨a, b, ?_⟩⟩
  unfold rndN
  rw [if_neg]
  rintro ⟨_, h1⟩
  rw [away_zero] at h1
  apply c
  simp at h1
  rcases h1 with h1 | ⟨h1, h2⟩
  · exact .inl h1
  · exact .inr ⟨h1, h2⟩
theorem ref_lo {H : Nat → Prop} {V P : Nat} (h : V % P ≠ 0) (a : H (V / P * P)) (b : ¬ H (V / P * P + P)) : StepYes H V P (V / P * P) := .inr ⟨h, .inr (.inl ⟨a, b, rfl⟩)⟩
theorem ref_hi {H : Nat → Prop} {V P : Nat} (h : V % P ≠ 0) (a : ¬ H (V / P * P)) (b : H (V / P * P + P)) : StepYes H V P (V / P * P + P) := .inr ⟨h, .inr (.inr ⟨a, b, rfl⟩)⟩
theorem ref_no {H : Nat → Prop} {V P : Nat} (h : V % P ≠ 0) (a : ¬ H (V / P * P)) (b : ¬ H (V / P * P + P)) : StepNo H V P := ⟨h, a, b⟩
/-- The first digit's step is at most the number. -/
theorem top_le {D : List Nat} {e p : Int} (hh : Headed D) (hl : 0 < D.length) (he : -(3000 : Int) ≤ e) (hp : p ≤ e + D.length - 1) : 10 ^ (p + (3000 : Nat)).toNat ≤ val 3000 D e := by
  unfold val
  refine Nat.le_trans ?_ (Nat.mul_le_mul_right _ (hh.lo hl))
  rw [← Nat.pow_add]
  exact Nat.pow_le_pow_right (by omega) (by omega)
theorem low_pos {V P : Nat} (h : P ≤ V) (hP : 0 < P) : 0 < V / P * P := Nat.mul_pos (Nat.div_pos h hP) hP
end Go.Proofs.YtbkdaoicnobllaaDoor
