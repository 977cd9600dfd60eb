import Derived.Test.YtbkdaoicnobllaaTKeepA

namespace Go.Proofs.Ytbkdaoicnobllaa
open Go.RowKit

def FlO (g : Int) : Prop := g = 1 ∨ g = 3 ∨ g = 5 ∨ g = 7
/-- A number's answers by all modes: all the same, or one of two neighbours. -/
theorem round_all {K : Nat} {f m0 : Int} {neg : Bool} {X : Nat} {r0 l0 : Int} (hK : 1100 ≤ K) (h : RoundSpec K f m0 neg X r0 l0) :
    (∃ A : Int, 0 ≤ A ∧ A ≤ infN f ∧ ∀ mode r fl, RoundSpec K f mode neg X r fl → r = A ∧ fl = 0) ∨
    (∃ (lo half : Int) (odd : Bool), 0 ≤ lo ∧ lo + 1 ≤ infN f ∧ ∀ mode r fl, RoundSpec K f mode neg X r fl → r = (if awayB mode neg half odd = true then lo + 1 else lo) ∧ FlO fl) := by
  rcases h with ⟨h0, _⟩ | ⟨h0, h1, _⟩ | ⟨h0, h1, a, ha, h2, h3, h4⟩
  · exact .inl ⟨0, by omega, by omega, fun mode r fl hh => by rw [h0] at hh; exact hh.zero⟩
  · have hi : 0 < infN f := by
      rcases Nat.eq_zero_or_pos (infN f) with g | g
      · exfalso
        have : infN f ≠ 0 := by unfold infN; split <;> (try split) <;> omega
        omega
      · exact g
    refine .inr ⟨(infN f : Int) - 1, 3, true, by omega, by omega, fun mode r fl hh => ?_⟩
    rcases hh with ⟨g0, _⟩ | ⟨_, _, g2, g3⟩ | ⟨_, g1, _⟩
    · omega
    · refine ⟨?_, by rw [g2]; exact .inr (.inl rfl)⟩
      rw [g3]; split <;> omega
    · omega
  · have key : ∀ mode r fl, RoundSpec K f mode neg X r fl → (X = valA K f a ∧ r = a ∧ fl = 0) ∨ (X ≠ valA K f a ∧ r = (if awayB mode neg (cmpN (X * 2) (valA K f a + valA K f (a + 1)) + 2) (a % 2 == 1) = true then (a : Int) + 1 else (a : Int)) ∧
        fl = 1 + (if X < two K (fLow f) then 4 else 0) + (if r = infN f then 2 else 0)) := by
      intro mode r fl hh
      rcases hh with ⟨g0, _⟩ | ⟨_, g1, _⟩ | ⟨_, _, b, _, g2, g3, g4⟩
      · omega
      · omega
      · have hab := valA_one hK h2 h3 g2 g3
        subst hab
        exact g4
    by_cases hx : X = valA K f a
    · exact .inl ⟨a, by omega, by omega, fun mode r fl hh => by
        rcases key mode r fl hh with ⟨_, g1, g2⟩ | ⟨g, _⟩
        · exact ⟨g1, g2⟩
        · exact absurd hx g⟩
    · refine .inr ⟨a, cmpN (X * 2) (valA K f a + valA K f (a + 1)) + 2, (a % 2 == 1), by omega, by omega, fun mode r fl hh => ?_⟩
      rcases key mode r fl hh with ⟨g, _⟩ | ⟨_, g1, g2⟩
      · exact absurd g hx
      · refine ⟨g1, ?_⟩
        rw [g2]
        unfold FlO
        split <;> split <;> omega
theorem signedV_inj {f : Int} {neg : Bool} {a b : Int} : signedV f neg a = signedV f neg b ↔ a = b := by
  unfold signedV; cases neg
  · simp
  · simp
def InR (b : Int) : Prop := -9223372036854775808 ≤ b ∧ b ≤ 9223372036854775807
/-- What 'modes' asks. -/
def ModesOk (f : Int) (neg : Bool) (b0 b1 b2 b3 b4 g0 g1 g2 g3 g4 : Int) : Prop :=
  (b0 = b3 ∧ b1 = b3 ∧ b2 = b3 ∧ b4 = b3 ∧ g0 = 0 ∧ g1 = 0 ∧ g2 = 0 ∧ g3 = 0 ∧ g4 = 0) ∨
  (b4 ≠ b3 ∧ FlO g0 ∧ FlO g1 ∧ FlO g2 ∧ FlO g3 ∧ FlO g4 ∧ signedOf f b3 = signedOf f b4 + 1 ∧ (-9218868437227405312 ≤ signedOf f b4 ∧ signedOf f b4 ≤ 9218868437227405312) ∧ (b0 = b3 ∨ b0 = b4) ∧ (b1 = b3 ∨ b1 = b4) ∧ b2 = (if neg = true then b3 else b4))
theorem modes_num {K : Nat} {f : Int} {neg : Bool} {X : Nat} {r0 r1 r2 r3 r4 g0 g1 g2 g3 g4 : Int} (hf : 0 ≤ f ∧ f ≤ 2) (hK : 1100 ≤ K) (h0 : RoundSpec K f 0 neg X r0 g0) (h1 : RoundSpec K f 1 neg X r1 g1) (h2 : RoundSpec K f 2 neg X r2 g2) (h3 : RoundSpec K f 3 neg X r3 g3) (h4 : RoundSpec K f 4 neg X r4 g4) :
    ModesOk f neg (signedV f neg r0) (signedV f neg r1) (signedV f neg r2) (signedV f neg r3) (signedV f neg r4) g0 g1 g2 g3 g4 ∧ InR (signedV f neg r3) ∧ InR (signedV f neg r4) := by
  have hm := infN_max f
  rcases round_all hK h3 with ⟨A, a1, a2, hA⟩ | ⟨lo, half, odd, a1, a2, hA⟩
  · obtain ⟨e0, l0⟩ := hA _ _ _ h0
    obtain ⟨e1, l1⟩ := hA _ _ _ h1
    obtain ⟨e2, l2⟩ := hA _ _ _ h2
    obtain ⟨e3, l3⟩ := hA _ _ _ h3
    obtain ⟨e4, l4⟩ := hA _ _ _ h4
    rw [e0, e1, e2, e3, e4]
    exact ⟨.inl ⟨rfl, rfl, rfl, rfl, l0, l1, l2, l3, l4⟩, signedV_bd hf neg A a1 a2, signedV_bd hf neg A a1 a2⟩
  · obtain ⟨e0, l0⟩ := hA _ _ _ h0
    obtain ⟨e1, l1⟩ := hA _ _ _ h1
    obtain ⟨e2, l2⟩ := hA _ _ _ h2
    obtain ⟨e3, l3⟩ := hA _ _ _ h3
    obtain ⟨e4, l4⟩ := hA _ _ _ h4
    have x2 : awayB 2 neg half odd = false := rfl
    have x3 : awayB 3 neg half odd = !neg := rfl
    have x4 : awayB 4 neg half odd = neg := rfl
    rw [x2] at e2
    rw [x3] at e3
    rw [x4] at e4
    cases neg
    · simp at e2 e3 e4
      have d0 : r0 = r3 ∨ r0 = r4 := by rw [e0, e3, e4]; split <;> simp
      have d1 : r1 = r3 ∨ r1 = r4 := by rw [e1, e3, e4]; split <;> simp
      have s3 := signedOf_v hf false r3 (by omega) (by omega)
      have s4 := signedOf_v hf false r4 (by omega) (by omega)
      refine ⟨.inr ⟨fun h => by rw [signedV_inj] at h; omega, l0, l1, l2, l3, l4, ?_, ?_, ?_, ?_, ?_⟩, signedV_bd hf false r3 (by omega) (by omega), signedV_bd hf false r4 (by omega) (by omega)⟩
      · rw [s3, s4]; simp; omega
      · rw [s4]; simp; omega
      · simpa [signedV_inj] using d0
      · simpa [signedV_inj] using d1
      · simp [signedV_inj]; omega
    · simp at e2 e3 e4
      have d0 : r0 = r3 ∨ r0 = r4 := by rw [e0, e3, e4]; split <;> simp
      have d1 : r1 = r3 ∨ r1 = r4 := by rw [e1, e3, e4]; split <;> simp
      have s3 := signedOf_v hf true r3 (by omega) (by omega)
      have s4 := signedOf_v hf true r4 (by omega) (by omega)
      refine ⟨.inr ⟨fun h => by rw [signedV_inj] at h; omega, l0, l1, l2, l3, l4, ?_, ?_, ?_, ?_, ?_⟩, signedV_bd hf true r3 (by omega) (by omega), signedV_bd hf true r4 (by omega) (by omega)⟩
      · rw [s3, s4]; simp; omega
      · rw [s4]; simp; omega
      · simpa [signedV_inj] using d0
      · simpa [signedV_inj] using d1
      · simp [signedV_inj]; omega
/-- Errors hang on the text and the format alone. -/
theorem errs_same {K : Nat} {l : List Nat} {f m1 m2 b g a e b' g' a' e' : Int} (v1 : 0 ≤ m1 ∧ m1 ≤ 4) (v2 : 0 ≤ m2 ∧ m2 ≤ 4) (h : ProgSpec K l f m1 b g a e) (h' : ProgSpec K l f m2 b' g' a' e') : e = e' ∧ a = a' := by
  rcases h with ⟨hv, _, _, h3, h4⟩ | ⟨hv, hl, _, _, h3, h4⟩ | ⟨hv, hl, st, x, ok, hr, hc⟩
  · rcases h' with ⟨_, _, _, g3, g4⟩ | ⟨gv, _⟩ | ⟨gv, _⟩
    · omega
    · exact absurd ⟨gv.1, gv.2.1, v1.1, v1.2⟩ hv
    · exact absurd ⟨gv.1, gv.2.1, v1.1, v1.2⟩ hv
  · rcases h' with ⟨gv, _⟩ | ⟨_, _, _, _, g3, g4⟩ | ⟨_, gl, _⟩
    · exact absurd ⟨hv.1, hv.2.1, v2.1, v2.2⟩ gv
    · omega
    · omega
  · rcases h' with ⟨gv, _⟩ | ⟨_, gl, _⟩ | ⟨_, _, st', x', ok', hr', hc'⟩
    · exact absurd ⟨hv.1, hv.2.1, v2.1, v2.2⟩ gv
    · omega
    · obtain ⟨e1, e2, e3⟩ := ReadSpec.one hr hr'
      subst e1 e2 e3
      rcases hc with ⟨c0, _, _, c1, c2⟩ | ⟨c0, c1, c2, _⟩
      · rcases hc' with ⟨_, _, _, d1, d2⟩ | ⟨d0, _⟩
        · omega
        · rw [c0] at d0; cases d0
      · rcases hc' with ⟨d0, _⟩ | ⟨_, d1, d2, _⟩
        · rw [c0] at d0; cases d0
        · omega
theorem spec_ok {K : Nat} {l : List Nat} {f m b g a : Int} (h : ProgSpec K l f m b g a 0) : (0 ≤ f ∧ f ≤ 2) ∧ ∃ st x, ReadSpec l st x true ∧ Outcome K l st f m b g := by
  rcases h with ⟨_, _, _, _, h4⟩ | ⟨_, _, _, _, _, h4⟩ | ⟨hv, hl, st, x, ok, hr, hc⟩
  · cases h4
  · cases h4
  · rcases hc with ⟨_, _, _, _, h4⟩ | ⟨ho, _, _, hh⟩
    · cases h4
    · subst ho; exact ⟨⟨hv.1, hv.2.1⟩, st, x, hr, hh⟩
theorem nanP_bd (f : Int) : InR (nanP f) := by unfold InR nanP; split <;> (try split) <;> omega
theorem modes_pure {K : Nat} {l : List Nat} {f b0 b1 b2 b3 b4 g0 g1 g2 g3 g4 a0 a1 a2 a3 a4 : Int} (hK : 1100 ≤ K) (h0 : ProgSpec K l f 0 b0 g0 a0 0) (h1 : ProgSpec K l f 1 b1 g1 a1 0) (h2 : ProgSpec K l f 2 b2 g2 a2 0) (h3 : ProgSpec K l f 3 b3 g3 a3 0) (h4 : ProgSpec K l f 4 b4 g4 a4 0) :
    ModesOk f (decide (l.getD 0 0 = 45)) b0 b1 b2 b3 b4 g0 g1 g2 g3 g4 ∧ InR b3 ∧ InR b4 := by
  obtain ⟨hf, s0, x0, r0, o0⟩ := spec_ok h0
  obtain ⟨_, s1, x1, r1, o1⟩ := spec_ok h1
  obtain ⟨_, s2, x2, r2, o2⟩ := spec_ok h2
  obtain ⟨_, s3, x3, r3, o3⟩ := spec_ok h3
  obtain ⟨_, s4, x4, r4, o4⟩ := spec_ok h4
  obtain ⟨e1, _⟩ := ReadSpec.one r1 r0
  obtain ⟨e2, _⟩ := ReadSpec.one r2 r0
  obtain ⟨e3, _⟩ := ReadSpec.one r3 r0
  obtain ⟨e4, _⟩ := ReadSpec.one r4 r0
  subst e1 e2 e3 e4
  unfold Outcome at o0 o1 o2 o3 o4
  rcases o3 with ⟨q, p1, p2⟩ | ⟨q, p1, p2⟩ | ⟨q, t3, p1, p2⟩
  · rcases o0 with ⟨_, a1, a2⟩ | ⟨u, _⟩ | ⟨u, _⟩
    · rcases o1 with ⟨_, c1, c2⟩ | ⟨u, _⟩ | ⟨u, _⟩
      · rcases o2 with ⟨_, d1, d2⟩ | ⟨u, _⟩ | ⟨u, _⟩
        · rcases o4 with ⟨_, f1, f2⟩ | ⟨u, _⟩ | ⟨u, _⟩
          · refine ⟨.inl ⟨by omega, by omega, by omega, by omega, a2, c2, d2, p2, f2⟩, ?_, ?_⟩
            · rw [p1]; exact nanP_bd f
            · rw [f1]; exact nanP_bd f
          · omega
          · omega
        · omega
        · omega
      · omega
      · omega
    · omega
    · omega
  · rcases o0 with ⟨u, _⟩ | ⟨_, a1, a2⟩ | ⟨u, _⟩
    · omega
    · rcases o1 with ⟨u, _⟩ | ⟨_, c1, c2⟩ | ⟨u, _⟩
      · omega
      · rcases o2 with ⟨u, _⟩ | ⟨_, d1, d2⟩ | ⟨u, _⟩
        · omega
        · rcases o4 with ⟨u, _⟩ | ⟨_, f1, f2⟩ | ⟨u, _⟩
          · omega
          · refine ⟨.inl ⟨by omega, by omega, by omega, by omega, a2, c2, d2, p2, f2⟩, ?_, ?_⟩
            · rw [p1]; exact signedV_bd hf _ _ (by omega) (by omega)
            · rw [f1]; exact signedV_bd hf _ _ (by omega) (by omega)
          · omega
        · omega
      · omega
    · omega
  · rcases o0 with ⟨u, _⟩ | ⟨u, _⟩ | ⟨_, t0, a1, a2⟩
    · omega
    · omega
    · rcases o1 with ⟨u, _⟩ | ⟨u, _⟩ | ⟨_, t1, c1, c2⟩
      · omega
      · omega
      · rcases o2 with ⟨u, _⟩ | ⟨u, _⟩ | ⟨_, t2, d1, d2⟩
        · omega
        · omega
        · rcases o4 with ⟨u, _⟩ | ⟨u, _⟩ | ⟨_, t4, f1, f2⟩
          · omega
          · omega
          · rw [a2, c2, d2, p2, f2]
            exact modes_num hf hK a1 c1 d1 p1 f1
theorem and_one (g : Int) (h : FlO g) : bits .and .i64 g 1 = 1 := by
  rcases h with rfl | rfl | rfl | rfl <;> (exact (and_mask _ 1 (by omega)).trans (by decide))
theorem and_zero : bits .and .i64 0 1 = 0 := (and_mask 0 1 (by omega)).trans (by decide)
end Go.Proofs.Ytbkdaoicnobllaa
