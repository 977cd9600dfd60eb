import Derived.Test.YtbkdaoicnobllabGreatDoorG21
import Derived.Test.YtbkdaoicnobllabGreatDoorG00

/- The program's Parse and the document's tell the same. -/
namespace Go.Proofs.YtbkdaoicnobllabGreatDoor

theorem getD_out {l : List Nat} {a : Nat} (h : ¬ a < l.length) : l.getD a 0 = 0 := by
  rw [List.getD_eq_getElem?_getD, List.getElem?_eq_none (by omega)]; rfl
theorem atB_of {s : ByteArray} {a x : Nat} (h : (chs s).getD a 0 = x) (hx : x ≠ 0) : atB s a x = true := by
  have hl : a < (chs s).length := by
    rcases Nat.lt_or_ge a (chs s).length with g | g
    · exact g
    · rw [getD_out (by omega)] at h; exact absurd h.symm hx
  unfold atB; rw [chs_length] at hl; simp [hl]; simpa using h
/-- Behind the sign. -/
theorem sign_path (s : ByteArray) : ∃ st0, Path (chs s) (sgnL s 0) st0 ∧ endsB st0 = false ∧ (sgnL s 0 < (chs s).length → nextS st0 ((chs s).getD (sgnL s 0) 0) = beginS ((chs s).getD (sgnL s 0) 0)) ∧ body (chs s) = (chs s).drop (sgnL s 0) := by
  have hz := Path.zero (chs s)
  by_cases h : atB s 0 45 = true ∨ atB s 0 43 = true
  · have e : sgnL s 0 = 1 := by unfold sgnL; rw [if_pos h]
    have hs : 0 < (chs s).length ∧ sgn ((chs s).getD 0 0) = true := by
      rcases h with h | h
      · have := atB_yes h; exact ⟨this.1, by rw [this.2]; rfl⟩
      · have := atB_yes h; exact ⟨this.1, by rw [this.2]; rfl⟩
    rw [e]
    refine ⟨1, hz.step hs.1 (by show (if sgn _ = true then 1 else _) = 1; rw [if_pos hs.2]) (by omega), rfl, fun _ => rfl, ?_⟩
    cases hl : chs s with
    | nil => rw [hl] at hs; simp at hs
    | cons c r => rw [hl] at hs; simp at hs; simp [body, hs]
  · have e : sgnL s 0 = 0 := by unfold sgnL; rw [if_neg h]
    have hn : 0 < (chs s).length → sgn ((chs s).getD 0 0) = false := fun hl => by
      have h1 : atB s 0 45 = false := by cases g : atB s 0 45; rfl; exact absurd (.inl g) h
      have h2 : atB s 0 43 = false := by cases g : atB s 0 43; rfl; exact absurd (.inr g) h
      have e1 := atB_no h1 hl
      have e2 := atB_no h2 hl
      unfold sgn; simp; exact ⟨e2, e1⟩
    rw [e]
    refine ⟨0, hz, rfl, fun hl => ?_, ?_⟩
    · show (if sgn _ = true then 1 else beginS _) = _
      rw [hn hl]; rfl
    · cases hl : chs s with
      | nil => rfl
      | cons c r => rw [hl] at hn; simp at hn; simp [body, hn]
theorem word_path {s : ByteArray} (tail : List Nat) : ∀ (a q : Nat), Path (chs s) a q → (∀ i, i < tail.length → ∀ c, nextS (q + i) c = if c = tail.getD i 0 then q + i + 1 else 28) → q + tail.length < 28 → (∀ c, nextS (q + tail.length) c = 28) →
    Path (chs s) (a + wordN s a tail) (q + wordN s a tail) ∧ (a + wordN s a tail < (chs s).length → nextS (q + wordN s a tail) ((chs s).getD (a + wordN s a tail) 0) = 28) ∧ wordN s a tail ≤ tail.length := by
  induction tail with
  | nil => intro a q hp _ _ hend; exact ⟨hp, fun _ => hend _, Nat.le_refl _⟩
  | cons x r ih =>
    intro a q hp hst hlt hend
    have h0 := hst 0 (by simp)
    simp at h0
    cases hx : atB s a x
    · have e : wordN s a (x :: r) = 0 := by simp [wordN, hx]
      rw [e]
      refine ⟨hp, fun hl => ?_, Nat.zero_le _⟩
      simp only [Nat.add_zero] at hl ⊢
      show nextS q _ = 28
      rw [h0, if_neg (atB_no hx hl)]
    · have e : wordN s a (x :: r) = 1 + wordN s (a + 1) r := by simp [wordN, hx]
      obtain ⟨hl, hv⟩ := atB_yes hx
      have hp1 : Path (chs s) (a + 1) (q + 1) := hp.step hl (by rw [h0, hv, if_pos rfl]) (by simp at hlt; omega)
      have := ih (a + 1) (q + 1) hp1 (fun i hi c => by have := hst (i + 1) (by simp; omega) c; rw [show q + 1 + i = q + (i + 1) from by omega, this]; simp) (by simp at hlt; omega) (fun c => by have := hend c; rw [show q + 1 + r.length = q + (x :: r).length from by simp; omega]; exact this)
      rw [e, show a + (1 + wordN s (a + 1) r) = a + 1 + wordN s (a + 1) r from by omega, show q + (1 + wordN s (a + 1) r) = q + 1 + wordN s (a + 1) r from by omega]
      exact ⟨this.1, this.2.1, by have := this.2.2; simp; omega⟩
theorem inf_steps : ∀ i, i < [110, 102, 105, 110, 105, 116, 121].length → ∀ c, nextS (16 + i) c = if c = [110, 102, 105, 110, 105, 116, 121].getD i 0 then 16 + i + 1 else 28 := by
  intro i hi c
  simp only [List.length_cons, List.length_nil] at hi
  rcases (by omega : i = 0 ∨ i = 1 ∨ i = 2 ∨ i = 3 ∨ i = 4 ∨ i = 5 ∨ i = 6) with rfl | rfl | rfl | rfl | rfl | rfl | rfl <;> rfl
theorem nan_steps : ∀ i, i < [97, 110].length → ∀ c, nextS (25 + i) c = if c = [97, 110].getD i 0 then 25 + i + 1 else 28 := by
  intro i hi c
  simp only [List.length_cons, List.length_nil] at hi
  rcases (by omega : i = 0 ∨ i = 1) with rfl | rfl <;> rfl
/-- Which state goes with which kind. -/
def KindSt (kd : Int) (st : Nat) : Prop :=
  (kd = 3 ∧ st = 27) ∨ (kd = 2 ∧ (st = 18 ∨ st = 23)) ∨ (kd = 1 ∧ st = 15) ∨ (kd = 0 ∧ (st = 2 ∨ st = 3 ∨ st = 4 ∨ st = 6 ∨ st = 9))
theorem uns_stop {s : ByteArray} {k : Nat} {uok : Bool} {kd : Int} {D : List Nat} {pw : Int} (h : UnsRes s (sgnL s 0) k uok kd D pw) : ∃ st, Stop (chs s) k uok st ∧ (uok = true → KindSt kd st) := by
  obtain ⟨st0, hp, he, hb, _⟩ := sign_path s
  generalize sgnL s 0 = a at *
  rcases h with ⟨h1, rfl, rfl, rfl⟩ | ⟨h1, rfl, rfl, rfl⟩ | ⟨h1, h2, h3, rfl, hx⟩ | ⟨h1, h2, h3, rfl, hx⟩
  · have ha := atB_of h1 (by decide)
    obtain ⟨hl, _⟩ := atB_yes ha
    have p1 : Path (chs s) (a + 1) 16 := hp.step hl (by rw [hb hl, h1]; rfl) (by omega)
    obtain ⟨w1, w2, w3⟩ := word_path [110, 102, 105, 110, 105, 116, 121] (a + 1) 16 p1 inf_steps (by decide) (fun c => rfl)
    have e : wordN s a wInf = 1 + wordN s (a + 1) [110, 102, 105, 110, 105, 116, 121] := by unfold wInf; simp only [wordN, ha]; simp
    rw [e]
    generalize wordN s (a + 1) [110, 102, 105, 110, 105, 116, 121] = m at *
    rw [show a + (1 + m) = a + 1 + m from by omega]
    simp only [List.length_cons, List.length_nil] at w3
    refine ⟨16 + m, ⟨w1, w2, ?_⟩, fun hh => .inr (.inl ⟨rfl, ?_⟩)⟩
    · rcases (by omega : m = 0 ∨ m = 1 ∨ m = 2 ∨ m = 3 ∨ m = 4 ∨ m = 5 ∨ m = 6 ∨ m = 7) with rfl | rfl | rfl | rfl | rfl | rfl | rfl | rfl <;> rfl
    · simp at hh; omega
  · have ha := atB_of h1 (by decide)
    obtain ⟨hl, _⟩ := atB_yes ha
    have p1 : Path (chs s) (a + 1) 25 := hp.step hl (by rw [hb hl, h1]; rfl) (by omega)
    obtain ⟨w1, w2, w3⟩ := word_path [97, 110] (a + 1) 25 p1 nan_steps (by decide) (fun c => rfl)
    have e : wordN s a wNan = 1 + wordN s (a + 1) [97, 110] := by unfold wNan; simp only [wordN, ha]; simp
    rw [e]
    generalize wordN s (a + 1) [97, 110] = m at *
    rw [show a + (1 + m) = a + 1 + m from by omega]
    simp only [List.length_cons, List.length_nil] at w3
    refine ⟨25 + m, ⟨w1, w2, ?_⟩, fun hh => .inl ⟨rfl, ?_⟩⟩
    · rcases (by omega : m = 0 ∨ m = 1 ∨ m = 2) with rfl | rfl | rfl <;> rfl
    · simp at hh; omega
  · unfold hexB at h3
    simp at h3
    obtain ⟨hl, hv⟩ := atB_yes h3.1
    obtain ⟨hl1, hv1⟩ := atB_yes h3.2
    have p1 : Path (chs s) (a + 1) 2 := hp.step hl (by rw [hb hl, hv]; rfl) (by omega)
    have p2 : Path (chs s) (a + 2) 10 := p1.step hl1 (by rw [hv1]; rfl) (by omega)
    obtain ⟨st, g1, g2⟩ := hex_stop p2 hx
    exact ⟨st, g1, fun hh => .inr (.inr (.inl ⟨rfl, g2 hh⟩))⟩
  · obtain ⟨st, g1, g2⟩ := dec_stop hp hb he (fun ⟨x1, x2, x3⟩ => by
      have e1 := atB_of x2 (by decide)
      have e2 := atB_of x3 (by decide)
      unfold hexB at h3; rw [e1, e2] at h3; cases h3) (fun _ => ⟨h1, h2⟩) hx
    exact ⟨st, g1, fun hh => .inr (.inr (.inr ⟨rfl, g2 hh⟩))⟩
theorem ReadSpec.one {l : List Nat} {s a s' a' : Nat} {ok ok' : Bool} (h : ReadSpec l s a ok) (h' : ReadSpec l s' a' ok') : s = s' ∧ a = a' ∧ ok = ok' := by
  rcases h with ⟨k, h1, h2, h3, h4, h5, h6⟩ | ⟨h1, h2, h3, h4⟩
  · rcases h' with ⟨k', g1, g2, g3, g4, g5, g6⟩ | ⟨g1, g2, g3, g4⟩
    · have hk : k = k' := by
        rcases Nat.lt_trichotomy k k' with g | g | g
        · exact absurd h3 (g2 _ g)
        · exact g
        · exact absurd g3 (h2 _ g)
      exact ⟨h4.trans g4.symm, by omega, h6.trans g6.symm⟩
    · exact absurd h3 (g1 _ h1)
  · rcases h' with ⟨k', g1, g2, g3, g4, g5, g6⟩ | ⟨g1, g2, g3, g4⟩
    · exact absurd g3 (h1 _ g1)
    · have : s = s' := h2.trans g2.symm
      exact ⟨this, by omega, by rw [h4, g4, this]⟩
theorem RoundSpec.zero {K : Nat} {f mode : Int} {neg : Bool} {r fl : Int} (h : RoundSpec K f mode neg 0 r fl) : r = 0 ∧ fl = 0 := by
  rcases h with ⟨_, h1, h2⟩ | ⟨h, _⟩ | ⟨h, _⟩
  · exact ⟨h1, h2⟩
  · omega
  · omega
theorem neg_eq (s : ByteArray) (h : 0 < (chs s).length) : decide ((chs s).getD 0 0 = 45) = atB s 0 45 := by
  rw [chs_length] at h
  unfold atB
  rw [Bool.eq_iff_iff]; simp [h]

theorem sixV_nil (K : Nat) (e : Int) : sixV K [] e = 0 := by unfold sixV; simp
theorem num_join {K : Nat} (hK : 30000 ≤ K) {s : ByteArray} {f mode bts fl b2 f2 kd pw : Int} {D : List Nat} {st : Nat} (hf : 0 ≤ f ∧ f ≤ 2) (hl : s.size ≤ 900) (hne : 0 < (chs s).length) (hu : UnsRes s (sgnL s 0) (chs s).length true kd D pw) (hk : KindSt kd st)
    (hp : PatRes f mode (atB s 0 45) kd D pw bts fl) (hn : NumSpec K (chs s) f mode st b2 f2) : bts = b2 ∧ fl = f2 := by
  have hlen := chs_length s
  have hF := fmt_of hf
  obtain ⟨_, _, _, _, hbody⟩ := sign_path s
  unfold NumSpec at hn
  rw [neg_eq s hne, hbody] at hn
  generalize atB s 0 45 = neg at *
  unfold KindSt at hk
  rcases hn with ⟨h1, h2, h3⟩ | ⟨h1, h2, h3⟩ | ⟨h1, r, hr, h2⟩ | ⟨h1, r, L, e, hL, hL0, hLe, hLv, hr, h2⟩
  · have hkd : kd = 3 := by omega
    subst hkd
    rcases hp with ⟨_, g1, g2⟩ | ⟨g, _⟩ | ⟨g, _⟩ | ⟨g, _⟩
    · exact ⟨g1.trans h2.symm, g2.trans h3.symm⟩
    · omega
    · omega
    · omega
  · have hkd : kd = 2 := by omega
    subst hkd
    rcases hp with ⟨g, _⟩ | ⟨_, g1, g2⟩ | ⟨g, _⟩ | ⟨g, _⟩
    · omega
    · exact ⟨g1.trans h2.symm, g2.trans h3.symm⟩
    · omega
    · omega
  · have hkd : kd = 1 := by omega
    subst hkd
    rcases hu with ⟨_, g, _⟩ | ⟨_, g, _⟩ | ⟨_, _, hB, _, hx⟩ | ⟨_, _, _, g, _⟩
    · omega
    · omega
    · unfold hexB at hB
      simp at hB
      obtain ⟨n1, n2, x, n3, n4⟩ := hex_nums hx rfl (atB_yes hB.1).2 (atB_yes hB.2).2
      have hN := hex_ok' hx (by omega)
      rw [List.drop_drop, n1] at hr
      rcases hp with ⟨g, _⟩ | ⟨g, _⟩ | ⟨_, g0, g1, g2⟩ | ⟨_, g0, V, U, q, hUV, hVU, hE, g1, g2⟩
      · omega
      · omega
      · rw [g0, sixV_nil] at hr
        obtain ⟨z1, z2⟩ := hr.zero
        rw [g1, g2, h2, z1, z2]; exact ⟨rfl, rfl⟩
      · rcases hE with ⟨_, hE⟩ | ⟨g, _⟩
        · have hD0 : D.getD 0 0 ≠ 0 := by
            rcases hN.lead with h | h
            · exact absurd h g0
            · exact h
          have hlenD := hN.len
          have hj := hex_joinJ (mode := mode) (neg := neg) hF hK (fun d hd => by have := hN.lt d hd; omega) hD0 (by omega) (b := 4 * ((hexScan (ahead ((chs s).drop (sgnL s 0 + 2)) 112)).2.1 : Nat)) ⟨by omega, by omega⟩ n3 rfl n4 hUV hVU hE
          obtain ⟨z1, z2⟩ := RoundSpec.one (by omega) hj hr
          rw [g1, g2, h2, z1, z2]; exact ⟨rfl, rfl⟩
        · omega
    · omega
  · have hkd : kd = 0 := by omega
    subst hkd
    rcases hu with ⟨_, g, _⟩ | ⟨_, g, _⟩ | ⟨_, _, _, g, _⟩ | ⟨_, _, _, _, hx⟩
    · omega
    · omega
    · omega
    · obtain ⟨n1, n2, x, n3, n4⟩ := dec_nums hx rfl
      have hN := dec_ok' hx (by omega)
      rcases hp with ⟨g, _⟩ | ⟨g, _⟩ | ⟨_, g0, g1, g2⟩ | ⟨_, g0, V, U, q, hUV, hVU, hE, g1, g2⟩
      · omega
      · omega
      · have hz : L = [] := by
          rcases Nat.eq_zero_or_pos L.length with h | h
          · exact List.length_eq_zero_iff.1 h
          · exfalso
            have hv := hLv (-(expOf ((chs s).drop (sgnL s 0)) 101 - ((decScan (ahead ((chs s).drop (sgnL s 0)) 101)).2.1 : Nat))).toNat (by omega)
            have hpos := val_pos hL h (-(expOf ((chs s).drop (sgnL s 0)) 101 - ((decScan (ahead ((chs s).drop (sgnL s 0)) 101)).2.1 : Nat))).toNat e
            rw [hv] at hpos
            unfold val at hpos
            rw [n1, g0, num_nil] at hpos
            simp at hpos
        have e0 : heldV K L e = 0 := by unfold heldV; rw [hz]; simp
        rw [e0] at hr
        obtain ⟨z1, z2⟩ := hr.zero
        rw [g1, g2, h2, z1, z2]; exact ⟨rfl, rfl⟩
      · rcases hE with ⟨g, _⟩ | ⟨_, hE⟩
        · omega
        · have hD0 : D.getD 0 0 ≠ 0 := by
            rcases hN.lead with h | h
            · exact absurd h g0
            · exact h
          have hlenD := hN.len
          have hj := dec_join (mode := mode) (neg := neg) hF hK hL (fun d hd => by have := hN.lt d hd; omega) hD0 (by omega) n1 hLe hLv (b := ((decScan (ahead ((chs s).drop (sgnL s 0)) 101)).2.1 : Nat)) ⟨by omega, by omega⟩ n3 rfl n4 hUV hVU hE
          obtain ⟨z1, z2⟩ := RoundSpec.one (by omega) hj hr
          rw [g1, g2, h2, z1, z2]; exact ⟨rfl, rfl⟩

theorem parse_join {K : Nat} (hK : 30000 ≤ K) {s : ByteArray} {f mode bts fl at' err b2 f2 a2 e2 : Int} (hp : PParse s f mode bts fl at' err) (hr : ParseSpec K (chs s) f mode b2 f2 a2 e2) : bts = b2 ∧ fl = f2 ∧ at' = a2 ∧ err = e2 := by
  have hlen := chs_length s
  rcases hp with ⟨hv, h1, h2, h3, h4⟩ | ⟨hv, hl, h1, h2, h3, h4⟩ | ⟨hv, hl, k, uok, kd, D, pw, hu, hc⟩
  · rcases hr with ⟨_, g1, g2, g3, g4⟩ | ⟨gv, _⟩ | ⟨gv, _⟩
    · omega
    · exact absurd gv hv
    · exact absurd gv hv
  · rcases hr with ⟨gv, _⟩ | ⟨_, _, g1, g2, g3, g4⟩ | ⟨_, gl, _⟩
    · exact absurd hv gv
    · omega
    · omega
  · rcases hr with ⟨gv, _⟩ | ⟨_, gl, _⟩ | ⟨_, _, st2, a3, ok2, hrs, hd⟩
    · exact absurd hv gv
    · omega
    · obtain ⟨st, hst, hks⟩ := uns_stop hu
      obtain ⟨st', hrd, hst'⟩ := read_of hst
      obtain ⟨e1, e2, e3⟩ := ReadSpec.one hrd hrs
      have hkl := hst.path.le
      rcases hc with ⟨hfail, h1, h2, h3, h4⟩ | ⟨⟨huok, hk⟩, h3, h4, hpat⟩
      · have ho : ok2 = false := by
          rw [← e3]
          rcases hfail with h | h
          · rw [h]; rfl
          · rw [show decide (k = (chs s).length) = false from by simp; omega]; simp
        rcases hd with ⟨_, g1, g2, g3, g4⟩ | ⟨g, _⟩
        · omega
        · rw [ho] at g; cases g
      · subst huok
        have hkk : k = (chs s).length := by omega
        have ho : ok2 = true := by rw [← e3, hkk]; simp
        rcases hd with ⟨g, _⟩ | ⟨_, g3, g4, hnum⟩
        · rw [ho] at g; cases g
        · have hst2 : st2 = st := by rw [← e1]; exact hst' rfl hkk
          have hKS := hks rfl
          rw [← hst2] at hKS
          have hne : 0 < (chs s).length := by
            rcases Nat.eq_zero_or_pos (chs s).length with h | h
            · exfalso
              have h5 := hst.ok
              have h6 := hst.path.st
              have hnil := List.length_eq_zero_iff.1 h
              rw [hkk, h] at h6
              rw [← h6] at h5
              simp [stAt, endsB] at h5
            · exact h
          rw [hkk] at hu
          obtain ⟨z1, z2⟩ := num_join hK ⟨hv.1, hv.2.1⟩ hl hne hu hKS hpat hnum
          exact ⟨z1, z2, by omega, by omega⟩
end Go.Proofs.YtbkdaoicnobllabGreatDoor

/- What the program's Parse tells, by the text alone: the state where it ends and the number, for all modes and formats. -/
namespace Go.Proofs.YtbkdaoicnobllabGreatDoor

def dropZ (L : List Nat) : List Nat := L.dropWhile (fun d => d == 0)
theorem dropZ_head (L : List Nat) : dropZ L = [] ∨ (dropZ L).getD 0 0 ≠ 0 := by
  induction L with
  | nil => exact .inl rfl
  | cons d r ih =>
    unfold dropZ at *
    by_cases h : d = 0
    · rw [List.dropWhile_cons_of_pos (by simpa using h)]; exact ih
    · rw [List.dropWhile_cons_of_neg (by simpa using h)]; exact .inr (by simpa using h)
theorem dropZ_split (L : List Nat) : ∃ z, L = List.replicate z 0 ++ dropZ L := by
  induction L with
  | nil => exact ⟨0, rfl⟩
  | cons d r ih =>
    unfold dropZ at *
    by_cases h : d = 0
    · obtain ⟨z, hz⟩ := ih
      rw [List.dropWhile_cons_of_pos (by simpa using h)]
      exact ⟨z + 1, by rw [List.replicate_succ, List.cons_append, ← hz, h]⟩
    · rw [List.dropWhile_cons_of_neg (by simpa using h)]; exact ⟨0, rfl⟩
theorem num_zerosO (z : Nat) : num (List.replicate z 0) = 0 := num_all_zero _ (fun j hj => by
  rw [List.length_replicate] at hj
  rw [List.getD_eq_getElem?_getD, List.getElem?_replicate, if_pos hj]; rfl)
/-- Without noughts at either end; the power of the last digit that stays. -/
def normL (L : List Nat) : List Nat := (dropZ (dropZ L).reverse).reverse
def normE (L : List Nat) (er : Int) : Int := if normL L = [] then 0 else er + ((dropZ L).length - (normL L).length : Nat)
theorem normL_split (L : List Nat) : ∃ z, dropZ L = normL L ++ List.replicate z 0 := by
  obtain ⟨z, hz⟩ := dropZ_split (dropZ L).reverse
  refine ⟨z, ?_⟩
  have := congrArg List.reverse hz
  rw [List.reverse_reverse, List.reverse_append, List.reverse_replicate] at this
  exact this
theorem normL_norm {L : List Nat} (h : Digs L) : Norm (normL L) := by
  have hd : Digs (dropZ L) := fun x hx => h x (List.dropWhile_subset _ hx)
  obtain ⟨z, hz⟩ := normL_split L
  refine ⟨fun x hx => hd x (by rw [hz]; exact List.mem_append_left _ hx), fun hl => ?_, fun hl => ?_⟩
  · have h1 : (dropZ L).getD 0 0 ≠ 0 := by
      rcases dropZ_head L with e | e
      · rw [e] at hz
        have := congrArg List.length hz
        simp at this; omega
      · exact e
    rw [hz, List.getD_eq_getElem?_getD, List.getElem?_append_left hl, List.getElem?_eq_getElem hl] at h1
    exact h1
  · have h1 : (dropZ (dropZ L).reverse).getD 0 0 ≠ 0 := by
      rcases dropZ_head (dropZ L).reverse with e | e
      · unfold normL at hl; rw [e] at hl; simp at hl
      · exact e
    have hl2 : 0 < (dropZ (dropZ L).reverse).length := by unfold normL at hl; simpa using hl
    rw [List.getD_eq_getElem?_getD, List.getElem?_eq_getElem hl2] at h1
    unfold normL
    rw [List.getElem_reverse]
    simp only [List.length_reverse]
    have e : (dropZ (dropZ L).reverse).length - 1 - ((dropZ (dropZ L).reverse).length - 1) = 0 := by omega
    simp only [e]
    exact h1
theorem norm_val (L : List Nat) (er : Int) (K : Nat) (hK : -(K : Int) ≤ er) : val K (normL L) (normE L er) = val K L er := by
  obtain ⟨z1, h1⟩ := dropZ_split L
  obtain ⟨z2, h2⟩ := normL_split L
  have e1 : num L = num (dropZ L) := by conv => lhs; rw [h1]
                                        rw [num_append, num_zerosO]; simp
  have e2 : num (dropZ L) = num (normL L) * 10 ^ z2 := by
    conv => lhs; rw [h2]
    rw [num_append, num_zerosO, List.length_replicate]; simp
  have hl : (dropZ L).length = (normL L).length + z2 := by
    have := congrArg List.length h2
    simpa using this
  unfold val normE
  rw [e1, e2]
  by_cases hn : normL L = []
  · rw [if_pos hn, hn, num_nil]; simp
  · rw [if_neg hn, Nat.mul_assoc, ← Nat.pow_add, hl]
    congr 2; omega
theorem normE_ge (L : List Nat) (er : Int) (h : normL L ≠ []) : er ≤ normE L er := by unfold normE; rw [if_neg h]; omega

/-- The number, times 10^K, that a text without its sign says if it ends in the state. -/
def numX (K : Nat) (B : List Nat) (st : Nat) : Nat :=
  if st = 15 then sixV K (hexScan (ahead (B.drop 2) 112)).1 (expOf B 112 - 4 * (hexScan (ahead (B.drop 2) 112)).2.1)
  else heldV K (normL (decScan (ahead B 101)).1) (normE (decScan (ahead B 101)).1 (expOf B 101 - (decScan (ahead B 101)).2.1))
/-- Pattern and flags of a text that ends well. -/
def Outcome (K : Nat) (l : List Nat) (st : Nat) (f mode bts fl : Int) : Prop :=
  (st = 27 ∧ bts = nanP f ∧ fl = 0) ∨ ((st = 18 ∨ st = 23) ∧ bts = signedV f (decide (l.getD 0 0 = 45)) (infN f) ∧ fl = 0) ∨
  ((st = 15 ∨ st = 2 ∨ st = 3 ∨ st = 4 ∨ st = 6 ∨ st = 9) ∧ ∃ r, RoundSpec K f mode (decide (l.getD 0 0 = 45)) (numX K (body l) st) r fl ∧ bts = signedV f (decide (l.getD 0 0 = 45)) r)
theorem outcome_num {K : Nat} (hK : 30000 ≤ K) {s : ByteArray} {f mode bts fl kd pw : Int} {D : List Nat} {st : Nat} (hf : 0 ≤ f ∧ f ≤ 2) (hl : s.size ≤ 900) (hne : 0 < (chs s).length) (hu : UnsRes s (sgnL s 0) (chs s).length true kd D pw) (hk : KindSt kd st) (hst : st = stAt (chs s) (chs s).length)
    (hp : PatRes f mode (atB s 0 45) kd D pw bts fl) : Outcome K (chs s) st f mode bts fl := by
  have hlen := chs_length s
  have hF := fmt_of hf
  obtain ⟨_, _, _, _, hbody⟩ := sign_path s
  unfold Outcome
  rw [neg_eq s hne, hbody]
  generalize atB s 0 45 = neg at *
  unfold KindSt at hk
  rcases hp with ⟨g, g1, g2⟩ | ⟨g, g1, g2⟩ | ⟨g, g0, g1, g2⟩ | ⟨g, g0, V, U, q, hUV, hVU, hE, g1, g2⟩
  · exact .inl ⟨by omega, g1, g2⟩
  · exact .inr (.inl ⟨by omega, g1, g2⟩)
  · refine .inr (.inr ⟨by omega, 0, ?_, g1⟩)
    rw [g2]
    refine .inl ⟨?_, rfl, rfl⟩
    unfold numX
    by_cases h15 : st = 15
    · rw [if_pos h15]
      have hkd : kd = 1 := by omega
      rcases hu with ⟨_, u, _⟩ | ⟨_, u, _⟩ | ⟨_, _, hB, _, hx⟩ | ⟨_, _, _, u, _⟩
      · omega
      · omega
      · unfold hexB at hB
        simp at hB
        obtain ⟨n1, _⟩ := hex_nums hx rfl (atB_yes hB.1).2 (atB_yes hB.2).2
        rw [List.drop_drop, n1, g0, sixV_nil]
      · omega
    · rw [if_neg h15]
      have hkd : kd = 0 := by omega
      rcases hu with ⟨_, u, _⟩ | ⟨_, u, _⟩ | ⟨_, _, _, u, _⟩ | ⟨_, _, _, _, hx⟩
      · omega
      · omega
      · omega
      · obtain ⟨n1, n2, x, n3, n4⟩ := dec_nums hx rfl
        rw [g0, num_nil] at n1
        have hd : Digs (decScan (ahead ((chs s).drop (sgnL s 0)) 101)).1 := by
          have := dec_ok (chs s) st hst (by omega)
          rw [hbody] at this
          exact decScan_digs _ this
        have hN := normL_norm hd
        have hz : normL (decScan (ahead ((chs s).drop (sgnL s 0)) 101)).1 = [] := by
          rcases Nat.eq_zero_or_pos (normL (decScan (ahead ((chs s).drop (sgnL s 0)) 101)).1).length with h | h
          · exact List.length_eq_zero_iff.1 h
          · exfalso
            have hv := norm_val (decScan (ahead ((chs s).drop (sgnL s 0)) 101)).1 0 0 (by omega)
            have hpos := val_pos hN h 0 (normE (decScan (ahead ((chs s).drop (sgnL s 0)) 101)).1 0)
            rw [hv] at hpos
            unfold val at hpos
            rw [n1] at hpos
            simp at hpos
        unfold heldV; rw [hz]; simp
  · refine .inr (.inr ⟨by omega, _, ?_, g1⟩)
    rw [g2]
    unfold numX
    by_cases h15 : st = 15
    · rw [if_pos h15]
      have hkd : kd = 1 := by omega
      rcases hu with ⟨_, u, _⟩ | ⟨_, u, _⟩ | ⟨_, _, hB, _, hx⟩ | ⟨_, _, _, u, _⟩
      · omega
      · omega
      · unfold hexB at hB
        simp at hB
        obtain ⟨n1, n2, x, n3, n4⟩ := hex_nums hx rfl (atB_yes hB.1).2 (atB_yes hB.2).2
        have hN := hex_ok' hx (by omega)
        rcases hE with ⟨_, hE⟩ | ⟨u, _⟩
        · have hD0 : D.getD 0 0 ≠ 0 := by
            rcases hN.lead with h | h
            · exact absurd h g0
            · exact h
          have hlenD := hN.len
          rw [List.drop_drop, n1]
          exact hex_joinJ (mode := mode) (neg := neg) hF hK (fun d hd => by have := hN.lt d hd; omega) hD0 (by omega) (b := 4 * ((hexScan (ahead ((chs s).drop (sgnL s 0 + 2)) 112)).2.1 : Nat)) ⟨by omega, by omega⟩ n3 rfl n4 hUV hVU hE
        · omega
      · omega
    · rw [if_neg h15]
      have hkd : kd = 0 := by omega
      rcases hu with ⟨_, u, _⟩ | ⟨_, u, _⟩ | ⟨_, _, _, u, _⟩ | ⟨_, _, _, _, hx⟩
      · omega
      · omega
      · omega
      · obtain ⟨n1, n2, x, n3, n4⟩ := dec_nums hx rfl
        have hN := dec_ok' hx (by omega)
        have hd : Digs (decScan (ahead ((chs s).drop (sgnL s 0)) 101)).1 := by
          have := dec_ok (chs s) st hst (by omega)
          rw [hbody] at this
          exact decScan_digs _ this
        rcases hE with ⟨u, _⟩ | ⟨_, hE⟩
        · omega
        · have hD0 : D.getD 0 0 ≠ 0 := by
            rcases hN.lead with h | h
            · exact absurd h g0
            · exact h
          have hlenD := hN.len
          exact dec_join (mode := mode) (neg := neg) hF hK (normL_norm hd) (fun d hd => by have := hN.lt d hd; omega) hD0 (by omega) n1 (normE_ge _ _) (fun K2 h2 => norm_val _ _ K2 h2) (b := ((decScan (ahead ((chs s).drop (sgnL s 0)) 101)).2.1 : Nat)) ⟨by omega, by omega⟩ n3 rfl n4 hUV hVU hE
/-- All that the program's Parse tells. -/
def ProgSpec (K : Nat) (l : List Nat) (f mode : Int) (bts fl at' err : Int) : Prop :=
  (¬ (0 ≤ f ∧ f ≤ 2 ∧ 0 ≤ mode ∧ mode ≤ 4) ∧ bts = 0 ∧ fl = 0 ∧ at' = 0 ∧ err = 1) ∨
  ((0 ≤ f ∧ f ≤ 2 ∧ 0 ≤ mode ∧ mode ≤ 4) ∧ 900 < l.length ∧ bts = 0 ∧ fl = 0 ∧ at' = 0 ∧ err = 2) ∨
  ((0 ≤ f ∧ f ≤ 2 ∧ 0 ≤ mode ∧ mode ≤ 4) ∧ l.length ≤ 900 ∧ ∃ (st a : Nat) (ok : Bool), ReadSpec l st a ok ∧
    ((ok = false ∧ bts = 0 ∧ fl = 0 ∧ at' = a ∧ err = 3) ∨ (ok = true ∧ at' = 0 ∧ err = 0 ∧ Outcome K l st f mode bts fl)))
theorem prog_spec {K : Nat} (hK : 30000 ≤ K) {s : ByteArray} {f mode bts fl at' err : Int} (hp : PParse s f mode bts fl at' err) : ProgSpec K (chs s) f mode bts fl at' err := by
  have hlen := chs_length s
  rcases hp with ⟨hv, h1⟩ | ⟨hv, hl, h1⟩ | ⟨hv, hl, k, uok, kd, D, pw, hu, hc⟩
  · exact .inl ⟨hv, h1⟩
  · exact .inr (.inl ⟨hv, by omega, h1⟩)
  · refine .inr (.inr ⟨hv, by omega, ?_⟩)
    obtain ⟨st, hst, hks⟩ := uns_stop hu
    obtain ⟨st', hrd, hst'⟩ := read_of hst
    have hkl := hst.path.le
    refine ⟨st', k, _, hrd, ?_⟩
    rcases hc with ⟨hfail, h1, h2, h3, h4⟩ | ⟨⟨huok, hk⟩, h3, h4, hpat⟩
    · refine .inl ⟨?_, h1, h2, h3, h4⟩
      rcases hfail with h | h
      · rw [h]; rfl
      · rw [show decide (k = (chs s).length) = false from by simp; omega]; simp
    · subst huok
      have hkk : k = (chs s).length := by omega
      have hss : st' = st := hst' rfl hkk
      have hne : 0 < (chs s).length := by
        rcases Nat.eq_zero_or_pos (chs s).length with h | h
        · exfalso
          have h5 := hst.ok
          have h6 := hst.path.st
          rw [hkk, h] at h6
          rw [← h6] at h5
          simp [stAt, endsB] at h5
        · exact h
      refine .inr ⟨by rw [hkk]; simp, h3, h4, ?_⟩
      rw [hkk] at hu
      rw [hss]
      refine outcome_num hK ⟨hv.1, hv.2.1⟩ hl hne hu (hks rfl) ?_ hpat
      rw [← hkk]; exact hst.path.st.symm
end Go.Proofs.YtbkdaoicnobllabGreatDoor

/- Plain mathematics: a number has one row of digits without noughts at its ends. -/
namespace Go.Proofs.YtbkdaoicnobllabGreatDoor

theorem num_inj : ∀ (n : Nat) (A B : List Nat), A.length = n → B.length = n → Digs A → Digs B → num A = num B → A = B := by
  intro n
  induction n with
  | zero => intro A B ha hb _ _ _; rw [List.length_eq_zero_iff.1 ha, List.length_eq_zero_iff.1 hb]
  | succ n ih =>
    intro A B ha hb hA hB h
    have nA : A ≠ [] := by intro e; rw [e] at ha; simp at ha
    have nB : B ≠ [] := by intro e; rw [e] at hb; simp at hb
    have eA := List.dropLast_concat_getLast nA
    have eB := List.dropLast_concat_getLast nB
    have dA : A.getLast nA ≤ 9 := hA _ (List.getLast_mem nA)
    have dB : B.getLast nB ≤ 9 := hB _ (List.getLast_mem nB)
    rw [← eA, ← eB, num_snoc, num_snoc] at h
    have h1 : A.getLast nA = B.getLast nB := by omega
    have h2 : num A.dropLast = num B.dropLast := by omega
    have := ih A.dropLast B.dropLast (by simp [ha]) (by simp [hb]) (fun d hd => hA d (List.dropLast_subset A hd)) (fun d hd => hB d (List.dropLast_subset B hd)) h2
    rw [← eA, ← eB, this, h1]
theorem norm_last {L : List Nat} (h : Norm L) (hl : L ≠ []) : num L % 10 ≠ 0 := by
  have e := List.dropLast_concat_getLast hl
  have hd : L.getLast hl ≤ 9 := h.digs _ (List.getLast_mem hl)
  have h0 : 0 < L.length := List.length_pos_iff.2 hl
  have hn := h.last h0
  have hg : L.getLast hl = L[L.length - 1] := List.getLast_eq_getElem hl
  rw [← e, num_snoc]
  omega
theorem norm_one_way {L1 L2 : List Nat} (h1 : Norm L1) (h2 : Norm L2) {a b : Nat} (hab : a ≤ b) (h : num L1 * 10 ^ a = num L2 * 10 ^ b) : L1 = L2 ∧ (L1 ≠ [] → a = b) := by
  have hc : num L1 = num L2 * 10 ^ (b - a) := by
    apply Nat.eq_of_mul_eq_mul_right (Nat.pow_pos (n := a) (show 0 < 10 by omega))
    rw [h, Nat.mul_assoc, ← Nat.pow_add]; congr 2; omega
  by_cases e1 : L1 = []
  · have hz : num L2 = 0 := by
      rw [e1, num_nil] at hc
      rcases Nat.mul_eq_zero.1 hc.symm with g | g
      · exact g
      · have : 0 < 10 ^ (b - a) := Nat.pow_pos (by omega)
        omega
    refine ⟨?_, fun g => absurd e1 g⟩
    rcases Nat.eq_zero_or_pos L2.length with g | g
    · rw [e1, List.length_eq_zero_iff.1 g]
    · have h3 := num_pos h2 g
      have : 0 < 10 ^ (L2.length - 1) := Nat.pow_pos (by omega)
      omega
  · have hd : b - a = 0 := by
      rcases Nat.eq_zero_or_pos (b - a) with g | g
      · exact g
      · exfalso
        apply norm_last h1 e1
        rw [hc, show b - a = (b - a - 1) + 1 from by omega, Nat.pow_succ, ← Nat.mul_assoc]
        exact Nat.mul_mod_left _ _
    rw [hd, Nat.pow_zero, Nat.mul_one] at hc
    have l1 : 0 < L1.length := List.length_pos_iff.2 e1
    have p1 := num_pos h1 l1
    have e2 : L2 ≠ [] := by
      intro g
      rw [g, num_nil] at hc
      have : 0 < 10 ^ (L1.length - 1) := Nat.pow_pos (by omega)
      omega
    have l2 : 0 < L2.length := List.length_pos_iff.2 e2
    have p2 := num_pos h2 l2
    have q1 := num_lt h1.digs
    have q2 := num_lt h2.digs
    have k1 : L1.length - 1 < L2.length := (Nat.pow_lt_pow_iff_right (a := 10) (by omega)).1 (by omega)
    have k2 : L2.length - 1 < L1.length := (Nat.pow_lt_pow_iff_right (a := 10) (by omega)).1 (by omega)
    exact ⟨num_inj L1.length L1 L2 rfl (by omega) h1.digs h2.digs hc, fun _ => by omega⟩
/-- One number has one form. -/
theorem norm_unique {L1 L2 : List Nat} (h1 : Norm L1) (h2 : Norm L2) {a b : Nat} (h : num L1 * 10 ^ a = num L2 * 10 ^ b) : L1 = L2 ∧ (L1 ≠ [] → a = b) := by
  rcases Nat.le_total a b with g | g
  · exact norm_one_way h1 h2 g h
  · obtain ⟨e1, e2⟩ := norm_one_way h2 h1 g h.symm
    exact ⟨e1.symm, fun hn => (e2 (by rw [e1]; exact hn)).symm⟩
end Go.Proofs.YtbkdaoicnobllabGreatDoor

/- Plain mathematics: texts of one number. -/
namespace Go.Proofs.YtbkdaoicnobllabGreatDoor

/-- Digits and a power that say the same number are held as the same. -/
theorem held_same {A B : List Nat} {ea eb : Int} {M : Nat} (hA : Digs A) (hB : Digs B) (ha : -(M : Int) ≤ ea) (hb : -(M : Int) ≤ eb) (h : num A * 10 ^ (ea + M).toNat = num B * 10 ^ (eb + M).toNat) : normL A = normL B ∧ normE A ea = normE B eb := by
  have v1 := norm_val A ea M ha
  have v2 := norm_val B eb M hb
  have n1 := normL_norm hA
  have n2 := normL_norm hB
  have hv : val M (normL A) (normE A ea) = val M (normL B) (normE B eb) := by rw [v1, v2]; exact h
  unfold val at hv
  obtain ⟨e1, e2⟩ := norm_unique n1 n2 hv
  refine ⟨e1, ?_⟩
  by_cases hn : normL A = []
  · unfold normE; rw [if_pos hn, if_pos (by rw [← e1]; exact hn)]
  · have h3 := e2 hn
    have g1 := normE_ge A ea hn
    have g2 := normE_ge B eb (by rw [← e1]; exact hn)
    omega
end Go.Proofs.YtbkdaoicnobllabGreatDoor

/- Plain mathematics: a decimal text by its parts. -/
namespace Go.Proofs.YtbkdaoicnobllabGreatDoor

theorem dead_stays (l : List Nat) : ∀ k j, j ≤ k → k ≤ l.length → stAt l j = 28 → stAt l k = 28 := by
  intro k
  induction k with
  | zero => intro j hj _ h; rw [show j = 0 from by omega] at h; exact h
  | succ k ih =>
    intro j hj hk h
    rcases Nat.lt_or_ge j (k + 1) with g | g
    · rw [stAt_succ l k (by omega), ih j (by omega) (by omega) h]; rfl
    · rw [show k + 1 = j from by omega]; exact h
theorem read_of_fold {l : List Nat} {st : Nat} (h : l.foldl nextS 0 = st) (he : endsB st = true) : ReadSpec l st l.length true := by
  have hs : stAt l l.length = st := by unfold stAt; rw [List.take_length]; exact h
  refine .inr ⟨fun j hj hd => ?_, hs.symm, rfl, he.symm⟩
  have := dead_stays l l.length j hj (Nat.le_refl _) hd
  rw [hs] at this
  rw [this] at he; cases he
def AllD (A : List Nat) : Prop := ∀ c, c ∈ A → isDig c = true
theorem AllD.app {A B : List Nat} (h : AllD A) (k : AllD B) : AllD (A ++ B) := fun c hc => by
  rcases List.mem_append.1 hc with g | g
  · exact h c g
  · exact k c g
theorem fold_loop (st : Nat) (hq : ∀ c, isDig c = true → nextS st c = st) (A : List Nat) (h : AllD A) : A.foldl nextS st = st := by
  induction A with
  | nil => rfl
  | cons c r ih => rw [List.foldl_cons, hq c (h c List.mem_cons_self)]; exact ih (fun x hx => h x (List.mem_cons_of_mem _ hx))
theorem fold_next (s0 st : Nat) (h0 : ∀ c, isDig c = true → nextS s0 c = st) (hq : ∀ c, isDig c = true → nextS st c = st) (A : List Nat) (h : AllD A) (hA : A ≠ []) : A.foldl nextS s0 = st := by
  cases A with
  | nil => exact absurd rfl hA
  | cons c r => rw [List.foldl_cons, h0 c (h c List.mem_cons_self)]; exact fold_loop st hq r (fun x hx => h x (List.mem_cons_of_mem _ hx))
theorem d3 (c : Nat) (h : isDig c = true) : nextS 3 c = 3 := by show (if isDig c = true then 3 else _) = 3; rw [if_pos h]
theorem d6 (c : Nat) (h : isDig c = true) : nextS 6 c = 6 := by show (if isDig c = true then 6 else _) = 6; rw [if_pos h]
theorem d4 (c : Nat) (h : isDig c = true) : nextS 4 c = 6 := by show (if isDig c = true then 6 else _) = 6; rw [if_pos h]
theorem d5 (c : Nat) (h : isDig c = true) : nextS 5 c = 6 := by show (if isDig c = true then 6 else _) = 6; rw [if_pos h]
theorem d9 (c : Nat) (h : isDig c = true) : nextS 9 c = 9 := by show (if isDig c = true then 9 else _) = 9; rw [if_pos h]
theorem d7 (c : Nat) (h : isDig c = true) : nextS 7 c = 9 := by show (if isDig c = true then 9 else _) = 9; rw [if_pos h]
theorem d8 (c : Nat) (h : isDig c = true) : nextS 8 c = 9 := by show (if isDig c = true then 9 else _) = 9; rw [if_pos h]
theorem d2 (c : Nat) (h : isDig c = true) : nextS 2 c = 3 := by
  show (if c = 120 then 10 else if isDig c = true then 3 else _) = 3
  rw [if_neg (dig_ne h).2.2.1, if_pos h]
theorem fold_first (s0 : Nat) (hs : s0 = 0 ∨ s0 = 1) (A : List Nat) (h : AllD A) (hA : A ≠ []) : A.foldl nextS s0 = 2 ∨ A.foldl nextS s0 = 3 := by
  cases A with
  | nil => exact absurd rfl hA
  | cons c r =>
    have hc := h c List.mem_cons_self
    have hr : AllD r := fun x hx => h x (List.mem_cons_of_mem _ hx)
    have hsg : sgn c = false := by
      cases hh : sgn c
      · rfl
      · rw [sgn_notDig hh] at hc; cases hc
    have hb : nextS s0 c = beginS c := by
      rcases hs with rfl | rfl
      · show (if sgn c = true then 1 else beginS c) = _; rw [hsg]; rfl
      · rfl
    rw [List.foldl_cons, hb]
    unfold beginS
    by_cases h48 : c = 48
    · rw [if_pos h48]
      by_cases hr0 : r = []
      · rw [hr0]; exact .inl rfl
      · exact .inr (fold_next 2 3 d2 d3 r hr hr0)
    · rw [if_neg h48, if_pos hc]; exact .inr (fold_loop 3 d3 r hr)
/-- A power's sign and digits. -/
def PowT (pw : List Nat) : Prop := ∃ sg E, pw = sg ++ E ∧ (sg = [] ∨ sg = [43] ∨ sg = [45]) ∧ AllD E ∧ E ≠ []
theorem fold_pow {pw : List Nat} (h : PowT pw) : pw.foldl nextS 7 = 9 := by
  obtain ⟨sg, E, rfl, hs, hE, hne⟩ := h
  rw [List.foldl_append]
  rcases hs with rfl | rfl | rfl
  · exact fold_next 7 9 d7 d9 E hE hne
  · exact fold_next 8 9 d8 d9 E hE hne
  · exact fold_next 8 9 d8 d9 E hE hne
def ptL (pt : Bool) : List Nat := if pt = true then [46] else []
theorem fold_mant (s0 : Nat) (hs : s0 = 0 ∨ s0 = 1) (A B : List Nat) (pt : Bool) (hA : AllD A) (hB : AllD B) (hne : A ++ B ≠ []) (hpt : pt = false → B = []) : (A ++ ptL pt ++ B ++ [101]).foldl nextS s0 = 7 := by
  rw [List.foldl_append, List.foldl_append, List.foldl_append]
  cases pt
  · have hB0 := hpt rfl
    subst hB0
    have hA0 : A ≠ [] := by simpa using hne
    show nextS (A.foldl nextS s0) 101 = 7
    rcases fold_first s0 hs A hA hA0 with e | e <;> (rw [e]; rfl)
  · show nextS (B.foldl nextS (nextS (A.foldl nextS s0) 46)) 101 = 7
    by_cases hA0 : A = []
    · have hB0 : B ≠ [] := by rw [hA0] at hne; simpa using hne
      have e1 : nextS (A.foldl nextS s0) 46 = 5 := by
        rw [hA0]
        rcases hs with rfl | rfl <;> rfl
      rw [e1, fold_next 5 6 d5 d6 B hB hB0]; rfl
    · have e1 : nextS (A.foldl nextS s0) 46 = 4 := by
        rcases fold_first s0 hs A hA hA0 with e | e <;> (rw [e]; rfl)
      rw [e1]
      by_cases hB0 : B = []
      · rw [hB0]; rfl
      · rw [fold_next 4 6 d4 d6 B hB hB0]; rfl
theorem ahead_app (X Y : List Nat) (h : ∀ c, c ∈ X → c ≠ 101) : ahead (X ++ 101 :: Y) 101 = X := by
  unfold ahead
  induction X with
  | nil => simp
  | cons c r ih =>
    rw [List.cons_append, List.takeWhile_cons_of_pos (by simpa using h c List.mem_cons_self), ih (fun x hx => h x (List.mem_cons_of_mem _ hx))]
theorem expOf_app (X Y : List Nat) (h : ∀ c, c ∈ X → c ≠ 101) : expOf (X ++ 101 :: Y) 101 = expVal Y := by
  unfold expOf
  have e : (X ++ 101 :: Y).dropWhile (fun c => c != 101) = 101 :: Y := by
    induction X with
    | nil => simp
    | cons c r ih => rw [List.cons_append, List.dropWhile_cons_of_pos (by simpa using h c List.mem_cons_self), ih (fun x hx => h x (List.mem_cons_of_mem _ hx))]
  rw [e]
theorem decScan_parts (A B : List Nat) (pt : Bool) (hA : AllD A) (hB : AllD B) (hpt : pt = false → B = []) : decScan (A ++ ptL pt ++ B) = (vals (A ++ B), B.length, pt) := by
  unfold decScan
  rw [List.foldl_append, List.foldl_append, dec_fold A hA]
  cases pt
  · have hB0 := hpt rfl
    subst hB0
    simp [ptL]
  · have e : (ptL true).foldl decStep ([] ++ vals A, (if false = true then 0 + A.length else 0), false) = (vals A, 0, true) := by simp [ptL, decStep]
    rw [e, dec_fold B hB]
    simp [vals]
/-- A decimal text: its state, its number. -/
theorem text_num {pre A B pw l : List Nat} {pt : Bool} (K : Nat) (hl : l = pre ++ (A ++ ptL pt ++ B ++ 101 :: pw)) (hpre : pre = [] ∨ pre = [43]) (hA : AllD A) (hB : AllD B) (hne : A ++ B ≠ []) (hpt : pt = false → B = []) (hpw : PowT pw) :
    ReadSpec l 9 l.length true ∧ numX K (body l) 9 = heldV K (normL (vals (A ++ B))) (normE (vals (A ++ B)) (expVal pw - (B.length : Int))) ∧ decide (l.getD 0 0 = 45) = false := by
  have hX : ∀ c, c ∈ A ++ ptL pt ++ B → c ≠ 101 := by
    intro c hc
    rcases List.mem_append.1 hc with hc | hc
    · rcases List.mem_append.1 hc with hc | hc
      · exact (dig_ne (hA c hc)).2.1
      · cases pt
        · simp [ptL] at hc
        · simp [ptL] at hc; omega
    · exact (dig_ne (hB c hc)).2.1
  -- the first byte is no sign
  have hfst : ∃ x r, A ++ ptL pt ++ B ++ 101 :: pw = x :: r ∧ sgn x = false := by
    have ds : ∀ c, isDig c = true → sgn c = false := fun c hc => by
      cases hh : sgn c
      · rfl
      · rw [sgn_notDig hh] at hc; cases hc
    cases A with
    | cons c r => exact ⟨c, r ++ ptL pt ++ B ++ 101 :: pw, by simp, ds c (hA c List.mem_cons_self)⟩
    | nil =>
      cases pt
      · have := hpt rfl; subst this; simp at hne
      · exact ⟨46, B ++ 101 :: pw, by simp [ptL], rfl⟩
  have hbody : body l = A ++ ptL pt ++ B ++ 101 :: pw := by
    rw [hl]
    rcases hpre with rfl | rfl
    · obtain ⟨x, r, e, hx⟩ := hfst
      rw [List.nil_append, e]; simp [body, hx]
    · rfl
  refine ⟨read_of_fold ?_ rfl, ?_, ?_⟩
  · rw [hl, List.foldl_append]
    have hs : pre.foldl nextS 0 = 0 ∨ pre.foldl nextS 0 = 1 := by
      rcases hpre with rfl | rfl
      · exact .inl rfl
      · exact .inr rfl
    have hm := fold_mant _ hs A B pt hA hB hne hpt
    rw [show A ++ ptL pt ++ B ++ 101 :: pw = (A ++ ptL pt ++ B ++ [101]) ++ pw from by simp, List.foldl_append, hm]
    exact fold_pow hpw
  · unfold numX
    rw [if_neg (by decide), hbody, ahead_app _ _ hX, expOf_app _ _ hX, decScan_parts A B pt hA hB hpt]
  · rw [decide_eq_false_iff_not, hl]
    rcases hpre with rfl | rfl
    · obtain ⟨x, r, e, hx⟩ := hfst
      rw [List.nil_append, e]
      intro hh
      simp at hh
      rw [hh] at hx; exact absurd hx (by decide)
    · simp
end Go.Proofs.YtbkdaoicnobllabGreatDoor

namespace Go.Proofs.YtbkdaoicnobllabGreatDoor
open Go.RowKit

theorem chs_minus (s : ByteArray) : chs (⟨#[45]⟩ ++ s) = 45 :: chs s := by
  unfold chs
  rw [ByteArray.data_append]
  simp
theorem chs_app (a b : ByteArray) : chs (a ++ b) = chs a ++ chs b := by
  unfold chs
  rw [ByteArray.data_append]; simp
theorem expVal_dig {E : List Nat} (h : AllD E) : expVal E = expNum E := by
  unfold expVal
  rw [if_neg (fun h45 => absurd (h 45 h45) (by decide))]
theorem expNum_skip (c : Nat) (E : List Nat) (h : isDig c = false) : expNum (c :: E) = expNum E := by
  unfold expNum; rw [List.foldl_cons]; congr 1; unfold expStep; rw [h]; simp
theorem expNum_nought (E : List Nat) : expNum (48 :: E) = expNum E := by
  unfold expNum; rw [List.foldl_cons]; rfl
theorem vals_digs {S : List Nat} (h : AllD S) : Digs (vals S) := by
  intro d hd
  unfold vals at hd
  obtain ⟨c, hc, rfl⟩ := List.mem_map.1 hd
  have := h c hc
  unfold isDig at this; simp at this; omega
/-- The number S times 10^e, as it is held. -/
def likeX (S : List Nat) (e : Int) : Nat := heldV 30000 (normL (vals S)) (normE (vals S) e)
theorem like_text {l pre A B pw S : List Nat} {pt : Bool} {e : Int} {f m b g a err : Int} (hl : l = pre ++ (A ++ ptL pt ++ B ++ 101 :: pw)) (hpre : pre = [] ∨ pre = [43]) (hA : AllD A) (hB : AllD B) (hne : A ++ B ≠ []) (hpt : pt = false → B = []) (hpw : PowT pw)
    (hS : AllD S) (he : -2000 ≤ e) (hx : -2000 ≤ expVal pw - (B.length : Int)) (hval : num (vals (A ++ B)) * 10 ^ (expVal pw - (B.length : Int) + (2000 : Nat)).toNat = num (vals S) * 10 ^ (e + (2000 : Nat)).toNat)
    (hv : 0 ≤ f ∧ f ≤ 2 ∧ 0 ≤ m ∧ m ≤ 4) (hlen : l.length ≤ 900) (hp : ProgSpec 30000 l f m b g a err) : a = 0 ∧ err = 0 ∧ ∃ r, RoundSpec 30000 f m false (likeX S e) r g ∧ b = signedV f false r := by
  obtain ⟨hr, hX, hn⟩ := text_num 30000 hl hpre hA hB hne hpt hpw
  obtain ⟨e1, e2⟩ := held_same (M := 2000) (vals_digs (hA.app hB)) (vals_digs hS) hx he hval
  rcases hp with ⟨gv, _⟩ | ⟨_, gl, _⟩ | ⟨_, _, st, x, ok, hr2, hc⟩
  · exact absurd hv gv
  · omega
  · obtain ⟨q1, q2, q3⟩ := ReadSpec.one hr hr2
    subst q1 q3
    rcases hc with ⟨c0, _⟩ | ⟨_, c1, c2, ho⟩
    · cases c0
    · rcases ho with ⟨o1, _⟩ | ⟨o1, _⟩ | ⟨_, r, o1, o2⟩
      · omega
      · omega
      · rw [hn, hX, e1, e2] at o1
        rw [hn] at o2
        exact ⟨c1, c2, r, o1, o2⟩
theorem vals_app (A B : List Nat) : vals (A ++ B) = vals A ++ vals B := by unfold vals; simp
end Go.Proofs.YtbkdaoicnobllabGreatDoor
