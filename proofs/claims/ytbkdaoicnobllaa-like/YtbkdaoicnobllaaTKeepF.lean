import Derived.Test.YtbkdaoicnobllaaTKeepC
import Derived.Test.YtbkdaoicnobllaaTKeepD

/- Plain mathematics: a minus ahead. -/
namespace Go.Proofs.Ytbkdaoicnobllaa

theorem stAt_minus {l : List Nat} (hl : 0 < l.length) (hs : sgn (l.getD 0 0) = false) (j : Nat) (hj : 0 < j) : stAt (45 :: l) (j + 1) = stAt l j := by
  cases l with
  | nil => simp at hl
  | cons c r =>
    simp at hs
    cases j with
    | zero => omega
    | succ j =>
      have e0 : nextS 0 c = beginS c := by show (if sgn c = true then 1 else beginS c) = _; rw [hs]; rfl
      have e1 : nextS 1 c = beginS c := rfl
      show (List.take (j + 2) (45 :: c :: r)).foldl nextS 0 = (List.take (j + 1) (c :: r)).foldl nextS 0
      simp only [List.take_succ_cons, List.foldl_cons]
      rw [e0, show nextS 0 45 = 1 from rfl, e1]
theorem read_minus {l : List Nat} {st a : Nat} {ok : Bool} (hl : 0 < l.length) (hs : sgn (l.getD 0 0) = false) (h : ReadSpec l st a ok) : ReadSpec (45 :: l) st (a + 1) ok := by
  have s0 : stAt (45 :: l) 0 = 0 := rfl
  have s1 : stAt (45 :: l) 1 = 1 := rfl
  have sj := fun j hj => stAt_minus hl hs j hj
  rcases h with ⟨k, h1, h2, h3, h4, h5, h6⟩ | ⟨h1, h2, h3, h4⟩
  · refine .inl ⟨k + 1, by simp; omega, fun j hj => ?_, ?_, h4, by omega, h6⟩
    · rcases (by omega : j = 0 ∨ j = 1 ∨ 2 ≤ j) with rfl | rfl | g
      · rw [s0]; omega
      · rw [s1]; omega
      · have := sj (j - 1) (by omega)
        rw [show j - 1 + 1 = j from by omega] at this
        rw [this]; exact h2 _ (by omega)
    · rw [sj (k + 1) (by omega)]; exact h3
  · refine .inr ⟨fun j hj => ?_, ?_, by simp; omega, h4⟩
    · rcases (by omega : j = 0 ∨ j = 1 ∨ 2 ≤ j) with rfl | rfl | g
      · rw [s0]; omega
      · rw [s1]; omega
      · have := sj (j - 1) (by omega)
        rw [show j - 1 + 1 = j from by omega] at this
        rw [this]; exact h1 _ (by simp at hj; omega)
    · rw [h2, List.length_cons, sj _ hl]
theorem keepQ (s c : Nat) (h : s ≠ 0 ∧ s ≠ 1 ∧ s ≠ 25 ∧ s ≠ 26 ∧ s ≠ 27) : nextS s c ≠ 0 ∧ nextS s c ≠ 1 ∧ nextS s c ≠ 25 ∧ nextS s c ≠ 26 ∧ nextS s c ≠ 27 := by
  unfold nextS nhS
  repeat' split
  all_goals omega
theorem keepR (s c : Nat) (h : s = 25 ∨ s = 26 ∨ s = 27 ∨ s = 28) : nextS s c = 25 ∨ nextS s c = 26 ∨ nextS s c = 27 ∨ nextS s c = 28 := by
  rcases h with rfl | rfl | rfl | rfl
  · show (if c = 97 then 26 else 28) = 25 ∨ _; split <;> simp_all [nextS, nhS]
  · show (if c = 110 then 27 else 28) = 25 ∨ _; split <;> simp_all [nextS, nhS]
  · exact .inr (.inr (.inr rfl))
  · exact .inr (.inr (.inr rfl))
theorem nan_first {l : List Nat} (hs : sgn (l.getD 0 0) = false) : ∀ j, 0 < j → j ≤ l.length → (l.getD 0 0 = 110 → stAt l j = 25 ∨ stAt l j = 26 ∨ stAt l j = 27 ∨ stAt l j = 28) ∧ (l.getD 0 0 ≠ 110 → stAt l j ≠ 0 ∧ stAt l j ≠ 1 ∧ stAt l j ≠ 25 ∧ stAt l j ≠ 26 ∧ stAt l j ≠ 27) := by
  intro j
  induction j with
  | zero => intro h; omega
  | succ j ih =>
    intro _ hj
    rw [stAt_succ l j (by omega)]
    rcases Nat.eq_zero_or_pos j with rfl | hp
    · have e : nextS (stAt l 0) (l.getD 0 0) = beginS (l.getD 0 0) := by
        show (if sgn (l.getD 0 0) = true then 1 else beginS (l.getD 0 0)) = _
        rw [hs]; rfl
      rw [e]
      refine ⟨fun h => by rw [h]; exact .inl rfl, fun h => ?_⟩
      unfold beginS
      repeat' split
      all_goals omega
    · have hi := ih hp (by omega)
      exact ⟨fun h => keepR _ _ (hi.1 h), fun h => keepQ _ _ (hi.2 h)⟩
def otherM (m : Int) : Int := if m = 3 then 4 else if m = 4 then 3 else m
theorem away_mirror {m : Int} (hm : 0 ≤ m ∧ m ≤ 4) (half : Int) (odd : Bool) : awayB (otherM m) true half odd = awayB m false half odd := by
  rcases (by omega : m = 0 ∨ m = 1 ∨ m = 2 ∨ m = 3 ∨ m = 4) with rfl | rfl | rfl | rfl | rfl <;> rfl
theorem round_mirror {K : Nat} {f m : Int} {X : Nat} {r fl : Int} (hm : 0 ≤ m ∧ m ≤ 4) (h : RoundSpec K f m false X r fl) : RoundSpec K f (otherM m) true X r fl := by
  have ha := fun half odd => away_mirror hm half odd
  rcases h with h | ⟨h0, h1, h2, h3⟩ | ⟨h0, h1, a, h2, h3, h4, h5⟩
  · exact .inl h
  · exact .inr (.inl ⟨h0, h1, h2, by rw [ha]; exact h3⟩)
  · refine .inr (.inr ⟨h0, h1, a, h2, h3, h4, ?_⟩)
    rcases h5 with h5 | ⟨h5, h6, h7⟩
    · exact .inl h5
    · exact .inr ⟨h5, by rw [ha]; exact h6, h7⟩
/-- A text, and the same with a minus ahead. -/
structure MirOk (f : Int) (c : Nat) (v g a e u h t o : Int) : Prop where
  err : e = o
  place : e = 3 → t = a + 1
  flags : e = 0 → g = h
  nan : e = 0 → c = 110 → u = v
  num : e = 0 → c ≠ 110 → u = v + sgnP f ∧ 0 ≤ v ∧ v ≤ infN f
  bd : 0 ≤ a ∧ a ≤ 900
theorem mirror_pure {K : Nat} {l : List Nat} {f m v g a e u h t o : Int} (hK : 1100 ≤ K) (hm : 0 ≤ m ∧ m ≤ 4) (hl : 0 < l.length) (hl9 : l.length ≠ 900) (hs : sgn (l.getD 0 0) = false) (h1 : ProgSpec K l f m v g a e) (h2 : ProgSpec K (45 :: l) f (otherM m) u h t o) : MirOk f (l.getD 0 0) v g a e u h t o := by
  have hom : 0 ≤ otherM m ∧ otherM m ≤ 4 := by unfold otherM; split <;> (try split) <;> omega
  rcases h1 with ⟨hv, p1, p2, p3, p4⟩ | ⟨hv, hl1, p1, p2, p3, p4⟩ | ⟨hv, hl1, st, x, ok, hr, hc⟩
  · rcases h2 with ⟨_, q1, q2, q3, q4⟩ | ⟨qv, _⟩ | ⟨qv, _⟩
    · exact ⟨by omega, fun h => by omega, fun h => by omega, fun h => by omega, fun h => by omega, by omega⟩
    · exact absurd ⟨qv.1, qv.2.1, hm.1, hm.2⟩ hv
    · exact absurd ⟨qv.1, qv.2.1, hm.1, hm.2⟩ hv
  · rcases h2 with ⟨qv, _⟩ | ⟨_, _, q1, q2, q3, q4⟩ | ⟨_, ql, _⟩
    · exact absurd ⟨hv.1, hv.2.1, hom.1, hom.2⟩ qv
    · exact ⟨by omega, fun h => by omega, fun h => by omega, fun h => by omega, fun h => by omega, by omega⟩
    · simp at ql; omega
  · rcases h2 with ⟨qv, _⟩ | ⟨_, ql, _⟩ | ⟨_, _, st', x', ok', hr', hc'⟩
    · exact absurd ⟨hv.1, hv.2.1, hom.1, hom.2⟩ qv
    · simp at ql; omega
    · obtain ⟨e1, e2, e3⟩ := ReadSpec.one (read_minus hl hs hr) hr'
      subst e1 e2 e3
      have hx : x ≤ l.length := by
        rcases hr with ⟨k, k1, _, _, _, k5, _⟩ | ⟨_, _, k3, _⟩ <;> omega
      rcases hc with ⟨c0, c1, c2, c3, c4⟩ | ⟨c0, c1, c2, ho⟩
      · rcases hc' with ⟨_, d1, d2, d3, d4⟩ | ⟨d0, _⟩
        · exact ⟨by omega, fun h => by omega, fun h => by omega, fun h => by omega, fun h => by omega, by omega⟩
        · rw [c0] at d0; cases d0
      · rcases hc' with ⟨d0, _⟩ | ⟨_, d1, d2, ho'⟩
        · rw [c0] at d0; cases d0
        · have hst : st = stAt l l.length := by
            rcases hr with ⟨_, _, _, _, _, _, k6⟩ | ⟨_, k2, _, _⟩
            · rw [c0] at k6; cases k6
            · exact k2
          have hends : endsB st = true := by
            rcases hr with ⟨_, _, _, _, _, _, k6⟩ | ⟨_, _, _, k4⟩
            · rw [c0] at k6; cases k6
            · rw [← k4]; exact c0
          have hnf := nan_first hs l.length hl (Nat.le_refl _)
          rw [← hst] at hnf
          have hb1 : body (45 :: l) = l := rfl
          have hb2 : body l = l := by
            cases l with
            | nil => rfl
            | cons c r => simp at hs; simp [body, hs]
          have hn1 : decide ((45 :: l).getD 0 0 = 45) = true := rfl
          have hn2 : decide (l.getD 0 0 = 45) = false := by
            simp only [decide_eq_false_iff_not]; intro hh; rw [hh] at hs; exact absurd hs (by decide)
          unfold Outcome at ho ho'
          rw [hb1, hn1] at ho'
          rw [hb2, hn2] at ho
          rcases ho with ⟨o1, o2, o3⟩ | ⟨o1, o2, o3⟩ | ⟨o1, r, o2, o3⟩
          · rcases ho' with ⟨_, u2, u3⟩ | ⟨u1, _⟩ | ⟨u1, _⟩
            · exact ⟨by omega, fun h => by omega, fun _ => by omega, fun _ _ => by omega, fun _ hne => by have := (hnf.2 hne); omega, by omega⟩
            · omega
            · omega
          · rcases ho' with ⟨u1, _⟩ | ⟨_, u2, u3⟩ | ⟨u1, _⟩
            · omega
            · refine ⟨by omega, fun h => by omega, fun _ => by omega, fun _ he => by have := hnf.1 he; omega, fun _ _ => ?_, by omega⟩
              rw [u2, o2]
              exact ⟨rfl, by show (0 : Int) ≤ infN f; omega, by show (infN f : Int) ≤ infN f; omega⟩
            · omega
          · rcases ho' with ⟨u1, _⟩ | ⟨u1, _⟩ | ⟨_, r', u2, u3⟩
            · omega
            · omega
            · obtain ⟨z1, z2⟩ := RoundSpec.one hK (round_mirror hm o2) u2
              have hbd := round_bd o2
              refine ⟨by omega, fun h => by omega, fun _ => z2, fun _ he => by have := hnf.1 he; omega, fun _ _ => ?_, by omega⟩
              rw [u3, o3, ← z1]
              exact ⟨rfl, by show (0 : Int) ≤ r; omega, by show r ≤ infN f; omega⟩
end Go.Proofs.Ytbkdaoicnobllaa

namespace Go.Proofs.Ytbkdaoicnobllaa
open Go.RowKit

theorem chs_minus (s : ByteArray) : chs (⟨#[45]⟩ ++ s) = 45 :: chs s := by
  unfold chs
  rw [ByteArray.data_append]
  simp
end Go.Proofs.Ytbkdaoicnobllaa

namespace Go.Proofs.Ytbkdaoicnobllaa
open Go.RowKit

set_option maxRecDepth 100000 in
set_option maxHeartbeats 8000000 in
theorem mirrored0 (cv : Value) (s : ByteArray) (b : Int) (hb : -9223372036854775808 ≤ b ∧ b ≤ 9223372036854775807) (hpb : pickV b 3 = 0) (hs : s.size ≤ 16384) (w : World) (h0 : 0 < s.size) (h45 : s[0].toNat ≠ 45) (h43 : s[0].toNat ≠ 43) (h900 : s.size ≠ 900) :
    Calls Try.prog 16 #[cv, .string s, .int .i64 b] w fun e w' => e = .returned (.bool true) ∧ Below w.heap.size w w' := by
  have HX := hid (form_any b hb w)
  rw [hpb] at HX
  have HF : Hid (fW ((0 : Nat) : Int) = 16 ∧ fQ ((0 : Nat) : Int) = 10) := ⟨rfl, rfl⟩
  rw [HF.out.1, HF.out.2] at HX
  have HG := hid (chs_get s 0 h0)
  have HL : Hid (0 < (chs s).length ∧ (chs s).length ≠ 900 ∧ sgn ((chs s).getD 0 0) = false) := by
    refine ⟨by rw [chs_length]; exact h0, by rw [chs_length]; exact h900, ?_⟩
    rw [HG.out]; unfold sgn; simp; exact ⟨h43, h45⟩
  have t45 : (((s[0].toNat : Nat) : Int) == 45) = false := by simp; omega
  have t43 : (((s[0].toNat : Nat) : Int) == 43) = false := by simp; omega
  have t9 : ((s.size : Int) == 900) = false := by simp; omega
  have tz : ((s.size : Int) == 0) = false := by rw [beq_eq_false_iff_ne]; omega
  have hw : wrap64 9223372036854775808 = -9223372036854775808 := by unfold wrap64; decide
  clear h45 h43 h900 hpb
  go_enter Try.func16, Try.ntmps16
  go_wp2_with fail
  refine HX.out.mono ?_
  rintro e w' ⟨rfl, rfl⟩
  clear HX
  obtain ⟨G, hG⟩ : ∃ G, G = w'.heap.size := ⟨_, rfl⟩
  obtain ⟨w6, hw6⟩ : ∃ w6, w6 = w'.alloc (.cells #[.int .i64 0, .int .i64 1, .int .i64 2, .int .i64 4, .int .i64 3] 3) := ⟨_, rfl⟩
  have c0 : w6.cell? ⟨G, 0, none⟩ = some (.int .i64 0) := by rw [hw6, hG]; simp [go_sem]
  have c1 : w6.cell? ⟨G, 1, none⟩ = some (.int .i64 1) := by rw [hw6, hG]; simp [go_sem]
  have c2 : w6.cell? ⟨G, 2, none⟩ = some (.int .i64 2) := by rw [hw6, hG]; simp [go_sem]
  have c3 : w6.cell? ⟨G, 3, none⟩ = some (.int .i64 4) := by rw [hw6, hG]; simp [go_sem]
  have c4 : w6.cell? ⟨G, 4, none⟩ = some (.int .i64 3) := by rw [hw6, hG]; simp [go_sem]
  have HB6 : Hid (Below w'.heap.size w' w6) := by unfold Hid; rw [hw6]; exact (Below.refl _ _).alloc (Nat.le_refl _) _
  have HW6 := hid hw6
  have HGG := hid hG
  clear hw6 hG
  go_wp2_with (rw [← HW6.out, ← HGG.out])
  go_wp2
  go_loopw [11, 12, 13, 14, 15, 16, 17, 18, 19, 20] (fun mm _ _ _ _ _ _ _ _ _ wr => ∃ n : Nat, mm = .int .i64 n ∧ n ≤ 5 ∧ Hid (Below w6.heap.size w6 wr)) (fun mm _ _ _ _ _ _ _ _ _ _ => 5 - (intOf mm).toNat)
  case atStart => exact ⟨0, rfl, by omega, Below.refl _ _⟩
  case round =>
    obtain ⟨n, rfl, hn, HBr⟩ := hrel
    rcases (by omega : n = 0 ∨ n = 1 ∨ n = 2 ∨ n = 3 ∨ n = 4 ∨ n = 5) with rfl | rfl | rfl | rfl | rfl | rfl
    · have HXa := hid (parse_any cv s 0 0 wr)
      have d0 := keep_cell' HBr.out c0
      go_wp2_with fail
      refine HXa.out.mono ?_
      rintro e w1 ⟨v, g, a, er, rfl, hb1, hp1⟩
      have HB1 : Hid (Below w6.heap.size w6 w1) := HBr.out.trans (hb1.mono HBr.out.size)
      have d0' := keep_cell' hb1 d0
      have HXb := hid (parse_any cv (⟨#[45]⟩ ++ s) 0 0 w1)
      have HP1 := hid (prog_spec (Nat.le_refl _) hp1)
      clear HXa hb1 hp1 d0 HBr
      go_wp2_with fail
      refine HXb.out.mono ?_
      rintro e w3 ⟨u, h, t, o, rfl, hb3, hp3⟩
      have HB3 : Hid (Below w6.heap.size w6 w3) := HB1.out.trans (hb3.mono HB1.out.size)
      have hM := mirror_pure (K := 30000) (m := 0) (by omega) (by omega) HL.out.1 HL.out.2.1 HL.out.2.2 HP1.out (by rw [← chs_minus]; exact prog_spec (Nat.le_refl _) hp3)
      have eo := hM.err
      subst eo
      have HM := hid hM
      clear HXb hb3 hp3 d0' HB1 HP1 hM
      by_cases h0 : er = 0
      · subst h0
        have gh := HM.out.flags rfl
        subst gh
        by_cases hc : s[0].toNat = 110
        · have tn : (((s[0].toNat : Nat) : Int) == 110) = true := by simp; omega
          have uv := HM.out.nan rfl (by rw [HG.out]; exact hc)
          subst uv
          clear hc HM
          go_wp2
          go_roundw
          case rel => exact ⟨1, by go_num, by omega, HB3.out⟩
          case measure => simp [intOf]
        · have tn : (((s[0].toNat : Nat) : Int) == 110) = false := by simp; omega
          obtain ⟨uv, v0, v1⟩ := HM.out.num rfl (by rw [HG.out]; exact hc)
          have v1 : v ≤ 31744 := v1
          have uv : u = v + 32768 := uv
          subst uv
          obtain ⟨V, hV⟩ : ∃ V : Nat, v = (V : Int) := ⟨v.toNat, by omega⟩
          have hor : bits .or .i64 v 32768 = v + 32768 := by rw [hV]; exact or_half V (by omega)
          clear hc HM hV
          go_wp2
          go_roundw
          case rel => exact ⟨1, by go_num, by omega, HB3.out⟩
          case measure => simp [intOf]
      · have t0 : (er == 0) = false := by simpa using h0
        by_cases h3 : er = 3
        · subst h3
          have ht := HM.out.place rfl
          have hbd := HM.out.bd
          subst ht
          obtain ⟨hbd1, hbd2⟩ := hbd
          clear h0 HM
          go_wp2
          go_roundw
          case rel => exact ⟨1, by go_num, by omega, HB3.out⟩
          case measure => simp [intOf]
        · have t3 : (er == 3) = false := by simpa using h3
          clear h0 h3 HM
          go_wp2
          go_roundw
          case rel => exact ⟨1, by go_num, by omega, HB3.out⟩
          case measure => simp [intOf]
    · have HXa := hid (parse_any cv s 0 1 wr)
      have d1 := keep_cell' HBr.out c1
      go_wp2_with fail
      refine HXa.out.mono ?_
      rintro e w1 ⟨v, g, a, er, rfl, hb1, hp1⟩
      have HB1 : Hid (Below w6.heap.size w6 w1) := HBr.out.trans (hb1.mono HBr.out.size)
      have d1' := keep_cell' hb1 d1
      have HXb := hid (parse_any cv (⟨#[45]⟩ ++ s) 0 1 w1)
      have HP1 := hid (prog_spec (Nat.le_refl _) hp1)
      clear HXa hb1 hp1 d1 HBr
      go_wp2_with fail
      refine HXb.out.mono ?_
      rintro e w3 ⟨u, h, t, o, rfl, hb3, hp3⟩
      have HB3 : Hid (Below w6.heap.size w6 w3) := HB1.out.trans (hb3.mono HB1.out.size)
      have hM := mirror_pure (K := 30000) (m := 1) (by omega) (by omega) HL.out.1 HL.out.2.1 HL.out.2.2 HP1.out (by rw [← chs_minus]; exact prog_spec (Nat.le_refl _) hp3)
      have eo := hM.err
      subst eo
      have HM := hid hM
      clear HXb hb3 hp3 d1' HB1 HP1 hM
      by_cases h0 : er = 0
      · subst h0
        have gh := HM.out.flags rfl
        subst gh
        by_cases hc : s[0].toNat = 110
        · have tn : (((s[0].toNat : Nat) : Int) == 110) = true := by simp; omega
          have uv := HM.out.nan rfl (by rw [HG.out]; exact hc)
          subst uv
          clear hc HM
          go_wp2
          go_roundw
          case rel => exact ⟨2, by go_num, by omega, HB3.out⟩
          case measure => simp [intOf]
        · have tn : (((s[0].toNat : Nat) : Int) == 110) = false := by simp; omega
          obtain ⟨uv, v0, v1⟩ := HM.out.num rfl (by rw [HG.out]; exact hc)
          have v1 : v ≤ 31744 := v1
          have uv : u = v + 32768 := uv
          subst uv
          obtain ⟨V, hV⟩ : ∃ V : Nat, v = (V : Int) := ⟨v.toNat, by omega⟩
          have hor : bits .or .i64 v 32768 = v + 32768 := by rw [hV]; exact or_half V (by omega)
          clear hc HM hV
          go_wp2
          go_roundw
          case rel => exact ⟨2, by go_num, by omega, HB3.out⟩
          case measure => simp [intOf]
      · have t0 : (er == 0) = false := by simpa using h0
        by_cases h3 : er = 3
        · subst h3
          have ht := HM.out.place rfl
          have hbd := HM.out.bd
          subst ht
          obtain ⟨hbd1, hbd2⟩ := hbd
          clear h0 HM
          go_wp2
          go_roundw
          case rel => exact ⟨2, by go_num, by omega, HB3.out⟩
          case measure => simp [intOf]
        · have t3 : (er == 3) = false := by simpa using h3
          clear h0 h3 HM
          go_wp2
          go_roundw
          case rel => exact ⟨2, by go_num, by omega, HB3.out⟩
          case measure => simp [intOf]
    · have HXa := hid (parse_any cv s 0 2 wr)
      have d2 := keep_cell' HBr.out c2
      go_wp2_with fail
      refine HXa.out.mono ?_
      rintro e w1 ⟨v, g, a, er, rfl, hb1, hp1⟩
      have HB1 : Hid (Below w6.heap.size w6 w1) := HBr.out.trans (hb1.mono HBr.out.size)
      have d2' := keep_cell' hb1 d2
      have HXb := hid (parse_any cv (⟨#[45]⟩ ++ s) 0 2 w1)
      have HP1 := hid (prog_spec (Nat.le_refl _) hp1)
      clear HXa hb1 hp1 d2 HBr
      go_wp2_with fail
      refine HXb.out.mono ?_
      rintro e w3 ⟨u, h, t, o, rfl, hb3, hp3⟩
      have HB3 : Hid (Below w6.heap.size w6 w3) := HB1.out.trans (hb3.mono HB1.out.size)
      have hM := mirror_pure (K := 30000) (m := 2) (by omega) (by omega) HL.out.1 HL.out.2.1 HL.out.2.2 HP1.out (by rw [← chs_minus]; exact prog_spec (Nat.le_refl _) hp3)
      have eo := hM.err
      subst eo
      have HM := hid hM
      clear HXb hb3 hp3 d2' HB1 HP1 hM
      by_cases h0 : er = 0
      · subst h0
        have gh := HM.out.flags rfl
        subst gh
        by_cases hc : s[0].toNat = 110
        · have tn : (((s[0].toNat : Nat) : Int) == 110) = true := by simp; omega
          have uv := HM.out.nan rfl (by rw [HG.out]; exact hc)
          subst uv
          clear hc HM
          go_wp2
          go_roundw
          case rel => exact ⟨3, by go_num, by omega, HB3.out⟩
          case measure => simp [intOf]
        · have tn : (((s[0].toNat : Nat) : Int) == 110) = false := by simp; omega
          obtain ⟨uv, v0, v1⟩ := HM.out.num rfl (by rw [HG.out]; exact hc)
          have v1 : v ≤ 31744 := v1
          have uv : u = v + 32768 := uv
          subst uv
          obtain ⟨V, hV⟩ : ∃ V : Nat, v = (V : Int) := ⟨v.toNat, by omega⟩
          have hor : bits .or .i64 v 32768 = v + 32768 := by rw [hV]; exact or_half V (by omega)
          clear hc HM hV
          go_wp2
          go_roundw
          case rel => exact ⟨3, by go_num, by omega, HB3.out⟩
          case measure => simp [intOf]
      · have t0 : (er == 0) = false := by simpa using h0
        by_cases h3 : er = 3
        · subst h3
          have ht := HM.out.place rfl
          have hbd := HM.out.bd
          subst ht
          obtain ⟨hbd1, hbd2⟩ := hbd
          clear h0 HM
          go_wp2
          go_roundw
          case rel => exact ⟨3, by go_num, by omega, HB3.out⟩
          case measure => simp [intOf]
        · have t3 : (er == 3) = false := by simpa using h3
          clear h0 h3 HM
          go_wp2
          go_roundw
          case rel => exact ⟨3, by go_num, by omega, HB3.out⟩
          case measure => simp [intOf]
    · have HXa := hid (parse_any cv s 0 3 wr)
      have d3 := keep_cell' HBr.out c3
      go_wp2_with fail
      refine HXa.out.mono ?_
      rintro e w1 ⟨v, g, a, er, rfl, hb1, hp1⟩
      have HB1 : Hid (Below w6.heap.size w6 w1) := HBr.out.trans (hb1.mono HBr.out.size)
      have d3' := keep_cell' hb1 d3
      have HXb := hid (parse_any cv (⟨#[45]⟩ ++ s) 0 4 w1)
      have HP1 := hid (prog_spec (Nat.le_refl _) hp1)
      clear HXa hb1 hp1 d3 HBr
      go_wp2_with fail
      refine HXb.out.mono ?_
      rintro e w3 ⟨u, h, t, o, rfl, hb3, hp3⟩
      have HB3 : Hid (Below w6.heap.size w6 w3) := HB1.out.trans (hb3.mono HB1.out.size)
      have hM := mirror_pure (K := 30000) (m := 3) (by omega) (by omega) HL.out.1 HL.out.2.1 HL.out.2.2 HP1.out (by rw [← chs_minus]; exact prog_spec (Nat.le_refl _) hp3)
      have eo := hM.err
      subst eo
      have HM := hid hM
      clear HXb hb3 hp3 d3' HB1 HP1 hM
      by_cases h0 : er = 0
      · subst h0
        have gh := HM.out.flags rfl
        subst gh
        by_cases hc : s[0].toNat = 110
        · have tn : (((s[0].toNat : Nat) : Int) == 110) = true := by simp; omega
          have uv := HM.out.nan rfl (by rw [HG.out]; exact hc)
          subst uv
          clear hc HM
          go_wp2
          go_roundw
          case rel => exact ⟨4, by go_num, by omega, HB3.out⟩
          case measure => simp [intOf]
        · have tn : (((s[0].toNat : Nat) : Int) == 110) = false := by simp; omega
          obtain ⟨uv, v0, v1⟩ := HM.out.num rfl (by rw [HG.out]; exact hc)
          have v1 : v ≤ 31744 := v1
          have uv : u = v + 32768 := uv
          subst uv
          obtain ⟨V, hV⟩ : ∃ V : Nat, v = (V : Int) := ⟨v.toNat, by omega⟩
          have hor : bits .or .i64 v 32768 = v + 32768 := by rw [hV]; exact or_half V (by omega)
          clear hc HM hV
          go_wp2
          go_roundw
          case rel => exact ⟨4, by go_num, by omega, HB3.out⟩
          case measure => simp [intOf]
      · have t0 : (er == 0) = false := by simpa using h0
        by_cases h3 : er = 3
        · subst h3
          have ht := HM.out.place rfl
          have hbd := HM.out.bd
          subst ht
          obtain ⟨hbd1, hbd2⟩ := hbd
          clear h0 HM
          go_wp2
          go_roundw
          case rel => exact ⟨4, by go_num, by omega, HB3.out⟩
          case measure => simp [intOf]
        · have t3 : (er == 3) = false := by simpa using h3
          clear h0 h3 HM
          go_wp2
          go_roundw
          case rel => exact ⟨4, by go_num, by omega, HB3.out⟩
          case measure => simp [intOf]
    · have HXa := hid (parse_any cv s 0 4 wr)
      have d4 := keep_cell' HBr.out c4
      go_wp2_with fail
      refine HXa.out.mono ?_
      rintro e w1 ⟨v, g, a, er, rfl, hb1, hp1⟩
      have HB1 : Hid (Below w6.heap.size w6 w1) := HBr.out.trans (hb1.mono HBr.out.size)
      have d4' := keep_cell' hb1 d4
      have HXb := hid (parse_any cv (⟨#[45]⟩ ++ s) 0 3 w1)
      have HP1 := hid (prog_spec (Nat.le_refl _) hp1)
      clear HXa hb1 hp1 d4 HBr
      go_wp2_with fail
      refine HXb.out.mono ?_
      rintro e w3 ⟨u, h, t, o, rfl, hb3, hp3⟩
      have HB3 : Hid (Below w6.heap.size w6 w3) := HB1.out.trans (hb3.mono HB1.out.size)
      have hM := mirror_pure (K := 30000) (m := 4) (by omega) (by omega) HL.out.1 HL.out.2.1 HL.out.2.2 HP1.out (by rw [← chs_minus]; exact prog_spec (Nat.le_refl _) hp3)
      have eo := hM.err
      subst eo
      have HM := hid hM
      clear HXb hb3 hp3 d4' HB1 HP1 hM
      by_cases h0 : er = 0
      · subst h0
        have gh := HM.out.flags rfl
        subst gh
        by_cases hc : s[0].toNat = 110
        · have tn : (((s[0].toNat : Nat) : Int) == 110) = true := by simp; omega
          have uv := HM.out.nan rfl (by rw [HG.out]; exact hc)
          subst uv
          clear hc HM
          go_wp2
          go_roundw
          case rel => exact ⟨5, by go_num, by omega, HB3.out⟩
          case measure => simp [intOf]
        · have tn : (((s[0].toNat : Nat) : Int) == 110) = false := by simp; omega
          obtain ⟨uv, v0, v1⟩ := HM.out.num rfl (by rw [HG.out]; exact hc)
          have v1 : v ≤ 31744 := v1
          have uv : u = v + 32768 := uv
          subst uv
          obtain ⟨V, hV⟩ : ∃ V : Nat, v = (V : Int) := ⟨v.toNat, by omega⟩
          have hor : bits .or .i64 v 32768 = v + 32768 := by rw [hV]; exact or_half V (by omega)
          clear hc HM hV
          go_wp2
          go_roundw
          case rel => exact ⟨5, by go_num, by omega, HB3.out⟩
          case measure => simp [intOf]
      · have t0 : (er == 0) = false := by simpa using h0
        by_cases h3 : er = 3
        · subst h3
          have ht := HM.out.place rfl
          have hbd := HM.out.bd
          subst ht
          obtain ⟨hbd1, hbd2⟩ := hbd
          clear h0 HM
          go_wp2
          go_roundw
          case rel => exact ⟨5, by go_num, by omega, HB3.out⟩
          case measure => simp [intOf]
        · have t3 : (er == 3) = false := by simpa using h3
          clear h0 h3 HM
          go_wp2
          go_roundw
          case rel => exact ⟨5, by go_num, by omega, HB3.out⟩
          case measure => simp [intOf]
    · have HBF : Hid (Below w'.heap.size w' wr) := HB6.out.trans (HBr.out.mono HB6.out.size)
      clear HBr
      go_wp2
      all_goals (go_ret; exact ⟨rfl, HBF.out⟩)
end Go.Proofs.Ytbkdaoicnobllaa
