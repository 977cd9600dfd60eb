import Derived.Test.YtbkdaoicnobllaaTExa
import Derived.Test.YtbkdaoicnobllaaTPath

namespace Go.Proofs.Ytbkdaoicnobllaa
open Go.RowKit

theorem isFormat_any (f : Int) (w : World) : Calls Try.prog 25 #[.int .i64 f] w fun e w' => e = .returned (.bool (decide (0 ≤ f ∧ f ≤ 2))) ∧ w' = w := by
  go_enter Try.func25, Try.ntmps25
  by_cases h0 : 0 ≤ f
  · by_cases h2 : f ≤ 2
    · have e : decide (0 ≤ f ∧ f ≤ 2) = true := by simp; omega
      have t1 : decide (0 ≤ f) = true := by simpa using h0
      have t2 : decide (f ≤ 2) = true := by simpa using h2
      rw [e]
      go_wp2
      all_goals (go_ret; exact ⟨rfl, rfl⟩)
    · have e : decide (0 ≤ f ∧ f ≤ 2) = false := by simp; omega
      have t1 : decide (0 ≤ f) = true := by simpa using h0
      have t2 : decide (f ≤ 2) = false := by simpa using h2
      rw [e]
      go_wp2
      all_goals (go_ret; exact ⟨rfl, rfl⟩)
  · have e : decide (0 ≤ f ∧ f ≤ 2) = false := by simp; omega
    have t1 : decide (0 ≤ f) = false := by simpa using h0
    rw [e]
    go_wp2
    all_goals (go_ret; exact ⟨rfl, rfl⟩)
theorem isMode_any (f : Int) (w : World) : Calls Try.prog 26 #[.int .i64 f] w fun e w' => e = .returned (.bool (decide (0 ≤ f ∧ f ≤ 4))) ∧ w' = w := by
  go_enter Try.func26, Try.ntmps26
  by_cases h0 : 0 ≤ f
  · by_cases h2 : f ≤ 4
    · have e : decide (0 ≤ f ∧ f ≤ 4) = true := by simp; omega
      have t1 : decide (0 ≤ f) = true := by simpa using h0
      have t2 : decide (f ≤ 4) = true := by simpa using h2
      rw [e]
      go_wp2
      all_goals (go_ret; exact ⟨rfl, rfl⟩)
    · have e : decide (0 ≤ f ∧ f ≤ 4) = false := by simp; omega
      have t1 : decide (0 ≤ f) = true := by simpa using h0
      have t2 : decide (f ≤ 4) = false := by simpa using h2
      rw [e]
      go_wp2
      all_goals (go_ret; exact ⟨rfl, rfl⟩)
  · have e : decide (0 ≤ f ∧ f ≤ 4) = false := by simp; omega
    have t1 : decide (0 ≤ f) = false := by simpa using h0
    rw [e]
    go_wp2
    all_goals (go_ret; exact ⟨rfl, rfl⟩)
/-- What the program's Parse tells. -/
def PParse (s : ByteArray) (f mode : Int) (bts fl at' err : Int) : Prop :=
  (¬ (0 ≤ f ∧ f ≤ 2 ∧ 0 ≤ mode ∧ mode ≤ 4) ∧ bts = 0 ∧ fl = 0 ∧ at' = 0 ∧ err = 1) ∨
  ((0 ≤ f ∧ f ≤ 2 ∧ 0 ≤ mode ∧ mode ≤ 4) ∧ 900 < s.size ∧ bts = 0 ∧ fl = 0 ∧ at' = 0 ∧ err = 2) ∨
  ((0 ≤ f ∧ f ≤ 2 ∧ 0 ≤ mode ∧ mode ≤ 4) ∧ s.size ≤ 900 ∧ ∃ (k : Nat) (uok : Bool) (kd : Int) (D : List Nat) (pw : Int), UnsRes s (sgnL s 0) k uok kd D pw ∧
    (((uok = false ∨ k < s.size) ∧ bts = 0 ∧ fl = 0 ∧ at' = k ∧ err = 3) ∨ ((uok = true ∧ ¬ k < s.size) ∧ at' = 0 ∧ err = 0 ∧ PatRes f mode (atB s 0 45) kd D pw bts fl)))
def ParsePost (w w' : World) (s : ByteArray) (f mode : Int) (e : Ending) : Prop :=
  ∃ bts fl at' err : Int, e = .returned (.tuple #[.int .i64 bts, .int .i64 fl, .int .i64 at', .int .i64 err]) ∧ Below w.heap.size w w' ∧ PParse s f mode bts fl at' err
/-- 'patternOf' at all that 'Read' hands over. -/
theorem patternOf_any (s : ByteArray) (a k : Nat) (f mode kd pw : Int) (neg : Bool) (ao : Option Addr) (n cp : Nat) (D : List Nat) (w : World) (hf : 0 ≤ f ∧ f ≤ 2) (hs : s.size ≤ 900) (hu : UnsRes s a k true kd D pw) (ho : Own w 0 (.slice ao n cp) D) (hn : D.length = n) :
    Calls Try.prog 29 #[.agg #[.int .i64 kd, .bool neg, .slice ao n cp, .int .i64 pw], layOf f, .int .i64 mode] w fun e w' => PatPost w w' f mode neg kd D pw e := by
  have hl : (chs s).length ≤ 900 := by rw [chs_length]; exact hs
  have key : ∀ M : Nat, NumsOk D M (chs s).length pw → ((kd = 1 ∧ M = 16) ∨ (kd = 0 ∧ M = 10)) → Calls Try.prog 29 #[.agg #[.int .i64 kd, .bool neg, .slice ao n cp, .int .i64 pw], layOf f, .int .i64 mode] w fun e w' => PatPost w w' f mode neg kd D pw e := by
    intro M hN hk
    rcases hN.lead with h0 | h0
    · have hn0 : n = 0 := by rw [← hn, h0]; rfl
      subst hn0 h0
      exact patternOf_zero f mode kd pw neg ao cp w hf (by omega)
    · have hne : n ≠ 0 := fun h => by rw [h] at hn; rw [List.length_eq_zero_iff.1 hn] at h0; simp at h0
      rcases ho.form with ⟨e, _⟩ | ⟨g, cap, hv, _⟩
      · rw [e] at h0; simp at h0
      · simp only [Value.slice.injEq] at hv
        obtain ⟨e1, _, _⟩ := hv
        subst e1
        refine patternOf_num f mode kd pw neg g n cp D w hf hn (by have := hN.len; omega) ho h0 ?_ hN.p1 hN.p2
        rcases hk with ⟨rfl, rfl⟩ | ⟨rfl, rfl⟩
        · exact .inl ⟨rfl, hN.lt⟩
        · exact .inr ⟨rfl, hN.lt⟩
  rcases hu with ⟨_, rfl, _⟩ | ⟨_, rfl, _⟩ | ⟨_, _, _, rfl, hx⟩ | ⟨_, _, _, rfl, hx⟩
  · exact patternOf_word f mode 2 pw neg ao n cp D w hf (.inl rfl)
  · exact patternOf_word f mode 3 pw neg ao n cp D w hf (.inr rfl)
  · exact key 16 (hex_ok' hx hl) (.inl ⟨rfl, rfl⟩)
  · exact key 10 (dec_ok' hx hl) (.inr ⟨rfl, rfl⟩)
theorem results_tmp4 {fn : Func} {t u v x : Tmp} (h : fn.results = #[.tmp t, .tmp u, .tmp v, .tmp x]) (tmps : Array Value) (P : Program) (w : World) :
    (results fn tmps).run P w = .ok (.tuple #[tmps.getD t undef, tmps.getD u undef, tmps.getD v undef, tmps.getD x undef]) w := by
  simp [results, h]

set_option maxRecDepth 100000 in
set_option maxHeartbeats 4000000 in
theorem parse_any (cv : Value) (s : ByteArray) (f mode : Int) (w : World) :
    Calls Try.prog 18 #[cv, .string s, .int .i64 f, .int .i64 mode] w fun e w' => ParsePost w w' s f mode e := by
  have HF := hid (isFormat_any f w)
  have HM := hid (isMode_any mode w)
  go_enter Try.func18, Try.ntmps18
  by_cases hf : 0 ≤ f ∧ f ≤ 2
  · have ef : decide (0 ≤ f ∧ f ≤ 2) = true := by simpa using hf
    rw [ef] at HF
    by_cases hm : 0 ≤ mode ∧ mode ≤ 4
    · have em : decide (0 ≤ mode ∧ mode ≤ 4) = true := by simpa using hm
      rw [em] at HM
      have HV : Hid (0 ≤ f ∧ f ≤ 2 ∧ 0 ≤ mode ∧ mode ≤ 4) := ⟨hf.1, hf.2, hm.1, hm.2⟩
      have HHF := hid hf
      clear ef em hf hm
      go_wp2_with fail
      refine HF.out.mono ?_
      rintro e w' ⟨rfl, rfl⟩
      go_wp2_with fail
      refine HM.out.mono ?_
      rintro e w' ⟨rfl, rfl⟩
      clear HF HM
      by_cases hlong : 900 < s.size
      · go_wp2
        try simp only [Exit.inBlock, Exit.then]
        refine bodyPost_ret (results_tmp4 rfl _ _ _) rfl ?_
        exact ⟨0, 0, 0, 2, rfl, Below.refl _ _, .inr (.inl ⟨HV.out, hlong, rfl, rfl, rfl, rfl⟩)⟩
      · have HXS := hid (scan_any s w' (by omega))
        go_wp2_with fail
        refine HXS.out.mono ?_
        rintro e w1 ⟨k, uok, kd, v, D, pw, hu, hb, hc⟩
        have HU := hid hu
        have HB := hid hb
        clear HXS hu hb
        rcases hc with ⟨hfail, rfl⟩ | ⟨⟨huok, hk⟩, ho, hfr, rfl⟩
        · have HFL := hid hfail
          have HB1 := hid (HB.out.alloc HB.out.size (.cells #[.int .i64 0, .bool false, .slice none 0 0, .int .i64 0] 53))
          clear hfail HB
          go_wp2
          try simp only [Exit.inBlock, Exit.then]
          refine bodyPost_ret (results_tmp4 rfl _ _ _) rfl ?_
          exact ⟨0, 0, k, 3, rfl, HB1.out, .inr (.inr ⟨HV.out, by omega, k, uok, kd, D, pw, HU.out, .inl ⟨HFL.out, rfl, rfl, rfl, rfl⟩⟩)⟩
        · subst huok
          obtain ⟨ao, cp, hv⟩ := ho.row.isSlice
          obtain ⟨n, hn⟩ : ∃ n, n = D.length := ⟨_, rfl⟩
          rw [← hn] at hv
          subst hv
          have HN : Hid (D.length = n) := hn.symm
          have HK := hid hk
          obtain ⟨C, hC⟩ : ∃ C, C = w1.heap.size := ⟨_, rfl⟩
          obtain ⟨w2, hw2⟩ : ∃ w2, w2 = w1.alloc (.cells #[.int .i64 kd, .bool (atB s 0 45), .slice ao n cp, .int .i64 pw] 53) := ⟨_, rfl⟩
          have hb12 : Below w1.heap.size w1 w2 := by rw [hw2]; exact (Below.refl _ _).alloc (Nat.le_refl _) _
          have hC2 : C < w2.heap.size := by rw [hw2, hC]; simp
          have m0 : w2.cell? ⟨C, 0, none⟩ = some (.int .i64 kd) := by rw [hw2, hC]; simp [go_sem]
          have m1 : w2.cell? ⟨C, 1, none⟩ = some (.bool (atB s 0 45)) := by rw [hw2, hC]; simp [go_sem]
          have m2 : w2.cell? ⟨C, 2, none⟩ = some (.slice ao n cp) := by rw [hw2, hC]; simp [go_sem]
          have m3 : w2.cell? ⟨C, 3, none⟩ = some (.int .i64 pw) := by rw [hw2, hC]; simp [go_sem]
          have HO2 := hid (ho.below hb12 (Nat.le_refl _))
          have HB2 : Hid (Below w'.heap.size w' w2) := HB.out.trans (hb12.mono HB.out.size)
          have HW2 := hid hw2
          have HC := hid hC
          have HXL := hid (patOf_any f HHF.out.1 HHF.out.2 w2)
          clear ho hfr hn hk hw2 hC HB hb12
          go_wp2_with (rw [← HW2.out, ← HC.out])
          go_wp2_with fail
          refine HXL.out.mono ?_
          rintro e w3 ⟨rfl, hb3⟩
          have p0 := keep_cell' hb3 m0
          have p1 := keep_cell' hb3 m1
          have p2 := keep_cell' hb3 m2
          have p3 := keep_cell' hb3 m3
          have HO3 := hid (HO2.out.below hb3 (Nat.le_refl _))
          have HB3 : Hid (Below w'.heap.size w' w3) := HB2.out.trans (hb3.mono HB2.out.size)
          have hC3 : C < w3.heap.size := by have := hb3.size; omega
          obtain ⟨F, B, N, G, hlay⟩ := lay_form f HHF.out
          have HLY := hid hlay
          rw [hlay]
          unfold layV
          obtain ⟨I, hI⟩ : ∃ I : Int, I = infN f := ⟨_, rfl⟩
          rw [← hI]
          have HI := hid hI
          obtain ⟨E, hE⟩ : ∃ E, E = w3.heap.size := ⟨_, rfl⟩
          obtain ⟨w4, hw4⟩ : ∃ w4, w4 = w3.alloc (.cells #[.int .i64 F, .int .i64 B, .int .i64 N, .int .i64 I, .int .i64 G] 57) := ⟨_, rfl⟩
          have hb34 : Below w3.heap.size w3 w4 := by rw [hw4]; exact (Below.refl _ _).alloc (Nat.le_refl _) _
          have l0 : w4.cell? ⟨E, 0, none⟩ = some (.int .i64 F) := by rw [hw4, hE]; simp [go_sem]
          have l1 : w4.cell? ⟨E, 1, none⟩ = some (.int .i64 B) := by rw [hw4, hE]; simp [go_sem]
          have l2 : w4.cell? ⟨E, 2, none⟩ = some (.int .i64 N) := by rw [hw4, hE]; simp [go_sem]
          have l3 : w4.cell? ⟨E, 3, none⟩ = some (.int .i64 I) := by rw [hw4, hE]; simp [go_sem]
          have l4 : w4.cell? ⟨E, 4, none⟩ = some (.int .i64 G) := by rw [hw4, hE]; simp [go_sem]
          have q0 := keep_cell' hb34 p0
          have q1 := keep_cell' hb34 p1
          have q2 := keep_cell' hb34 p2
          have q3 := keep_cell' hb34 p3
          have HB4 : Hid (Below w'.heap.size w' w4) := HB3.out.trans (hb34.mono HB3.out.size)
          have HXP := hid (patternOf_any s (sgnL s 0) k f mode kd pw (atB s 0 45) ao n cp D w4 HHF.out (by omega) HU.out (HO3.out.below hb34 (Nat.le_refl _)) HN.out)
          rw [hlay] at HXP
          unfold layV at HXP
          rw [← hI] at HXP
          have HW4 := hid hw4
          have HE := hid hE
          clear HXL hb3 m0 m1 m2 m3 p0 p1 p2 p3 hb34 hw4 hE hI hlay HO2 HO3 HB2 HB3
          go_wp2_with (rw [← HW4.out, ← HE.out])
          go_wp2_with fail
          refine HXP.out.mono ?_
          rintro e w5 ⟨bts, fl, rfl, hb5, hr⟩
          have HB5 : Hid (Below w'.heap.size w' w5) := HB4.out.trans (hb5.mono HB4.out.size)
          have HR := hid hr
          clear HXP hb5 hr
          go_wp2
          try simp only [Exit.inBlock, Exit.then]
          refine bodyPost_ret (results_tmp4 rfl _ _ _) rfl ?_
          exact ⟨bts, fl, 0, 0, rfl, HB5.out, .inr (.inr ⟨HV.out, by omega, k, true, kd, D, pw, HU.out, .inr ⟨⟨rfl, HK.out⟩, rfl, rfl, HR.out⟩⟩)⟩
    · have em : decide (0 ≤ mode ∧ mode ≤ 4) = false := by simpa using hm
      rw [em] at HM
      have HV : Hid (¬ (0 ≤ f ∧ f ≤ 2 ∧ 0 ≤ mode ∧ mode ≤ 4)) := fun h => hm ⟨h.2.2.1, h.2.2.2⟩
      clear ef em hf hm
      go_wp2_with fail
      refine HF.out.mono ?_
      rintro e w' ⟨rfl, rfl⟩
      go_wp2_with fail
      refine HM.out.mono ?_
      rintro e w' ⟨rfl, rfl⟩
      clear HF HM
      go_wp2
      try simp only [Exit.inBlock, Exit.then]
      refine bodyPost_ret (results_tmp4 rfl _ _ _) rfl ?_
      exact ⟨0, 0, 0, 1, rfl, Below.refl _ _, .inl ⟨HV.out, rfl, rfl, rfl, rfl⟩⟩
  · have ef : decide (0 ≤ f ∧ f ≤ 2) = false := by simpa using hf
    rw [ef] at HF
    have HV : Hid (¬ (0 ≤ f ∧ f ≤ 2 ∧ 0 ≤ mode ∧ mode ≤ 4)) := fun h => hf ⟨h.1, h.2.1⟩
    clear ef hf
    go_wp2_with fail
    refine HF.out.mono ?_
    rintro e w' ⟨rfl, rfl⟩
    clear HF HM
    go_wp2
    try simp only [Exit.inBlock, Exit.then]
    refine bodyPost_ret (results_tmp4 rfl _ _ _) rfl ?_
    exact ⟨0, 0, 0, 1, rfl, Below.refl _ _, .inl ⟨HV.out, rfl, rfl, rfl, rfl⟩⟩
end Go.Proofs.Ytbkdaoicnobllaa

/- The program's Parse and the document's tell the same. -/
namespace Go.Proofs.Ytbkdaoicnobllaa

theorem getD_out {l : List Nat} {a : Nat} (h : ¬ a < l.length) : l.getD a 0 = 0 := by
  rw [List.getD_eq_getElem?_getD, List.getElem?_eq_none (by omega)]; rfl
theorem atB_of {s : ByteArray} {a x : Nat} (h : (chs s).getD a 0 = x) (hx : x ≠ 0) : atB s a x = true := by
  have hl : a < (chs s).length := by
    rcases Nat.lt_or_ge a (chs s).length with g | g
    · exact g
    · rw [getD_out (by omega)] at h; exact absurd h.symm hx
  unfold atB; rw [chs_length] at hl; simp [hl]; simpa using h
/-- Behind the sign. -/
theorem sign_path (s : ByteArray) : ∃ st0, Path (chs s) (sgnL s 0) st0 ∧ endsB st0 = false ∧ (sgnL s 0 < (chs s).length → nextS st0 ((chs s).getD (sgnL s 0) 0) = beginS ((chs s).getD (sgnL s 0) 0)) ∧ body (chs s) = (chs s).drop (sgnL s 0) := by
  have hz := Path.zero (chs s)
  by_cases h : atB s 0 45 = true ∨ atB s 0 43 = true
  · have e : sgnL s 0 = 1 := by unfold sgnL; rw [if_pos h]
    have hs : 0 < (chs s).length ∧ sgn ((chs s).getD 0 0) = true := by
      rcases h with h | h
      · have := atB_yes h; exact ⟨this.1, by rw [this.2]; rfl⟩
      · have := atB_yes h; exact ⟨this.1, by rw [this.2]; rfl⟩
    rw [e]
    refine ⟨1, hz.step hs.1 (by show (if sgn _ = true then 1 else _) = 1; rw [if_pos hs.2]) (by omega), rfl, fun _ => rfl, ?_⟩
    cases hl : chs s with
    | nil => rw [hl] at hs; simp at hs
    | cons c r => rw [hl] at hs; simp at hs; simp [body, hs]
  · have e : sgnL s 0 = 0 := by unfold sgnL; rw [if_neg h]
    have hn : 0 < (chs s).length → sgn ((chs s).getD 0 0) = false := fun hl => by
      have h1 : atB s 0 45 = false := by cases g : atB s 0 45; rfl; exact absurd (.inl g) h
      have h2 : atB s 0 43 = false := by cases g : atB s 0 43; rfl; exact absurd (.inr g) h
      have e1 := atB_no h1 hl
      have e2 := atB_no h2 hl
      unfold sgn; simp; exact ⟨e2, e1⟩
    rw [e]
    refine ⟨0, hz, rfl, fun hl => ?_, ?_⟩
    · show (if sgn _ = true then 1 else beginS _) = _
      rw [hn hl]; rfl
    · cases hl : chs s with
      | nil => rfl
      | cons c r => rw [hl] at hn; simp at hn; simp [body, hn]
theorem word_path {s : ByteArray} (tail : List Nat) : ∀ (a q : Nat), Path (chs s) a q → (∀ i, i < tail.length → ∀ c, nextS (q + i) c = if c = tail.getD i 0 then q + i + 1 else 28) → q + tail.length < 28 → (∀ c, nextS (q + tail.length) c = 28) →
    Path (chs s) (a + wordN s a tail) (q + wordN s a tail) ∧ (a + wordN s a tail < (chs s).length → nextS (q + wordN s a tail) ((chs s).getD (a + wordN s a tail) 0) = 28) ∧ wordN s a tail ≤ tail.length := by
  induction tail with
  | nil => intro a q hp _ _ hend; exact ⟨hp, fun _ => hend _, Nat.le_refl _⟩
  | cons x r ih =>
    intro a q hp hst hlt hend
    have h0 := hst 0 (by simp)
    simp at h0
    cases hx : atB s a x
    · have e : wordN s a (x :: r) = 0 := by simp [wordN, hx]
      rw [e]
      refine ⟨hp, fun hl => ?_, Nat.zero_le _⟩
      simp only [Nat.add_zero] at hl ⊢
      show nextS q _ = 28
      rw [h0, if_neg (atB_no hx hl)]
    · have e : wordN s a (x :: r) = 1 + wordN s (a + 1) r := by simp [wordN, hx]
      obtain ⟨hl, hv⟩ := atB_yes hx
      have hp1 : Path (chs s) (a + 1) (q + 1) := hp.step hl (by rw [h0, hv, if_pos rfl]) (by simp at hlt; omega)
      have := ih (a + 1) (q + 1) hp1 (fun i hi c => by have := hst (i + 1) (by simp; omega) c; rw [show q + 1 + i = q + (i + 1) from by omega, this]; simp) (by simp at hlt; omega) (fun c => by have := hend c; rw [show q + 1 + r.length = q + (x :: r).length from by simp; omega]; exact this)
      rw [e, show a + (1 + wordN s (a + 1) r) = a + 1 + wordN s (a + 1) r from by omega, show q + (1 + wordN s (a + 1) r) = q + 1 + wordN s (a + 1) r from by omega]
      exact ⟨this.1, this.2.1, by have := this.2.2; simp; omega⟩
theorem inf_steps : ∀ i, i < [110, 102, 105, 110, 105, 116, 121].length → ∀ c, nextS (16 + i) c = if c = [110, 102, 105, 110, 105, 116, 121].getD i 0 then 16 + i + 1 else 28 := by
  intro i hi c
  simp only [List.length_cons, List.length_nil] at hi
  rcases (by omega : i = 0 ∨ i = 1 ∨ i = 2 ∨ i = 3 ∨ i = 4 ∨ i = 5 ∨ i = 6) with rfl | rfl | rfl | rfl | rfl | rfl | rfl <;> rfl
theorem nan_steps : ∀ i, i < [97, 110].length → ∀ c, nextS (25 + i) c = if c = [97, 110].getD i 0 then 25 + i + 1 else 28 := by
  intro i hi c
  simp only [List.length_cons, List.length_nil] at hi
  rcases (by omega : i = 0 ∨ i = 1) with rfl | rfl <;> rfl
/-- Which state goes with which kind. -/
def KindSt (kd : Int) (st : Nat) : Prop :=
  (kd = 3 ∧ st = 27) ∨ (kd = 2 ∧ (st = 18 ∨ st = 23)) ∨ (kd = 1 ∧ st = 15) ∨ (kd = 0 ∧ (st = 2 ∨ st = 3 ∨ st = 4 ∨ st = 6 ∨ st = 9))
theorem uns_stop {s : ByteArray} {k : Nat} {uok : Bool} {kd : Int} {D : List Nat} {pw : Int} (h : UnsRes s (sgnL s 0) k uok kd D pw) : ∃ st, Stop (chs s) k uok st ∧ (uok = true → KindSt kd st) := by
  obtain ⟨st0, hp, he, hb, _⟩ := sign_path s
  generalize sgnL s 0 = a at *
  rcases h with ⟨h1, rfl, rfl, rfl⟩ | ⟨h1, rfl, rfl, rfl⟩ | ⟨h1, h2, h3, rfl, hx⟩ | ⟨h1, h2, h3, rfl, hx⟩
  · have ha := atB_of h1 (by decide)
    obtain ⟨hl, _⟩ := atB_yes ha
    have p1 : Path (chs s) (a + 1) 16 := hp.step hl (by rw [hb hl, h1]; rfl) (by omega)
    obtain ⟨w1, w2, w3⟩ := word_path [110, 102, 105, 110, 105, 116, 121] (a + 1) 16 p1 inf_steps (by decide) (fun c => rfl)
    have e : wordN s a wInf = 1 + wordN s (a + 1) [110, 102, 105, 110, 105, 116, 121] := by unfold wInf; simp only [wordN, ha]; simp
    rw [e]
    generalize wordN s (a + 1) [110, 102, 105, 110, 105, 116, 121] = m at *
    rw [show a + (1 + m) = a + 1 + m from by omega]
    simp only [List.length_cons, List.length_nil] at w3
    refine ⟨16 + m, ⟨w1, w2, ?_⟩, fun hh => .inr (.inl ⟨rfl, ?_⟩)⟩
    · rcases (by omega : m = 0 ∨ m = 1 ∨ m = 2 ∨ m = 3 ∨ m = 4 ∨ m = 5 ∨ m = 6 ∨ m = 7) with rfl | rfl | rfl | rfl | rfl | rfl | rfl | rfl <;> rfl
    · simp at hh; omega
  · have ha := atB_of h1 (by decide)
    obtain ⟨hl, _⟩ := atB_yes ha
    have p1 : Path (chs s) (a + 1) 25 := hp.step hl (by rw [hb hl, h1]; rfl) (by omega)
    obtain ⟨w1, w2, w3⟩ := word_path [97, 110] (a + 1) 25 p1 nan_steps (by decide) (fun c => rfl)
    have e : wordN s a wNan = 1 + wordN s (a + 1) [97, 110] := by unfold wNan; simp only [wordN, ha]; simp
    rw [e]
    generalize wordN s (a + 1) [97, 110] = m at *
    rw [show a + (1 + m) = a + 1 + m from by omega]
    simp only [List.length_cons, List.length_nil] at w3
    refine ⟨25 + m, ⟨w1, w2, ?_⟩, fun hh => .inl ⟨rfl, ?_⟩⟩
    · rcases (by omega : m = 0 ∨ m = 1 ∨ m = 2) with rfl | rfl | rfl <;> rfl
    · simp at hh; omega
  · unfold hexB at h3
    simp at h3
    obtain ⟨hl, hv⟩ := atB_yes h3.1
    obtain ⟨hl1, hv1⟩ := atB_yes h3.2
    have p1 : Path (chs s) (a + 1) 2 := hp.step hl (by rw [hb hl, hv]; rfl) (by omega)
    have p2 : Path (chs s) (a + 2) 10 := p1.step hl1 (by rw [hv1]; rfl) (by omega)
    obtain ⟨st, g1, g2⟩ := hex_stop p2 hx
    exact ⟨st, g1, fun hh => .inr (.inr (.inl ⟨rfl, g2 hh⟩))⟩
  · obtain ⟨st, g1, g2⟩ := dec_stop hp hb he (fun ⟨x1, x2, x3⟩ => by
      have e1 := atB_of x2 (by decide)
      have e2 := atB_of x3 (by decide)
      unfold hexB at h3; rw [e1, e2] at h3; cases h3) (fun _ => ⟨h1, h2⟩) hx
    exact ⟨st, g1, fun hh => .inr (.inr (.inr ⟨rfl, g2 hh⟩))⟩
theorem ReadSpec.one {l : List Nat} {s a s' a' : Nat} {ok ok' : Bool} (h : ReadSpec l s a ok) (h' : ReadSpec l s' a' ok') : s = s' ∧ a = a' ∧ ok = ok' := by
  rcases h with ⟨k, h1, h2, h3, h4, h5, h6⟩ | ⟨h1, h2, h3, h4⟩
  · rcases h' with ⟨k', g1, g2, g3, g4, g5, g6⟩ | ⟨g1, g2, g3, g4⟩
    · have hk : k = k' := by
        rcases Nat.lt_trichotomy k k' with g | g | g
        · exact absurd h3 (g2 _ g)
        · exact g
        · exact absurd g3 (h2 _ g)
      exact ⟨h4.trans g4.symm, by omega, h6.trans g6.symm⟩
    · exact absurd h3 (g1 _ h1)
  · rcases h' with ⟨k', g1, g2, g3, g4, g5, g6⟩ | ⟨g1, g2, g3, g4⟩
    · exact absurd g3 (h1 _ g1)
    · have : s = s' := h2.trans g2.symm
      exact ⟨this, by omega, by rw [h4, g4, this]⟩
theorem RoundSpec.zero {K : Nat} {f mode : Int} {neg : Bool} {r fl : Int} (h : RoundSpec K f mode neg 0 r fl) : r = 0 ∧ fl = 0 := by
  rcases h with ⟨_, h1, h2⟩ | ⟨h, _⟩ | ⟨h, _⟩
  · exact ⟨h1, h2⟩
  · omega
  · omega
theorem neg_eq (s : ByteArray) (h : 0 < (chs s).length) : decide ((chs s).getD 0 0 = 45) = atB s 0 45 := by
  rw [chs_length] at h
  unfold atB
  rw [Bool.eq_iff_iff]; simp [h]

theorem sixV_nil (K : Nat) (e : Int) : sixV K [] e = 0 := by unfold sixV; simp
theorem num_join {K : Nat} (hK : 30000 ≤ K) {s : ByteArray} {f mode bts fl b2 f2 kd pw : Int} {D : List Nat} {st : Nat} (hf : 0 ≤ f ∧ f ≤ 2) (hl : s.size ≤ 900) (hne : 0 < (chs s).length) (hu : UnsRes s (sgnL s 0) (chs s).length true kd D pw) (hk : KindSt kd st)
    (hp : PatRes f mode (atB s 0 45) kd D pw bts fl) (hn : NumSpec K (chs s) f mode st b2 f2) : bts = b2 ∧ fl = f2 := by
  have hlen := chs_length s
  have hF := fmt_of hf
  obtain ⟨_, _, _, _, hbody⟩ := sign_path s
  unfold NumSpec at hn
  rw [neg_eq s hne, hbody] at hn
  generalize atB s 0 45 = neg at *
  unfold KindSt at hk
  rcases hn with ⟨h1, h2, h3⟩ | ⟨h1, h2, h3⟩ | ⟨h1, r, hr, h2⟩ | ⟨h1, r, L, e, hL, hL0, hLe, hLv, hr, h2⟩
  · have hkd : kd = 3 := by omega
    subst hkd
    rcases hp with ⟨_, g1, g2⟩ | ⟨g, _⟩ | ⟨g, _⟩ | ⟨g, _⟩
    · exact ⟨g1.trans h2.symm, g2.trans h3.symm⟩
    · omega
    · omega
    · omega
  · have hkd : kd = 2 := by omega
    subst hkd
    rcases hp with ⟨g, _⟩ | ⟨_, g1, g2⟩ | ⟨g, _⟩ | ⟨g, _⟩
    · omega
    · exact ⟨g1.trans h2.symm, g2.trans h3.symm⟩
    · omega
    · omega
  · have hkd : kd = 1 := by omega
    subst hkd
    rcases hu with ⟨_, g, _⟩ | ⟨_, g, _⟩ | ⟨_, _, hB, _, hx⟩ | ⟨_, _, _, g, _⟩
    · omega
    · omega
    · unfold hexB at hB
      simp at hB
      obtain ⟨n1, n2, x, n3, n4⟩ := hex_nums hx rfl (atB_yes hB.1).2 (atB_yes hB.2).2
      have hN := hex_ok' hx (by omega)
      rw [List.drop_drop, n1] at hr
      rcases hp with ⟨g, _⟩ | ⟨g, _⟩ | ⟨_, g0, g1, g2⟩ | ⟨_, g0, V, U, q, hUV, hVU, hE, g1, g2⟩
      · omega
      · omega
      · rw [g0, sixV_nil] at hr
        obtain ⟨z1, z2⟩ := hr.zero
        rw [g1, g2, h2, z1, z2]; exact ⟨rfl, rfl⟩
      · rcases hE with ⟨_, hE⟩ | ⟨g, _⟩
        · have hD0 : D.getD 0 0 ≠ 0 := by
            rcases hN.lead with h | h
            · exact absurd h g0
            · exact h
          have hlenD := hN.len
          have hj := hex_join (mode := mode) (neg := neg) hF hK (fun d hd => by have := hN.lt d hd; omega) hD0 (by omega) (b := 4 * ((hexScan (ahead ((chs s).drop (sgnL s 0 + 2)) 112)).2.1 : Nat)) ⟨by omega, by omega⟩ n3 rfl n4 hUV hVU hE
          obtain ⟨z1, z2⟩ := RoundSpec.one (by omega) hj hr
          rw [g1, g2, h2, z1, z2]; exact ⟨rfl, rfl⟩
        · omega
    · omega
  · have hkd : kd = 0 := by omega
    subst hkd
    rcases hu with ⟨_, g, _⟩ | ⟨_, g, _⟩ | ⟨_, _, _, g, _⟩ | ⟨_, _, _, _, hx⟩
    · omega
    · omega
    · omega
    · obtain ⟨n1, n2, x, n3, n4⟩ := dec_nums hx rfl
      have hN := dec_ok' hx (by omega)
      rcases hp with ⟨g, _⟩ | ⟨g, _⟩ | ⟨_, g0, g1, g2⟩ | ⟨_, g0, V, U, q, hUV, hVU, hE, g1, g2⟩
      · omega
      · omega
      · have hz : L = [] := by
          rcases Nat.eq_zero_or_pos L.length with h | h
          · exact List.length_eq_zero_iff.1 h
          · exfalso
            have hv := hLv (-(expOf ((chs s).drop (sgnL s 0)) 101 - ((decScan (ahead ((chs s).drop (sgnL s 0)) 101)).2.1 : Nat))).toNat (by omega)
            have hpos := val_pos hL h (-(expOf ((chs s).drop (sgnL s 0)) 101 - ((decScan (ahead ((chs s).drop (sgnL s 0)) 101)).2.1 : Nat))).toNat e
            rw [hv] at hpos
            unfold val at hpos
            rw [n1, g0, num_nil] at hpos
            simp at hpos
        have e0 : heldV K L e = 0 := by unfold heldV; rw [hz]; simp
        rw [e0] at hr
        obtain ⟨z1, z2⟩ := hr.zero
        rw [g1, g2, h2, z1, z2]; exact ⟨rfl, rfl⟩
      · rcases hE with ⟨g, _⟩ | ⟨_, hE⟩
        · omega
        · have hD0 : D.getD 0 0 ≠ 0 := by
            rcases hN.lead with h | h
            · exact absurd h g0
            · exact h
          have hlenD := hN.len
          have hj := dec_join (mode := mode) (neg := neg) hF hK hL (fun d hd => by have := hN.lt d hd; omega) hD0 (by omega) n1 hLe hLv (b := ((decScan (ahead ((chs s).drop (sgnL s 0)) 101)).2.1 : Nat)) ⟨by omega, by omega⟩ n3 rfl n4 hUV hVU hE
          obtain ⟨z1, z2⟩ := RoundSpec.one (by omega) hj hr
          rw [g1, g2, h2, z1, z2]; exact ⟨rfl, rfl⟩

theorem parse_join {K : Nat} (hK : 30000 ≤ K) {s : ByteArray} {f mode bts fl at' err b2 f2 a2 e2 : Int} (hp : PParse s f mode bts fl at' err) (hr : ParseSpec K (chs s) f mode b2 f2 a2 e2) : bts = b2 ∧ fl = f2 ∧ at' = a2 ∧ err = e2 := by
  have hlen := chs_length s
  rcases hp with ⟨hv, h1, h2, h3, h4⟩ | ⟨hv, hl, h1, h2, h3, h4⟩ | ⟨hv, hl, k, uok, kd, D, pw, hu, hc⟩
  · rcases hr with ⟨_, g1, g2, g3, g4⟩ | ⟨gv, _⟩ | ⟨gv, _⟩
    · omega
    · exact absurd gv hv
    · exact absurd gv hv
  · rcases hr with ⟨gv, _⟩ | ⟨_, _, g1, g2, g3, g4⟩ | ⟨_, gl, _⟩
    · exact absurd hv gv
    · omega
    · omega
  · rcases hr with ⟨gv, _⟩ | ⟨_, gl, _⟩ | ⟨_, _, st2, a3, ok2, hrs, hd⟩
    · exact absurd hv gv
    · omega
    · obtain ⟨st, hst, hks⟩ := uns_stop hu
      obtain ⟨st', hrd, hst'⟩ := read_of hst
      obtain ⟨e1, e2, e3⟩ := ReadSpec.one hrd hrs
      have hkl := hst.path.le
      rcases hc with ⟨hfail, h1, h2, h3, h4⟩ | ⟨⟨huok, hk⟩, h3, h4, hpat⟩
      · have ho : ok2 = false := by
          rw [← e3]
          rcases hfail with h | h
          · rw [h]; rfl
          · rw [show decide (k = (chs s).length) = false from by simp; omega]; simp
        rcases hd with ⟨_, g1, g2, g3, g4⟩ | ⟨g, _⟩
        · omega
        · rw [ho] at g; cases g
      · subst huok
        have hkk : k = (chs s).length := by omega
        have ho : ok2 = true := by rw [← e3, hkk]; simp
        rcases hd with ⟨g, _⟩ | ⟨_, g3, g4, hnum⟩
        · rw [ho] at g; cases g
        · have hst2 : st2 = st := by rw [← e1]; exact hst' rfl hkk
          have hKS := hks rfl
          rw [← hst2] at hKS
          have hne : 0 < (chs s).length := by
            rcases Nat.eq_zero_or_pos (chs s).length with h | h
            · exfalso
              have h5 := hst.ok
              have h6 := hst.path.st
              have hnil := List.length_eq_zero_iff.1 h
              rw [hkk, h] at h6
              rw [← h6] at h5
              simp [stAt, endsB] at h5
            · exact h
          rw [hkk] at hu
          obtain ⟨z1, z2⟩ := num_join hK ⟨hv.1, hv.2.1⟩ hl hne hu hKS hpat hnum
          exact ⟨z1, z2, by omega, by omega⟩
end Go.Proofs.Ytbkdaoicnobllaa
