import Derived.Test.YtbkdaoicnobllabGreatDoorG29

namespace Go.Proofs.YtbkdaoicnobllabGreatDoor
open Go.RowKit

set_option maxRecDepth 100000 in
set_option maxHeartbeats 1000000 in
theorem digitsM_any (b : Nat) (v : Value) (D : List Nat) (e : Int) (w : World) (h : DecAt w b v D e) :
    Calls Tryz.prog 93 #[.pointer (some ⟨b, 0, none⟩)] w fun r w' => ∃ v' : Value, r = .returned v' ∧ SomeS v' ∧ Own w' w.heap.size v' D ∧ Below w.heap.size w w' := by
  obtain ⟨g, off, cap, rfl, _, _, _, _⟩ := h.form
  have c0 := h.c0
  have hl := h.len
  have HX := hid (first_any b _ D e (D.length : Int) w h (by omega))
  rw [Int.toNat_natCast, firstL_take D _ (Nat.le_refl _), List.take_length] at HX
  obtain ⟨n, hn⟩ : ∃ n, n = D.length := ⟨_, rfl⟩
  rw [← hn] at c0 hl HX
  clear h hn
  go_enter Tryz.func93, Tryz.ntmps93
  go_wp2_with fail
  refine HX.out.mono ?_
  rintro r w1 ⟨v', rfl, hs, ho, hb⟩
  have HF := hid (And.intro hs (And.intro ho hb))
  clear hs ho hb HX
  go_wp2
  go_ret
  exact ⟨_, rfl, HF.out.1, HF.out.2.1, HF.out.2.2⟩
theorem with_short {f : Int} {a : Nat} {pw : Int} {D : List Nat} {e p : Int} {X : Nat} (h0 : 0 < a) (hp : pw + 2 = fE f + xA (fQ f) a) (hk : -(3000 : Int) ≤ pw)
    (h : WithAt (lowS (fQ f) a) (4 * mA (fQ f) a) (4 * mA (fQ f) a + 2) pw (decide (a % 2 = 0)) D e p X) : ShortAt f a D e p X := by
  have e1 := span_hold f a pw h0 hp hk
  have e2 := span_num f a pw hp hk
  have hv := h.val
  have hy := h.yes
  have hn := h.no
  rw [e2] at hv
  rw [e1, e2] at hy
  refine ⟨h.digs, h.headed, h.pos, by have := h.lo'; omega, hv, h.le, hy, fun q a1 a2 => ?_⟩
  have := hn q a1 a2
  rw [e1, e2] at this
  exact this
theorem short_fix (L : List Nat) (g : Int) (hl : L ≠ []) : fixW L L.length (-g) = shortT true L g := by
  unfold fixW shortT highN
  rw [if_pos rfl, if_neg hl, Int.neg_neg, show ((L.length : Int) - -g - 1).toNat = (max (g + L.length - 1) 0).toNat from by omega, show (-g).toNat = (-(min g 0)).toNat from by omega]
theorem short_exp (L : List Nat) (g : Int) (hl : L ≠ []) : expB L L.length ++ (101 :: Lib.itoa (g + L.length - 1)) = shortT false L g := by
  have h0 := List.length_pos_iff.2 hl
  unfold shortT
  rw [if_neg (by decide)]
  have := expB_rows L (g + L.length - 1) (L.length - 1) (by omega)
  rw [show L.length - 1 + 1 = L.length from by omega, show g + (L.length : Int) - 1 - L.length + 1 = g from by omega] at this
  rw [this]
theorem fixW_text2 (R : List Nat) (n : Nat) (pr : Int) (hn : n ≤ 1500) (h1 : -1000 ≤ pr) (h2 : pr ≤ 1500) : (fixW R n pr).length ≤ 5000 := by
  unfold fixW
  have := fixT_length R (-pr) ((n : Int) - pr - 1).toNat pr.toNat
  omega
theorem lowS_bounds (q a : Nat) (h : 0 < a) (hq : 1 ≤ q) : 0 < lowS q a ∧ lowS q a < 4 * mA q a := by
  have := mA_pos q a h
  unfold lowS
  have hp : 2 * 1 ≤ 2 ^ q := by
    obtain ⟨r, rfl⟩ : ∃ r, q = r + 1 := ⟨q - 1, by omega⟩
    rw [Nat.pow_succ]; have : 0 < 2 ^ r := Nat.pow_pos (by omega)
    omega
  split <;> omega
set_option maxRecDepth 100000 in
set_option maxHeartbeats 1000000 in
theorem shortText0v0 (a : Nat) (ha : (a : Int) < 31744) (w : World) (ht : Tab w) :
    Calls Tryz.prog 54 #[.int .i64 a, lay0, .int .i64 0] w fun r w' => TextPost w w' r (ShortQ false 0 a) := by
  have HTAB := hid ht
  clear ht
  by_cases h0 : a = 0
  · subst h0
    have HB : Hid (Below w.heap.size w (w.alloc (.cells #[.int .i64 10, .int .i64 15, .int .i64 1024, .int .i64 31744, .int .i64 32768] 63))) := (Below.refl _ _).alloc (Nat.le_refl _) _
    unfold lay0
    go_enter Tryz.func54, Tryz.ntmps54
    go_wp2
    go_ret
    exact ⟨[48], rfl, .inl ⟨rfl, rfl⟩, by simp, HB.out⟩
  · have h1 : 0 < a := by omega
    have hlb := lowS_bounds 10 a h1 (by omega)
    have hmp := mA_pos 10 a h1
    have hml := mA_lt 10 a
    rw [show (2 : Nat) ^ 10 = 1024 from by decide] at hml
    have hxb : (-24 : Int) + (xA 10 a : Nat) ≤ 1080 := by
      unfold xA; rw [show (2 : Nat) ^ 10 = 1024 from by decide]; omega
    obtain ⟨A, hA⟩ : ∃ A : Int, A = (a : Int) := ⟨_, rfl⟩
    have HSP := hid (fun w => span0 a h1 ha w)
    obtain ⟨pw, hpw⟩ : ∃ pw : Int, pw = -24 + (xA 10 a : Nat) - 2 := ⟨_, rfl⟩
    have HWI : Hid (∀ w : World, Calls Tryz.prog 92 #[.agg #[.int .i64 (lowS 10 a : Nat), .int .i64 (4 * mA 10 a : Nat), .int .i64 (4 * mA 10 a + 2 : Nat), .int .i64 pw, .bool (decide (a % 2 = 0))]] w fun r w' => WithPost w w' r (lowS 10 a) (4 * mA 10 a) (4 * mA 10 a + 2) pw (decide (a % 2 = 0))) := fun w =>
      within_any _ _ _ _ _ _ pw _ w rfl rfl rfl hlb.1 hlb.2 (by omega) (by omega) (by omega) (by omega)
    unfold SpanPost at HSP
    rw [← hpw, ← hA] at HSP
    have HWS : Hid (∀ (D : List Nat) (e p : Int) (X : Nat), WithAt (lowS 10 a) (4 * mA 10 a) (4 * mA 10 a + 2) pw (decide (a % 2 = 0)) D e p X → ShortAt 0 a D e p X) := fun D e p X h =>
      with_short (f := 0) (pw := pw) h1 (by rw [hpw]; show -24 + ((xA 10 a : Nat) : Int) - 2 + 2 = -24 + ((xA 10 a : Nat) : Int); omega) (by omega) h
    have hA0 : (A == 0) = false := by rw [beq_eq_false_iff_ne]; omega
    have hA1 : ¬ A = 0 := by omega
    have H1 := hid h1
    obtain ⟨x0, hx0⟩ : ∃ x : Int, x = (lowS 10 a : Nat) := ⟨_, rfl⟩
    obtain ⟨x1, hx1⟩ : ∃ x : Int, x = (4 * mA 10 a : Nat) := ⟨_, rfl⟩
    obtain ⟨x2, hx2⟩ : ∃ x : Int, x = (4 * mA 10 a + 2 : Nat) := ⟨_, rfl⟩
    obtain ⟨cl, hcl⟩ : ∃ c : Bool, c = decide (a % 2 = 0) := ⟨_, rfl⟩
    rw [← hx0, ← hx1, ← hx2, ← hcl] at HSP HWI
    rw [← hcl] at HWS
    rw [← hA]
    clear hx0 hx1 hx2 hcl hpw hA hlb hmp hml hxb ha h0 h1
    unfold lay0 at *
    go_enter Tryz.func54, Tryz.ntmps54
    go_wp2_with fail
    have HB : Hid (Below w.heap.size w (w.alloc (.cells #[.int .i64 10, .int .i64 15, .int .i64 1024, .int .i64 31744, .int .i64 32768] 63))) := (Below.refl _ _).alloc (Nat.le_refl _) _
    generalize (w.alloc (.cells #[.int .i64 10, .int .i64 15, .int .i64 1024, .int .i64 31744, .int .i64 32768] 63)) = W at *
    refine (HSP.out W).mono ?_
    rintro r w1 ⟨rfl, hb1⟩
    have HB1 : Hid (Below w.heap.size w w1) := HB.out.trans (hb1.mono HB.out.size)
    clear hb1 HSP HB
    go_wp2_with fail
    have HB2 : Hid (Below w.heap.size w (w1.alloc (.cells #[.int .i64 x0, .int .i64 x1, .int .i64 x2, .int .i64 pw, .bool cl] 125))) := HB1.out.alloc HB1.out.size _
    generalize w1.alloc (.cells #[.int .i64 x0, .int .i64 x1, .int .i64 x2, .int .i64 pw, .bool cl] 125) = W2 at *
    refine (HWI.out W2).mono ?_
    rintro r w3 ⟨b, rfl, v, D', e', hdec, hnorm, ⟨hg1, hg2⟩, ⟨D, e, p, hwa⟩, hb3⟩
    have HB3 : Hid (Below w.heap.size w w3) := HB2.out.trans (hb3.mono HB2.out.size)
    have HNE : Hid (D' ≠ []) := List.length_pos_iff.1 hdec.pos
    have HQ : Hid (ShortQ false 0 a (shortT false D' e')) := .inr ⟨H1.out, D, e, p, _, D', e', HWS.out D e p _ hwa, hnorm, HNE.out, by omega, rfl, rfl⟩
    have HNORM := hid hnorm
    have HDEC := hid hdec
    have hpos := hdec.pos
    clear hdec hnorm hwa hb3 HWI HWS HB1 HB2
    go_wp2_with fail
    refine (digitsM_any b v D' e' w3 HDEC.out).mono ?_
    rintro r w4 ⟨v4, rfl, ⟨g2, n2, cp2, rfl⟩, ho, hb4⟩
    have HO := hid ho
    have hn := ho.sliceLen.1
    have HN := hid hn
    have HB4 : Hid (Below w.heap.size w w4) := HB3.out.trans (hb4.mono HB3.out.size)
    have HDEC4 : Hid (DecAt w4 b v D' e') := HDEC.out.below hb4
    rw [hn] at hg2 hpos
    obtain ⟨T, hT0⟩ : ∃ T : Int, T = e' + n2 - 1 := ⟨_, rfl⟩
    have HT := hid hT0
    have hT1 : -2000 ≤ T := by omega
    have hT2 : T ≤ 2000 := by omega
    clear hT0
    clear ho hb4 hn HDEC HB3
    go_wp2_with fail
    have HFP : Hid (Calls Tryz.prog 96 #[.pointer (some ⟨b, 0, none⟩)] w4 fun r w' => r = .returned (.int .i64 T) ∧ Still w4 w') := by
      unfold Hid; rw [HT.out, ← HN.out]; exact firstPower_any b v D' e' w4 HDEC4.out
    refine HFP.out.mono ?_
    rintro r w5 ⟨rfl, hs5⟩
    have HB5 : Hid (Below w.heap.size w w5) := HB4.out.trans (hs5.below _)
    have HWX := hid (wexp_cut g2 n2 cp2 n2 D' T _ w5 (HTAB.out.below HB5.out) (HO.out.below (hs5.below w4.heap.size) (Nat.le_refl _)) (Nat.le_refl _) (by omega) (by omega) HNORM.out.digs (by omega) (by omega))
    rw [show D'.take n2 = D' from List.take_of_length_le (by rw [HN.out]; exact Nat.le_refl _)] at HWX
    clear hs5 HFP
    go_wp2_with fail
    refine HWX.out.mono ?_
    rintro r w6 ⟨rfl, hb6⟩
    have HB6 : Hid (Below w.heap.size w w6) := HB5.out.trans (hb6.mono HB5.out.size)
    have HTX : Hid (expB D' n2 ++ (101 :: Lib.itoa T) = shortT false D' e') := by unfold Hid; rw [HT.out, ← HN.out]; exact short_exp D' e' HNE.out
    have HLEN : Hid ((expB D' n2 ++ (101 :: Lib.itoa T)).length ≤ 5000) := expB_text _ _ _ (by omega) (by omega) (by omega)
    clear hb6 HWX
    go_wp2
    go_ret
    exact ⟨_, rfl, by rw [HTX.out]; exact HQ.out, HLEN.out, HB6.out⟩
set_option maxRecDepth 100000 in
set_option maxHeartbeats 1000000 in
theorem shortText0v1 (a : Nat) (ha : (a : Int) < 31744) (w : World) (ht : Tab w) :
    Calls Tryz.prog 54 #[.int .i64 a, lay0, .int .i64 1] w fun r w' => TextPost w w' r (ShortQ true 0 a) := by
  have HTAB := hid ht
  clear ht
  by_cases h0 : a = 0
  · subst h0
    have HB : Hid (Below w.heap.size w (w.alloc (.cells #[.int .i64 10, .int .i64 15, .int .i64 1024, .int .i64 31744, .int .i64 32768] 63))) := (Below.refl _ _).alloc (Nat.le_refl _) _
    unfold lay0
    go_enter Tryz.func54, Tryz.ntmps54
    go_wp2
    go_ret
    exact ⟨[48], rfl, .inl ⟨rfl, rfl⟩, by simp, HB.out⟩
  · have h1 : 0 < a := by omega
    have hlb := lowS_bounds 10 a h1 (by omega)
    have hmp := mA_pos 10 a h1
    have hml := mA_lt 10 a
    rw [show (2 : Nat) ^ 10 = 1024 from by decide] at hml
    have hxb : (-24 : Int) + (xA 10 a : Nat) ≤ 1080 := by
      unfold xA; rw [show (2 : Nat) ^ 10 = 1024 from by decide]; omega
    obtain ⟨A, hA⟩ : ∃ A : Int, A = (a : Int) := ⟨_, rfl⟩
    have HSP := hid (fun w => span0 a h1 ha w)
    obtain ⟨pw, hpw⟩ : ∃ pw : Int, pw = -24 + (xA 10 a : Nat) - 2 := ⟨_, rfl⟩
    have HWI : Hid (∀ w : World, Calls Tryz.prog 92 #[.agg #[.int .i64 (lowS 10 a : Nat), .int .i64 (4 * mA 10 a : Nat), .int .i64 (4 * mA 10 a + 2 : Nat), .int .i64 pw, .bool (decide (a % 2 = 0))]] w fun r w' => WithPost w w' r (lowS 10 a) (4 * mA 10 a) (4 * mA 10 a + 2) pw (decide (a % 2 = 0))) := fun w =>
      within_any _ _ _ _ _ _ pw _ w rfl rfl rfl hlb.1 hlb.2 (by omega) (by omega) (by omega) (by omega)
    unfold SpanPost at HSP
    rw [← hpw, ← hA] at HSP
    have HWS : Hid (∀ (D : List Nat) (e p : Int) (X : Nat), WithAt (lowS 10 a) (4 * mA 10 a) (4 * mA 10 a + 2) pw (decide (a % 2 = 0)) D e p X → ShortAt 0 a D e p X) := fun D e p X h =>
      with_short (f := 0) (pw := pw) h1 (by rw [hpw]; show -24 + ((xA 10 a : Nat) : Int) - 2 + 2 = -24 + ((xA 10 a : Nat) : Int); omega) (by omega) h
    have hA0 : (A == 0) = false := by rw [beq_eq_false_iff_ne]; omega
    have hA1 : ¬ A = 0 := by omega
    have H1 := hid h1
    obtain ⟨x0, hx0⟩ : ∃ x : Int, x = (lowS 10 a : Nat) := ⟨_, rfl⟩
    obtain ⟨x1, hx1⟩ : ∃ x : Int, x = (4 * mA 10 a : Nat) := ⟨_, rfl⟩
    obtain ⟨x2, hx2⟩ : ∃ x : Int, x = (4 * mA 10 a + 2 : Nat) := ⟨_, rfl⟩
    obtain ⟨cl, hcl⟩ : ∃ c : Bool, c = decide (a % 2 = 0) := ⟨_, rfl⟩
    rw [← hx0, ← hx1, ← hx2, ← hcl] at HSP HWI
    rw [← hcl] at HWS
    rw [← hA]
    clear hx0 hx1 hx2 hcl hpw hA hlb hmp hml hxb ha h0 h1
    unfold lay0 at *
    go_enter Tryz.func54, Tryz.ntmps54
    go_wp2_with fail
    have HB : Hid (Below w.heap.size w (w.alloc (.cells #[.int .i64 10, .int .i64 15, .int .i64 1024, .int .i64 31744, .int .i64 32768] 63))) := (Below.refl _ _).alloc (Nat.le_refl _) _
    generalize (w.alloc (.cells #[.int .i64 10, .int .i64 15, .int .i64 1024, .int .i64 31744, .int .i64 32768] 63)) = W at *
    refine (HSP.out W).mono ?_
    rintro r w1 ⟨rfl, hb1⟩
    have HB1 : Hid (Below w.heap.size w w1) := HB.out.trans (hb1.mono HB.out.size)
    clear hb1 HSP HB
    go_wp2_with fail
    have HB2 : Hid (Below w.heap.size w (w1.alloc (.cells #[.int .i64 x0, .int .i64 x1, .int .i64 x2, .int .i64 pw, .bool cl] 125))) := HB1.out.alloc HB1.out.size _
    generalize w1.alloc (.cells #[.int .i64 x0, .int .i64 x1, .int .i64 x2, .int .i64 pw, .bool cl] 125) = W2 at *
    refine (HWI.out W2).mono ?_
    rintro r w3 ⟨b, rfl, v, D', e', hdec, hnorm, ⟨hg1, hg2⟩, ⟨D, e, p, hwa⟩, hb3⟩
    have HB3 : Hid (Below w.heap.size w w3) := HB2.out.trans (hb3.mono HB2.out.size)
    have HNE : Hid (D' ≠ []) := List.length_pos_iff.1 hdec.pos
    have HQ : Hid (ShortQ true 0 a (shortT true D' e')) := .inr ⟨H1.out, D, e, p, _, D', e', HWS.out D e p _ hwa, hnorm, HNE.out, by omega, rfl, rfl⟩
    have HNORM := hid hnorm
    have HDEC := hid hdec
    have hpos := hdec.pos
    clear hdec hnorm hwa hb3 HWI HWS HB1 HB2
    go_wp2_with fail
    refine (digitsM_any b v D' e' w3 HDEC.out).mono ?_
    rintro r w4 ⟨v4, rfl, ⟨g2, n2, cp2, rfl⟩, ho, hb4⟩
    have HO := hid ho
    have hn := ho.sliceLen.1
    have HN := hid hn
    have HB4 : Hid (Below w.heap.size w w4) := HB3.out.trans (hb4.mono HB3.out.size)
    have HDEC4 : Hid (DecAt w4 b v D' e') := HDEC.out.below hb4
    rw [hn] at hg2 hpos
    obtain ⟨N, hN⟩ : ∃ N : Int, -e' = N := ⟨_, rfl⟩
    clear ho hb4 hn HDEC HB3
    go_wp2_with fail
    refine (lastPower_any b v D' e' w4 HDEC4.out).mono ?_
    rintro r w5 ⟨rfl, rfl⟩
    have HWX := hid (wfix_own g2 n2 cp2 D' N _ w5 HO.out (by omega) HNORM.out.digs (by omega) (by omega))
    go_wp2_with fail
    refine HWX.out.mono ?_
    rintro r w6 ⟨rfl, hb6⟩
    have HB6 : Hid (Below w.heap.size w w6) := HB4.out.trans (hb6.mono HB4.out.size)
    have HTX : Hid (fixW D' n2 N = shortT true D' e') := by unfold Hid; rw [← HN.out, ← hN]; exact short_fix D' e' HNE.out
    have HLEN : Hid ((fixW D' n2 N).length ≤ 5000) := fixW_text2 _ _ _ (by omega) (by omega) (by omega)
    clear hb6 HWX hN
    go_wp2
    go_ret
    exact ⟨_, rfl, by rw [HTX.out]; exact HQ.out, HLEN.out, HB6.out⟩
set_option maxRecDepth 100000 in
set_option maxHeartbeats 1000000 in
theorem shortText1v0 (a : Nat) (ha : (a : Int) < 2139095040) (w : World) (ht : Tab w) :
    Calls Tryz.prog 54 #[.int .i64 a, lay1, .int .i64 0] w fun r w' => TextPost w w' r (ShortQ false 1 a) := by
  have HTAB := hid ht
  clear ht
  by_cases h0 : a = 0
  · subst h0
    have HB : Hid (Below w.heap.size w (w.alloc (.cells #[.int .i64 23, .int .i64 127, .int .i64 8388608, .int .i64 2139095040, .int .i64 2147483648] 63))) := (Below.refl _ _).alloc (Nat.le_refl _) _
    unfold lay1
    go_enter Tryz.func54, Tryz.ntmps54
    go_wp2
    go_ret
    exact ⟨[48], rfl, .inl ⟨rfl, rfl⟩, by simp, HB.out⟩
  · have h1 : 0 < a := by omega
    have hlb := lowS_bounds 23 a h1 (by omega)
    have hmp := mA_pos 23 a h1
    have hml := mA_lt 23 a
    rw [show (2 : Nat) ^ 23 = 8388608 from by decide] at hml
    have hxb : (-149 : Int) + (xA 23 a : Nat) ≤ 1080 := by
      unfold xA; rw [show (2 : Nat) ^ 23 = 8388608 from by decide]; omega
    obtain ⟨A, hA⟩ : ∃ A : Int, A = (a : Int) := ⟨_, rfl⟩
    have HSP := hid (fun w => span1 a h1 ha w)
    obtain ⟨pw, hpw⟩ : ∃ pw : Int, pw = -149 + (xA 23 a : Nat) - 2 := ⟨_, rfl⟩
    have HWI : Hid (∀ w : World, Calls Tryz.prog 92 #[.agg #[.int .i64 (lowS 23 a : Nat), .int .i64 (4 * mA 23 a : Nat), .int .i64 (4 * mA 23 a + 2 : Nat), .int .i64 pw, .bool (decide (a % 2 = 0))]] w fun r w' => WithPost w w' r (lowS 23 a) (4 * mA 23 a) (4 * mA 23 a + 2) pw (decide (a % 2 = 0))) := fun w =>
      within_any _ _ _ _ _ _ pw _ w rfl rfl rfl hlb.1 hlb.2 (by omega) (by omega) (by omega) (by omega)
    unfold SpanPost at HSP
    rw [← hpw, ← hA] at HSP
    have HWS : Hid (∀ (D : List Nat) (e p : Int) (X : Nat), WithAt (lowS 23 a) (4 * mA 23 a) (4 * mA 23 a + 2) pw (decide (a % 2 = 0)) D e p X → ShortAt 1 a D e p X) := fun D e p X h =>
      with_short (f := 1) (pw := pw) h1 (by rw [hpw]; show -149 + ((xA 23 a : Nat) : Int) - 2 + 2 = -149 + ((xA 23 a : Nat) : Int); omega) (by omega) h
    have hA0 : (A == 0) = false := by rw [beq_eq_false_iff_ne]; omega
    have hA1 : ¬ A = 0 := by omega
    have H1 := hid h1
    obtain ⟨x0, hx0⟩ : ∃ x : Int, x = (lowS 23 a : Nat) := ⟨_, rfl⟩
    obtain ⟨x1, hx1⟩ : ∃ x : Int, x = (4 * mA 23 a : Nat) := ⟨_, rfl⟩
    obtain ⟨x2, hx2⟩ : ∃ x : Int, x = (4 * mA 23 a + 2 : Nat) := ⟨_, rfl⟩
    obtain ⟨cl, hcl⟩ : ∃ c : Bool, c = decide (a % 2 = 0) := ⟨_, rfl⟩
    rw [← hx0, ← hx1, ← hx2, ← hcl] at HSP HWI
    rw [← hcl] at HWS
    rw [← hA]
    clear hx0 hx1 hx2 hcl hpw hA hlb hmp hml hxb ha h0 h1
    unfold lay1 at *
    go_enter Tryz.func54, Tryz.ntmps54
    go_wp2_with fail
    have HB : Hid (Below w.heap.size w (w.alloc (.cells #[.int .i64 23, .int .i64 127, .int .i64 8388608, .int .i64 2139095040, .int .i64 2147483648] 63))) := (Below.refl _ _).alloc (Nat.le_refl _) _
    generalize (w.alloc (.cells #[.int .i64 23, .int .i64 127, .int .i64 8388608, .int .i64 2139095040, .int .i64 2147483648] 63)) = W at *
    refine (HSP.out W).mono ?_
    rintro r w1 ⟨rfl, hb1⟩
    have HB1 : Hid (Below w.heap.size w w1) := HB.out.trans (hb1.mono HB.out.size)
    clear hb1 HSP HB
    go_wp2_with fail
    have HB2 : Hid (Below w.heap.size w (w1.alloc (.cells #[.int .i64 x0, .int .i64 x1, .int .i64 x2, .int .i64 pw, .bool cl] 125))) := HB1.out.alloc HB1.out.size _
    generalize w1.alloc (.cells #[.int .i64 x0, .int .i64 x1, .int .i64 x2, .int .i64 pw, .bool cl] 125) = W2 at *
    refine (HWI.out W2).mono ?_
    rintro r w3 ⟨b, rfl, v, D', e', hdec, hnorm, ⟨hg1, hg2⟩, ⟨D, e, p, hwa⟩, hb3⟩
    have HB3 : Hid (Below w.heap.size w w3) := HB2.out.trans (hb3.mono HB2.out.size)
    have HNE : Hid (D' ≠ []) := List.length_pos_iff.1 hdec.pos
    have HQ : Hid (ShortQ false 1 a (shortT false D' e')) := .inr ⟨H1.out, D, e, p, _, D', e', HWS.out D e p _ hwa, hnorm, HNE.out, by omega, rfl, rfl⟩
    have HNORM := hid hnorm
    have HDEC := hid hdec
    have hpos := hdec.pos
    clear hdec hnorm hwa hb3 HWI HWS HB1 HB2
    go_wp2_with fail
    refine (digitsM_any b v D' e' w3 HDEC.out).mono ?_
    rintro r w4 ⟨v4, rfl, ⟨g2, n2, cp2, rfl⟩, ho, hb4⟩
    have HO := hid ho
    have hn := ho.sliceLen.1
    have HN := hid hn
    have HB4 : Hid (Below w.heap.size w w4) := HB3.out.trans (hb4.mono HB3.out.size)
    have HDEC4 : Hid (DecAt w4 b v D' e') := HDEC.out.below hb4
    rw [hn] at hg2 hpos
    obtain ⟨T, hT0⟩ : ∃ T : Int, T = e' + n2 - 1 := ⟨_, rfl⟩
    have HT := hid hT0
    have hT1 : -2000 ≤ T := by omega
    have hT2 : T ≤ 2000 := by omega
    clear hT0
    clear ho hb4 hn HDEC HB3
    go_wp2_with fail
    have HFP : Hid (Calls Tryz.prog 96 #[.pointer (some ⟨b, 0, none⟩)] w4 fun r w' => r = .returned (.int .i64 T) ∧ Still w4 w') := by
      unfold Hid; rw [HT.out, ← HN.out]; exact firstPower_any b v D' e' w4 HDEC4.out
    refine HFP.out.mono ?_
    rintro r w5 ⟨rfl, hs5⟩
    have HB5 : Hid (Below w.heap.size w w5) := HB4.out.trans (hs5.below _)
    have HWX := hid (wexp_cut g2 n2 cp2 n2 D' T _ w5 (HTAB.out.below HB5.out) (HO.out.below (hs5.below w4.heap.size) (Nat.le_refl _)) (Nat.le_refl _) (by omega) (by omega) HNORM.out.digs (by omega) (by omega))
    rw [show D'.take n2 = D' from List.take_of_length_le (by rw [HN.out]; exact Nat.le_refl _)] at HWX
    clear hs5 HFP
    go_wp2_with fail
    refine HWX.out.mono ?_
    rintro r w6 ⟨rfl, hb6⟩
    have HB6 : Hid (Below w.heap.size w w6) := HB5.out.trans (hb6.mono HB5.out.size)
    have HTX : Hid (expB D' n2 ++ (101 :: Lib.itoa T) = shortT false D' e') := by unfold Hid; rw [HT.out, ← HN.out]; exact short_exp D' e' HNE.out
    have HLEN : Hid ((expB D' n2 ++ (101 :: Lib.itoa T)).length ≤ 5000) := expB_text _ _ _ (by omega) (by omega) (by omega)
    clear hb6 HWX
    go_wp2
    go_ret
    exact ⟨_, rfl, by rw [HTX.out]; exact HQ.out, HLEN.out, HB6.out⟩
set_option maxRecDepth 100000 in
set_option maxHeartbeats 1000000 in
theorem shortText1v1 (a : Nat) (ha : (a : Int) < 2139095040) (w : World) (ht : Tab w) :
    Calls Tryz.prog 54 #[.int .i64 a, lay1, .int .i64 1] w fun r w' => TextPost w w' r (ShortQ true 1 a) := by
  have HTAB := hid ht
  clear ht
  by_cases h0 : a = 0
  · subst h0
    have HB : Hid (Below w.heap.size w (w.alloc (.cells #[.int .i64 23, .int .i64 127, .int .i64 8388608, .int .i64 2139095040, .int .i64 2147483648] 63))) := (Below.refl _ _).alloc (Nat.le_refl _) _
    unfold lay1
    go_enter Tryz.func54, Tryz.ntmps54
    go_wp2
    go_ret
    exact ⟨[48], rfl, .inl ⟨rfl, rfl⟩, by simp, HB.out⟩
  · have h1 : 0 < a := by omega
    have hlb := lowS_bounds 23 a h1 (by omega)
    have hmp := mA_pos 23 a h1
    have hml := mA_lt 23 a
    rw [show (2 : Nat) ^ 23 = 8388608 from by decide] at hml
    have hxb : (-149 : Int) + (xA 23 a : Nat) ≤ 1080 := by
      unfold xA; rw [show (2 : Nat) ^ 23 = 8388608 from by decide]; omega
    obtain ⟨A, hA⟩ : ∃ A : Int, A = (a : Int) := ⟨_, rfl⟩
    have HSP := hid (fun w => span1 a h1 ha w)
    obtain ⟨pw, hpw⟩ : ∃ pw : Int, pw = -149 + (xA 23 a : Nat) - 2 := ⟨_, rfl⟩
    have HWI : Hid (∀ w : World, Calls Tryz.prog 92 #[.agg #[.int .i64 (lowS 23 a : Nat), .int .i64 (4 * mA 23 a : Nat), .int .i64 (4 * mA 23 a + 2 : Nat), .int .i64 pw, .bool (decide (a % 2 = 0))]] w fun r w' => WithPost w w' r (lowS 23 a) (4 * mA 23 a) (4 * mA 23 a + 2) pw (decide (a % 2 = 0))) := fun w =>
      within_any _ _ _ _ _ _ pw _ w rfl rfl rfl hlb.1 hlb.2 (by omega) (by omega) (by omega) (by omega)
    unfold SpanPost at HSP
    rw [← hpw, ← hA] at HSP
    have HWS : Hid (∀ (D : List Nat) (e p : Int) (X : Nat), WithAt (lowS 23 a) (4 * mA 23 a) (4 * mA 23 a + 2) pw (decide (a % 2 = 0)) D e p X → ShortAt 1 a D e p X) := fun D e p X h =>
      with_short (f := 1) (pw := pw) h1 (by rw [hpw]; show -149 + ((xA 23 a : Nat) : Int) - 2 + 2 = -149 + ((xA 23 a : Nat) : Int); omega) (by omega) h
    have hA0 : (A == 0) = false := by rw [beq_eq_false_iff_ne]; omega
    have hA1 : ¬ A = 0 := by omega
    have H1 := hid h1
    obtain ⟨x0, hx0⟩ : ∃ x : Int, x = (lowS 23 a : Nat) := ⟨_, rfl⟩
    obtain ⟨x1, hx1⟩ : ∃ x : Int, x = (4 * mA 23 a : Nat) := ⟨_, rfl⟩
    obtain ⟨x2, hx2⟩ : ∃ x : Int, x = (4 * mA 23 a + 2 : Nat) := ⟨_, rfl⟩
    obtain ⟨cl, hcl⟩ : ∃ c : Bool, c = decide (a % 2 = 0) := ⟨_, rfl⟩
    rw [← hx0, ← hx1, ← hx2, ← hcl] at HSP HWI
    rw [← hcl] at HWS
    rw [← hA]
    clear hx0 hx1 hx2 hcl hpw hA hlb hmp hml hxb ha h0 h1
    unfold lay1 at *
    go_enter Tryz.func54, Tryz.ntmps54
    go_wp2_with fail
    have HB : Hid (Below w.heap.size w (w.alloc (.cells #[.int .i64 23, .int .i64 127, .int .i64 8388608, .int .i64 2139095040, .int .i64 2147483648] 63))) := (Below.refl _ _).alloc (Nat.le_refl _) _
    generalize (w.alloc (.cells #[.int .i64 23, .int .i64 127, .int .i64 8388608, .int .i64 2139095040, .int .i64 2147483648] 63)) = W at *
    refine (HSP.out W).mono ?_
    rintro r w1 ⟨rfl, hb1⟩
    have HB1 : Hid (Below w.heap.size w w1) := HB.out.trans (hb1.mono HB.out.size)
    clear hb1 HSP HB
    go_wp2_with fail
    have HB2 : Hid (Below w.heap.size w (w1.alloc (.cells #[.int .i64 x0, .int .i64 x1, .int .i64 x2, .int .i64 pw, .bool cl] 125))) := HB1.out.alloc HB1.out.size _
    generalize w1.alloc (.cells #[.int .i64 x0, .int .i64 x1, .int .i64 x2, .int .i64 pw, .bool cl] 125) = W2 at *
    refine (HWI.out W2).mono ?_
    rintro r w3 ⟨b, rfl, v, D', e', hdec, hnorm, ⟨hg1, hg2⟩, ⟨D, e, p, hwa⟩, hb3⟩
    have HB3 : Hid (Below w.heap.size w w3) := HB2.out.trans (hb3.mono HB2.out.size)
    have HNE : Hid (D' ≠ []) := List.length_pos_iff.1 hdec.pos
    have HQ : Hid (ShortQ true 1 a (shortT true D' e')) := .inr ⟨H1.out, D, e, p, _, D', e', HWS.out D e p _ hwa, hnorm, HNE.out, by omega, rfl, rfl⟩
    have HNORM := hid hnorm
    have HDEC := hid hdec
    have hpos := hdec.pos
    clear hdec hnorm hwa hb3 HWI HWS HB1 HB2
    go_wp2_with fail
    refine (digitsM_any b v D' e' w3 HDEC.out).mono ?_
    rintro r w4 ⟨v4, rfl, ⟨g2, n2, cp2, rfl⟩, ho, hb4⟩
    have HO := hid ho
    have hn := ho.sliceLen.1
    have HN := hid hn
    have HB4 : Hid (Below w.heap.size w w4) := HB3.out.trans (hb4.mono HB3.out.size)
    have HDEC4 : Hid (DecAt w4 b v D' e') := HDEC.out.below hb4
    rw [hn] at hg2 hpos
    obtain ⟨N, hN⟩ : ∃ N : Int, -e' = N := ⟨_, rfl⟩
    clear ho hb4 hn HDEC HB3
    go_wp2_with fail
    refine (lastPower_any b v D' e' w4 HDEC4.out).mono ?_
    rintro r w5 ⟨rfl, rfl⟩
    have HWX := hid (wfix_own g2 n2 cp2 D' N _ w5 HO.out (by omega) HNORM.out.digs (by omega) (by omega))
    go_wp2_with fail
    refine HWX.out.mono ?_
    rintro r w6 ⟨rfl, hb6⟩
    have HB6 : Hid (Below w.heap.size w w6) := HB4.out.trans (hb6.mono HB4.out.size)
    have HTX : Hid (fixW D' n2 N = shortT true D' e') := by unfold Hid; rw [← HN.out, ← hN]; exact short_fix D' e' HNE.out
    have HLEN : Hid ((fixW D' n2 N).length ≤ 5000) := fixW_text2 _ _ _ (by omega) (by omega) (by omega)
    clear hb6 HWX hN
    go_wp2
    go_ret
    exact ⟨_, rfl, by rw [HTX.out]; exact HQ.out, HLEN.out, HB6.out⟩
set_option maxRecDepth 100000 in
set_option maxHeartbeats 1000000 in
theorem shortText2v0 (a : Nat) (ha : (a : Int) < 9218868437227405312) (w : World) (ht : Tab w) :
    Calls Tryz.prog 54 #[.int .i64 a, lay2, .int .i64 0] w fun r w' => TextPost w w' r (ShortQ false 2 a) := by
  have HTAB := hid ht
  clear ht
  by_cases h0 : a = 0
  · subst h0
    have HB : Hid (Below w.heap.size w (w.alloc (.cells #[.int .i64 52, .int .i64 1023, .int .i64 4503599627370496, .int .i64 9218868437227405312, .int .i64 (-9223372036854775808)] 63))) := (Below.refl _ _).alloc (Nat.le_refl _) _
    unfold lay2
    go_enter Tryz.func54, Tryz.ntmps54
    go_wp2
    go_ret
    exact ⟨[48], rfl, .inl ⟨rfl, rfl⟩, by simp, HB.out⟩
  · have h1 : 0 < a := by omega
    have hlb := lowS_bounds 52 a h1 (by omega)
    have hmp := mA_pos 52 a h1
    have hml := mA_lt 52 a
    rw [show (2 : Nat) ^ 52 = 4503599627370496 from by decide] at hml
    have hxb : (-1074 : Int) + (xA 52 a : Nat) ≤ 1080 := by
      unfold xA; rw [show (2 : Nat) ^ 52 = 4503599627370496 from by decide]; omega
    obtain ⟨A, hA⟩ : ∃ A : Int, A = (a : Int) := ⟨_, rfl⟩
    have HSP := hid (fun w => span2 a h1 ha w)
    obtain ⟨pw, hpw⟩ : ∃ pw : Int, pw = -1074 + (xA 52 a : Nat) - 2 := ⟨_, rfl⟩
    have HWI : Hid (∀ w : World, Calls Tryz.prog 92 #[.agg #[.int .i64 (lowS 52 a : Nat), .int .i64 (4 * mA 52 a : Nat), .int .i64 (4 * mA 52 a + 2 : Nat), .int .i64 pw, .bool (decide (a % 2 = 0))]] w fun r w' => WithPost w w' r (lowS 52 a) (4 * mA 52 a) (4 * mA 52 a + 2) pw (decide (a % 2 = 0))) := fun w =>
      within_any _ _ _ _ _ _ pw _ w rfl rfl rfl hlb.1 hlb.2 (by omega) (by omega) (by omega) (by omega)
    unfold SpanPost at HSP
    rw [← hpw, ← hA] at HSP
    have HWS : Hid (∀ (D : List Nat) (e p : Int) (X : Nat), WithAt (lowS 52 a) (4 * mA 52 a) (4 * mA 52 a + 2) pw (decide (a % 2 = 0)) D e p X → ShortAt 2 a D e p X) := fun D e p X h =>
      with_short (f := 2) (pw := pw) h1 (by rw [hpw]; show -1074 + ((xA 52 a : Nat) : Int) - 2 + 2 = -1074 + ((xA 52 a : Nat) : Int); omega) (by omega) h
    have hA0 : (A == 0) = false := by rw [beq_eq_false_iff_ne]; omega
    have hA1 : ¬ A = 0 := by omega
    have H1 := hid h1
    obtain ⟨x0, hx0⟩ : ∃ x : Int, x = (lowS 52 a : Nat) := ⟨_, rfl⟩
    obtain ⟨x1, hx1⟩ : ∃ x : Int, x = (4 * mA 52 a : Nat) := ⟨_, rfl⟩
    obtain ⟨x2, hx2⟩ : ∃ x : Int, x = (4 * mA 52 a + 2 : Nat) := ⟨_, rfl⟩
    obtain ⟨cl, hcl⟩ : ∃ c : Bool, c = decide (a % 2 = 0) := ⟨_, rfl⟩
    rw [← hx0, ← hx1, ← hx2, ← hcl] at HSP HWI
    rw [← hcl] at HWS
    rw [← hA]
    clear hx0 hx1 hx2 hcl hpw hA hlb hmp hml hxb ha h0 h1
    unfold lay2 at *
    go_enter Tryz.func54, Tryz.ntmps54
    go_wp2_with fail
    have HB : Hid (Below w.heap.size w (w.alloc (.cells #[.int .i64 52, .int .i64 1023, .int .i64 4503599627370496, .int .i64 9218868437227405312, .int .i64 (-9223372036854775808)] 63))) := (Below.refl _ _).alloc (Nat.le_refl _) _
    generalize (w.alloc (.cells #[.int .i64 52, .int .i64 1023, .int .i64 4503599627370496, .int .i64 9218868437227405312, .int .i64 (-9223372036854775808)] 63)) = W at *
    refine (HSP.out W).mono ?_
    rintro r w1 ⟨rfl, hb1⟩
    have HB1 : Hid (Below w.heap.size w w1) := HB.out.trans (hb1.mono HB.out.size)
    clear hb1 HSP HB
    go_wp2_with fail
    have HB2 : Hid (Below w.heap.size w (w1.alloc (.cells #[.int .i64 x0, .int .i64 x1, .int .i64 x2, .int .i64 pw, .bool cl] 125))) := HB1.out.alloc HB1.out.size _
    generalize w1.alloc (.cells #[.int .i64 x0, .int .i64 x1, .int .i64 x2, .int .i64 pw, .bool cl] 125) = W2 at *
    refine (HWI.out W2).mono ?_
    rintro r w3 ⟨b, rfl, v, D', e', hdec, hnorm, ⟨hg1, hg2⟩, ⟨D, e, p, hwa⟩, hb3⟩
    have HB3 : Hid (Below w.heap.size w w3) := HB2.out.trans (hb3.mono HB2.out.size)
    have HNE : Hid (D' ≠ []) := List.length_pos_iff.1 hdec.pos
    have HQ : Hid (ShortQ false 2 a (shortT false D' e')) := .inr ⟨H1.out, D, e, p, _, D', e', HWS.out D e p _ hwa, hnorm, HNE.out, by omega, rfl, rfl⟩
    have HNORM := hid hnorm
    have HDEC := hid hdec
    have hpos := hdec.pos
    clear hdec hnorm hwa hb3 HWI HWS HB1 HB2
    go_wp2_with fail
    refine (digitsM_any b v D' e' w3 HDEC.out).mono ?_
    rintro r w4 ⟨v4, rfl, ⟨g2, n2, cp2, rfl⟩, ho, hb4⟩
    have HO := hid ho
    have hn := ho.sliceLen.1
    have HN := hid hn
    have HB4 : Hid (Below w.heap.size w w4) := HB3.out.trans (hb4.mono HB3.out.size)
    have HDEC4 : Hid (DecAt w4 b v D' e') := HDEC.out.below hb4
    rw [hn] at hg2 hpos
    obtain ⟨T, hT0⟩ : ∃ T : Int, T = e' + n2 - 1 := ⟨_, rfl⟩
    have HT := hid hT0
    have hT1 : -2000 ≤ T := by omega
    have hT2 : T ≤ 2000 := by omega
    clear hT0
    clear ho hb4 hn HDEC HB3
    go_wp2_with fail
    have HFP : Hid (Calls Tryz.prog 96 #[.pointer (some ⟨b, 0, none⟩)] w4 fun r w' => r = .returned (.int .i64 T) ∧ Still w4 w') := by
      unfold Hid; rw [HT.out, ← HN.out]; exact firstPower_any b v D' e' w4 HDEC4.out
    refine HFP.out.mono ?_
    rintro r w5 ⟨rfl, hs5⟩
    have HB5 : Hid (Below w.heap.size w w5) := HB4.out.trans (hs5.below _)
    have HWX := hid (wexp_cut g2 n2 cp2 n2 D' T _ w5 (HTAB.out.below HB5.out) (HO.out.below (hs5.below w4.heap.size) (Nat.le_refl _)) (Nat.le_refl _) (by omega) (by omega) HNORM.out.digs (by omega) (by omega))
    rw [show D'.take n2 = D' from List.take_of_length_le (by rw [HN.out]; exact Nat.le_refl _)] at HWX
    clear hs5 HFP
    go_wp2_with fail
    refine HWX.out.mono ?_
    rintro r w6 ⟨rfl, hb6⟩
    have HB6 : Hid (Below w.heap.size w w6) := HB5.out.trans (hb6.mono HB5.out.size)
    have HTX : Hid (expB D' n2 ++ (101 :: Lib.itoa T) = shortT false D' e') := by unfold Hid; rw [HT.out, ← HN.out]; exact short_exp D' e' HNE.out
    have HLEN : Hid ((expB D' n2 ++ (101 :: Lib.itoa T)).length ≤ 5000) := expB_text _ _ _ (by omega) (by omega) (by omega)
    clear hb6 HWX
    go_wp2
    go_ret
    exact ⟨_, rfl, by rw [HTX.out]; exact HQ.out, HLEN.out, HB6.out⟩
set_option maxRecDepth 100000 in
set_option maxHeartbeats 1000000 in
theorem shortText2v1 (a : Nat) (ha : (a : Int) < 9218868437227405312) (w : World) (ht : Tab w) :
    Calls Tryz.prog 54 #[.int .i64 a, lay2, .int .i64 1] w fun r w' => TextPost w w' r (ShortQ true 2 a) := by
  have HTAB := hid ht
  clear ht
  by_cases h0 : a = 0
  · subst h0
    have HB : Hid (Below w.heap.size w (w.alloc (.cells #[.int .i64 52, .int .i64 1023, .int .i64 4503599627370496, .int .i64 9218868437227405312, .int .i64 (-9223372036854775808)] 63))) := (Below.refl _ _).alloc (Nat.le_refl _) _
    unfold lay2
    go_enter Tryz.func54, Tryz.ntmps54
    go_wp2
    go_ret
    exact ⟨[48], rfl, .inl ⟨rfl, rfl⟩, by simp, HB.out⟩
  · have h1 : 0 < a := by omega
    have hlb := lowS_bounds 52 a h1 (by omega)
    have hmp := mA_pos 52 a h1
    have hml := mA_lt 52 a
    rw [show (2 : Nat) ^ 52 = 4503599627370496 from by decide] at hml
    have hxb : (-1074 : Int) + (xA 52 a : Nat) ≤ 1080 := by
      unfold xA; rw [show (2 : Nat) ^ 52 = 4503599627370496 from by decide]; omega
    obtain ⟨A, hA⟩ : ∃ A : Int, A = (a : Int) := ⟨_, rfl⟩
    have HSP := hid (fun w => span2 a h1 ha w)
    obtain ⟨pw, hpw⟩ : ∃ pw : Int, pw = -1074 + (xA 52 a : Nat) - 2 := ⟨_, rfl⟩
    have HWI : Hid (∀ w : World, Calls Tryz.prog 92 #[.agg #[.int .i64 (lowS 52 a : Nat), .int .i64 (4 * mA 52 a : Nat), .int .i64 (4 * mA 52 a + 2 : Nat), .int .i64 pw, .bool (decide (a % 2 = 0))]] w fun r w' => WithPost w w' r (lowS 52 a) (4 * mA 52 a) (4 * mA 52 a + 2) pw (decide (a % 2 = 0))) := fun w =>
      within_any _ _ _ _ _ _ pw _ w rfl rfl rfl hlb.1 hlb.2 (by omega) (by omega) (by omega) (by omega)
    unfold SpanPost at HSP
    rw [← hpw, ← hA] at HSP
    have HWS : Hid (∀ (D : List Nat) (e p : Int) (X : Nat), WithAt (lowS 52 a) (4 * mA 52 a) (4 * mA 52 a + 2) pw (decide (a % 2 = 0)) D e p X → ShortAt 2 a D e p X) := fun D e p X h =>
      with_short (f := 2) (pw := pw) h1 (by rw [hpw]; show -1074 + ((xA 52 a : Nat) : Int) - 2 + 2 = -1074 + ((xA 52 a : Nat) : Int); omega) (by omega) h
    have hA0 : (A == 0) = false := by rw [beq_eq_false_iff_ne]; omega
    have hA1 : ¬ A = 0 := by omega
    have H1 := hid h1
    obtain ⟨x0, hx0⟩ : ∃ x : Int, x = (lowS 52 a : Nat) := ⟨_, rfl⟩
    obtain ⟨x1, hx1⟩ : ∃ x : Int, x = (4 * mA 52 a : Nat) := ⟨_, rfl⟩
    obtain ⟨x2, hx2⟩ : ∃ x : Int, x = (4 * mA 52 a + 2 : Nat) := ⟨_, rfl⟩
    obtain ⟨cl, hcl⟩ : ∃ c : Bool, c = decide (a % 2 = 0) := ⟨_, rfl⟩
    rw [← hx0, ← hx1, ← hx2, ← hcl] at HSP HWI
    rw [← hcl] at HWS
    rw [← hA]
    clear hx0 hx1 hx2 hcl hpw hA hlb hmp hml hxb ha h0 h1
    unfold lay2 at *
    go_enter Tryz.func54, Tryz.ntmps54
    go_wp2_with fail
    have HB : Hid (Below w.heap.size w (w.alloc (.cells #[.int .i64 52, .int .i64 1023, .int .i64 4503599627370496, .int .i64 9218868437227405312, .int .i64 (-9223372036854775808)] 63))) := (Below.refl _ _).alloc (Nat.le_refl _) _
    generalize (w.alloc (.cells #[.int .i64 52, .int .i64 1023, .int .i64 4503599627370496, .int .i64 9218868437227405312, .int .i64 (-9223372036854775808)] 63)) = W at *
    refine (HSP.out W).mono ?_
    rintro r w1 ⟨rfl, hb1⟩
    have HB1 : Hid (Below w.heap.size w w1) := HB.out.trans (hb1.mono HB.out.size)
    clear hb1 HSP HB
    go_wp2_with fail
    have HB2 : Hid (Below w.heap.size w (w1.alloc (.cells #[.int .i64 x0, .int .i64 x1, .int .i64 x2, .int .i64 pw, .bool cl] 125))) := HB1.out.alloc HB1.out.size _
    generalize w1.alloc (.cells #[.int .i64 x0, .int .i64 x1, .int .i64 x2, .int .i64 pw, .bool cl] 125) = W2 at *
    refine (HWI.out W2).mono ?_
    rintro r w3 ⟨b, rfl, v, D', e', hdec, hnorm, ⟨hg1, hg2⟩, ⟨D, e, p, hwa⟩, hb3⟩
    have HB3 : Hid (Below w.heap.size w w3) := HB2.out.trans (hb3.mono HB2.out.size)
    have HNE : Hid (D' ≠ []) := List.length_pos_iff.1 hdec.pos
    have HQ : Hid (ShortQ true 2 a (shortT true D' e')) := .inr ⟨H1.out, D, e, p, _, D', e', HWS.out D e p _ hwa, hnorm, HNE.out, by omega, rfl, rfl⟩
    have HNORM := hid hnorm
    have HDEC := hid hdec
    have hpos := hdec.pos
    clear hdec hnorm hwa hb3 HWI HWS HB1 HB2
    go_wp2_with fail
    refine (digitsM_any b v D' e' w3 HDEC.out).mono ?_
    rintro r w4 ⟨v4, rfl, ⟨g2, n2, cp2, rfl⟩, ho, hb4⟩
    have HO := hid ho
    have hn := ho.sliceLen.1
    have HN := hid hn
    have HB4 : Hid (Below w.heap.size w w4) := HB3.out.trans (hb4.mono HB3.out.size)
    have HDEC4 : Hid (DecAt w4 b v D' e') := HDEC.out.below hb4
    rw [hn] at hg2 hpos
    obtain ⟨N, hN⟩ : ∃ N : Int, -e' = N := ⟨_, rfl⟩
    clear ho hb4 hn HDEC HB3
    go_wp2_with fail
    refine (lastPower_any b v D' e' w4 HDEC4.out).mono ?_
    rintro r w5 ⟨rfl, rfl⟩
    have HWX := hid (wfix_own g2 n2 cp2 D' N _ w5 HO.out (by omega) HNORM.out.digs (by omega) (by omega))
    go_wp2_with fail
    refine HWX.out.mono ?_
    rintro r w6 ⟨rfl, hb6⟩
    have HB6 : Hid (Below w.heap.size w w6) := HB4.out.trans (hb6.mono HB4.out.size)
    have HTX : Hid (fixW D' n2 N = shortT true D' e') := by unfold Hid; rw [← HN.out, ← hN]; exact short_fix D' e' HNE.out
    have HLEN : Hid ((fixW D' n2 N).length ≤ 5000) := fixW_text2 _ _ _ (by omega) (by omega) (by omega)
    clear hb6 HWX hN
    go_wp2
    go_ret
    exact ⟨_, rfl, by rw [HTX.out]; exact HQ.out, HLEN.out, HB6.out⟩
end Go.Proofs.YtbkdaoicnobllabGreatDoor
