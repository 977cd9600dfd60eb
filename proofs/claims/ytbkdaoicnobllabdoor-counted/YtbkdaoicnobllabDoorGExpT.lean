import Derived.Test.YtbkdaoicnobllabDoorGNext
import Derived.Test.YtbkdaoicnobllabDoorGWexp
import Derived.Test.YtbkdaoicnobllabDoorGTextP
import Derived.Test.YtbkdaoicnobllabDoorGPlain

namespace Go.Proofs.YtbkdaoicnobllabDoor
open Go.RowKit

theorem Own.sliceLen {w : World} {b g m cp : Nat} {R : List Nat} (h : Own w b (.slice (some ⟨g, 0, none⟩) m cp) R) : R.length = m ∧ m ≤ cp ∧ cp ≤ 9223372036854775807 ∧ g < w.heap.size := by
  rcases h.form with ⟨_, h2⟩ | ⟨g', cap', hv, q1, q2, q3, q4⟩
  · cases h2
  · simp only [Value.slice.injEq, Option.some.injEq, Addr.mk.injEq, and_true] at hv
    obtain ⟨rfl, rfl, rfl⟩ := hv
    unfold maxLen at q4
    exact ⟨rfl, q3, by omega, q2⟩
theorem wexp_cut (g m cp k : Nat) (R : List Nat) (pw : Int) (b : Nat) (w : World) (ht : Tab w) (ho : Own w b (.slice (some ⟨g, 0, none⟩) m cp) R) (hk : k ≤ m) (h0 : 0 < k) (hl : k ≤ 2000) (hd : Digs R) (hp1 : -100000 ≤ pw) (hp2 : pw ≤ 100000) :
    Calls Tryd.prog 36 #[.slice (some ⟨g, 0, none⟩) k cp, .int .i64 pw] w fun r w' => r = .returned (.string (str (expB (R.take k) k ++ (101 :: Lib.itoa pw)))) ∧ Below w.heap.size w w' := by
  obtain ⟨hm, h1, h2, h3⟩ := ho.sliceLen
  refine wexp_any g 0 cp k (R.take k) pw w ht (by rw [List.length_take]; omega) h0 hl (by omega) h2 h3 (fun j hj => ?_) (hd.take k) hp1 hp2
  rw [Nat.zero_add, ho.cell hm j (by omega)]
  simp [List.getD_eq_getElem?_getD, hj]
theorem wfix_own (g m cp : Nat) (R : List Nat) (pr : Int) (b : Nat) (w : World) (ho : Own w b (.slice (some ⟨g, 0, none⟩) m cp) R) (hl : m ≤ 1500) (hd : Digs R) (hp1 : -400 ≤ pr) (hp2 : pr ≤ 1500) :
    Calls Tryd.prog 34 #[.slice (some ⟨g, 0, none⟩) m cp, .int .i64 pr] w fun r w' => r = .returned (.string (str (fixW R m pr))) ∧ Below w.heap.size w w' := by
  obtain ⟨hm, h1, h2, h3⟩ := ho.sliceLen
  exact wfix_any g 0 cp m R pr w hm hl h1 h2 h3 (fun j hj => by rw [Nat.zero_add, ho.cell hm j hj]) hd hp1 hp2
theorem expB_text (D : List Nat) (n : Nat) (pw : Int) (hn : n ≤ 2000) (h1 : -100000 ≤ pw) (h2 : pw ≤ 100000) : (expB D n ++ (101 :: Lib.itoa pw)).length ≤ 5000 := by
  have := expB_length D n
  have h3 := Lib.itoa_length_le pw (by omega) (by omega)
  rw [List.length_append, List.length_cons]; omega
theorem Digs.zeros (n : Nat) : Digs (List.replicate n 0) := fun d hd => by have := List.eq_of_mem_replicate hd; omega
set_option maxRecDepth 100000 in
set_option maxHeartbeats 1000000 in
theorem expText_any (m : Nat) (M pw : Int) (ng : Bool) (vb prec mode : Int) (w : World) (ht : Tab w) (hM : M = (m : Int)) (hm : m < 1152921504606846976) (hp1 : -1080 ≤ pw) (hp2 : pw ≤ 1080) (h1 : 0 ≤ prec) (h2 : prec ≤ 800) :
    Calls Tryd.prog 26 #[.int .i64 M, .int .i64 pw, .bool ng, styV vb prec mode] w fun r w' => TextPost w w' r (ExpQ (awayB mode ng) (two 3000 pw * m) prec.toNat) := by
  unfold styV
  obtain ⟨k, hk⟩ : ∃ k : Nat, prec + 1 = (k : Int) := ⟨(prec + 1).toNat, by omega⟩
  have HK : Hid (prec.toNat + 1 = k) := by unfold Hid; omega
  have hk1 : k ≤ 801 := by omega
  have HTAB := hid ht
  have HBX : Hid (Below w.heap.size w (w.alloc (.cells #[.int .i64 vb, .int .i64 prec, .int .i64 mode] 49))) := (Below.refl _ _).alloc (Nat.le_refl _) _
  clear ht
  by_cases h0 : m = 0
  · have hM0 : M = 0 := by omega
    subst hM0
    have H0 := hid h0
    clear hM hm h0
    go_enter Tryd.func26, Tryd.ntmps26
    go_wp2_with fail
    refine (noughts_any k _ (by omega)).mono ?_
    rintro r w1 ⟨v', rfl, ⟨g, n, cp, rfl⟩, ho, hb⟩
    rw [Int.toNat_natCast] at ho
    have hn := ho.sliceLen.1
    rw [List.length_replicate] at hn
    have HB1 : Hid (Below w.heap.size w w1) := HBX.out.trans (hb.mono (by simp))
    subst hn
    have HWX := hid (wexp_cut g k cp k (List.replicate k 0) 0 _ w1 (HTAB.out.below HB1.out) ho (Nat.le_refl _) (by omega) (by omega) (Digs.zeros k) (by omega) (by omega))
    rw [show (List.replicate k 0).take k = List.replicate k 0 from List.take_of_length_le (by simp)] at HWX
    clear ho hb
    go_wp2_with fail
    refine HWX.out.mono ?_
    rintro r w2 ⟨rfl, hb2⟩
    have HB2 : Hid (Below w.heap.size w w2) := HB1.out.trans (hb2.mono HB1.out.size)
    clear hb2
    go_wp2
    go_ret
    exact ⟨_, rfl, by rw [H0.out, Nat.mul_zero, ← HK.out]; exact exp_zero _ _, expB_text _ _ _ (by omega) (by omega) (by omega), HB2.out⟩
  · have HFB := hid (fun w => fromBinary_any m pw w (by omega) hm hp1 hp2)
    rw [← hM] at HFB
    have hM0 : (M == 0) = false := by rw [beq_eq_false_iff_ne]; omega
    have hM1 : ¬ M = 0 := by omega
    clear hM hm h0
    go_enter Tryd.func26, Tryd.ntmps26
    go_wp2_with fail
    obtain ⟨W, hW⟩ : ∃ W, W = w.alloc (.cells #[.int .i64 vb, .int .i64 prec, .int .i64 mode] 49) := ⟨_, rfl⟩
    have s0 : W.cell? ⟨w.heap.size, 0, none⟩ = some (.int .i64 vb) := by rw [hW]; simp [go_sem]
    have s1 : W.cell? ⟨w.heap.size, 1, none⟩ = some (.int .i64 prec) := by rw [hW]; simp [go_sem]
    have s2 : W.cell? ⟨w.heap.size, 2, none⟩ = some (.int .i64 mode) := by rw [hW]; simp [go_sem]
    have hws : w.heap.size < W.heap.size := by rw [hW]; simp
    rw [← hW] at HBX ⊢
    clear hW
    refine (HFB.out W).mono ?_
    rintro r w1 ⟨b, rfl, v, D, e, hdec, ⟨he1, he2⟩, hval, hbb, hb1⟩
    have HB1 : Hid (Below w.heap.size w w1) := HBX.out.trans (hb1.mono (by omega))
    have z1 := keep_cell' hb1 s1
    have z2 := keep_cell' hb1 s2
    have HDEC := hid hdec
    have HV : Hid (val 3000 D e = two 3000 pw * m) := hval 3000 (by omega)
    obtain ⟨n, hn⟩ : ∃ n : Nat, D.length = n := ⟨_, rfl⟩
    have hn1 := hdec.len
    have hn0 := hdec.pos
    obtain ⟨F, hF⟩ : ∃ F : Int, F = e + D.length - 1 := ⟨_, rfl⟩
    have hF1 : -1080 ≤ F := by omega
    have hF2 : F ≤ 20000 := by omega
    obtain ⟨P, hP⟩ : ∃ P : Int, F - prec = P := ⟨_, rfl⟩
    have HFP : Hid (∀ n, Calls Tryd.prog 35 #[.pointer (some ⟨b, 0, none⟩)] (w1.drewN n) fun r w' => r = .returned (.int .i64 F) ∧ ∃ m, w' = (w1.drewN n).drewN m) := fun n => by
      rw [hF]
      exact (firstPower_any b v D e _ (hdec.below (((Still.refl w1).drewN n).below _))).mono (fun _ _ hh => ⟨hh.1, hh.2.drew⟩)
    have HF := hid hF
    clear hdec hval hbb hb1 s0 s1 s2 hws hn hn1 hn0 hF HFB he2
    go_wp2
    go_quiet ((go_at_call 35; exact Calls.quiet_of (HFP.out _)))
    obtain ⟨W2, hW2⟩ : ∃ W2, W2 = w1.drewN nq := ⟨_, rfl⟩
    have hst := (Still.refl w1).drewN nq
    rw [← hW2] at hst ⊢
    have y1 := (hst.cell _).trans z1
    have y2 := (hst.cell _).trans z2
    have HB2 : Hid (Below w.heap.size w W2) := HB1.out.trans (hst.below _)
    have HRD := hid (fun hh : D.length + e - P ≤ 30000 => drounded_any b v D e P mode ng W2 (HDEC.out.below (hst.below _)) (by omega) (by omega) hh)
    clear hst hW2 z1 z2 HFP
    go_wp2_with fail
    refine (HRD.out (by have := HF.out; omega)).mono ?_
    rintro r w3 ⟨v3, rfl, ⟨g, l, cp, rfl⟩, R, hrnd, ho, hb3⟩
    have HB3 : Hid (Below w.heap.size w w3) := HB2.out.trans (hb3.mono HB2.out.size)
    obtain ⟨hl, hc1, hc2, hg⟩ := ho.sliceLen
    have hlo : k ≤ l := by have a := hrnd.ge; have b := HF.out; omega
    have hhi : l ≤ k + 1 := by have a := hrnd.len; have b := HF.out; omega
    have hP1 : -2000 ≤ P := by omega
    have hP2 : P ≤ 20000 := by omega
    have HEQ : Hid (ExpQ (awayB mode ng) (two 3000 pw * m) prec.toNat (expB (R.take k) k ++ (101 :: Lib.itoa (P + l - 1)))) := by
      have := exp_prog (n := prec.toNat) HDEC.out.digs HDEC.out.head HDEC.out.pos he1 (by omega) HV.out (by have := HF.out; omega) hrnd
      rw [HK.out, hl] at this
      exact this
    have HWX := hid (wexp_cut g l cp k R (P + l - 1) _ w3 (HTAB.out.below HB3.out) ho hlo (by omega) (by omega) hrnd.digs (by omega) (by omega))
    have HG := hid hg
    clear HRD hrnd ho hb3 hl HDEC HV hg y1 y2
    rcases (by omega : l = k ∨ l = k + 1) with hlk | hlk
    · subst hlk
      go_wp2_with fail
      all_goals
        refine HWX.out.mono ?_
        rintro r w4 ⟨rfl, hb4⟩
        have HB4 : Hid (Below w.heap.size w w4) := HB3.out.trans (hb4.mono HB3.out.size)
        clear hb4
        go_wp2
        go_ret
        exact ⟨_, rfl, HEQ.out, expB_text _ _ _ (by omega) (by omega) (by omega), HB4.out⟩
    · subst hlk
      go_wp2_with fail
      all_goals
        refine HWX.out.mono ?_
        rintro r w4 ⟨rfl, hb4⟩
        have HB4 : Hid (Below w.heap.size w w4) := HB3.out.trans (hb4.mono HB3.out.size)
        clear hb4
        go_wp2
        go_ret
        exact ⟨_, rfl, HEQ.out, expB_text _ _ _ (by omega) (by omega) (by omega), HB4.out⟩
set_option exponentiation.threshold 4000 in
theorem two_small (pw : Int) (h1 : -1080 ≤ pw) (h2 : pw ≤ 1080) : two 3000 pw ≤ 2 ^ 1080 * 10 ^ 3000 := by
  unfold two; split
  · exact Nat.mul_le_mul_right _ (Nat.pow_le_pow_right (by omega) (by omega))
  · refine Nat.le_trans (Nat.mul_le_mul_right _ (Nat.pow_le_pow_left (show 5 ≤ 10 by omega) _)) ?_
    rw [← Nat.pow_add, show (-pw).toNat + (((3000 : Nat) : Int) + pw).toNat = 3000 from by omega]
    exact Nat.le_mul_of_pos_left _ (Nat.two_pow_pos _)
set_option exponentiation.threshold 4000 in
theorem small_top {D : List Nat} {e pw : Int} {m : Nat} (hh : Headed D) (hl : 0 < D.length) (he : -(3000 : Int) ≤ e) (hv : val 3000 D e = two 3000 pw * m) (hm : m < 1152921504606846976) (h1 : -1080 ≤ pw) (h2 : pw ≤ 1080) : e + D.length ≤ 400 := by
  apply Int.not_lt.1
  intro hlt
  have a : 10 ^ (400 + 3000) ≤ val 3000 D e := by
    unfold val
    refine Nat.le_trans ?_ (Nat.mul_le_mul_right _ (hh.lo hl))
    rw [← Nat.pow_add]
    exact Nat.pow_le_pow_right (by omega) (by omega)
  have b : val 3000 D e < 10 ^ (400 + 3000) := by
    rw [hv]
    refine Nat.lt_of_lt_of_le (Nat.mul_lt_mul_of_le_of_lt (two_small pw h1 h2) (show m < 2 ^ 60 from hm) (Nat.mul_pos (Nat.pow_pos (by omega)) (Nat.pow_pos (by omega)))) ?_
    rw [Nat.mul_assoc, Nat.mul_comm (10 ^ 3000), ← Nat.mul_assoc, ← Nat.pow_add, Nat.pow_add 10 400 3000]
    refine Nat.mul_le_mul_right _ ?_
    rw [show 1080 + 60 = 3 * 380 from rfl, Nat.pow_mul]
    exact Nat.le_trans (Nat.pow_le_pow_left (show 2 ^ 3 ≤ 10 by omega) _) (Nat.pow_le_pow_right (by omega) (by omega))
  exact absurd b (Nat.not_lt.2 a)
theorem fixW_text (R : List Nat) (n : Nat) (pr : Int) (hn : n ≤ 1500) (h1 : 0 ≤ pr) (h2 : pr ≤ 1500) : (fixW R n pr).length ≤ 5000 := by
  unfold fixW
  have := fixT_length R (-pr) ((n : Int) - pr - 1).toNat pr.toNat
  omega
theorem noughts_none (w : World) : Calls Tryd.prog 37 #[.int .i64 0] w fun r w' => ∃ g cp : Nat, r = .returned (.slice (some ⟨g, 0, none⟩) 0 cp) ∧ Own w' w.heap.size (.slice (some ⟨g, 0, none⟩) 0 cp) [] ∧ Below w.heap.size w w' :=
  (noughts_any 0 w (by omega)).mono fun r w' ⟨v', hr, ⟨g, n, cp, hv⟩, ho, hb⟩ => by
    subst hv
    rw [show ((0 : Int)).toNat = 0 from rfl, List.replicate_zero] at ho
    have hn := ho.sliceLen.1
    rw [List.length_nil] at hn
    subst hn
    exact ⟨g, cp, hr, ho, hb⟩
set_option maxRecDepth 100000 in
set_option maxHeartbeats 1000000 in
theorem fixText_any (m : Nat) (M pw : Int) (ng : Bool) (vb prec mode : Int) (w : World) (ht : Tab w) (hM : M = (m : Int)) (hm : m < 1152921504606846976) (hp1 : -1080 ≤ pw) (hp2 : pw ≤ 1080) (h1 : 0 ≤ prec) (h2 : prec ≤ 800) :
    Calls Tryd.prog 27 #[.int .i64 M, .int .i64 pw, .bool ng, styV vb prec mode] w fun r w' => TextPost w w' r (FixQ (awayB mode ng) (two 3000 pw * m) prec.toNat) := by
  unfold styV
  have HPR : Hid (((prec.toNat : Nat) : Int) = prec) := by unfold Hid; omega
  have HTAB := hid ht
  have HBX : Hid (Below w.heap.size w (w.alloc (.cells #[.int .i64 vb, .int .i64 prec, .int .i64 mode] 49))) := (Below.refl _ _).alloc (Nat.le_refl _) _
  clear ht
  by_cases h0 : m = 0
  · have hM0 : M = 0 := by omega
    subst hM0
    have H0 := hid h0
    clear hM hm h0
    go_enter Tryd.func27, Tryd.ntmps27
    go_wp2_with fail
    obtain ⟨W, hW⟩ : ∃ W, W = w.alloc (.cells #[.int .i64 vb, .int .i64 prec, .int .i64 mode] 49) := ⟨_, rfl⟩
    have s1 : W.cell? ⟨w.heap.size, 1, none⟩ = some (.int .i64 prec) := by rw [hW]; simp [go_sem]
    have hws : w.heap.size < W.heap.size := by rw [hW]; simp
    rw [← hW] at HBX ⊢
    clear hW
    go_region_held3 (fun w' => w'.cell? ⟨w.heap.size, 1, none⟩ = some (.int .i64 prec))
      (first | exact keep_cell' ((Below.refl W.heap.size W).drew) s1 | exact keep_cell' hb4 (by assumption) | exact keep_cell' hb5 (by assumption) | go_keep)
      (first | (go_at_call 37; refine (noughts_none _).mono ?_; rintro e w4 ⟨g, cp, rfl, ho, hb4⟩; have HO := hid ho; clear ho) | (go_at_call 34; refine (wfix_own _ _ _ [] prec _ _ HO.out (by omega) (fun d hd => by simp at hd) (by omega) (by omega)).mono ?_; rintro e w5 ⟨rfl, hb5⟩))
    have HB2 : Hid (Below w.heap.size w w5) := (HBX.out.drew.trans (hb4.mono HBX.out.size)).trans (hb5.mono (HBX.out.drew.trans (hb4.mono HBX.out.size)).size)
    clear hb4 hb5 s1
    go_wp2
    go_ret
    refine ⟨_, rfl, ?_, fixW_text _ _ _ (by omega) (by omega) (by omega), HB2.out⟩
    rw [H0.out, Nat.mul_zero]
    have := fix_zero (awayB mode ng) prec.toNat (by omega)
    rw [HPR.out] at this
    exact this
  · have HFB := hid (fun w => fromBinary_any m pw w (by omega) hm hp1 hp2)
    rw [← hM] at HFB
    have hM0 : (M == 0) = false := by rw [beq_eq_false_iff_ne]; omega
    have hM1 : ¬ M = 0 := by omega
    have HML := hid hm
    clear hM hm h0
    go_enter Tryd.func27, Tryd.ntmps27
    go_wp2_with fail
    obtain ⟨W, hW⟩ : ∃ W, W = w.alloc (.cells #[.int .i64 vb, .int .i64 prec, .int .i64 mode] 49) := ⟨_, rfl⟩
    have s1 : W.cell? ⟨w.heap.size, 1, none⟩ = some (.int .i64 prec) := by rw [hW]; simp [go_sem]
    have s2 : W.cell? ⟨w.heap.size, 2, none⟩ = some (.int .i64 mode) := by rw [hW]; simp [go_sem]
    have hws : w.heap.size < W.heap.size := by rw [hW]; simp
    rw [← hW] at HBX ⊢
    clear hW
    refine (HFB.out W).mono ?_
    rintro r w1 ⟨b, rfl, v, D, e, hdec, ⟨he1, he2⟩, hval, hbb, hb1⟩
    have HB1 : Hid (Below w.heap.size w w1) := HBX.out.trans (hb1.mono (by omega))
    have z1 := keep_cell' hb1 s1
    have z2 := keep_cell' hb1 s2
    have HDEC := hid hdec
    have HV : Hid (val 3000 D e = two 3000 pw * m) := hval 3000 (by omega)
    have HT := hid (small_top hdec.head hdec.pos (by omega) HV.out HML.out hp1 hp2)
    have hn1 := hdec.len
    have hw1 : w.heap.size < w1.heap.size := by have := hb1.size; omega
    obtain ⟨N, hN⟩ : ∃ N : Int, -prec = N := ⟨_, rfl⟩
    have HRD := hid (fun w2 hb => drounded_any b v D e N mode ng w2 (DecAt.below hdec hb) (by omega) (by omega) (by omega))
    clear hdec hval hbb hb1 s1 s2 hws hn1 HFB he2
    go_wp2_with fail
    refine (HRD.out _ (Below.refl _ _)).mono ?_
    rintro r w3 ⟨v3, rfl, ⟨g, l, cp, rfl⟩, R, hrnd, ho, hb3⟩
    have HB3 : Hid (Below w.heap.size w w3) := HB1.out.trans (hb3.mono HB1.out.size)
    have x1 := keep_cell' hb3 z1
    obtain ⟨hl, hc1, hc2, hg⟩ := ho.sliceLen
    have hhi : l ≤ 1300 := by have a := hrnd.len; have b := HT.out; omega
    have HEQ : Hid (FixQ (awayB mode ng) (two 3000 pw * m) prec.toNat (fixW R l prec)) := by
      have hx : N = -((prec.toNat : Nat) : Int) := by rw [HPR.out]; omega
      rw [hx] at hrnd
      have := fix_prog (n := prec.toNat) he1 (by omega) HV.out hrnd
      rw [HPR.out, hl] at this
      exact this
    have HWX := hid (wfix_own g l cp R prec _ w3 ho (by omega) hrnd.digs (by omega) (by omega))
    clear HRD hrnd ho hb3 hl HDEC HV hg z1 z2 HT
    go_wp2_with fail
    refine HWX.out.mono ?_
    rintro r w4 ⟨rfl, hb4⟩
    have HB4 : Hid (Below w.heap.size w w4) := HB3.out.trans (hb4.mono HB3.out.size)
    clear hb4
    go_wp2
    go_ret
    exact ⟨_, rfl, HEQ.out, fixW_text _ _ _ (by omega) (by omega) (by omega), HB4.out⟩
end Go.Proofs.YtbkdaoicnobllabDoor
