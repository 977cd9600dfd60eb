import Derived.Test.YtbkdaoicnobllabGreatDoorG08
import Derived.Test.YtbkdaoicnobllabGreatDoorG09
import Derived.Test.YtbkdaoicnobllabGreatDoorG10
import Derived.Test.YtbkdaoicnobllabGreatDoorG07
import Derived.Test.YtbkdaoicnobllabGreatDoorG01
import Derived.Test.YtbkdaoicnobllabGreatDoorG04

namespace Go.Proofs.YtbkdaoicnobllabGreatDoor
set_option maxRecDepth 100000
set_option maxHeartbeats 1000000
open Go.RowKit

theorem Own.sliceLen {w : World} {b g m cp : Nat} {R : List Nat} (h : Own w b (.slice (some ⟨g, 0, none⟩) m cp) R) : R.length = m ∧ m ≤ cp ∧ cp ≤ 9223372036854775807 ∧ g < w.heap.size := by
 rcases h.form with ⟨_, h2⟩ | ⟨g', cap', hv, q1, q2, q3, q4⟩
 ·cases h2
 ·simp only [Value.slice.injEq, Option.some.injEq, Addr.mk.injEq, and_true] at hv
  obtain ⟨rfl, rfl, rfl⟩ := hv
  unfold maxLen at q4
  exact ⟨rfl, q3, by omega, q2⟩
theorem wexp_cut (g m cp k : Nat) (R : List Nat) (pw : Int) (b : Nat) (w : World) (ht : Tab w) (ho : Own w b (.slice (some ⟨g, 0, none⟩) m cp) R) (hk : k ≤ m) (h0 : 0 < k) (hl : k ≤ 2000) (hd : Digs R) (hp1 : -100000 ≤ pw) (hp2 : pw ≤ 100000) :
  Calls Tryz.prog 97 #[.slice (some ⟨g, 0, none⟩) k cp, .int .i64 pw] w fun r w' => r = .returned (.string (str (expB (R.take k) k ++ (101 :: Lib.itoa pw)))) ∧ Below w.heap.size w w' := by
 obtain ⟨hm, h1, h2, h3⟩ := ho.sliceLen
 refine wexp_any g 0 cp k (R.take k) pw w ht (by rw [List.length_take]; omega) h0 hl (by omega) h2 h3 (fun j hj => ?_) (hd.take k) hp1 hp2
 rw [Nat.zero_add, ho.cell hm j (by omega)]
 simp [List.getD_eq_getElem?_getD, hj]
theorem wfix_own (g m cp : Nat) (R : List Nat) (pr : Int) (b : Nat) (w : World) (ho : Own w b (.slice (some ⟨g, 0, none⟩) m cp) R) (hl : m ≤ 1500) (hd : Digs R) (hp1 : -400 ≤ pr) (hp2 : pr ≤ 1500) :
  Calls Tryz.prog 95 #[.slice (some ⟨g, 0, none⟩) m cp, .int .i64 pr] w fun r w' => r = .returned (.string (str (fixW R m pr))) ∧ Below w.heap.size w w' := by
 obtain ⟨hm, h1, h2, h3⟩ := ho.sliceLen
 exact wfix_any g 0 cp m R pr w hm hl h1 h2 h3 (fun j hj => by rw [Nat.zero_add, ho.cell hm j hj]) hd hp1 hp2
theorem expB_text (D : List Nat) (n : Nat) (pw : Int) (hn : n ≤ 2000) (h1 : -100000 ≤ pw) (h2 : pw ≤ 100000) : (expB D n ++ (101 :: Lib.itoa pw)).length ≤ 5000 := by
 have := expB_length D n
 have h3 := Lib.itoa_length_le pw (by omega) (by omega)
 rw [List.length_append, List.length_cons]; omega
theorem Digs.zeros (n : Nat) : Digs (List.replicate n 0) := fun d hd => by have := List.eq_of_mem_replicate hd; omega
theorem expText_any (m : Nat) (M pw : Int) (ng : Bool) (vb prec mode : Int) (w : World) (ht : Tab w) (hM : M = (m : Int)) (hm : m < 1152921504606846976) (hp1 : -1080 ≤ pw) (hp2 : pw ≤ 1080) (h1 : 0 ≤ prec) (h2 : prec ≤ 800) :
  Calls Tryz.prog 55 #[.int .i64 M, .int .i64 pw, .bool ng, styV vb prec mode] w fun r w' => TextPost w w' r (ExpQ (awayB mode ng) (two 3000 pw * m) prec.toNat) := by
 unfold styV
 obtain ⟨k, hk⟩ : ∃ k : Nat, prec + 1 = (k : Int) := ⟨(prec + 1).toNat, by omega⟩
 have HK : Hid (prec.toNat + 1 = k) := by unfold Hid; omega
 have hk1 : k ≤ 801 := by omega
 have HTAB := hid ht
 have HBX : Hid (Below w.heap.size w (w.alloc (.cells #[.int .i64 vb, .int .i64 prec, .int .i64 mode] 66))) := (Below.refl _ _).alloc (Nat.le_refl _) _
 clear ht
 by_cases h0 : m = 0
 ·have hM0 : M = 0 := by omega
  subst hM0
  have H0 := hid h0
  clear hM hm h0
  go_enter Tryz.func55, Tryz.ntmps55
  go_wp2_with fail
  refine (noughts_any k _ (by omega)).mono ?_
  rintro r w1 ⟨v', rfl, ⟨g, n, cp, rfl⟩, ho, hb⟩
  rw [Int.toNat_natCast] at ho
  have hn := ho.sliceLen.1
  rw [List.length_replicate] at hn
  have HB1 : Hid (Below w.heap.size w w1) := HBX.out.trans (hb.mono (by simp))
  subst hn
  have HWX := hid (wexp_cut g k cp k (List.replicate k 0) 0 _ w1 (HTAB.out.below HB1.out) ho (Nat.le_refl _) (by omega) (by omega) (Digs.zeros k) (by omega) (by omega))
  rw [show (List.replicate k 0).take k = List.replicate k 0 from List.take_of_length_le (by simp)] at HWX
  clear ho hb
  go_wp2_with fail
  refine HWX.out.mono ?_
  rintro r w2 ⟨rfl, hb2⟩
  have HB2 : Hid (Below w.heap.size w w2) := HB1.out.trans (hb2.mono HB1.out.size)
  clear hb2
  go_wp2
  go_ret
  exact ⟨_, rfl, by rw [H0.out, Nat.mul_zero, ← HK.out]; exact exp_zero _ _, expB_text _ _ _ (by omega) (by omega) (by omega), HB2.out⟩
 ·have HFB := hid (fun w => fromBinary_any m pw w (by omega) hm hp1 hp2)
  rw [← hM] at HFB
  have hM0 : (M == 0) = false := by rw [beq_eq_false_iff_ne]; omega
  have hM1 : ¬ M = 0 := by omega
  clear hM hm h0
  go_enter Tryz.func55, Tryz.ntmps55
  go_wp2_with fail
  obtain ⟨W, hW⟩ : ∃ W, W = w.alloc (.cells #[.int .i64 vb, .int .i64 prec, .int .i64 mode] 66) := ⟨_, rfl⟩
  have s0 : W.cell? ⟨w.heap.size, 0, none⟩ = some (.int .i64 vb) := by rw [hW]; simp [go_sem]
  have s1 : W.cell? ⟨w.heap.size, 1, none⟩ = some (.int .i64 prec) := by rw [hW]; simp [go_sem]
  have s2 : W.cell? ⟨w.heap.size, 2, none⟩ = some (.int .i64 mode) := by rw [hW]; simp [go_sem]
  have hws : w.heap.size < W.heap.size := by rw [hW]; simp
  rw [← hW] at HBX ⊢
  clear hW
  refine (HFB.out W).mono ?_
  rintro r w1 ⟨b, rfl, v, D, e, hdec, ⟨he1, he2⟩, hval, hbb, hb1⟩
  have HB1 : Hid (Below w.heap.size w w1) := HBX.out.trans (hb1.mono (by omega))
  have z1 := keep_cell' hb1 s1
  have z2 := keep_cell' hb1 s2
  have HDEC := hid hdec
  have HV : Hid (val 3000 D e = two 3000 pw * m) := hval 3000 (by omega)
  obtain ⟨n, hn⟩ : ∃ n : Nat, D.length = n := ⟨_, rfl⟩
  have hn1 := hdec.len
  have hn0 := hdec.pos
  obtain ⟨F, hF⟩ : ∃ F : Int, F = e + D.length - 1 := ⟨_, rfl⟩
  have hF1 : -1080 ≤ F := by omega
  have hF2 : F ≤ 20000 := by omega
  obtain ⟨P, hP⟩ : ∃ P : Int, F - prec = P := ⟨_, rfl⟩
  have HFP : Hid (∀ n, Calls Tryz.prog 96 #[.pointer (some ⟨b, 0, none⟩)] (w1.drewN n) fun r w' => r = .returned (.int .i64 F) ∧ ∃ m, w' = (w1.drewN n).drewN m) := fun n => by
   rw [hF]
   exact (firstPower_any b v D e _ (hdec.below (((Still.refl w1).drewN n).below _))).mono (fun _ _ hh => ⟨hh.1, hh.2.drew⟩)
  have HF := hid hF
  clear hdec hval hbb hb1 s0 s1 s2 hws hn hn1 hn0 hF HFB he2
  go_wp2
  go_quiet ((go_at_call 96; exact Calls.quiet_of (HFP.out _)))
  obtain ⟨W2, hW2⟩ : ∃ W2, W2 = w1.drewN nq := ⟨_, rfl⟩
  have hst := (Still.refl w1).drewN nq
  rw [← hW2] at hst ⊢
  have y1 := (hst.cell _).trans z1
  have y2 := (hst.cell _).trans z2
  have HB2 : Hid (Below w.heap.size w W2) := HB1.out.trans (hst.below _)
  have HRD := hid (fun hh : D.length + e - P ≤ 30000 => drounded_any b v D e P mode ng W2 (HDEC.out.below (hst.below _)) (by omega) (by omega) hh)
  clear hst hW2 z1 z2 HFP
  go_wp2_with fail
  refine (HRD.out (by have := HF.out; omega)).mono ?_
  rintro r w3 ⟨v3, rfl, ⟨g, l, cp, rfl⟩, R, hrnd, ho, hb3⟩
  have HB3 : Hid (Below w.heap.size w w3) := HB2.out.trans (hb3.mono HB2.out.size)
  obtain ⟨hl, hc1, hc2, hg⟩ := ho.sliceLen
  have hlo : k ≤ l := by have a := hrnd.ge; have b := HF.out; omega
  have hhi : l ≤ k + 1 := by have a := hrnd.len; have b := HF.out; omega
  have hP1 : -2000 ≤ P := by omega
  have hP2 : P ≤ 20000 := by omega
  have HEQ : Hid (ExpQ (awayB mode ng) (two 3000 pw * m) prec.toNat (expB (R.take k) k ++ (101 :: Lib.itoa (P + l - 1)))) := by
   have := exp_prog (n := prec.toNat) HDEC.out.digs HDEC.out.head HDEC.out.pos he1 (by omega) HV.out (by have := HF.out; omega) hrnd
   rw [HK.out, hl] at this
   exact this
  have HWX := hid (wexp_cut g l cp k R (P + l - 1) _ w3 (HTAB.out.below HB3.out) ho hlo (by omega) (by omega) hrnd.digs (by omega) (by omega))
  have HG := hid hg
  clear HRD hrnd ho hb3 hl HDEC HV hg y1 y2
  rcases (by omega : l = k ∨ l = k + 1) with hlk | hlk
  ·subst hlk
   go_wp2_with fail
   all_goals
    refine HWX.out.mono ?_
    rintro r w4 ⟨rfl, hb4⟩
    have HB4 : Hid (Below w.heap.size w w4) := HB3.out.trans (hb4.mono HB3.out.size)
    clear hb4
    go_wp2
    go_ret
    exact ⟨_, rfl, HEQ.out, expB_text _ _ _ (by omega) (by omega) (by omega), HB4.out⟩
  ·subst hlk
   go_wp2_with fail
   all_goals
    refine HWX.out.mono ?_
    rintro r w4 ⟨rfl, hb4⟩
    have HB4 : Hid (Below w.heap.size w w4) := HB3.out.trans (hb4.mono HB3.out.size)
    clear hb4
    go_wp2
    go_ret
    exact ⟨_, rfl, HEQ.out, expB_text _ _ _ (by omega) (by omega) (by omega), HB4.out⟩
set_option exponentiation.threshold 4000 in
theorem two_small (pw : Int) (h1 : -1080 ≤ pw) (h2 : pw ≤ 1080) : two 3000 pw ≤ 2 ^ 1080 * 10 ^ 3000 := by
 unfold two; split
 ·exact Nat.mul_le_mul_right _ (Nat.pow_le_pow_right (by omega) (by omega))
 ·refine Nat.le_trans (Nat.mul_le_mul_right _ (Nat.pow_le_pow_left (show 5 ≤ 10 by omega) _)) ?_
  rw [← Nat.pow_add, show (-pw).toNat + (((3000 : Nat) : Int) + pw).toNat = 3000 from by omega]
  exact Nat.le_mul_of_pos_left _ (Nat.two_pow_pos _)
set_option exponentiation.threshold 4000 in
theorem small_top {D : List Nat} {e pw : Int} {m : Nat} (hh : Headed D) (hl : 0 < D.length) (he : -(3000 : Int) ≤ e) (hv : val 3000 D e = two 3000 pw * m) (hm : m < 1152921504606846976) (h1 : -1080 ≤ pw) (h2 : pw ≤ 1080) : e + D.length ≤ 400 := by
 apply Int.not_lt.1
 intro hlt
 have a : 10 ^ (400 + 3000) ≤ val 3000 D e := by
  unfold val
  refine Nat.le_trans ?_ (Nat.mul_le_mul_right _ (hh.lo hl))
  rw [← Nat.pow_add]
  exact Nat.pow_le_pow_right (by omega) (by omega)
 have b : val 3000 D e < 10 ^ (400 + 3000) := by
  rw [hv]
  refine Nat.lt_of_lt_of_le (Nat.mul_lt_mul_of_le_of_lt (two_small pw h1 h2) (show m < 2 ^ 60 from hm) (Nat.mul_pos (Nat.pow_pos (by omega)) (Nat.pow_pos (by omega)))) ?_
  rw [Nat.mul_assoc, Nat.mul_comm (10 ^ 3000), ← Nat.mul_assoc, ← Nat.pow_add, Nat.pow_add 10 400 3000]
  refine Nat.mul_le_mul_right _ ?_
  rw [show 1080 + 60 = 3 * 380 from rfl, Nat.pow_mul]
  exact Nat.le_trans (Nat.pow_le_pow_left (show 2 ^ 3 ≤ 10 by omega) _) (Nat.pow_le_pow_right (by omega) (by omega))
 exact absurd b (Nat.not_lt.2 a)
theorem fixW_text (R : List Nat) (n : Nat) (pr : Int) (hn : n ≤ 1500) (h1 : 0 ≤ pr) (h2 : pr ≤ 1500) : (fixW R n pr).length ≤ 5000 := by
 unfold fixW
 have := fixT_length R (-pr) ((n : Int) - pr - 1).toNat pr.toNat
 omega
theorem noughts_none (w : World) : Calls Tryz.prog 98 #[.int .i64 0] w fun r w' => ∃ g cp : Nat, r = .returned (.slice (some ⟨g, 0, none⟩) 0 cp) ∧ Own w' w.heap.size (.slice (some ⟨g, 0, none⟩) 0 cp) [] ∧ Below w.heap.size w w' :=
 (noughts_any 0 w (by omega)).mono fun r w' ⟨v', hr, ⟨g, n, cp, hv⟩, ho, hb⟩ => by
  subst hv
  rw [show ((0 : Int)).toNat = 0 from rfl, List.replicate_zero] at ho
  have hn := ho.sliceLen.1
  rw [List.length_nil] at hn
  subst hn
  exact ⟨g, cp, hr, ho, hb⟩
theorem fixText_any (m : Nat) (M pw : Int) (ng : Bool) (vb prec mode : Int) (w : World) (ht : Tab w) (hM : M = (m : Int)) (hm : m < 1152921504606846976) (hp1 : -1080 ≤ pw) (hp2 : pw ≤ 1080) (h1 : 0 ≤ prec) (h2 : prec ≤ 800) :
  Calls Tryz.prog 56 #[.int .i64 M, .int .i64 pw, .bool ng, styV vb prec mode] w fun r w' => TextPost w w' r (FixQ (awayB mode ng) (two 3000 pw * m) prec.toNat) := by
 unfold styV
 have HPR : Hid (((prec.toNat : Nat) : Int) = prec) := by unfold Hid; omega
 have HTAB := hid ht
 have HBX : Hid (Below w.heap.size w (w.alloc (.cells #[.int .i64 vb, .int .i64 prec, .int .i64 mode] 66))) := (Below.refl _ _).alloc (Nat.le_refl _) _
 clear ht
 by_cases h0 : m = 0
 ·have hM0 : M = 0 := by omega
  subst hM0
  have H0 := hid h0
  clear hM hm h0
  go_enter Tryz.func56, Tryz.ntmps56
  go_wp2_with fail
  obtain ⟨W, hW⟩ : ∃ W, W = w.alloc (.cells #[.int .i64 vb, .int .i64 prec, .int .i64 mode] 66) := ⟨_, rfl⟩
  have s1 : W.cell? ⟨w.heap.size, 1, none⟩ = some (.int .i64 prec) := by rw [hW]; simp [go_sem]
  have hws : w.heap.size < W.heap.size := by rw [hW]; simp
  rw [← hW] at HBX ⊢
  clear hW
  go_region_held3 (fun w' => w'.cell? ⟨w.heap.size, 1, none⟩ = some (.int .i64 prec))
   (first | exact keep_cell' ((Below.refl W.heap.size W).drew) s1 | exact keep_cell' hb4 (by assumption) | exact keep_cell' hb5 (by assumption) | go_keep)
   (first | (go_at_call 98; refine (noughts_none _).mono ?_; rintro e w4 ⟨g, cp, rfl, ho, hb4⟩; have HO := hid ho; clear ho) | (go_at_call 95; refine (wfix_own _ _ _ [] prec _ _ HO.out (by omega) (fun d hd => by simp at hd) (by omega) (by omega)).mono ?_; rintro e w5 ⟨rfl, hb5⟩))
  have HB2 : Hid (Below w.heap.size w w5) := (HBX.out.drew.trans (hb4.mono HBX.out.size)).trans (hb5.mono (HBX.out.drew.trans (hb4.mono HBX.out.size)).size)
  clear hb4 hb5 s1
  go_wp2
  go_ret
  refine ⟨_, rfl, ?_, fixW_text _ _ _ (by omega) (by omega) (by omega), HB2.out⟩
  rw [H0.out, Nat.mul_zero]
  have := fix_zero (awayB mode ng) prec.toNat (by omega)
  rw [HPR.out] at this
  exact this
 ·have HFB := hid (fun w => fromBinary_any m pw w (by omega) hm hp1 hp2)
  rw [← hM] at HFB
  have hM0 : (M == 0) = false := by rw [beq_eq_false_iff_ne]; omega
  have hM1 : ¬ M = 0 := by omega
  have HML := hid hm
  clear hM hm h0
  go_enter Tryz.func56, Tryz.ntmps56
  go_wp2_with fail
  obtain ⟨W, hW⟩ : ∃ W, W = w.alloc (.cells #[.int .i64 vb, .int .i64 prec, .int .i64 mode] 66) := ⟨_, rfl⟩
  have s1 : W.cell? ⟨w.heap.size, 1, none⟩ = some (.int .i64 prec) := by rw [hW]; simp [go_sem]
  have s2 : W.cell? ⟨w.heap.size, 2, none⟩ = some (.int .i64 mode) := by rw [hW]; simp [go_sem]
  have hws : w.heap.size < W.heap.size := by rw [hW]; simp
  rw [← hW] at HBX ⊢
  clear hW
  refine (HFB.out W).mono ?_
  rintro r w1 ⟨b, rfl, v, D, e, hdec, ⟨he1, he2⟩, hval, hbb, hb1⟩
  have HB1 : Hid (Below w.heap.size w w1) := HBX.out.trans (hb1.mono (by omega))
  have z1 := keep_cell' hb1 s1
  have z2 := keep_cell' hb1 s2
  have HDEC := hid hdec
  have HV : Hid (val 3000 D e = two 3000 pw * m) := hval 3000 (by omega)
  have HT := hid (small_top hdec.head hdec.pos (by omega) HV.out HML.out hp1 hp2)
  have hn1 := hdec.len
  have hw1 : w.heap.size < w1.heap.size := by have := hb1.size; omega
  obtain ⟨N, hN⟩ : ∃ N : Int, -prec = N := ⟨_, rfl⟩
  have HRD := hid (fun w2 hb => drounded_any b v D e N mode ng w2 (DecAt.below hdec hb) (by omega) (by omega) (by omega))
  clear hdec hval hbb hb1 s1 s2 hws hn1 HFB he2
  go_wp2_with fail
  refine (HRD.out _ (Below.refl _ _)).mono ?_
  rintro r w3 ⟨v3, rfl, ⟨g, l, cp, rfl⟩, R, hrnd, ho, hb3⟩
  have HB3 : Hid (Below w.heap.size w w3) := HB1.out.trans (hb3.mono HB1.out.size)
  have x1 := keep_cell' hb3 z1
  obtain ⟨hl, hc1, hc2, hg⟩ := ho.sliceLen
  have hhi : l ≤ 1300 := by have a := hrnd.len; have b := HT.out; omega
  have HEQ : Hid (FixQ (awayB mode ng) (two 3000 pw * m) prec.toNat (fixW R l prec)) := by
   have hx : N = -((prec.toNat : Nat) : Int) := by rw [HPR.out]; omega
   rw [hx] at hrnd
   have := fix_prog (n := prec.toNat) he1 (by omega) HV.out hrnd
   rw [HPR.out, hl] at this
   exact this
  have HWX := hid (wfix_own g l cp R prec _ w3 ho (by omega) hrnd.digs (by omega) (by omega))
  clear HRD hrnd ho hb3 hl HDEC HV hg z1 z2 HT
  go_wp2_with fail
  refine HWX.out.mono ?_
  rintro r w4 ⟨rfl, hb4⟩
  have HB4 : Hid (Below w.heap.size w w4) := HB3.out.trans (hb4.mono HB3.out.size)
  clear hb4
  go_wp2
  go_ret
  exact ⟨_, rfl, HEQ.out, fixW_text _ _ _ (by omega) (by omega) (by omega), HB4.out⟩
end Go.Proofs.YtbkdaoicnobllabGreatDoor

namespace Go.Proofs.YtbkdaoicnobllabGreatDoor

def SameTo (A B : List Nat) (k : Nat) : Prop := ∀ j, j < k → A.getD j 0 = B.getD j 0
theorem SameTo.zero (A B : List Nat) : SameTo A B 0 := fun j h => by omega
theorem SameTo.next {A B : List Nat} {k : Nat} (h : SameTo A B k) (h1 : A.getD k 0 = B.getD k 0) : SameTo A B (k + 1) := fun j hj => by
 rcases (by omega : j < k ∨ j = k) with g | g
 ·exact h j g
 ·rw [g]; exact h1
theorem SameTo.symm {A B : List Nat} {k : Nat} (h : SameTo A B k) : SameTo B A k := fun j hj => (h j hj).symm
theorem SameTo.first {A B : List Nat} {k : Nat} (h : SameTo A B k) : firstL A k = firstL B k := by
 unfold firstL
 exact List.map_congr_left fun i hi => h i (List.mem_range.1 hi)
theorem cmp_top {A B : List Nat} {ea eb : Int} {K : Nat} (hA : Digs A) (hB : Headed B) (lB : 0 < B.length) (k1 : -(K : Int) ≤ ea) (k2 : -(K : Int) ≤ eb) (h : ea + A.length < eb + B.length) : val K A ea < val K B eb := by
 have a := val_hi hA K ea (ea + A.length) (by omega) k1
 have hp : 0 < 10 ^ (ea + A.length + K).toNat := Nat.pow_pos (by omega)
 have b : 10 ^ (ea + A.length + K).toNat ≤ val K B eb := by
  unfold val
  refine Nat.le_trans ?_ (Nat.mul_le_mul_right _ (hB.lo lB))
  rw [← Nat.pow_add]
  exact Nat.pow_le_pow_right (by omega) (by omega)
 rcases Nat.div_eq_zero_iff.1 a with g | g
 ·omega
 ·omega
theorem cmp_at {A B : List Nat} {ea eb : Int} {K i : Nat} (hA : Digs A) (hB : Digs B) (k1 : -(K : Int) ≤ ea) (k2 : -(K : Int) ≤ eb) (h : ea + A.length = eb + B.length) (hs : SameTo A B i) (hi : A.getD i 0 < B.getD i 0) : val K A ea < val K B eb := by
 have hib : i < B.length := by
  apply Nat.lt_of_not_le; intro hle
  rw [List.getD_eq_getElem?_getD (l := B), List.getElem?_eq_none hle] at hi
  simp at hi
 obtain ⟨p, hp⟩ : ∃ p : Int, p = eb + B.length - (i + 1 : Nat) := ⟨_, rfl⟩
 have q1 := kept_num hA K ea p k1 (by omega)
 have q2 := kept_num hB K eb p k2 (by omega)
 rw [show (A.length + ea - p).toNat = i + 1 from by omega, firstL_succ, num_snoc, hs.first] at q1
 rw [show (B.length + eb - p).toNat = i + 1 from by omega, firstL_succ, num_snoc] at q2
 apply Nat.lt_of_not_le; intro hle
 have := Nat.div_le_div_right (c := 10 ^ (p + K).toNat) hle
 omega
theorem cmp_all {A B : List Nat} {ea eb : Int} {K n : Nat} (hA : Digs A) (hB : Digs B) (k1 : -(K : Int) ≤ ea) (k2 : -(K : Int) ≤ eb) (h : ea + A.length = eb + B.length) (hn : n = max A.length B.length) (hs : SameTo A B n) : val K A ea = val K B eb := by
 obtain ⟨p, hp⟩ : ∃ p : Int, p = eb + B.length - n := ⟨_, rfl⟩
 have q1 := kept_num hA K ea p k1 (by omega)
 have q2 := kept_num hB K eb p k2 (by omega)
 rw [show (A.length + ea - p).toNat = n from by omega, hs.first] at q1
 rw [show (B.length + eb - p).toNat = n from by omega] at q2
 have hd : ∀ (L : List Nat) (e : Int), p ≤ e → -(K : Int) ≤ p → val K L e = val K L e / 10 ^ (p + K).toNat * 10 ^ (p + K).toNat := fun L e g1 g2 => by
  unfold val
  rw [show (e + K).toNat = (e - p).toNat + (p + K).toNat from by omega, Nat.pow_add, ← Nat.mul_assoc, Nat.mul_div_cancel _ (Nat.pow_pos (by omega))]
 rw [hd A ea (by omega) (by omega), hd B eb (by omega) (by omega), ← q1, ← q2]
theorem cmpN_scale (a b c : Nat) (h : 0 < c) : cmpN (a * c) (b * c) = cmpN a b := by
 rcases Nat.lt_trichotomy a b with g | g | g
 ·rw [cmpN_lt g, cmpN_lt (Nat.mul_lt_mul_of_pos_right g h)]
 ·rw [cmpN_eq g, cmpN_eq (by rw [g])]
 ·rw [cmpN_gt g, cmpN_gt (Nat.mul_lt_mul_of_pos_right g h)]
theorem cmp_val (A B : List Nat) (ea eb : Int) (K c : Nat) (k1 : -(K : Int) ≤ ea) (k2 : -(K : Int) ≤ eb) : cmpN (val (K + c) A ea) (val (K + c) B eb) = cmpN (val K A ea) (val K B eb) := by
 rw [val_more K c A ea k1, val_more K c B eb k2, cmpN_scale _ _ _ (Nat.pow_pos (by omega))]
end Go.Proofs.YtbkdaoicnobllabGreatDoor

namespace Go.Proofs.YtbkdaoicnobllabGreatDoor
set_option maxRecDepth 100000
set_option maxHeartbeats 1000000
open Go.RowKit

def ordI (a b : Int) : Int := if a < b then -1 else 1
theorem order2_any (a b : Int) (w : World) : Calls Tryz.prog 152 #[.int .i64 a, .int .i64 b] w fun r w' => r = .returned (.int .i64 (ordI a b)) ∧ w' = w := by
 by_cases h : a < b
 ·have HO : Hid (ordI a b = -1) := by unfold Hid ordI; rw [if_pos h]
  go_enter Tryz.func152, Tryz.ntmps152
  go_wp2
  go_ret
  exact ⟨ret_int HO.out.symm, rfl⟩
 ·have HO : Hid (ordI a b = 1) := by unfold Hid ordI; rw [if_neg h]
  go_enter Tryz.func152, Tryz.ntmps152
  go_wp2
  go_ret
  exact ⟨ret_int HO.out.symm, rfl⟩
theorem compareD_any (a b : Nat) (va vb : Value) (A B : List Nat) (ea eb : Int) (w : World) (ha : DecAt w a va A ea) (hb : DecAt w b vb B eb) :
  Calls Tryz.prog 147 #[.pointer (some ⟨a, 0, none⟩), .pointer (some ⟨b, 0, none⟩)] w fun r w' => r = .returned (.int .i64 (cmpN (val 20000 A ea) (val 20000 B eb))) ∧ Still w w' := by
 obtain ⟨ga, oa, ca, rfl, _, _, _, _⟩ := ha.form
 obtain ⟨gb, ob, cb, rfl, _, _, _, _⟩ := hb.form
 have a0 := ha.c0
 have b0 := hb.c0
 have la := ha.len
 have lb := hb.len
 have HA := hid ha
 have HB := hid hb
 obtain ⟨n, hn⟩ : ∃ n, n = A.length := ⟨_, rfl⟩
 obtain ⟨m, hm⟩ : ∃ m, m = B.length := ⟨_, rfl⟩
 obtain ⟨F, hF⟩ : ∃ F : Int, F = ea + A.length - 1 := ⟨_, rfl⟩
 obtain ⟨G, hG⟩ : ∃ G : Int, G = eb + B.length - 1 := ⟨_, rfl⟩
 have HAF : Hid (∀ w1, Still w w1 → Calls Tryz.prog 96 #[.pointer (some ⟨a, 0, none⟩)] w1 fun r w' => r = .returned (.int .i64 F) ∧ Still w1 w') := fun w1 hs => by
  rw [hF]; exact firstPower_any a _ A ea w1 (ha.below (hs.below _))
 have HBF : Hid (∀ w1, Still w w1 → Calls Tryz.prog 96 #[.pointer (some ⟨b, 0, none⟩)] w1 fun r w' => r = .returned (.int .i64 G) ∧ Still w1 w') := fun w1 hs => by
  rw [hG]; exact firstPower_any b _ B eb w1 (hb.below (hs.below _))
 have HK1 : Hid (-((20000 : Nat) : Int) ≤ ea) := by have := ha.elo; unfold Hid; omega
 have HK2 : Hid (-((20000 : Nat) : Int) ≤ eb) := by have := hb.elo; unfold Hid; omega
 rw [← hn] at a0 la
 rw [← hm] at b0 lb
 have HN := hid hn
 have HM := hid hm
 have HF := hid hF
 have HG := hid hG
 obtain ⟨C, hC⟩ : ∃ C : Int, C = cmpN (val 20000 A ea) (val 20000 B eb) := ⟨_, rfl⟩
 rw [← hC]
 have HC := hid hC
 clear ha hb hn hm hF hG hC
 by_cases hFG : F = G
 ·have HEQ : Hid (ea + A.length = eb + B.length) := by have := HF.out; have := HG.out; unfold Hid; omega
  subst hFG
  go_enter Tryz.func147, Tryz.ntmps147
  go_wp2_with fail
  refine (HAF.out w (Still.refl w)).mono ?_
  rintro r w1 ⟨rfl, hs1⟩
  have HS1 := hid hs1
  clear hs1
  go_wp2_with fail
  refine (HBF.out w1 HS1.out).mono ?_
  rintro r w2 ⟨rfl, hs2⟩
  have HS2 : Hid (Still w w2) := HS1.out.trans hs2
  clear hs2 HS1
  go_wp2
  go_loopw [7] (fun ii wr => ∃ k : Nat, ii = .int .i64 k ∧ k ≤ max n m ∧ SameTo A B k ∧ Still w wr) (fun ii _ => max n m - (intOf ii).toNat)
  case atStart => exact ⟨0, rfl, Nat.zero_le _, SameTo.zero A B, HS2.out⟩
  case round =>
   obtain ⟨k, rfl, hk, hsame, hst⟩ := hrel
   have HSM := hid hsame
   have HST := hid hst
   have a0' := (hst.cell _).trans a0
   have b0' := (hst.cell _).trans b0
   clear hsame hst
   by_cases hlt : k < max n m
   ·have HXA := hid (digitAt_any a _ A ea k wr (HA.out.below (HST.out.below _)))
    have HXB := hid (digitAt_any b _ B eb k wr (HB.out.below (HST.out.below _)))
    obtain ⟨x, hx⟩ : ∃ x : Int, x = (dAt A (k : Int) : Nat) := ⟨_, rfl⟩
    obtain ⟨y, hy⟩ : ∃ y : Int, y = (dAt B (k : Int) : Nat) := ⟨_, rfl⟩
    rw [← hx] at HXA
    rw [← hy] at HXB
    have ex : x = (A.getD k 0 : Nat) := by rw [hx]; unfold dAt; rw [if_neg (by omega), Int.toNat_natCast]
    have ey : y = (B.getD k 0 : Nat) := by rw [hy]; unfold dAt; rw [if_neg (by omega), Int.toNat_natCast]
    have HEX := hid ex
    have HEY := hid ey
    have hk0 : k ≤ 20000 := by omega
    clear hx hy ex ey
    by_cases hxy : x = y
    ·have HSN : Hid (SameTo A B (k + 1)) := HSM.out.next (by have := HEX.out; have := HEY.out; omega)
     subst hxy
     rcases (by omega : k < n ∨ (¬ k < n ∧ k < m)) with hkn | ⟨hkn, hkm⟩
     all_goals
      go_wp2_with fail
      refine HXA.out.mono ?_
      rintro r w3 ⟨rfl, rfl⟩
      go_wp2_with fail
      refine HXB.out.mono ?_
      rintro r w4 ⟨rfl, rfl⟩
      go_wp2
      go_roundw
      case rel => exact ⟨k + 1, by go_num, by omega, HSN.out, HST.out⟩
      case measure => simp [intOf]; omega
    ·have HRES : Hid (ordI x y = C) := by
      unfold Hid; rw [HC.out]; unfold ordI
      have e1 := HEX.out
      have e2 := HEY.out
      by_cases hlt2 : x < y
      ·rw [if_pos hlt2, cmpN_lt (cmp_at HA.out.digs HB.out.digs HK1.out HK2.out HEQ.out HSM.out (by omega))]
      ·rw [if_neg hlt2, cmpN_gt (cmp_at HB.out.digs HA.out.digs HK2.out HK1.out HEQ.out.symm HSM.out.symm (by omega))]
     rcases (by omega : k < n ∨ (¬ k < n ∧ k < m)) with hkn | ⟨hkn, hkm⟩
     all_goals
      go_wp2_with fail
      refine HXA.out.mono ?_
      rintro r w3 ⟨rfl, rfl⟩
      go_wp2_with fail
      refine HXB.out.mono ?_
      rintro r w4 ⟨rfl, rfl⟩
      go_wp2_with fail
      refine (order2_any x y _).mono ?_
      rintro r w5 ⟨rfl, rfl⟩
      go_wp2
      go_ret
      exact ⟨ret_int HRES.out, HST.out⟩
   ·have HRES : Hid (0 = C) := by
     unfold Hid; rw [HC.out, cmpN_eq (cmp_all (n := k) HA.out.digs HB.out.digs HK1.out HK2.out HEQ.out (by rw [← HN.out, ← HM.out]; omega) HSM.out)]
    have h1 : ¬ k < n := by omega
    have h2 : ¬ k < m := by omega
    go_wp2
    go_ret
    exact ⟨ret_int HRES.out, HST.out⟩
 ·have HRES : Hid (ordI F G = C) := by
   unfold Hid; rw [HC.out]; unfold ordI
   have e1 := HF.out
   have e2 := HG.out
   by_cases hlt : F < G
   ·rw [if_pos hlt, cmpN_lt (cmp_top HA.out.digs HB.out.head HB.out.pos HK1.out HK2.out (by omega))]
   ·rw [if_neg hlt, cmpN_gt (cmp_top HB.out.digs HA.out.head HA.out.pos HK2.out HK1.out (by omega))]
  go_enter Tryz.func147, Tryz.ntmps147
  go_wp2_with fail
  refine (HAF.out w (Still.refl w)).mono ?_
  rintro r w1 ⟨rfl, hs1⟩
  have HS1 := hid hs1
  clear hs1
  go_wp2_with fail
  refine (HBF.out w1 HS1.out).mono ?_
  rintro r w2 ⟨rfl, hs2⟩
  have HS2 : Hid (Still w w2) := HS1.out.trans hs2
  clear hs2 HS1
  go_wp2_with fail
  refine (order2_any F G _).mono ?_
  rintro r w3 ⟨rfl, rfl⟩
  go_wp2
  go_ret
  exact ⟨ret_int HRES.out, HS2.out⟩
end Go.Proofs.YtbkdaoicnobllabGreatDoor

namespace Go.Proofs.YtbkdaoicnobllabGreatDoor
set_option maxRecDepth 100000
set_option maxHeartbeats 1000000
open Go.RowKit

def TrimTo (R : List Nat) (c l : Nat) : Prop := ∀ j, c ≤ j → j < l → R.getD j 0 = 0
theorem TrimTo.next {R : List Nat} {d l : Nat} (h : TrimTo R (d + 1) l) (h0 : R.getD d 0 = 0) : TrimTo R d l := fun j h1 h2 => by
 rcases (by omega : j = d ∨ d + 1 ≤ j) with g | g
 ·rw [g]; exact h0
 ·exact h j g h2
theorem trim_val {R : List Nat} {c : Nat} {p : Int} (hd : Digs R) (hc : c ≤ R.length) (ht : TrimTo R c R.length) (K : Nat) (hK : -(K : Int) ≤ p) : val K (R.take c) (p + (R.length - c : Nat)) = val K R p := by
 have hz : num (R.drop c) = 0 := (num_zero_iff _).2 fun d hd => by
  obtain ⟨i, hi, rfl⟩ := List.mem_iff_getElem.1 hd
  rw [List.length_drop] at hi
  have := ht (c + i) (by omega) (by omega)
  rw [List.getD_eq_getElem?_getD, List.getElem?_eq_getElem (by omega)] at this
  simpa using this
 have h1 := num_take hd c hc
 have h2 := num_drop hd c hc
 rw [hz] at h2
 have h3 := Nat.div_add_mod (num R) (10 ^ (R.length - c))
 rw [← h2, ← h1, Nat.add_zero] at h3
 unfold val
 rw [← h3, show (p + ((R.length - c : Nat) : Int) + K).toNat = (R.length - c) + (p + K).toNat from by omega, Nat.pow_add, ← Nat.mul_assoc, Nat.mul_comm (10 ^ (R.length - c))]
theorem trim_norm {R : List Nat} {c : Nat} (hd : Digs R) (hh : Headed R) (hc : c ≤ R.length) (h0 : 0 < c) (hl : c = 1 ∨ R.getD (c - 1) 0 ≠ 0) : Norm (R.take c) := by
 refine ⟨hd.take c, fun h => ?_, fun h => ?_⟩
 ·have := hh (by omega)
  simpa using this
 ·have hlen : (R.take c).length = c := by rw [List.length_take]; omega
  have e : ∀ (h : (R.take c).length - 1 < (R.take c).length), (R.take c)[(R.take c).length - 1] = R.getD (c - 1) 0 := fun h => by
   rw [List.getElem_take, List.getD_eq_getElem?_getD, List.getElem?_eq_getElem (by omega)]
   simp [hlen]
  rw [e]
  rcases hl with hl | hl
  ·subst hl
   have := hh (by omega)
   rw [List.getD_eq_getElem?_getD, List.getElem?_eq_getElem (by omega)]
   simpa using this
  ·exact hl
def NeighPost (w w' : World) (r : Ending) (p : Int) (V : Nat → Nat) : Prop :=
 ∃ b : Nat, r = .returned (.pointer (some ⟨b, 0, none⟩)) ∧ ∃ (v : Value) (D : List Nat) (e : Int), DecAt w' b v D e ∧ Norm D ∧ (p ≤ e ∧ e + (D.length : Int) ≤ 401) ∧ (∀ K : Nat, 2000 ≤ K → val K D e = V K) ∧ w.heap.size ≤ b ∧ Below w.heap.size w w'
theorem neighbour_any (b : Nat) (v : Value) (D : List Nat) (e p mode : Int) (w : World) (h : DecAt w b v D e) (he : -2000 ≤ e) (ht : e + D.length ≤ 400) (hp1 : e ≤ p) (hp2 : p ≤ e + D.length - 1) :
  Calls Tryz.prog 136 #[.pointer (some ⟨b, 0, none⟩), .int .i64 p, .int .i64 mode] w fun r w' => NeighPost w w' r p (fun K => rndN (awayB mode false) (val K D e) (10 ^ (p + K).toNat) * 10 ^ (p + K).toNat) := by
 have HRD := hid (drounded_any b v D e p mode false w h (by omega) (by omega) (by omega))
 have HD := hid (And.intro h.pos (And.intro he hp1))
 have hp3 : -2000 ≤ p := by omega
 have hp4 : p ≤ 400 := by omega
 have HLE : Hid (∀ R : List Nat, Rnd (awayB mode false) D e p R → 1 ≤ R.length ∧ (R.length : Int) + p ≤ 401) := fun R hr => by
  have a := hr.ge
  have c := hr.len
  omega
 clear h he ht hp1 hp2
 go_enter Tryz.func136, Tryz.ntmps136
 go_wp2_with fail
 refine HRD.out.mono ?_
 rintro r w1 ⟨v1, rfl, ⟨g, l, cp, rfl⟩, R, hrnd, ho, hb⟩
 obtain ⟨hl, hc1, hc2, hg⟩ := ho.sliceLen
 have HR := hid (And.intro hrnd (And.intro ho (And.intro hb hl)))
 have hll := HLE.out R hrnd
 rw [hl] at hll
 obtain ⟨hl1, hl2⟩ := hll
 clear HRD hrnd ho hb hl hg HLE
 go_wp2
 go_loopw [1, 7] (fun pp dd wr => ∃ c : Nat, 0 < c ∧ c ≤ l ∧ pp = .int .i64 (p + (l - c : Nat)) ∧ dd = .slice (some ⟨g, 0, none⟩) c cp ∧ TrimTo R c l ∧ Still w1 wr) (fun _ dd _ => lenOf dd)
 case atStart => exact ⟨l, by omega, Nat.le_refl _, by simp, rfl, fun j h1 h2 => by omega, Still.refl w1⟩
 case round =>
  obtain ⟨c, h0, hcl, rfl, rfl, htr, hst⟩ := hrel
  obtain ⟨q, hq⟩ : ∃ q : Int, q = p + (l - c : Nat) := ⟨_, rfl⟩
  rw [← hq]
  have HQ := hid hq
  have hq1 : -2000 ≤ q := by omega
  have hq2 : q ≤ 2000 := by omega
  obtain ⟨d, rfl⟩ : ∃ d, c = d + 1 := ⟨c - 1, by omega⟩
  obtain ⟨x, hx⟩ : ∃ x, x = R.getD d 0 := ⟨_, rfl⟩
  have cx : wr.cell? ⟨g, d, none⟩ = some (.int .i64 x) := by
   rw [hst.cell, hx]; exact HR.out.2.1.cell HR.out.2.2.2 d (by omega)
  have HX := hid hx
  have HT := hid htr
  have HS := hid hst
  clear hx htr hst hq
  have HFIN : Hid (x ≠ 0 ∨ d = 0 → NeighPost w (wr.alloc (.cells #[.slice (some ⟨g, 0, none⟩) (d + 1) cp, .int .i64 q] 156)) (.returned (.pointer (some ⟨wr.heap.size, 0, none⟩))) p (fun K => rndN (awayB mode false) (val K D e) (10 ^ (p + K).toNat) * 10 ^ (p + K).toNat)) := fun hfin => by
   obtain ⟨hrnd, ho, hb, hl⟩ := HR.out
   have hbw : Below w.heap.size w wr := hb.trans (HS.out.below _)
   have how : Own wr 0 (.slice (some ⟨g, 0, none⟩) (d + 1) cp) (R.take (d + 1)) := ((ho.mono (Nat.zero_le _)).below (HS.out.below w1.heap.size) (Nat.le_refl _)).cutTo hl (d + 1) hcl
   have hlen : (R.take (d + 1)).length = d + 1 := by rw [List.length_take]; omega
   have hnorm : Norm (R.take (d + 1)) := trim_norm hrnd.digs hrnd.headed (by omega) (by omega) (by
    rcases hfin with hf | hf
    ·right; rw [Nat.add_sub_cancel, ← HX.out]; exact hf
    ·left; omega)
   have hqq : q = p + ((R.length - (d + 1) : Nat) : Int) := by rw [hl]; exact HQ.out
   refine ⟨wr.heap.size, rfl, .slice (some ⟨g, 0, none⟩) (d + 1) cp, R.take (d + 1), q, ⟨by simp [go_sem], by simp [go_sem], how.row.below ((Below.refl _ _).alloc (Nat.le_refl _) _) (Nat.le_refl _), hnorm.digs, hnorm.headed, by omega, by omega, by omega, by omega⟩, hnorm, (by rw [hlen]; omega), fun K hK => ?_, hbw.size, hbw.alloc hbw.size _⟩
   rw [hqq, trim_val hrnd.digs (by omega) (by rw [hl]; exact HT.out) K (by omega)]
   unfold val
   rw [hrnd.nval K (by have := HD.out.2.1; omega) (by omega)]
   rfl
  by_cases hd0 : d = 0
  ·have HF2 := hid (HFIN.out (.inr hd0))
   subst hd0
   clear HFIN cx
   go_wp2
   go_ret
   exact HF2.out
  ·by_cases hx0 : x = 0
   ·have hb0 : ((x : Int) == 0) = true := by simp [hx0]
    have HN : Hid (TrimTo R d l) := HT.out.next (by rw [← HX.out]; exact hx0)
    have HQ2 : Hid (q + 1 = p + (l - d : Nat)) := by unfold Hid; rw [HQ.out]; omega
    clear hx0 HFIN
    go_wp2
    all_goals go_roundw
    all_goals first
     | (case rel => exact ⟨d, by omega, by omega, congrArg (Value.int .i64) HQ2.out, rfl, HN.out, HS.out⟩)
     | skip
    all_goals simp [lenOf]
   ·have HF2 := hid (HFIN.out (.inl hx0))
    have hb0 : ((x : Int) == 0) = false := by rw [beq_eq_false_iff_ne]; omega
    clear hx0 HFIN
    go_wp2
    go_ret
    exact HF2.out
end Go.Proofs.YtbkdaoicnobllabGreatDoor

namespace Go.Proofs.YtbkdaoicnobllabGreatDoor
set_option maxRecDepth 100000
set_option maxHeartbeats 1000000
open Go.RowKit

def holdB (cl : Bool) (X L H : Nat) : Bool := if cl = true then decide (L ≤ X ∧ X ≤ H) else decide (L < X ∧ X < H)
theorem hold_closed (X L H : Nat) : holdB true X L H = (decide (0 ≤ cmpN X L) && decide (0 ≤ cmpN H X)) := by
 unfold holdB cmpN
 rw [if_pos rfl, Bool.eq_iff_iff]
 simp only [decide_eq_true_eq, Bool.and_eq_true]
 repeat' split
 all_goals omega
theorem hold_open (X L H : Nat) : holdB false X L H = (decide (0 < cmpN X L) && decide (0 < cmpN H X)) := by
 unfold holdB cmpN
 rw [if_neg (by decide), Bool.eq_iff_iff]
 simp only [decide_eq_true_eq, Bool.and_eq_true]
 repeat' split
 all_goals omega
theorem hold_any (l h d : Nat) (vl vh vd : Value) (L H D : List Nat) (el eh ed : Int) (cl : Bool) (w : World) (hl : DecAt w l vl L el) (hh : DecAt w h vh H eh) (hd : DecAt w d vd D ed) :
  Calls Tryz.prog 137 #[.agg #[.pointer (some ⟨l, 0, none⟩), .pointer (some ⟨h, 0, none⟩), .bool cl], .pointer (some ⟨d, 0, none⟩)] w fun r w' => r = .returned (.bool (holdB cl (val 20000 D ed) (val 20000 L el) (val 20000 H eh))) ∧ Below w.heap.size w w' := by
 obtain ⟨W, hW⟩ : ∃ W, W = w.alloc (.cells #[.pointer (some ⟨l, 0, none⟩), .pointer (some ⟨h, 0, none⟩), .bool cl] 152) := ⟨_, rfl⟩
 have hbx : Below w.heap.size w W := by rw [hW]; exact (Below.refl _ _).alloc (Nat.le_refl _) _
 have s0 : W.cell? ⟨w.heap.size, 0, none⟩ = some (.pointer (some ⟨l, 0, none⟩)) := by rw [hW]; simp [go_sem]
 have s1 : W.cell? ⟨w.heap.size, 1, none⟩ = some (.pointer (some ⟨h, 0, none⟩)) := by rw [hW]; simp [go_sem]
 have s2 : W.cell? ⟨w.heap.size, 2, none⟩ = some (.bool cl) := by rw [hW]; simp [go_sem]
 obtain ⟨C1, hC1⟩ : ∃ C1 : Int, C1 = cmpN (val 20000 D ed) (val 20000 L el) := ⟨_, rfl⟩
 obtain ⟨C2, hC2⟩ : ∃ C2 : Int, C2 = cmpN (val 20000 H eh) (val 20000 D ed) := ⟨_, rfl⟩
 have HX1 : Hid (∀ w1, Below w.heap.size w w1 → Calls Tryz.prog 147 #[.pointer (some ⟨d, 0, none⟩), .pointer (some ⟨l, 0, none⟩)] w1 fun r w' => r = .returned (.int .i64 C1) ∧ Still w1 w') := fun w1 hb => by
  rw [hC1]; exact compareD_any d l vd vl D L ed el w1 (hd.below hb) (hl.below hb)
 have HX2 : Hid (∀ w1, Below w.heap.size w w1 → Calls Tryz.prog 147 #[.pointer (some ⟨h, 0, none⟩), .pointer (some ⟨d, 0, none⟩)] w1 fun r w' => r = .returned (.int .i64 C2) ∧ Still w1 w') := fun w1 hb => by
  rw [hC2]; exact compareD_any h d vh vd H D eh ed w1 (hh.below hb) (hd.below hb)
 have HRC : Hid (holdB true (val 20000 D ed) (val 20000 L el) (val 20000 H eh) = (decide (0 ≤ C1) && decide (0 ≤ C2))) := by unfold Hid; rw [hC1, hC2]; exact hold_closed _ _ _
 have HRO : Hid (holdB false (val 20000 D ed) (val 20000 L el) (val 20000 H eh) = (decide (0 < C1) && decide (0 < C2))) := by unfold Hid; rw [hC1, hC2]; exact hold_open _ _ _
 have HBX := hid hbx
 have HWW := hid hW
 clear hl hh hd hC1 hC2 hbx hW
 cases cl
 ·go_enter Tryz.func137, Tryz.ntmps137
  go_wp2_with fail
  rw [← HWW.out]
  refine (HX1.out W HBX.out).mono ?_
  rintro r w1 ⟨rfl, hs1⟩
  have HB1 : Hid (Below w.heap.size w w1) := HBX.out.trans (hs1.below _)
  have a0 := (hs1.cell _).trans s0
  have a1 := (hs1.cell _).trans s1
  have a2 := (hs1.cell _).trans s2
  clear hs1 HWW s0 s1 s2
  go_wp2_with fail
  refine (HX2.out w1 HB1.out).mono ?_
  rintro r w2 ⟨rfl, hs2⟩
  have HB2 : Hid (Below w.heap.size w w2) := HB1.out.trans (hs2.below _)
  have b2 := (hs2.cell _).trans a2
  clear hs2 a0 a1 a2
  by_cases q1 : 0 < C1
  ·by_cases q2 : 0 < C2
   ·have HR : Hid (true = holdB false (val 20000 D ed) (val 20000 L el) (val 20000 H eh)) := by unfold Hid; rw [HRO.out]; simp [q1, q2]
    go_wp2
    go_ret
    exact ⟨ret_bool HR.out, HB2.out⟩
   ·have HR : Hid (false = holdB false (val 20000 D ed) (val 20000 L el) (val 20000 H eh)) := by unfold Hid; rw [HRO.out]; simp [q2]
    go_wp2
    go_ret
    exact ⟨ret_bool ((decide_eq_false (by omega)).trans HR.out), HB2.out⟩
  ·have HR : Hid (false = holdB false (val 20000 D ed) (val 20000 L el) (val 20000 H eh)) := by unfold Hid; rw [HRO.out]; simp [q1]
   go_wp2
   go_ret
   exact ⟨ret_bool HR.out, HB2.out⟩
 ·go_enter Tryz.func137, Tryz.ntmps137
  go_wp2_with fail
  rw [← HWW.out]
  refine (HX1.out W HBX.out).mono ?_
  rintro r w1 ⟨rfl, hs1⟩
  have HB1 : Hid (Below w.heap.size w w1) := HBX.out.trans (hs1.below _)
  have a0 := (hs1.cell _).trans s0
  have a1 := (hs1.cell _).trans s1
  have a2 := (hs1.cell _).trans s2
  clear hs1 HWW s0 s1 s2
  go_wp2_with fail
  refine (HX2.out w1 HB1.out).mono ?_
  rintro r w2 ⟨rfl, hs2⟩
  have HB2 : Hid (Below w.heap.size w w2) := HB1.out.trans (hs2.below _)
  have b2 := (hs2.cell _).trans a2
  clear hs2 a0 a1 a2
  by_cases q1 : 0 ≤ C1
  ·by_cases q2 : 0 ≤ C2
   ·have HR : Hid (true = holdB true (val 20000 D ed) (val 20000 L el) (val 20000 H eh)) := by unfold Hid; rw [HRC.out]; simp [q1, q2]
    go_wp2
    go_ret
    exact ⟨ret_bool HR.out, HB2.out⟩
   ·have HR : Hid (false = holdB true (val 20000 D ed) (val 20000 L el) (val 20000 H eh)) := by unfold Hid; rw [HRC.out]; simp [q2]
    go_wp2
    go_ret
    exact ⟨ret_bool ((decide_eq_false (by omega)).trans HR.out), HB2.out⟩
  ·have HR : Hid (false = holdB true (val 20000 D ed) (val 20000 L el) (val 20000 H eh)) := by unfold Hid; rw [HRC.out]; simp [q1]
   go_wp2
   go_ret
   exact ⟨ret_bool HR.out, HB2.out⟩
end Go.Proofs.YtbkdaoicnobllabGreatDoor

namespace Go.Proofs.YtbkdaoicnobllabGreatDoor

def lowS (q a : Nat) : Nat := if mA q a = 2 ^ q ∧ 2 ^ q < a then 4 * mA q a - 1 else 4 * mA q a - 2
theorem valA_up (K : Nat) (f : Int) (a : Nat) (hK : 1100 ≤ K) : valA K f (a + 1) = valA K f a + two K (fE f + xA (fQ f) a) := by
 have hp : 0 < 2 ^ fQ f := Nat.pow_pos (by omega)
 have ha : a = a / 2 ^ fQ f * 2 ^ fQ f + a % 2 ^ fQ f := by rw [Nat.mul_comm]; exact (Nat.div_add_mod a _).symm
 have hm : a % 2 ^ fQ f < 2 ^ fQ f := Nat.mod_lt _ hp
 have e1 := valA_at K f (a / 2 ^ fQ f) (a % 2 ^ fQ f) (by omega) hK
 have e2 := valA_at K f (a / 2 ^ fQ f) (a % 2 ^ fQ f + 1) (by omega) hK
 rw [← ha] at e1
 rw [← Nat.add_assoc, ← ha] at e2
 rw [e1, e2]
 unfold xA
 split
 ·rename_i h0
  rw [h0, show fE f + ((0 - 1 : Nat) : Int) = fE f from by simp, Nat.mul_add, Nat.mul_one]
 ·rw [← Nat.add_assoc, Nat.mul_add, Nat.mul_one]
theorem x_down (q a : Nat) (h : 0 < a) : xA q (a - 1) = if mA q a = 2 ^ q ∧ 2 ^ q < a then xA q a - 1 else xA q a := by
 have hp : 0 < 2 ^ q := Nat.pow_pos (by omega)
 have ha : a = 2 ^ q * (a / 2 ^ q) + a % 2 ^ q := (Nat.div_add_mod a _).symm
 have hm : a % 2 ^ q < 2 ^ q := Nat.mod_lt _ hp
 have hd : ∀ l r, a - 1 = 2 ^ q * l + r → r < 2 ^ q → (a - 1) / 2 ^ q = l := fun l r e hr => by
  rw [e, Nat.mul_add_div hp, Nat.div_eq_of_lt hr, Nat.add_zero]
 unfold xA mA
 by_cases h0 : a % 2 ^ q = 0
 ·rw [h0, Nat.add_zero] at ha
  have hq : 0 < a / 2 ^ q := by
   apply Nat.pos_of_ne_zero; intro e; rw [e] at ha; omega
  obtain ⟨l, hl⟩ : ∃ l, a / 2 ^ q = l + 1 := ⟨a / 2 ^ q - 1, by omega⟩
  have he : (a - 1) / 2 ^ q = l := hd l (2 ^ q - 1) (by rw [ha, hl, Nat.mul_add]; omega) (by omega)
  have hmA : (if a / 2 ^ q = 0 then a % 2 ^ q else a % 2 ^ q + 2 ^ q) = 2 ^ q := by rw [if_neg (by omega), h0, Nat.zero_add]
  rw [he, hmA, hl]
  rw [hl] at ha
  by_cases hl0 : l = 0
  ·subst hl0
   rw [if_neg (by omega)]
  ·have : 2 ^ q * 1 < 2 ^ q * (l + 1) := Nat.mul_lt_mul_of_pos_left (by omega) hp
   rw [if_pos (by omega)]; rfl
 ·have he : (a - 1) / 2 ^ q = a / 2 ^ q := hd (a / 2 ^ q) (a % 2 ^ q - 1) (by omega) (by omega)
  rw [he, if_neg]
  rintro ⟨h1, h2⟩
  split at h1 <;> omega
theorem span_num (f : Int) (a : Nat) (pw : Int) (hp : pw + 2 = fE f + xA (fQ f) a) (hk : -(3000 : Int) ≤ pw) : two 3000 pw * (4 * mA (fQ f) a) = valA 3000 f a := by
 unfold valA
 rw [← hp, show pw + 2 = pw + ((2 : Nat) : Int) from rfl, two_mul 3000 pw hk 2, Nat.mul_assoc]
theorem span_high (f : Int) (a : Nat) (pw : Int) (hp : pw + 2 = fE f + xA (fQ f) a) (hk : -(3000 : Int) ≤ pw) : two 3000 pw * (4 * mA (fQ f) a + 2) * 2 = valA 3000 f a + valA 3000 f (a + 1) := by
 have h1 := span_num f a pw hp hk
 have h2 : two 3000 (fE f + xA (fQ f) a) = two 3000 pw * 4 := by
  rw [← hp, show pw + 2 = pw + ((2 : Nat) : Int) from rfl, two_mul 3000 pw hk 2]
 rw [valA_up 3000 f a (by omega), h2, ← h1, Nat.mul_add]
 omega
theorem span_low (f : Int) (a : Nat) (pw : Int) (h0 : 0 < a) (hp : pw + 2 = fE f + xA (fQ f) a) (hk : -(3000 : Int) ≤ pw) : two 3000 pw * lowS (fQ f) a * 2 = valA 3000 f (a - 1) + valA 3000 f a := by
 have h1 := span_num f a pw hp hk
 have h2 : two 3000 (fE f + xA (fQ f) a) = two 3000 pw * 4 := by
  rw [← hp, show pw + 2 = pw + ((2 : Nat) : Int) from rfl, two_mul 3000 pw hk 2]
 have hu := valA_up 3000 f (a - 1) (by omega)
 rw [show a - 1 + 1 = a from by omega, x_down _ a h0] at hu
 have hm := mA_pos (fQ f) a h0
 unfold lowS
 obtain ⟨m, hmm⟩ : ∃ m, mA (fQ f) a = m + 1 := ⟨mA (fQ f) a - 1, by omega⟩
 by_cases hb : mA (fQ f) a = 2 ^ fQ f ∧ 2 ^ fQ f < a
 ·rw [if_pos hb] at hu ⊢
  have hx : 0 < xA (fQ f) a := by
   unfold xA
   have hpp : 0 < 2 ^ fQ f := Nat.pow_pos (by omega)
   have ha := Nat.div_add_mod a (2 ^ fQ f)
   have hmo := Nat.mod_lt a hpp
   apply Nat.pos_of_ne_zero; intro e
   have hm2 := hb.1
   unfold mA at hm2
   have hb2 := hb.2
   generalize a / 2 ^ fQ f = l at *
   split at hm2
   ·omega
   ·have : l = 1 := by omega
    rw [this] at ha; omega
  have h3 : two 3000 (fE f + ((xA (fQ f) a - 1 : Nat) : Int)) = two 3000 pw * 2 := by
   rw [show fE f + ((xA (fQ f) a - 1 : Nat) : Int) = pw + ((1 : Nat) : Int) from by omega, two_mul 3000 pw hk 1]
  rw [h3] at hu
  rw [hu] at h1 ⊢
  rw [hmm] at h1 ⊢
  rw [show 4 * (m + 1) - 1 = 4 * m + 3 from by omega]
  rw [Nat.mul_add, Nat.mul_add, Nat.mul_one] at h1
  rw [Nat.mul_add]
  omega
 ·rw [if_neg hb] at hu ⊢
  rw [h2] at hu
  rw [hu] at h1 ⊢
  rw [hmm] at h1 ⊢
  rw [show 4 * (m + 1) - 2 = 4 * m + 2 from by omega]
  rw [Nat.mul_add, Nat.mul_add, Nat.mul_one] at h1
  rw [Nat.mul_add]
  omega
theorem span_hold (f : Int) (a : Nat) (pw : Int) (h0 : 0 < a) (hp : pw + 2 = fE f + xA (fQ f) a) (hk : -(3000 : Int) ≤ pw) :
  (fun X => holdB (decide (a % 2 = 0)) X (two 3000 pw * lowS (fQ f) a) (two 3000 pw * (4 * mA (fQ f) a + 2)) = true) = Hold 3000 f a := by
 have h1 := span_low f a pw h0 hp hk
 have h2 := span_high f a pw hp hk
 funext X
 apply propext
 rw [Hold.iff]
 unfold holdB
 by_cases h : a % 2 = 0
 ·rw [show decide (a % 2 = 0) = true from decide_eq_true h, if_pos rfl, decide_eq_true_eq]
  constructor
  ·intro hh; exact .inl ⟨h, by omega, by omega⟩
  ·rintro (⟨_, a1, a2⟩ | ⟨a0, _⟩)
   ·exact ⟨by omega, by omega⟩
   ·exact absurd h a0
 ·rw [show decide (a % 2 = 0) = false from decide_eq_false h, if_neg (by decide), decide_eq_true_eq]
  constructor
  ·intro hh; exact .inr ⟨h, by omega, by omega⟩
  ·rintro (⟨a0, _⟩ | ⟨_, a1, a2⟩)
   ·exact absurd a0 h
   ·exact ⟨by omega, by omega⟩
end Go.Proofs.YtbkdaoicnobllabGreatDoor
