import Derived.Test.YtbkdaoicnobllabGreatDoorG27
import Derived.Test.YtbkdaoicnobllabGreatDoorG24

namespace Go.Proofs.YtbkdaoicnobllabGreatDoor
open Go.RowKit

theorem hold_scale (cl : Bool) (X L H c : Nat) (hc : 0 < c) : holdB cl (X * c) (L * c) (H * c) = holdB cl X L H := by
  unfold holdB
  simp only [Nat.mul_le_mul_right_iff hc, Nat.mul_lt_mul_right hc]
set_option exponentiation.threshold 20000 in
theorem nbV_scale (D : List Nat) (e p md : Int) (he : -(3000 : Int) ≤ e) (hp : -(3000 : Int) ≤ p) : nbV D e p md 20000 = nbV D e p md 3000 * 10 ^ 17000 := by
  unfold nbV
  have h1 := val_more 3000 17000 D e he
  have h2 := pow_more 3000 17000 p hp
  rw [show (3000 : Nat) + 17000 = 20000 from rfl] at h1 h2
  rw [h1, h2, rndN_mul _ _ _ _ (Nat.pow_pos (by omega)), Nat.mul_assoc]
theorem hold_mid (cl : Bool) (t lo nu hi : Nat) (ht : 0 < t) (h1 : lo < nu) (h2 : nu < hi) : holdB cl (t * nu) (t * lo) (t * hi) = true := by
  have a := Nat.mul_lt_mul_of_pos_left h1 ht
  have b := Nat.mul_lt_mul_of_pos_left h2 ht
  unfold holdB; split <;> simp <;> omega
set_option exponentiation.threshold 20000 in
theorem near_hold {L H D : List Nat} {el eh e p md : Int} {cl : Bool} {lo nu hi : Nat} {pw : Int} (v1 : val 3000 D e = two 3000 pw * nu) (v2 : val 3000 L el = two 3000 pw * lo) (v3 : val 3000 H eh = two 3000 pw * hi) (k1 : -(3000 : Int) ≤ e) (k2 : -(3000 : Int) ≤ el) (k3 : -(3000 : Int) ≤ eh) (k4 : -(3000 : Int) ≤ p) :
    holdB cl (nbV D e p md 20000) (val 20000 L el) (val 20000 H eh) = holdB cl (rndN (awayB md false) (two 3000 pw * nu) (10 ^ (p + (3000 : Nat)).toNat) * 10 ^ (p + (3000 : Nat)).toNat) (two 3000 pw * lo) (two 3000 pw * hi) := by
  have h1 := val_more 3000 17000 L el k2
  have h2 := val_more 3000 17000 H eh k3
  rw [show (3000 : Nat) + 17000 = 20000 from rfl] at h1 h2
  rw [nbV_scale D e p md k1 k4, h1, h2, hold_scale _ _ _ _ _ (Nat.pow_pos (by omega)), v2, v3]
  unfold nbV
  rw [v1]
theorem near_yes {L H D : List Nat} {el eh e p md : Int} {cl : Bool} {lo nu hi : Nat} {pw : Int} (v1 : val 3000 D e = two 3000 pw * nu) (v2 : val 3000 L el = two 3000 pw * lo) (v3 : val 3000 H eh = two 3000 pw * hi) (k1 : -(3000 : Int) ≤ e) (k2 : -(3000 : Int) ≤ el) (k3 : -(3000 : Int) ≤ eh) (k4 : -(3000 : Int) ≤ p)
    (hs : holdB cl (two 3000 pw * nu) (two 3000 pw * lo) (two 3000 pw * hi) = true) (h : FirstOf (fun X => holdB cl X (val 20000 L el) (val 20000 H eh)) D e p md) :
    StepYes (fun X => holdB cl X (two 3000 pw * lo) (two 3000 pw * hi) = true) (two 3000 pw * nu) (10 ^ (p + (3000 : Nat)).toNat) (nbV D e p md 3000) := by
  have nh := fun md => near_hold (md := md) (cl := cl) v1 v2 v3 k1 k2 k3 k4
  have hn : nbV D e p md 3000 = rndN (awayB md false) (two 3000 pw * nu) (10 ^ (p + (3000 : Nat)).toNat) * 10 ^ (p + (3000 : Nat)).toNat := by unfold nbV; rw [v1]
  rw [hn]
  rcases h with ⟨rfl, a⟩ | ⟨rfl, a, b⟩ | ⟨rfl, a, b, c⟩
  · exact step_even ((nh 0).symm.trans a)
  · exact step_up hs (fun hh => Bool.noConfusion (((nh 0).symm.trans a).symm.trans hh)) ((nh 3).symm.trans b)
  · exact step_cut hs (fun hh => Bool.noConfusion (((nh 0).symm.trans a).symm.trans hh)) (fun hh => Bool.noConfusion (((nh 3).symm.trans b).symm.trans hh)) ((nh 2).symm.trans c)
theorem near_no {L H D : List Nat} {el eh e p : Int} {cl : Bool} {lo nu hi : Nat} {pw : Int} (v1 : val 3000 D e = two 3000 pw * nu) (v2 : val 3000 L el = two 3000 pw * lo) (v3 : val 3000 H eh = two 3000 pw * hi) (k1 : -(3000 : Int) ≤ e) (k2 : -(3000 : Int) ≤ el) (k3 : -(3000 : Int) ≤ eh) (k4 : -(3000 : Int) ≤ p)
    (hs : holdB cl (two 3000 pw * nu) (two 3000 pw * lo) (two 3000 pw * hi) = true) (h : NoneOf (fun X => holdB cl X (val 20000 L el) (val 20000 H eh)) D e p) :
    StepNo (fun X => holdB cl X (two 3000 pw * lo) (two 3000 pw * hi) = true) (two 3000 pw * nu) (10 ^ (p + (3000 : Nat)).toNat) := by
  have nh := fun md => near_hold (md := md) (cl := cl) v1 v2 v3 k1 k2 k3 k4
  obtain ⟨a, b, c⟩ := h
  exact step_none hs (fun hh => Bool.noConfusion (((nh 0).symm.trans a).symm.trans hh)) (fun hh => Bool.noConfusion (((nh 3).symm.trans b).symm.trans hh)) (fun hh => Bool.noConfusion (((nh 2).symm.trans c).symm.trans hh))
theorem exact_norm {D : List Nat} {e : Int} (hd : Digs D) (hh : Headed D) (hl : 0 < D.length) (he : -(3000 : Int) ≤ e) (h : 1 < D.length → val 3000 D e % 10 ^ (e + 1 + (3000 : Nat)).toNat ≠ 0) : Norm D := by
  refine ⟨hd, hh, fun hp => ?_⟩
  rcases (by omega : D.length = 1 ∨ 1 < D.length) with g | g
  · have := hh hp
    simpa [g] using this
  · intro h0
    apply h g
    have hk := num_digit hd (D.length - 1) (by omega)
    rw [List.getD_eq_getElem?_getD, List.getElem?_eq_getElem (by omega)] at hk
    rw [Nat.sub_self, Nat.pow_zero, Nat.div_one] at hk
    simp only [Option.getD_some] at hk
    rw [h0] at hk
    obtain ⟨x, hx⟩ : ∃ x, num D = 10 * x := ⟨num D / 10, by omega⟩
    unfold val
    rw [hx, show (e + 1 + ((3000 : Nat) : Int)).toNat = (e + (3000 : Nat)).toNat + 1 from by omega, Nat.pow_succ, Nat.mul_comm 10 x, Nat.mul_assoc, Nat.mul_comm 10]
    exact Nat.mul_mod_left _ _
def NoTo (lo nu hi : Nat) (pw : Int) (cl : Bool) (T q : Int) : Prop := ∀ q', q < q' → q' ≤ T → StepNo (fun X => holdB cl X (two 3000 pw * lo) (two 3000 pw * hi) = true) (two 3000 pw * nu) (10 ^ (q' + (3000 : Nat)).toNat)
/-- The decimal that the span has. -/
structure WithAt (lo nu hi : Nat) (pw : Int) (cl : Bool) (D : List Nat) (e p : Int) (X : Nat) : Prop where
  digs : Digs D
  headed : Headed D
  pos : 0 < D.length
  lo' : -1080 ≤ e
  val : val 3000 D e = two 3000 pw * nu
  le : p ≤ e + D.length - 1
  yes : StepYes (fun X => holdB cl X (two 3000 pw * lo) (two 3000 pw * hi) = true) (two 3000 pw * nu) (10 ^ (p + (3000 : Nat)).toNat) X
  no : ∀ q, p < q → q ≤ e + D.length - 1 → StepNo (fun X => holdB cl X (two 3000 pw * lo) (two 3000 pw * hi) = true) (two 3000 pw * nu) (10 ^ (q + (3000 : Nat)).toNat)
def WithPost (w w' : World) (r : Ending) (lo nu hi : Nat) (pw : Int) (cl : Bool) : Prop :=
  ∃ b : Nat, r = .returned (.pointer (some ⟨b, 0, none⟩)) ∧ ∃ (v : Value) (D' : List Nat) (e' : Int), DecAt w' b v D' e' ∧ Norm D' ∧ (-1080 ≤ e' ∧ e' + (D'.length : Int) ≤ 401) ∧ (∃ D e p, WithAt lo nu hi pw cl D e p (Go.Proofs.YtbkdaoicnobllabGreatDoor.val 3000 D' e')) ∧ Below w.heap.size w w'
set_option maxRecDepth 100000 in
set_option maxHeartbeats 1000000 in
theorem within_any (lo nu hi : Nat) (LO NU HI pw : Int) (cl : Bool) (w : World) (h1 : LO = (lo : Int)) (h2 : NU = (nu : Int)) (h3 : HI = (hi : Int)) (hl0 : 0 < lo) (hln : lo < nu) (hnh : nu < hi) (hh : hi < 1152921504606846976) (hp1 : -1080 ≤ pw) (hp2 : pw ≤ 1080) :
    Calls Tryz.prog 92 #[.agg #[.int .i64 LO, .int .i64 NU, .int .i64 HI, .int .i64 pw, .bool cl]] w fun r w' => WithPost w w' r lo nu hi pw cl := by
  have HF1 := hid (fun w => fromBinary_any nu pw w (by omega) (by omega) hp1 hp2)
  have HF2 := hid (fun w => fromBinary_any lo pw w (by omega) (by omega) hp1 hp2)
  have HF3 := hid (fun w => fromBinary_any hi pw w (by omega) (by omega) hp1 hp2)
  rw [← h2] at HF1
  rw [← h1] at HF2
  rw [← h3] at HF3
  have HLT := hid (And.intro hln (And.intro hnh (And.intro hl0 hh)))
  clear h1 h2 h3 hl0 hln hnh hh
  go_enter Tryz.func92, Tryz.ntmps92
  go_wp2_with fail
  obtain ⟨W, hW⟩ : ∃ W, W = w.alloc (.cells #[.int .i64 LO, .int .i64 NU, .int .i64 HI, .int .i64 pw, .bool cl] 125) := ⟨_, rfl⟩
  have hbx : Below w.heap.size w W := by rw [hW]; exact (Below.refl _ _).alloc (Nat.le_refl _) _
  have s0 : W.cell? ⟨w.heap.size, 0, none⟩ = some (.int .i64 LO) := by rw [hW]; simp [go_sem]
  have s1 : W.cell? ⟨w.heap.size, 1, none⟩ = some (.int .i64 NU) := by rw [hW]; simp [go_sem]
  have s2 : W.cell? ⟨w.heap.size, 2, none⟩ = some (.int .i64 HI) := by rw [hW]; simp [go_sem]
  have s3 : W.cell? ⟨w.heap.size, 3, none⟩ = some (.int .i64 pw) := by rw [hW]; simp [go_sem]
  have s4 : W.cell? ⟨w.heap.size, 4, none⟩ = some (.bool cl) := by rw [hW]; simp [go_sem]
  have HBX := hid hbx
  rw [← hW]
  clear hW hbx
  refine (HF1.out W).mono ?_
  rintro r w1 ⟨b1, rfl, v1, D1, e1, hd1, ⟨he1, he1'⟩, hv1, hb1, hbl1⟩
  have t0 := keep_cell' hbl1 s0
  have t2 := keep_cell' hbl1 s2
  have t3 := keep_cell' hbl1 s3
  have t4 := keep_cell' hbl1 s4
  have HB1 : Hid (Below w.heap.size w w1) := HBX.out.trans (hbl1.mono HBX.out.size)
  have HD1 := hid hd1
  have HV1 := hid hv1
  clear hd1 hv1 hbl1 hb1 s0 s1 s2 s3 s4 HF1
  go_wp2_with fail
  refine (HF2.out w1).mono ?_
  rintro r w2 ⟨b2, rfl, v2, D2, e2, hd2, ⟨he2, he2'⟩, hv2, hb2, hbl2⟩
  have u2 := keep_cell' hbl2 t2
  have u3 := keep_cell' hbl2 t3
  have u4 := keep_cell' hbl2 t4
  have HB2 : Hid (Below w.heap.size w w2) := HB1.out.trans (hbl2.mono HB1.out.size)
  have HD12 : Hid (DecAt w2 b1 v1 D1 e1) := HD1.out.below hbl2
  have HD2 := hid hd2
  have HV2 := hid hv2
  clear hd2 hv2 hbl2 hb2 t0 t2 t3 t4 HF2 HD1
  go_wp2_with fail
  refine (HF3.out w2).mono ?_
  rintro r w3 ⟨b3, rfl, v3, D3, e3, hd3, ⟨he3, he3'⟩, hv3, hb3, hbl3⟩
  have x4 := keep_cell' hbl3 u4
  have HB3 : Hid (Below w.heap.size w w3) := HB2.out.trans (hbl3.mono HB2.out.size)
  have HD13 : Hid (DecAt w3 b1 v1 D1 e1) := HD12.out.below hbl3
  have HD23 : Hid (DecAt w3 b2 v2 D2 e2) := HD2.out.below hbl3
  have HD3 := hid hd3
  have HV3 := hid hv3
  clear hd3 hv3 hbl3 hb3 u2 u3 u4 HF3 HD12 HD2
  go_wp2_with fail
  obtain ⟨W4, hW4⟩ : ∃ W4, W4 = w3.alloc (.cells #[.pointer (some ⟨b2, 0, none⟩), .pointer (some ⟨b3, 0, none⟩), .bool cl] 152) := ⟨_, rfl⟩
  have hb4 : Below w3.heap.size w3 W4 := by rw [hW4]; exact (Below.refl _ _).alloc (Nat.le_refl _) _
  have y0 : W4.cell? ⟨w3.heap.size, 0, none⟩ = some (.pointer (some ⟨b2, 0, none⟩)) := by rw [hW4]; simp [go_sem]
  have y1 : W4.cell? ⟨w3.heap.size, 1, none⟩ = some (.pointer (some ⟨b3, 0, none⟩)) := by rw [hW4]; simp [go_sem]
  have y2 : W4.cell? ⟨w3.heap.size, 2, none⟩ = some (.bool cl) := by rw [hW4]; simp [go_sem]
  rw [← hW4]
  have HB4 : Hid (Below w.heap.size w W4) := HB3.out.trans (hb4.mono HB3.out.size)
  have HE1 : Hid (DecAt W4 b1 v1 D1 e1) := HD13.out.below hb4
  have HE2 : Hid (DecAt W4 b2 v2 D2 e2) := HD23.out.below hb4
  have HE3 : Hid (DecAt W4 b3 v3 D3 e3) := HD3.out.below hb4
  clear hW4 hb4 x4 HD13 HD23 HD3
  refine (lastPower_any b1 v1 D1 e1 W4 HE1.out).mono ?_
  rintro r w5 ⟨rfl, rfl⟩
  obtain ⟨T, hT⟩ : ∃ T : Int, T = e1 + D1.length - 1 := ⟨_, rfl⟩
  have HV3 : Hid (val 3000 D3 e3 = two 3000 pw * hi) := HV3.out 3000 (by omega)
  have HV2 : Hid (val 3000 D2 e2 = two 3000 pw * lo) := HV2.out 3000 (by omega)
  have HV1 : Hid (val 3000 D1 e1 = two 3000 pw * nu) := HV1.out 3000 (by omega)
  have htop := small_top HE1.out.head HE1.out.pos (by omega) HV1.out (by have := HLT.out; omega) hp1 hp2
  have hT1 : e1 ≤ T := by have := HE1.out.pos; omega
  have hT2 : T ≤ 400 := by omega
  have HFP : Hid (Calls Tryz.prog 96 #[.pointer (some ⟨b1, 0, none⟩)] w5 fun r w' => r = .returned (.int .i64 T) ∧ Still w5 w') := by
    unfold Hid; rw [hT]; exact firstPower_any b1 v1 D1 e1 w5 HE1.out
  have HT := hid (And.intro hT htop)
  have HSELF : Hid (holdB cl (two 3000 pw * nu) (two 3000 pw * lo) (two 3000 pw * hi) = true) := hold_mid cl _ _ _ _ (two_pos _ _) HLT.out.1 HLT.out.2.1
  clear hT htop
  go_wp2_with fail
  refine HFP.out.mono ?_
  rintro r w6 ⟨rfl, hs6⟩
  have z0 := (hs6.cell _).trans y0
  have z1 := (hs6.cell _).trans y1
  have z2 := (hs6.cell _).trans y2
  have HB6 : Hid (Below w.heap.size w w6) := HB4.out.trans (hs6.below _)
  have HG1 : Hid (DecAt w6 b1 v1 D1 e1) := HE1.out.below (hs6.below _)
  have HG2 : Hid (DecAt w6 b2 v2 D2 e2) := HE2.out.below (hs6.below _)
  have HG3 : Hid (DecAt w6 b3 v3 D3 e3) := HE3.out.below (hs6.below _)
  clear hs6 y0 y1 y2 HE1 HE2 HE3 HFP HB4 HB3 HB2 HB1
  go_wp2
  go_loopw [8] (fun pp wr => ∃ q : Int, pp = .int .i64 q ∧ e1 ≤ q ∧ q ≤ T ∧ NoTo lo nu hi pw cl T q ∧ Below w6.heap.size w6 wr) (fun pp _ => (intOf pp - e1).toNat)
  case atStart => exact ⟨T, rfl, hT1, Int.le_refl _, fun q' a b => by omega, Below.refl _ _⟩
  case round =>
    obtain ⟨q, rfl, hq1, hq2, hno, hbw⟩ := hrel
    have HNO := hid hno
    have HBW := hid hbw
    have HBF : Hid (Below w.heap.size w wr) := HB6.out.trans (hbw.mono HB6.out.size)
    have c0 := keep_cell' hbw z0
    have c1 := keep_cell' hbw z1
    have c2 := keep_cell' hbw z2
    clear hno hbw z0 z1 z2
    by_cases hgt : e1 < q
    · have HNE := hid (nearest_any b2 b3 b1 v2 v3 v1 D2 D3 D1 e2 e3 e1 q cl wr (HG2.out.below HBW.out) (HG3.out.below HBW.out) (HG1.out.below HBW.out) (by omega) (by have := HT.out.2; omega) hq1 (by have := HT.out.1; omega))
      go_wp2_with fail
      refine HNE.out.mono ?_
      rintro r w7 (⟨md, hfirst, b, rfl, v', D', e', hdec, hnorm, hpe, hval, hbb, hb7⟩ | ⟨hnone, rfl, hb7⟩)
      · have HP : Hid (WithPost w w7 (.returned (.pointer (some ⟨b, 0, none⟩))) lo nu hi pw cl) := by
          refine ⟨b, rfl, v', D', e', hdec, hnorm, by omega, ⟨D1, e1, q, HG1.out.digs, HG1.out.head, HG1.out.pos, he1, HV1.out, by have := HT.out.1; omega, ?_, fun q' a c => HNO.out q' a (by have := HT.out.1; omega)⟩, HBF.out.trans (hb7.mono HBF.out.size)⟩
          rw [hval 3000 (by omega)]
          exact near_yes HV1.out HV2.out HV3.out (by omega) (by omega) (by omega) (by omega) HSELF.out hfirst
        clear hfirst hdec hnorm hpe hval hbb hb7 HNE
        go_wp2
        go_ret
        exact HP.out
      · have HN2 : Hid (NoTo lo nu hi pw cl T (q - 1)) := fun q' a c => by
          rcases (by omega : q' = q ∨ q < q') with g | g
          · rw [g]; exact near_no HV1.out HV2.out HV3.out (by omega) (by omega) (by omega) (by omega) HSELF.out hnone
          · exact HNO.out q' g c
        have HB7 : Hid (Below w6.heap.size w6 w7) := HBW.out.trans (hb7.mono HBW.out.size)
        clear hnone hb7 HNE
        go_wp2
        go_roundw
        case rel => exact ⟨q - 1, by go_num, by omega, by omega, HN2.out, HB7.out⟩
        case measure => simp [intOf]; omega
    · have hqe : q = e1 := by omega
      have HP : Hid (WithPost w wr (.returned (.pointer (some ⟨b1, 0, none⟩))) lo nu hi pw cl) := by
        have hd := HG1.out.below HBW.out
        have hno' : ∀ q', e1 < q' → q' ≤ e1 + D1.length - 1 → StepNo (fun X => holdB cl X (two 3000 pw * lo) (two 3000 pw * hi) = true) (two 3000 pw * nu) (10 ^ (q' + (3000 : Nat)).toNat) := fun q' a c => HNO.out q' (by omega) (by have := HT.out.1; omega)
        refine ⟨b1, rfl, v1, D1, e1, hd, ?_, (by have := HT.out.2; omega), ⟨D1, e1, e1, hd.digs, hd.head, hd.pos, he1, HV1.out, by have := HT.out.1; omega, ?_, hno'⟩, HBF.out⟩
        · refine exact_norm (e := e1) hd.digs hd.head hd.pos (by omega) (fun hl => ?_)
          rw [HV1.out]; exact (hno' (e1 + 1) (by omega) (by omega)).1
        · rw [HV1.out]
          refine .inl ⟨?_, rfl⟩
          rw [← HV1.out]; unfold val; exact Nat.mul_mod_left _ _
      clear hqe
      go_wp2
      go_ret
      exact HP.out
end Go.Proofs.YtbkdaoicnobllabGreatDoor
