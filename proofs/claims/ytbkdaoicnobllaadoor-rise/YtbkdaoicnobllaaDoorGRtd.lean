import Derived.Test.YtbkdaoicnobllaaDoorGNumDig
import Derived.Test.YtbkdaoicnobllaaDoorGTo
import Derived.Test.YtbkdaoicnobllaaDoorGRefF

namespace Go.Proofs.YtbkdaoicnobllaaDoor
open Go.RowKit

theorem valA_top {f : Int} {a : Nat} {L : List Nat} {e : Int} (hf : 0 ≤ f ∧ f ≤ 2) (ha : (a : Int) < infA f) (hh : Headed L) (hl : 0 < L.length) (he : -(3000 : Int) ≤ e) (hv : val 3000 L e = valA 3000 f a) : e + L.length ≤ 400 := by
  rcases (by omega : f = 0 ∨ f = 1 ∨ f = 2) with rfl | rfl | rfl
  · have hai : (a : Int) < 31744 := ha
    have h1 := mA_lt 10 a
    rw [show (2 : Nat) ^ 10 = 1024 from by decide] at h1
    have h2 : (-24 : Int) + (xA 10 a : Nat) ≤ 1080 := by
      unfold xA; rw [show (2 : Nat) ^ 10 = 1024 from by decide]; omega
    exact small_top hh hl he (show val 3000 L e = two 3000 (-24 + (xA 10 a : Nat)) * mA 10 a from hv) (by omega) (by omega) (by omega)
  · have hai : (a : Int) < 2139095040 := ha
    have h1 := mA_lt 23 a
    rw [show (2 : Nat) ^ 23 = 8388608 from by decide] at h1
    have h2 : (-149 : Int) + (xA 23 a : Nat) ≤ 1080 := by
      unfold xA; rw [show (2 : Nat) ^ 23 = 8388608 from by decide]; omega
    exact small_top hh hl he (show val 3000 L e = two 3000 (-149 + (xA 23 a : Nat)) * mA 23 a from hv) (by omega) (by omega) (by omega)
  · have hai : (a : Int) < 9218868437227405312 := ha
    have h1 := mA_lt 52 a
    rw [show (2 : Nat) ^ 52 = 4503599627370496 from by decide] at h1
    have h2 : (-1074 : Int) + (xA 52 a : Nat) ≤ 1080 := by
      unfold xA; rw [show (2 : Nat) ^ 52 = 4503599627370496 from by decide]; omega
    exact small_top hh hl he (show val 3000 L e = two 3000 (-1074 + (xA 52 a : Nat)) * mA 52 a from hv) (by omega) (by omega) (by omega)
theorem valA_none (K : Nat) (f : Int) : valA K f 0 = 0 := by unfold valA mA; simp
theorem valA_some (K : Nat) (f : Int) (a : Nat) (h : 0 < a) : 0 < valA K f a := Nat.mul_pos (two_pos _ _) (mA_pos _ _ h)
theorem highN_le (L : List Nat) (e : Int) (c : Nat) (h : e + L.length ≤ c) : highN L e ≤ c := by
  unfold highN; split <;> omega
set_option maxRecDepth 100000 in
set_option maxHeartbeats 1000000 in
theorem rtextFix (f A : Int) (a : Nat) (ng : Bool) (prec mode P LO : Int) (hA : A = (a : Int)) (hf : 0 ≤ f ∧ f ≤ 2) (ha : (a : Int) < infA f) (h1 : 0 ≤ prec) (h2 : prec ≤ 800) (w : World) :
    Calls Tryd.prog 24 #[.int .i64 f, .int .i64 A, .bool ng, .int .i64 3, .int .i64 prec, .int .i64 mode, .int .i64 P, .int .i64 LO] w fun r w' => TextPost w w' r (FixQ (awayB mode ng) (valA 3000 f a) prec.toNat) := by
  have HV := hid (fun w => value_any f a w hf (by omega))
  rw [← hA] at HV
  obtain ⟨N, hN⟩ : ∃ N : Int, -prec = N := ⟨_, rfl⟩
  have HVT := hid (fun (L : List Nat) (e : Int) (a1 : Headed L) (a2 : 0 < L.length) (a3 : -(3000 : Int) ≤ e) (a4 : val 3000 L e = valA 3000 f a) => valA_top hf ha a1 a2 a3 a4)
  have HPR : Hid (((prec.toNat : Nat) : Int) = prec) := by unfold Hid; omega
  clear hA hf ha
  go_enter Tryd.func24, Tryd.ntmps24
  go_wp2_with fail
  refine (HV.out _).mono ?_
  rintro r w1 ⟨hb1, v', L, e, rfl, hout⟩
  obtain ⟨ao, cp, hv⟩ := hout.row.isSlice
  subst hv
  have HVAL : Hid (val 3000 L e = valA 3000 f a) := hout.val 3000 (by omega)
  have hbd : -1100 ≤ e ∧ e + L.length ≤ 400 := by
    by_cases hL : L = []
    · rw [hout.nil hL, hL]; simp
    · have q := (hout.ne hL).1
      exact ⟨q, HVT.out L e hout.norm.headed (List.length_pos_iff.2 hL) (by omega) HVAL.out⟩
  obtain ⟨he1, he2⟩ := hbd
  have HB1 : Hid (Below w.heap.size w (w1.alloc (.cells #[.slice ao L.length cp, .int .i64 e] 60))) := hb1.alloc hb1.size _
  have HROW : Hid (Row (w1.alloc (.cells #[.slice ao L.length cp, .int .i64 e] 60)) (.slice ao L.length cp) L) := hout.row.below ((Below.refl _ _).alloc (Nat.le_refl _) _) (Nat.le_refl _)
  have HNZ := hid (And.intro hout.norm hout.nil)
  have hLn := hout.len
  clear hb1 hout HV HVT
  go_wp2_with fail
  refine (to_any (.slice ao L.length cp) L e N mode ng _ HROW.out HNZ.out.1 HNZ.out.2 (by omega) (by omega) (by omega)).mono ?_
  rintro r w2 ⟨hb2, v2, L2, e2, rfl, hout2⟩
  obtain ⟨ao2, cp2, hv2⟩ := hout2.row.isSlice
  subst hv2
  have HB2 : Hid (Below w.heap.size w (w2.alloc (.cells #[.slice ao2 L2.length cp2, .int .i64 e2] 60))) := (HB1.out.trans (hb2.mono HB1.out.size)).alloc (HB1.out.trans (hb2.mono HB1.out.size)).size _
  have hbd2 : -1100 ≤ e2 ∧ e2 + L2.length ≤ 402 := by
    by_cases hL : L2 = []
    · rw [hout2.nil hL, hL]; simp
    · have q := hout2.ne hL
      omega
  obtain ⟨hg1, hg2⟩ := hbd2
  have HR2 : Hid (Row (w2.alloc (.cells #[.slice ao2 L2.length cp2, .int .i64 e2] 60)) (.slice ao2 L2.length cp2) L2) := hout2.row.below ((Below.refl _ _).alloc (Nat.le_refl _) _) (Nat.le_refl _)
  have HQ : Hid (FixQ (awayB mode ng) (valA 3000 f a) prec.toNat (fixT L2 e2 (highN L2 e2) (cntN e2 prec)) ∧ (fixT L2 e2 (highN L2 e2) (cntN e2 prec)).length ≤ 5000) := by
    have hc : cntN e2 prec = prec.toNat := by unfold cntN; rw [if_neg (by omega)]
    rw [hc]
    refine ⟨fix_ref (by omega) hout2.norm hout2.nil (fun _ => by omega) ?_, ?_⟩
    · have q := hout2.val 3000 (by omega)
      unfold rndV at q
      rw [HVAL.out, show N = -((prec.toNat : Nat) : Int) from by rw [HPR.out]; omega] at q
      exact q
    · have q := fixT_length L2 e2 (highN L2 e2) prec.toNat
      have q2 := highN_le L2 e2 402 (by omega)
      omega
  have HD2 := hid hout2.norm.digs
  have hLn2 := hout2.len
  clear hb2 hout2 HROW HNZ HVAL
  go_wp2_with fail
  refine (plain_any (.slice ao2 L2.length cp2) L2 e2 prec _ HR2.out HD2.out hLn2 (by omega) (by omega) (by omega)).mono ?_
  rintro r w3 ⟨rfl, hb3⟩
  have HB3 : Hid (Below w.heap.size w w3) := HB2.out.trans (hb3.mono HB2.out.size)
  clear hb3
  go_wp2
  go_ret
  exact ⟨_, rfl, HQ.out.1, HQ.out.2, HB3.out⟩
theorem nil_of_zero {L : List Nat} {e : Int} (hn : Norm L) (h : val 3000 L e = 0) : L = [] := by
  by_cases hL : L = []
  · exact hL
  · unfold val at h
    have := Nat.mul_pos (hn.headed.pos (List.length_pos_iff.2 hL)) (Nat.pow_pos (n := (e + (3000 : Nat)).toNat) (show 0 < 10 by omega))
    omega
set_option maxRecDepth 100000 in
set_option maxHeartbeats 1000000 in
theorem rtextExp (f A : Int) (a : Nat) (ng : Bool) (prec mode P LO : Int) (hA : A = (a : Int)) (hf : 0 ≤ f ∧ f ≤ 2) (ha : (a : Int) < infA f) (h1 : 0 ≤ prec) (h2 : prec ≤ 800) (w : World) :
    Calls Tryd.prog 24 #[.int .i64 f, .int .i64 A, .bool ng, .int .i64 2, .int .i64 prec, .int .i64 mode, .int .i64 P, .int .i64 LO] w fun r w' => TextPost w w' r (ExpQ (awayB mode ng) (valA 3000 f a) prec.toNat) := by
  have HV := hid (fun w => value_any f a w hf (by omega))
  rw [← hA] at HV
  obtain ⟨N, hN⟩ : ∃ N : Int, -prec = N := ⟨_, rfl⟩
  have HVT := hid (fun (L : List Nat) (e : Int) (a1 : Headed L) (a2 : 0 < L.length) (a3 : -(3000 : Int) ≤ e) (a4 : val 3000 L e = valA 3000 f a) => valA_top hf ha a1 a2 a3 a4)
  have HPR : Hid (((prec.toNat : Nat) : Int) = prec) := by unfold Hid; omega
  by_cases h0 : a = 0
  · have hA0 : A = 0 := by omega
    subst hA0
    have HZ : Hid (valA 3000 f a = 0) := by unfold Hid; rw [h0]; exact valA_none 3000 f
    clear hA hf ha h0
    go_enter Tryd.func24, Tryd.ntmps24
    go_wp2_with fail
    refine (HV.out _).mono ?_
    rintro r w1 ⟨hb1, v', L, e, rfl, hout⟩
    obtain ⟨ao, cp, hv⟩ := hout.row.isSlice
    subst hv
    have HVAL : Hid (val 3000 L e = valA 3000 f a) := hout.val 3000 (by omega)
    have hbd : -1100 ≤ e ∧ e + L.length ≤ 400 := by
      by_cases hL : L = []
      · rw [hout.nil hL, hL]; simp
      · have q := (hout.ne hL).1
        exact ⟨q, HVT.out L e hout.norm.headed (List.length_pos_iff.2 hL) (by omega) HVAL.out⟩
    obtain ⟨he1, he2⟩ := hbd
    have HB1 : Hid (Below w.heap.size w (w1.alloc (.cells #[.slice ao L.length cp, .int .i64 e] 60))) := hb1.alloc hb1.size _
    have HROW : Hid (Row (w1.alloc (.cells #[.slice ao L.length cp, .int .i64 e] 60)) (.slice ao L.length cp) L) := hout.row.below ((Below.refl _ _).alloc (Nat.le_refl _) _) (Nat.le_refl _)
    have HNZ := hid (And.intro hout.norm hout.nil)
    have hLn := hout.len
    have hnil := nil_of_zero hout.norm (HVAL.out.trans HZ.out)
    subst hnil
    have he0 := hout.nil rfl
    subst he0
    have HQ : Hid (ExpQ (awayB mode ng) (valA 3000 f a) prec.toNat (fixT [] 0 (highN [] 0) (cntN 0 prec) ++ [101, 48]) ∧ (fixT [] 0 (highN [] 0) (cntN 0 prec)).length ≤ 900) := by
      have hc : cntN 0 prec = prec.toNat := by unfold cntN; rw [if_neg (by omega)]
      have hh : highN [] 0 = 0 := by unfold highN; rw [if_pos rfl]
      rw [hc, hh]
      refine ⟨.inl ⟨HZ.out, rfl⟩, ?_⟩
      have q := fixT_length [] 0 0 prec.toNat
      omega
    obtain ⟨TT, hTT⟩ : ∃ TT, TT = fixT [] 0 (highN [] 0) (cntN 0 prec) := ⟨_, rfl⟩
    have HPL : Hid (∀ w, Row w (.slice ao 0 cp) [] → Calls Tryd.prog 31 #[.agg #[.slice ao 0 cp, .int .i64 0], .int .i64 prec] w fun r w' => r = .returned (.string (str TT)) ∧ Below w.heap.size w w') := fun w hr => by
      rw [hTT]; exact plain_any (.slice ao 0 cp) [] 0 prec w hr (fun d hd => by simp at hd) (by simp) (by omega) (by simp) (by omega)
    rw [← hTT] at HQ
    have r1 : ∀ W : World, (Op.stringOp .add (str TT) ⟨#[101, 48]⟩).run Tryd.prog W = .ok (.string (str TT ++ ⟨#[101, 48]⟩)) W := fun W => run_string_add_sum W _ _ (by have q := HQ.out.2; rw [str_size]; have : (⟨#[101, 48]⟩ : ByteArray).size = 2 := rfl; omega)
    have HSS : Hid (str TT ++ ⟨#[101, 48]⟩ = str (TT ++ [101, 48])) := by unfold Hid; rw [← str_append]; rfl
    clear hb1 hout HV HVT hTT HNZ hLn HVAL he1 he2
    go_wp2_with fail
    refine (HPL.out _ HROW.out).mono ?_
    rintro r w2 ⟨rfl, hb2⟩
    have HB2 : Hid (Below w.heap.size w w2) := HB1.out.trans (hb2.mono HB1.out.size)
    clear hb2 HPL HROW
    go_wp2
    go_ret
    exact ⟨TT ++ [101, 48], ret_str HSS.out, HQ.out.1, by have := HQ.out.2; rw [List.length_append]; simp; omega, HB2.out⟩
  · have hA0 : (A == 0) = false := by rw [beq_eq_false_iff_ne]; omega
    have hA1 : ¬ A = 0 := by omega
    have HNE : Hid (valA 3000 f a ≠ 0) := Nat.ne_of_gt (valA_some 3000 f a (by omega))
    clear hA hf ha h0
    go_enter Tryd.func24, Tryd.ntmps24
    go_wp2_with fail
    refine (HV.out _).mono ?_
    rintro r w1 ⟨hb1, v', L, e, rfl, hout⟩
    obtain ⟨ao, cp, hv⟩ := hout.row.isSlice
    subst hv
    have HVAL : Hid (val 3000 L e = valA 3000 f a) := hout.val 3000 (by omega)
    have hbd : -1100 ≤ e ∧ e + L.length ≤ 400 := by
      by_cases hL : L = []
      · rw [hout.nil hL, hL]; simp
      · have q := (hout.ne hL).1
        exact ⟨q, HVT.out L e hout.norm.headed (List.length_pos_iff.2 hL) (by omega) HVAL.out⟩
    obtain ⟨he1, he2⟩ := hbd
    have HB1 : Hid (Below w.heap.size w (w1.alloc (.cells #[.slice ao L.length cp, .int .i64 e] 60))) := hb1.alloc hb1.size _
    have HROW : Hid (Row (w1.alloc (.cells #[.slice ao L.length cp, .int .i64 e] 60)) (.slice ao L.length cp) L) := hout.row.below ((Below.refl _ _).alloc (Nat.le_refl _) _) (Nat.le_refl _)
    have HNZ := hid (And.intro hout.norm hout.nil)
    have hLn := hout.len
    have HLP : Hid (0 < L.length) := by
      unfold Hid; apply Nat.pos_of_ne_zero; intro h0
      rw [List.length_eq_zero_iff.1 h0] at HVAL
      exact HNE.out (by rw [← HVAL.out]; simp [val, num_nil])
    obtain ⟨F, hF⟩ : ∃ F : Int, F = e + L.length - 1 := ⟨_, rfl⟩
    obtain ⟨PP, hP⟩ : ∃ PP : Int, F - prec = PP := ⟨_, rfl⟩
    have hF1 : -1101 ≤ F := by omega
    have hF2 : F ≤ 400 := by omega
    have HTP : Hid (∀ w, Row w (.slice ao L.length cp) L → Calls Tryd.prog 33 #[.agg #[.slice ao L.length cp, .int .i64 e]] w fun r w' => r = .returned (.int .i64 F) ∧ Below w.heap.size w w') := fun w hr => by
      rw [hF]; exact top_any (.slice ao L.length cp) L e w hr (by omega) (by omega)
    have HF := hid hF
    clear hb1 hout HV HVT hF
    go_wp2_with fail
    obtain ⟨W1, hW1⟩ : ∃ W1, W1 = w1.alloc (.cells #[.slice ao L.length cp, .int .i64 e] 60) := ⟨_, rfl⟩
    have c0 : W1.cell? ⟨w1.heap.size, 0, none⟩ = some (.slice ao L.length cp) := by rw [hW1]; simp [go_sem]
    have c1 : W1.cell? ⟨w1.heap.size, 1, none⟩ = some (.int .i64 e) := by rw [hW1]; simp [go_sem]
    have hws : w1.heap.size < W1.heap.size := by rw [hW1]; simp
    rw [← hW1] at HB1 HROW ⊢
    clear hW1
    refine (HTP.out _ HROW.out).mono ?_
    rintro r w2 ⟨rfl, hb2⟩
    have d0 := keep_cell' hb2 c0
    have d1 := keep_cell' hb2 c1
    have hws2 : w1.heap.size < w2.heap.size := by have := hb2.size; omega
    have HB2 : Hid (Below w.heap.size w w2) := HB1.out.trans (hb2.mono HB1.out.size)
    have HROW2 : Hid (Row w2 (.slice ao L.length cp) L) := HROW.out.below hb2 (Nat.le_refl _)
    clear hb2 c0 c1 hws HROW HTP
    go_wp2_with fail
    refine (to_any (.slice ao L.length cp) L e PP mode ng _ HROW2.out HNZ.out.1 HNZ.out.2 (by omega) (by omega) (by omega)).mono ?_
    rintro r w3 ⟨hb3, v2, L2, e2, rfl, hout2⟩
    obtain ⟨ao2, cp2, hv2⟩ := hout2.row.isSlice
    subst hv2
    have HB3 : Hid (Below w.heap.size w (w3.alloc (.cells #[.slice ao2 L2.length cp2, .int .i64 e2] 60))) := (HB2.out.trans (hb3.mono HB2.out.size)).alloc (HB2.out.trans (hb3.mono HB2.out.size)).size _
    have hbd2 : -2000 ≤ e2 ∧ e2 + L2.length ≤ 402 := by
      by_cases hL : L2 = []
      · rw [hout2.nil hL, hL]; simp
      · have q := hout2.ne hL
        omega
    obtain ⟨hg1, hg2⟩ := hbd2
    have HR2 : Hid (Row (w3.alloc (.cells #[.slice ao2 L2.length cp2, .int .i64 e2] 60)) (.slice ao2 L2.length cp2) L2) := hout2.row.below ((Below.refl _ _).alloc (Nat.le_refl _) _) (Nat.le_refl _)
    have hex : 0 < L2.length ∧ ExpQ (awayB mode ng) (valA 3000 f a) prec.toNat (sciT L2 e2 (e2 + L2.length - 1) prec.toNat ++ (101 :: Lib.itoa (e2 + L2.length - 1))) := by
      refine exp_ref HNZ.out.1 HLP.out he1 (by omega) HVAL.out hout2.norm (fun _ => by omega) ?_
      have q := hout2.val 3000 (by omega)
      unfold rndV at q
      rw [HVAL.out, ← hP, HF.out] at q
      rw [HPR.out]
      exact q
    have HQ : Hid (ExpQ (awayB mode ng) (valA 3000 f a) prec.toNat (sciT L2 e2 (e2 + L2.length - 1) (cntS L2 prec) ++ (101 :: Lib.itoa (e2 + L2.length - 1))) ∧ (sciT L2 e2 (e2 + L2.length - 1) (cntS L2 prec) ++ (101 :: Lib.itoa (e2 + L2.length - 1))).length ≤ 5000) := by
      have hc : cntS L2 prec = prec.toNat := by unfold cntS; rw [if_neg (by omega)]
      rw [hc]
      refine ⟨hex.2, ?_⟩
      have q := sciT_length L2 e2 (e2 + L2.length - 1) prec.toNat
      have q2 := Lib.itoa_length_le (e2 + L2.length - 1) (by omega) (by omega)
      rw [List.length_append, List.length_cons]
      omega
    have HL2 := hid hex.1
    have HD2 := hid hout2.norm.digs
    clear hb3 hout2 HROW2 HNZ HVAL hex d0 d1 hws2
    go_wp2_with fail
    refine (scientific_any (.slice ao2 L2.length cp2) L2 e2 prec _ HR2.out HD2.out HL2.out (by omega) (by omega) (by omega) (by omega)).mono ?_
    rintro r w4 ⟨rfl, hb4⟩
    have HB4 : Hid (Below w.heap.size w w4) := HB3.out.trans (hb4.mono HB3.out.size)
    clear hb4
    go_wp2
    go_ret
    exact ⟨_, rfl, HQ.out.1, HQ.out.2, HB4.out⟩
end Go.Proofs.YtbkdaoicnobllaaDoor
