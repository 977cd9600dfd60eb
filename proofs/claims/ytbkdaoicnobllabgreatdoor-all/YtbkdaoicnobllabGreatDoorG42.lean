import Derived.Test.YtbkdaoicnobllabGreatDoorG39
import Derived.Test.YtbkdaoicnobllabGreatDoorG40
import Derived.Test.YtbkdaoicnobllabGreatDoorG41
import Derived.Test.YtbkdaoicnobllabGreatDoorG17
import Derived.Test.YtbkdaoicnobllabGreatDoorG06

namespace Go.Proofs.YtbkdaoicnobllabGreatDoor
set_option maxRecDepth 100000
set_option maxHeartbeats 16000000
open Go.RowKit

theorem or_inf : bits .or .i64 31744 32768 = 64512 ∧ bits .or .i64 2139095040 2147483648 = 4286578688 ∧ bits .or .i64 9218868437227405312 (-9223372036854775808) = -4503599627370496 :=
 ⟨or_half 31744 (by omega), or_single 2139095040 (by omega), or_double 9218868437227405312 (by omega)⟩
theorem sign_cases (s : ByteArray) (hpos : 0 < s.size) (hn : s.size ≤ 900) : ∃ ng : Bool, Hid (decide ((chs s).getD 0 0 = 45) = ng) ∧
    (((((s[0].toNat : Nat) : Int) == 45) = true ∧ (((s[0].toNat : Nat) : Int) == 43) = false ∧ Hid (ng = true) ∧ Hid (chs (s.extract 1 s.size) = body (chs s)) ∧ (s.extract 1 s.size).size ≤ 900) ∨
     ((((s[0].toNat : Nat) : Int) == 45) = false ∧ (((s[0].toNat : Nat) : Int) == 43) = true ∧ Hid (ng = false) ∧ Hid (chs (s.extract 1 s.size) = body (chs s)) ∧ (s.extract 1 s.size).size ≤ 900) ∨
     ((((s[0].toNat : Nat) : Int) == 45) = false ∧ (((s[0].toNat : Nat) : Int) == 43) = false ∧ Hid (ng = false) ∧ Hid (chs s = body (chs s)) ∧ s.size ≤ 900)) := by
  have hg := chs_get s 0 hpos
  have hx : (s.extract 1 s.size).size ≤ 900 := by rw [← chs_length, chs_drop, List.length_drop, chs_length]; omega
  refine ⟨_, rfl, ?_⟩
  by_cases h45 : s[0].toNat = 45
  · exact .inl ⟨by simp [h45], by simp [h45], by unfold Hid; rw [hg, h45]; rfl, by unfold Hid; rw [chs_drop]; exact body_sign s hpos (by rw [hg, h45]; rfl), hx⟩
  · have h0 : Hid (decide ((chs s).getD 0 0 = 45) = false) := by unfold Hid; rw [hg]; exact decide_eq_false h45
    by_cases h43 : s[0].toNat = 43
    · exact .inr (.inl ⟨by simp [h43], by simp [h43], h0, by unfold Hid; rw [chs_drop]; exact body_sign s hpos (by rw [hg, h43]; rfl), hx⟩)
    · exact .inr (.inr ⟨by rw [beq_eq_false_iff_ne]; omega, by rw [beq_eq_false_iff_ne]; omega, h0, body_none s hpos (by rw [hg]; unfold sgn; simp [h45, h43]), hn⟩)
theorem refParse_ok (s : ByteArray) (f mode : Int) (K : Nat) (w : World) (hv : 0 ≤ f ∧ f ≤ 2 ∧ 0 ≤ mode ∧ mode ≤ 4) (hK : 2500 ≤ K) (hsz : s.size ≤ maxLen) :
    Calls Tryz.prog 34 #[.string s, .int .i64 f, .int .i64 mode] w fun r w' => Below w.heap.size w w' ∧ ∃ bts fl at' err : Int, r = .returned (.tuple #[.int .i64 bts, .int .i64 fl, .int .i64 at', .int .i64 err]) ∧ ParseSpec K (chs s) f mode bts fl at' err := by
  have HL := hid (chs_length s)
  unfold maxLen at hsz
  have HM := hid hv
  obtain ⟨hf1, hf2, hm1, hm2⟩ := hv
  by_cases hlong : 900 < s.size
  · go_enter Tryz.func34, Tryz.ntmps34
    go_wp2
    refine bodyPost_ret (v := .tuple #[.int .i64 0, .int .i64 0, .int .i64 0, .int .i64 2]) (by simp [results, Tryz.results34, go_sem]) rfl ?_
    exact ⟨Below.refl _ _, _, _, _, _, rfl, .inr (.inl ⟨HM.out, by rw [HL.out]; exact hlong, rfl, rfl, rfl, rfl⟩)⟩
  · go_enter Tryz.func34, Tryz.ntmps34
    go_wp2_with fail
    refine (read_any s _ (by omega)).mono ?_
    rintro r w1 ⟨rfl, st, at', ok, rfl, hrd⟩
    have HRD := hid hrd
    have HLE : Hid ((chs s).length ≤ 900) := by unfold Hid; rw [HL.out]; omega
    cases ok with
    | false =>
      clear hrd
      go_wp2
      refine bodyPost_ret (v := .tuple #[.int .i64 0, .int .i64 0, .int .i64 (at' : Int), .int .i64 3]) (by simp [results, Tryz.results34, go_sem]) rfl ?_
      exact ⟨Below.refl _ _, _, _, _, _, rfl, .inr (.inr ⟨HM.out, HLE.out, st, at', false, HRD.out, .inl ⟨rfl, rfl, rfl, rfl, rfl⟩⟩)⟩
    | true =>
      have hst : st = stAt (chs s) (chs s).length ∧ endsB st = true := by
        rcases hrd with ⟨_, _, _, _, _, _, h⟩ | ⟨_, h1, _, h2⟩
        · cases h
        · exact ⟨h1, h2.symm⟩
      have hne := ok_ne (chs s) (by rw [← hst.1]; exact hst.2)
      have hpos : 0 < s.size := by rw [← HL.out]; exact List.length_pos_iff.2 hne
      have hcases : st = 27 ∨ st = 18 ∨ st = 23 ∨ st = 15 ∨ (st = 2 ∨ st = 3 ∨ st = 4 ∨ st = 6 ∨ st = 9) := by
        have := hst.2; simp [endsB] at this; omega
      have HST := hid hst.1
      have HC := hid hcases
      obtain ⟨NV, hNV⟩ : ∃ n, nanP f = n := ⟨_, rfl⟩
      obtain ⟨IV, hIV⟩ : ∃ n, infA f = n := ⟨_, rfl⟩
      obtain ⟨sv, hsv⟩ : ∃ g, g = signedV f := ⟨_, rfl⟩
      have HNV := hid hNV
      have HIV := hid hIV
      have HSV := hid hsv
      have hsh : wrap64 9223372036854775808 = -9223372036854775808 := by unfold wrap64; decide
      obtain ⟨o1, o2, o3⟩ := or_inf
      clear hrd hst hne hcases hNV hIV hsv
      go_wp2_with fail
      obtain ⟨ng, HNEG, hsg⟩ := sign_cases s hpos (by omega)
      have HSG := hid hsg
      clear hsg
      have hcn : (f = 0 ∧ CaseNo 0) ∨ (f = 1 ∧ CaseNo 1) ∨ (f = 2 ∧ CaseNo 2) := by
        rcases (by omega : f = 0 ∨ f = 1 ∨ f = 2) with h | h | h
        · exact .inl ⟨h, ⟨trivial⟩⟩
        · exact .inr (.inl ⟨h, ⟨trivial⟩⟩)
        · exact .inr (.inr ⟨h, ⟨trivial⟩⟩)
      rcases hcn with ⟨rfl, HGD⟩ | ⟨rfl, HGD⟩ | ⟨rfl, HGD⟩
      all_goals
        (first | (have _g : CaseNo 0 := HGD; refine (kind0 _).mono ?_) | (have _g : CaseNo 1 := HGD; refine (kind1 _).mono ?_) | (have _g : CaseNo 2 := HGD; refine (kind2 _).mono ?_)
         rintro r w2 ⟨rfl, rfl⟩
         go_wp2_with fail
         refine (infinity_any _ _ (by omega)).mono ?_
         first | (have _g : CaseNo 0 := HGD; rw [show infA 0 = 31744 from rfl]) | (have _g : CaseNo 1 := HGD; rw [show infA 1 = 2139095040 from rfl]) | (have _g : CaseNo 2 := HGD; rw [show infA 2 = 9218868437227405312 from rfl])
         rintro r w3 ⟨rfl, n3, rfl⟩
         have hB0 := below_drewN (Below.refl w2.heap.size w2) n3
         generalize w2.drewN n3 = w3 at *
         rcases HSG.out with ⟨b45, b43, HNG, HBODY, hs9⟩ | ⟨b45, b43, HNG, HBODY, hs9⟩ | ⟨b45, b43, HNG, HBODY, hs9⟩
         all_goals
           (clear HSG
            rcases HC.out with hst | hst | hst | hst | hst
            · clear HC
              subst hst
              go_wp2
              refine bodyPost_ret (v := .tuple #[.int .i64 NV, .int .i64 0, .int .i64 0, .int .i64 0]) (by rw [← HNV.out]; simp [nanP, results, Tryz.results34, go_sem]) rfl ?_
              exact ⟨hB0, _, _, _, _, rfl, .inr (.inr ⟨HM.out, HLE.out, _, at', true, HRD.out, .inr ⟨rfl, rfl, rfl, .inl ⟨rfl, HNV.out.symm, rfl⟩⟩⟩)⟩
            · clear HC
              subst hst
              go_wp2
              refine bodyPost_ret (v := .tuple #[.int .i64 (sv ng IV), .int .i64 0, .int .i64 0, .int .i64 0]) (by rw [HSV.out, HNG.out, ← HIV.out]; simp [signedV, sgnP, infA, results, Tryz.results34, go_sem]) rfl ?_
              exact ⟨hB0, _, _, _, _, rfl, .inr (.inr ⟨HM.out, HLE.out, _, at', true, HRD.out, .inr ⟨rfl, rfl, rfl, .inr (.inl ⟨.inl rfl, by rw [HNEG.out, HSV.out, ← HIV.out]; rfl, rfl⟩)⟩⟩)⟩
            · clear HC
              subst hst
              go_wp2
              refine bodyPost_ret (v := .tuple #[.int .i64 (sv ng IV), .int .i64 0, .int .i64 0, .int .i64 0]) (by rw [HSV.out, HNG.out, ← HIV.out]; simp [signedV, sgnP, infA, results, Tryz.results34, go_sem]) rfl ?_
              exact ⟨hB0, _, _, _, _, rfl, .inr (.inr ⟨HM.out, HLE.out, _, at', true, HRD.out, .inr ⟨rfl, rfl, rfl, .inr (.inl ⟨.inr rfl, by rw [HNEG.out, HSV.out, ← HIV.out]; rfl, rfl⟩)⟩⟩)⟩
            · have hhx := hex_ok (chs s) st HST.out hst
              rw [← HBODY.out] at hhx
              have hl2 := hhx.1
              rw [chs_length] at hl2
              have HHX := hid hhx.2
              clear HC hhx
              subst hst
              go_wp2_with fail
              refine (binaryOf_any _ _ hs9 hl2 HHX.out).mono ?_
              rw [HBODY.out]
              rintro r w4 ⟨hb4, v4, rfl, how4, hl4, hl5⟩
              obtain ⟨DD, hDD⟩ : ∃ DD, DD = hexScan (ahead ((body (chs s)).drop 2) 112) := ⟨_, rfl⟩
              have hvs := hexScan_vals (ahead ((body (chs s)).drop 2) 112) (by rw [← HBODY.out]; exact HHX.out)
              have hxb := expOf_bd (body (chs s)) 112
              obtain ⟨E, hE⟩ : ∃ E, E = expOf (body (chs s)) 112 := ⟨_, rfl⟩
              rw [← hDD] at how4 hl4 hl5 hvs ⊢
              rw [← hE] at hxb ⊢
              have HDD := hid (And.intro hDD hE)
              have HVS := hid hvs
              have hB4 := hB0.trans (hb4.mono (B' := w2.heap.size) hB0.size)
              have HOW := hid how4.row
              clear hDD hE hvs hb4 how4
              go_wp2_with fail
              refine (sixteen_any _ DD.1 (E - 4 * DD.2.1) _ HOW.out HVS.out hl4 (by omega)).mono ?_
              rintro r w5 ⟨hb5, v5, L5, e5, rfl, o5⟩
              obtain ⟨ao5, cp5, hv5⟩ := o5.row.isSlice
              rw [hv5] at o5
              subst hv5
              have l5 := o5.len
              have bd5 := o5.bounds 20000 (by omega) (by omega) (by omega)
              have ke5 : -(K : Int) ≤ e5 := by
                by_cases h0 : L5 = []
                · rw [o5.nil h0]; omega
                · have := (o5.ne h0).1; omega
              have hal := (Below.refl w5.heap.size w5).alloc (Nat.le_refl _) (.cells #[.slice ao5 L5.length cp5, .int .i64 e5] 95)
              have HR5 := hid (o5.row.below hal (Nat.le_refl _))
              have HN5 := hid (And.intro o5.norm (And.intro o5.nil (o5.val K (by omega))))
              have hB5 := (hB4.trans (hb5.mono (B' := w2.heap.size) hB4.size))
              have hB6 := hB5.trans (hal.mono (B' := w2.heap.size) hB5.size)
              clear hb5 o5 hal
              go_wp2_with fail
              refine (rounded_any _ mode _ _ L5 e5 K _ (by omega) HR5.out HN5.out.1 (by omega) (by omega) ke5 (by omega) HN5.out.2.1).mono ?_
              rintro r w6 ⟨hb6, a6, fl6, rfl, hsp⟩
              rw [HN5.out.2.2] at hsp
              have hab := round_bd hsp
              simp [infN] at hab
              obtain ⟨an, rfl⟩ := Int.eq_ofNat_of_zero_le hab.1
              have HSP := hid hsp
              have hB7 := hB6.trans (hb6.mono (B' := w2.heap.size) hB6.size)
              clear hsp hb6
              first | have hor := or_half an (by omega) | have hor := or_single an (by omega) | have hor := or_double an (by omega)
              go_wp2
              refine bodyPost_ret (v := .tuple #[.int .i64 (sv ng an), .int .i64 fl6, .int .i64 0, .int .i64 0]) (by rw [HSV.out, HNG.out]; simp [signedV, sgnP, results, Tryz.results34, go_sem]) rfl ?_
              exact ⟨hB7, _, _, _, _, rfl, .inr (.inr ⟨HM.out, HLE.out, _, at', true, HRD.out, .inr ⟨rfl, rfl, rfl, .inr (.inr (.inl ⟨rfl, an, by rw [HNEG.out, HNG.out, ← HDD.out.1, ← HDD.out.2]; exact HSP.out, by rw [HNEG.out, HSV.out]⟩))⟩⟩)⟩
            · have hdk := dec_ok (chs s) st HST.out hst
              rw [← HBODY.out] at hdk
              have HDK := hid hdk
              have HS := hid hst
              have b27 : ((st : Int) == 27) = false := by rw [beq_eq_false_iff_ne]; omega
              have b18 : ((st : Int) == 18) = false := by rw [beq_eq_false_iff_ne]; omega
              have b23 : ((st : Int) == 23) = false := by rw [beq_eq_false_iff_ne]; omega
              have b15 : ((st : Int) == 15) = false := by rw [beq_eq_false_iff_ne]; omega
              clear HC hdk hst
              go_wp2_with fail
              refine (decimal_any _ _ hs9 HDK.out).mono ?_
              rw [HBODY.out]
              rintro r w4 ⟨hb4, v4, L4, e4, rfl, o4⟩
              obtain ⟨DD, hDD⟩ : ∃ DD, DD = decScan (ahead (body (chs s)) 101) := ⟨_, rfl⟩
              have hdl := decScan_inv (ahead (body (chs s)) 101)
              have hal9 : (ahead (body (chs s)) 101).length ≤ 900 := by
                have h1 : (ahead (body (chs s)) 101).length ≤ (body (chs s)).length := (List.takeWhile_sublist _).length_le
                rw [← HBODY.out, chs_length] at h1
                rw [← HBODY.out]; omega
              have hxb := expOf_bd (body (chs s)) 101
              obtain ⟨E, hE⟩ : ∃ E, E = expOf (body (chs s)) 101 := ⟨_, rfl⟩
              rw [← hDD] at hdl o4
              rw [← hE] at hxb o4
              have HDD := hid (And.intro hDD hE)
              obtain ⟨ao4, cp4, hv4⟩ := o4.row.isSlice
              rw [hv4] at o4
              subst hv4
              have l4 := o4.len
              have bd4 := o4.bounds 300000 (by omega) (by omega) (by omega)
              have hal := (Below.refl w4.heap.size w4).alloc (Nat.le_refl _) (.cells #[.slice ao4 L4.length cp4, .int .i64 e4] 95)
              have HR4 := hid (o4.row.below hal (Nat.le_refl _))
              have HO4 := hid o4
              have hB4 := hB0.trans (hb4.mono (B' := w2.heap.size) hB0.size)
              have HAL := hid hal
              have hlt4 := hid (fun g (hg : (Value.slice ao4 L4.length cp4).ownBlock = some g) => o4.row.lt g hg)
              clear hDD hE hb4 o4 hal hdl hal9
              go_wp2_with fail
              refine (held_any _ L4 e4 _ HR4.out HO4.out.norm l4 bd4 HO4.out.nil).mono ?_
              rintro r w5 ⟨hb5, v5, L5, e5, rfl, o5⟩
              obtain ⟨ao5, cp5, hv5⟩ := o5.row.isSlice
              rw [hv5] at o5
              subst hv5
              have l5 := o5.len
              have bd5 := o5.bounds 20000 (by omega) (by omega) (by omega)
              have ke5 : -(K : Int) ≤ e5 := by
                by_cases h0 : L5 = []
                · rw [o5.nil h0]; omega
                · have := (o5.ne h0).1; omega
              have c0 := keep_cell hb5 (show (w4.alloc (.cells #[.slice ao4 L4.length cp4, .int .i64 e4] 95)).cell? ⟨w4.heap.size, 0, none⟩ = some (.slice ao4 L4.length cp4) by simp [go_sem])
              have c1 := keep_cell hb5 (show (w4.alloc (.cells #[.slice ao4 L4.length cp4, .int .i64 e4] 95)).cell? ⟨w4.heap.size, 1, none⟩ = some (.int .i64 e4) by simp [go_sem])
              have f0 : w5.frozen? ⟨w4.heap.size, 0, none⟩ = false := (hb5.frozen (p := ⟨w4.heap.size, 0, none⟩) (by simp)).trans (by simp [go_sem])
              have f1 : w5.frozen? ⟨w4.heap.size, 1, none⟩ = false := (hb5.frozen (p := ⟨w4.heap.size, 1, none⟩) (by simp)).trans (by simp [go_sem])
              have hnown : (Value.slice ao5 L5.length cp5).ownBlock ≠ some w4.heap.size := fun hg => by
                rcases o5.own _ hg with h | h
                · have := hlt4.out _ h; omega
                · simp at h; omega
              have HR5 := hid ((o5.row.setCell ⟨w4.heap.size, 0, none⟩ (.slice ao5 L5.length cp5) hnown).setCell ⟨w4.heap.size, 1, none⟩ (.int .i64 e5) hnown)
              have HN5 := hid (And.intro o5.norm (And.intro o5.nil (o5.val K (by omega))))
              have hB5 := hB4.trans (HAL.out.trans (hb5.mono (B' := w4.heap.size) (by simp)) |>.mono (B' := w2.heap.size) hB4.size)
              have hB6 := below_two hB5 (b := w4.heap.size) hB4.size (.slice ao5 L5.length cp5) (.int .i64 e5)
              clear hb5 o5 hnown
              go_wp2_with fail
              refine (rounded_any _ mode _ _ L5 e5 K _ (by omega) HR5.out HN5.out.1 (by omega) (by omega) ke5 (by omega) HN5.out.2.1).mono ?_
              rintro r w6 ⟨hb6, a6, fl6, rfl, hsp⟩
              rw [HN5.out.2.2] at hsp
              have hab := round_bd hsp
              simp [infN] at hab
              obtain ⟨an, rfl⟩ := Int.eq_ofNat_of_zero_le hab.1
              have HSP := hid hsp
              have hB7 := hB6.trans (hb6.mono (B' := w2.heap.size) hB6.size)
              clear hsp hb6 c0 c1 f0 f1
              first | have hor := or_half an (by omega) | have hor := or_single an (by omega) | have hor := or_double an (by omega)
              go_wp2
              refine bodyPost_ret (v := .tuple #[.int .i64 (sv ng an), .int .i64 fl6, .int .i64 0, .int .i64 0]) (by rw [HSV.out, HNG.out]; simp [signedV, sgnP, results, Tryz.results34, go_sem]) rfl ?_
              exact ⟨hB7, _, _, _, _, rfl, .inr (.inr ⟨HM.out, HLE.out, _, at', true, HRD.out, .inr ⟨rfl, rfl, rfl, .inr (.inr (.inr ⟨HS.out, an, L4, e4, HO4.out.norm, HO4.out.nil, by rw [← HDD.out.1, ← HDD.out.2]; exact fun h => (HO4.out.ne h).1, by rw [← HDD.out.1, ← HDD.out.2]; exact HO4.out.val, by rw [HNEG.out, HNG.out]; exact HSP.out, by rw [HNEG.out, HSV.out]⟩))⟩⟩)⟩))
theorem refParse_any (s : ByteArray) (f mode : Int) (K : Nat) (w : World) (hK : 2500 ≤ K) (hsz : s.size ≤ maxLen) :
    Calls Tryz.prog 34 #[.string s, .int .i64 f, .int .i64 mode] w fun r w' => Below w.heap.size w w' ∧ ∃ bts fl at' err : Int, r = .returned (.tuple #[.int .i64 bts, .int .i64 fl, .int .i64 at', .int .i64 err]) ∧ ParseSpec K (chs s) f mode bts fl at' err := by
  by_cases hv : 0 ≤ f ∧ f ≤ 2 ∧ 0 ≤ mode ∧ mode ≤ 4
  · exact refParse_ok s f mode K w hv hK hsz
  · have HV := hid hv
    have h : f < 0 ∨ (decide (f < 0) = false ∧ 2 < f) ∨ (decide (f < 0) = false ∧ decide (2 < f) = false ∧ mode < 0) ∨ (decide (f < 0) = false ∧ decide (2 < f) = false ∧ decide (mode < 0) = false ∧ 4 < mode) := by
      simp only [decide_eq_false_iff_not]; omega
    clear hv
    rcases h with h1 | ⟨d1, h2⟩ | ⟨d1, d2, h3⟩ | ⟨d1, d2, d3, h4⟩
    all_goals
      (go_enter Tryz.func34, Tryz.ntmps34
       go_wp2
       refine bodyPost_ret (v := .tuple #[.int .i64 0, .int .i64 0, .int .i64 0, .int .i64 1]) (by simp [results, Tryz.results34, go_sem]) rfl ?_
       exact ⟨Below.refl _ _, _, _, _, _, rfl, .inl ⟨HV.out, rfl, rfl, rfl, rfl⟩⟩)
end Go.Proofs.YtbkdaoicnobllabGreatDoor
