import Derived.Test.YtbkdaoicnobllaaTRefL

namespace Go.Proofs.Ytbkdaoicnobllaa
open Go.RowKit

set_option maxRecDepth 100000 in
set_option maxHeartbeats 4000000 in
theorem refParse1 (s : ByteArray) (mode : Int) (K : Nat) (w : World) (hmo : 0 ≤ mode ∧ mode ≤ 4) (hK : 2500 ≤ K) (hsz : s.size ≤ maxLen) :
    Calls Try.prog 19 #[.string s, .int .i64 1, .int .i64 mode] w fun r w' => Below w.heap.size w w' ∧ ∃ bts fl at' err : Int, r = .returned (.tuple #[.int .i64 bts, .int .i64 fl, .int .i64 at', .int .i64 err]) ∧ ParseSpec K (chs s) 1 mode bts fl at' err := by
  have HL := hid (chs_length s)
  unfold maxLen at hsz
  have HM := hid (show (0 : Int) ≤ 1 ∧ (1 : Int) ≤ 2 ∧ 0 ≤ mode ∧ mode ≤ 4 from ⟨by omega, by omega, hmo.1, hmo.2⟩)
  by_cases hlong : 900 < s.size
  · go_enter Try.func19, Try.ntmps19
    go_wp2
    refine bodyPost_ret (v := .tuple #[.int .i64 0, .int .i64 0, .int .i64 0, .int .i64 2]) (by simp [results, Try.results19, go_sem]) rfl ?_
    exact ⟨Below.refl _ _, _, _, _, _, rfl, .inr (.inl ⟨HM.out, by rw [HL.out]; exact hlong, rfl, rfl, rfl, rfl⟩)⟩
  · go_enter Try.func19, Try.ntmps19
    go_wp2_with fail
    refine (read_any s _ (by omega)).mono ?_
    rintro r w1 ⟨rfl, st, at', ok, rfl, hrd⟩
    have HRD := hid hrd
    have HLE : Hid ((chs s).length ≤ 900) := by unfold Hid; rw [HL.out]; omega
    cases ok with
    | false =>
      clear hrd
      go_wp2
      refine bodyPost_ret (v := .tuple #[.int .i64 0, .int .i64 0, .int .i64 (at' : Int), .int .i64 3]) (by simp [results, Try.results19, go_sem]) rfl ?_
      exact ⟨Below.refl _ _, _, _, _, _, rfl, .inr (.inr ⟨HM.out, HLE.out, st, at', false, HRD.out, .inl ⟨rfl, rfl, rfl, rfl, rfl⟩⟩)⟩
    | true =>
      have hst : st = stAt (chs s) (chs s).length ∧ endsB st = true := by
        rcases hrd with ⟨_, _, _, _, _, _, h⟩ | ⟨_, h1, _, h2⟩
        · cases h
        · exact ⟨h1, h2.symm⟩
      have hne := ok_ne (chs s) (by rw [← hst.1]; exact hst.2)
      have hpos : 0 < s.size := by rw [← HL.out]; exact List.length_pos_iff.2 hne
      have hcases : st = 27 ∨ st = 18 ∨ st = 23 ∨ st = 15 ∨ (st = 2 ∨ st = 3 ∨ st = 4 ∨ st = 6 ∨ st = 9) := by
        have := hst.2; simp [endsB] at this; omega
      have HST := hid hst.1
      have HG := hid (chs_get s 0 hpos)
      have HC := hid hcases
      clear hrd hst hne hcases
      go_wp2_with fail
      refine (kind1 _).mono ?_
      rintro r w2 ⟨rfl, rfl⟩
      go_wp2_with fail
      refine (infinity_any 1 _ (by omega)).mono ?_
      rw [show infA 1 = 2139095040 from rfl]
      rintro r w3 ⟨rfl, n3, rfl⟩
      have hB0 := below_drewN (Below.refl w2.heap.size w2) n3
      generalize w2.drewN n3 = w3 at *
      by_cases h45 : s[0].toNat = 45
      · have b45 : (((s[0].toNat : Nat) : Int) == 45) = true := by simp [h45]
        have HNEG : Hid (decide ((chs s).getD 0 0 = 45) = true) := by unfold Hid; rw [HG.out, h45]; rfl
        have HBODY : Hid (chs (s.extract 1 s.size) = body (chs s)) := by unfold Hid; rw [chs_drop]; exact body_sign s hpos (by rw [HG.out, h45]; rfl)
        have hs9 : (s.extract 1 s.size).size ≤ 900 := by rw [← chs_length, chs_drop, List.length_drop, HL.out]; omega
        clear h45
        rcases HC.out with hst | hst | hst | hst | hst
        · have HS := hid hst
          clear HC
          subst hst
          go_wp2
          refine bodyPost_ret (v := .tuple #[.int .i64 2143289344, .int .i64 0, .int .i64 0, .int .i64 0]) (by simp [results, Try.results19, go_sem]) rfl ?_
          exact ⟨hB0, _, _, _, _, rfl, .inr (.inr ⟨HM.out, HLE.out, _, at', true, HRD.out, .inr ⟨rfl, rfl, rfl, .inl ⟨rfl, rfl, rfl⟩⟩⟩)⟩
        · have HS := hid hst
          clear HC
          subst hst
          have hor : bits .or .i64 (2139095040 : Int) (2147483648) = 4286578688 := (show bits .or .i64 (2139095040 : Int) (2147483648) = (2139095040 : Int) + (2147483648) from or_single 2139095040 (by omega)).trans (by decide)
          have hsh := trivial
          go_wp2
          refine bodyPost_ret (v := .tuple #[.int .i64 (4286578688), .int .i64 0, .int .i64 0, .int .i64 0]) (by simp [results, Try.results19, go_sem]) rfl ?_
          exact ⟨hB0, _, _, _, _, rfl, .inr (.inr ⟨HM.out, HLE.out, _, at', true, HRD.out, .inr ⟨rfl, rfl, rfl, .inr (.inl ⟨.inl rfl, by rw [HNEG.out]; rfl, rfl⟩)⟩⟩)⟩
        · have HS := hid hst
          clear HC
          subst hst
          have hor : bits .or .i64 (2139095040 : Int) (2147483648) = 4286578688 := (show bits .or .i64 (2139095040 : Int) (2147483648) = (2139095040 : Int) + (2147483648) from or_single 2139095040 (by omega)).trans (by decide)
          have hsh := trivial
          go_wp2
          refine bodyPost_ret (v := .tuple #[.int .i64 (4286578688), .int .i64 0, .int .i64 0, .int .i64 0]) (by simp [results, Try.results19, go_sem]) rfl ?_
          exact ⟨hB0, _, _, _, _, rfl, .inr (.inr ⟨HM.out, HLE.out, _, at', true, HRD.out, .inr ⟨rfl, rfl, rfl, .inr (.inl ⟨.inr rfl, by rw [HNEG.out]; rfl, rfl⟩)⟩⟩)⟩
        · have hhx := hex_ok (chs s) st HST.out hst
          rw [← HBODY.out] at hhx
          have hl2 : 2 ≤ (s.extract 1 s.size).size := by rw [← chs_length]; exact hhx.1
          have hbt : ∀ W, Below w2.heap.size w2 W → True := fun _ _ => trivial
          clear hbt
          have HHX := hid hhx.2
          have HS := hid hst
          clear HC hhx
          subst hst
          go_wp2_with fail
          refine (binaryOf_any (s.extract 1 s.size) _ hs9 hl2 HHX.out).mono ?_
          rw [HBODY.out]
          rintro r w4 ⟨hb4, v4, rfl, how4, hl4, hl5⟩
          obtain ⟨DD, hDD⟩ : ∃ DD, DD = hexScan (ahead ((body (chs s)).drop 2) 112) := ⟨_, rfl⟩
          have hvs := hexScan_vals (ahead ((body (chs s)).drop 2) 112) (by rw [← HBODY.out]; exact HHX.out)
          have hxb := expOf_bd (body (chs s)) 112
          obtain ⟨E, hE⟩ : ∃ E, E = expOf (body (chs s)) 112 := ⟨_, rfl⟩
          rw [← hDD] at how4 hl4 hl5 hvs ⊢
          rw [← hE] at hxb ⊢
          have HDD := hid (And.intro hDD hE)
          have HVS := hid hvs
          have hB4 := hB0.trans (hb4.mono (B' := w2.heap.size) hB0.size)
          have HOW := hid how4.row
          clear hDD hE hvs hb4 how4
          go_wp2_with fail
          refine (sixteen_any _ DD.1 (E - 4 * DD.2.1) _ HOW.out HVS.out hl4 (by omega)).mono ?_
          rintro r w5 ⟨hb5, v5, L5, e5, rfl, o5⟩
          obtain ⟨ao5, cp5, hv5⟩ := o5.row.isSlice
          rw [hv5] at o5
          subst hv5
          have l5 := o5.len
          have bd5 := o5.bounds 20000 (by omega) (by omega) (by omega)
          have ke5 : -(K : Int) ≤ e5 := by
            by_cases h0 : L5 = []
            · rw [o5.nil h0]; omega
            · have := (o5.ne h0).1; omega
          have hal := (Below.refl w5.heap.size w5).alloc (Nat.le_refl _) (.cells #[.slice ao5 L5.length cp5, .int .i64 e5] 69)
          have HR5 := hid (o5.row.below hal (Nat.le_refl _))
          have HN5 := hid (And.intro o5.norm (And.intro o5.nil (o5.val K (by omega))))
          have hB5 := (hB4.trans (hb5.mono (B' := w2.heap.size) hB4.size))
          have hB6 := hB5.trans (hal.mono (B' := w2.heap.size) hB5.size)
          clear hb5 o5 hal
          go_wp2_with fail
          refine (rounded_any 1 mode true _ L5 e5 K _ (by omega) HR5.out HN5.out.1 (by omega) (by omega) ke5 (by omega) HN5.out.2.1).mono ?_
          rintro r w6 ⟨hb6, a6, fl6, rfl, hsp⟩
          rw [HN5.out.2.2] at hsp
          have hab := round_bd hsp
          rw [show infN 1 = 2139095040 from rfl] at hab
          obtain ⟨an, rfl⟩ := Int.eq_ofNat_of_zero_le hab.1
          have HSP := hid hsp
          have hB7 := hB6.trans (hb6.mono (B' := w2.heap.size) hB6.size)
          clear hsp hb6
          have hor := or_single an (by omega)
          go_wp2
          refine bodyPost_ret (v := .tuple #[.int .i64 ((an : Nat) + (2147483648) : Int), .int .i64 fl6, .int .i64 0, .int .i64 0]) (by simp [results, Try.results19, go_sem]) rfl ?_
          exact ⟨hB7, _, _, _, _, rfl, .inr (.inr ⟨HM.out, HLE.out, _, at', true, HRD.out, .inr ⟨rfl, rfl, rfl, .inr (.inr (.inl ⟨rfl, an, by rw [HNEG.out, ← HDD.out.1, ← HDD.out.2]; exact HSP.out, by rw [HNEG.out]; rfl⟩))⟩⟩)⟩
        · have hdk := dec_ok (chs s) st HST.out hst
          rw [← HBODY.out] at hdk
          have HDK := hid hdk
          have HS := hid hst
          have b27 : ((st : Int) == 27) = false := by rw [beq_eq_false_iff_ne]; omega
          have b18 : ((st : Int) == 18) = false := by rw [beq_eq_false_iff_ne]; omega
          have b23 : ((st : Int) == 23) = false := by rw [beq_eq_false_iff_ne]; omega
          have b15 : ((st : Int) == 15) = false := by rw [beq_eq_false_iff_ne]; omega
          clear HC hdk hst
          go_wp2_with fail
          refine (decimal_any (s.extract 1 s.size) _ hs9 HDK.out).mono ?_
          rw [HBODY.out]
          rintro r w4 ⟨hb4, v4, L4, e4, rfl, o4⟩
          obtain ⟨DD, hDD⟩ : ∃ DD, DD = decScan (ahead (body (chs s)) 101) := ⟨_, rfl⟩
          have hdl := decScan_inv (ahead (body (chs s)) 101)
          have hal9 : (ahead (body (chs s)) 101).length ≤ 900 := by
            have h1 : (ahead (body (chs s)) 101).length ≤ (body (chs s)).length := (List.takeWhile_sublist _).length_le
            rw [← HBODY.out, chs_length] at h1
            rw [← HBODY.out]; omega
          have hxb := expOf_bd (body (chs s)) 101
          obtain ⟨E, hE⟩ : ∃ E, E = expOf (body (chs s)) 101 := ⟨_, rfl⟩
          rw [← hDD] at hdl o4
          rw [← hE] at hxb o4
          have HDD := hid (And.intro hDD hE)
          obtain ⟨ao4, cp4, hv4⟩ := o4.row.isSlice
          rw [hv4] at o4
          subst hv4
          have l4 := o4.len
          have bd4 := o4.bounds 300000 (by omega) (by omega) (by omega)
          have hal := (Below.refl w4.heap.size w4).alloc (Nat.le_refl _) (.cells #[.slice ao4 L4.length cp4, .int .i64 e4] 69)
          have HR4 := hid (o4.row.below hal (Nat.le_refl _))
          have HO4 := hid o4
          have hB4 := hB0.trans (hb4.mono (B' := w2.heap.size) hB0.size)
          have HAL := hid hal
          have hlt4 := hid (fun g (hg : (Value.slice ao4 L4.length cp4).ownBlock = some g) => o4.row.lt g hg)
          clear hDD hE hb4 o4 hal hdl hal9
          go_wp2_with fail
          refine (held_any _ L4 e4 _ HR4.out HO4.out.norm l4 bd4 HO4.out.nil).mono ?_
          rintro r w5 ⟨hb5, v5, L5, e5, rfl, o5⟩
          obtain ⟨ao5, cp5, hv5⟩ := o5.row.isSlice
          rw [hv5] at o5
          subst hv5
          have l5 := o5.len
          have bd5 := o5.bounds 20000 (by omega) (by omega) (by omega)
          have ke5 : -(K : Int) ≤ e5 := by
            by_cases h0 : L5 = []
            · rw [o5.nil h0]; omega
            · have := (o5.ne h0).1; omega
          have c0 := keep_cell hb5 (show (w4.alloc (.cells #[.slice ao4 L4.length cp4, .int .i64 e4] 69)).cell? ⟨w4.heap.size, 0, none⟩ = some (.slice ao4 L4.length cp4) by simp [go_sem])
          have c1 := keep_cell hb5 (show (w4.alloc (.cells #[.slice ao4 L4.length cp4, .int .i64 e4] 69)).cell? ⟨w4.heap.size, 1, none⟩ = some (.int .i64 e4) by simp [go_sem])
          have f0 : w5.frozen? ⟨w4.heap.size, 0, none⟩ = false := (hb5.frozen (p := ⟨w4.heap.size, 0, none⟩) (by simp)).trans (by simp [go_sem])
          have f1 : w5.frozen? ⟨w4.heap.size, 1, none⟩ = false := (hb5.frozen (p := ⟨w4.heap.size, 1, none⟩) (by simp)).trans (by simp [go_sem])
          have hnown : (Value.slice ao5 L5.length cp5).ownBlock ≠ some w4.heap.size := fun hg => by
            rcases o5.own _ hg with h | h
            · have := hlt4.out _ h; omega
            · simp at h; omega
          have HR5 := hid ((o5.row.setCell ⟨w4.heap.size, 0, none⟩ (.slice ao5 L5.length cp5) hnown).setCell ⟨w4.heap.size, 1, none⟩ (.int .i64 e5) hnown)
          have HN5 := hid (And.intro o5.norm (And.intro o5.nil (o5.val K (by omega))))
          have hB5 := hB4.trans (HAL.out.trans (hb5.mono (B' := w4.heap.size) (by simp)) |>.mono (B' := w2.heap.size) hB4.size)
          have hB6 := below_two hB5 (b := w4.heap.size) hB4.size (.slice ao5 L5.length cp5) (.int .i64 e5)
          clear hb5 o5 hnown
          go_wp2_with fail
          refine (rounded_any 1 mode true _ L5 e5 K _ (by omega) HR5.out HN5.out.1 (by omega) (by omega) ke5 (by omega) HN5.out.2.1).mono ?_
          rintro r w6 ⟨hb6, a6, fl6, rfl, hsp⟩
          rw [HN5.out.2.2] at hsp
          have hab := round_bd hsp
          rw [show infN 1 = 2139095040 from rfl] at hab
          obtain ⟨an, rfl⟩ := Int.eq_ofNat_of_zero_le hab.1
          have HSP := hid hsp
          have hB7 := hB6.trans (hb6.mono (B' := w2.heap.size) hB6.size)
          clear hsp hb6 c0 c1 f0 f1
          have hor := or_single an (by omega)
          go_wp2
          refine bodyPost_ret (v := .tuple #[.int .i64 ((an : Nat) + (2147483648) : Int), .int .i64 fl6, .int .i64 0, .int .i64 0]) (by simp [results, Try.results19, go_sem]) rfl ?_
          exact ⟨hB7, _, _, _, _, rfl, .inr (.inr ⟨HM.out, HLE.out, _, at', true, HRD.out, .inr ⟨rfl, rfl, rfl, .inr (.inr (.inr ⟨HS.out, an, L4, e4, HO4.out.norm, HO4.out.nil, by rw [← HDD.out.1, ← HDD.out.2]; exact fun h => (HO4.out.ne h).1, by rw [← HDD.out.1, ← HDD.out.2]; exact HO4.out.val, by rw [HNEG.out]; exact HSP.out, by rw [HNEG.out]; rfl⟩))⟩⟩)⟩
      · have hne45 : True := trivial
        clear hne45
        by_cases h43 : s[0].toNat = 43
        · have b45 : (((s[0].toNat : Nat) : Int) == 45) = false := by simp [h43]
          have b43 : (((s[0].toNat : Nat) : Int) == 43) = true := by simp [h43]
          have HNEG : Hid (decide ((chs s).getD 0 0 = 45) = false) := by unfold Hid; rw [HG.out, h43]; rfl
          have HBODY : Hid (chs (s.extract 1 s.size) = body (chs s)) := by unfold Hid; rw [chs_drop]; exact body_sign s hpos (by rw [HG.out, h43]; rfl)
          have hs9 : (s.extract 1 s.size).size ≤ 900 := by rw [← chs_length, chs_drop, List.length_drop, HL.out]; omega
          clear h43
          rcases HC.out with hst | hst | hst | hst | hst
          · have HS := hid hst
            clear HC
            subst hst
            go_wp2
            refine bodyPost_ret (v := .tuple #[.int .i64 2143289344, .int .i64 0, .int .i64 0, .int .i64 0]) (by simp [results, Try.results19, go_sem]) rfl ?_
            exact ⟨hB0, _, _, _, _, rfl, .inr (.inr ⟨HM.out, HLE.out, _, at', true, HRD.out, .inr ⟨rfl, rfl, rfl, .inl ⟨rfl, rfl, rfl⟩⟩⟩)⟩
          · have HS := hid hst
            clear HC
            subst hst
            go_wp2
            refine bodyPost_ret (v := .tuple #[.int .i64 2139095040, .int .i64 0, .int .i64 0, .int .i64 0]) (by simp [results, Try.results19, go_sem]) rfl ?_
            exact ⟨hB0, _, _, _, _, rfl, .inr (.inr ⟨HM.out, HLE.out, _, at', true, HRD.out, .inr ⟨rfl, rfl, rfl, .inr (.inl ⟨.inl rfl, by rw [HNEG.out]; rfl, rfl⟩)⟩⟩)⟩
          · have HS := hid hst
            clear HC
            subst hst
            go_wp2
            refine bodyPost_ret (v := .tuple #[.int .i64 2139095040, .int .i64 0, .int .i64 0, .int .i64 0]) (by simp [results, Try.results19, go_sem]) rfl ?_
            exact ⟨hB0, _, _, _, _, rfl, .inr (.inr ⟨HM.out, HLE.out, _, at', true, HRD.out, .inr ⟨rfl, rfl, rfl, .inr (.inl ⟨.inr rfl, by rw [HNEG.out]; rfl, rfl⟩)⟩⟩)⟩
          · have hhx := hex_ok (chs s) st HST.out hst
            rw [← HBODY.out] at hhx
            have hl2 : 2 ≤ (s.extract 1 s.size).size := by rw [← chs_length]; exact hhx.1
            have hbt : ∀ W, Below w2.heap.size w2 W → True := fun _ _ => trivial
            clear hbt
            have HHX := hid hhx.2
            have HS := hid hst
            clear HC hhx
            subst hst
            go_wp2_with fail
            refine (binaryOf_any (s.extract 1 s.size) _ hs9 hl2 HHX.out).mono ?_
            rw [HBODY.out]
            rintro r w4 ⟨hb4, v4, rfl, how4, hl4, hl5⟩
            obtain ⟨DD, hDD⟩ : ∃ DD, DD = hexScan (ahead ((body (chs s)).drop 2) 112) := ⟨_, rfl⟩
            have hvs := hexScan_vals (ahead ((body (chs s)).drop 2) 112) (by rw [← HBODY.out]; exact HHX.out)
            have hxb := expOf_bd (body (chs s)) 112
            obtain ⟨E, hE⟩ : ∃ E, E = expOf (body (chs s)) 112 := ⟨_, rfl⟩
            rw [← hDD] at how4 hl4 hl5 hvs ⊢
            rw [← hE] at hxb ⊢
            have HDD := hid (And.intro hDD hE)
            have HVS := hid hvs
            have hB4 := hB0.trans (hb4.mono (B' := w2.heap.size) hB0.size)
            have HOW := hid how4.row
            clear hDD hE hvs hb4 how4
            go_wp2_with fail
            refine (sixteen_any _ DD.1 (E - 4 * DD.2.1) _ HOW.out HVS.out hl4 (by omega)).mono ?_
            rintro r w5 ⟨hb5, v5, L5, e5, rfl, o5⟩
            obtain ⟨ao5, cp5, hv5⟩ := o5.row.isSlice
            rw [hv5] at o5
            subst hv5
            have l5 := o5.len
            have bd5 := o5.bounds 20000 (by omega) (by omega) (by omega)
            have ke5 : -(K : Int) ≤ e5 := by
              by_cases h0 : L5 = []
              · rw [o5.nil h0]; omega
              · have := (o5.ne h0).1; omega
            have hal := (Below.refl w5.heap.size w5).alloc (Nat.le_refl _) (.cells #[.slice ao5 L5.length cp5, .int .i64 e5] 69)
            have HR5 := hid (o5.row.below hal (Nat.le_refl _))
            have HN5 := hid (And.intro o5.norm (And.intro o5.nil (o5.val K (by omega))))
            have hB5 := (hB4.trans (hb5.mono (B' := w2.heap.size) hB4.size))
            have hB6 := hB5.trans (hal.mono (B' := w2.heap.size) hB5.size)
            clear hb5 o5 hal
            go_wp2_with fail
            refine (rounded_any 1 mode false _ L5 e5 K _ (by omega) HR5.out HN5.out.1 (by omega) (by omega) ke5 (by omega) HN5.out.2.1).mono ?_
            rintro r w6 ⟨hb6, a6, fl6, rfl, hsp⟩
            rw [HN5.out.2.2] at hsp
            have hab := round_bd hsp
            rw [show infN 1 = 2139095040 from rfl] at hab
            obtain ⟨an, rfl⟩ := Int.eq_ofNat_of_zero_le hab.1
            have HSP := hid hsp
            have hB7 := hB6.trans (hb6.mono (B' := w2.heap.size) hB6.size)
            clear hsp hb6
            go_wp2
            refine bodyPost_ret (v := .tuple #[.int .i64 ((an : Nat) : Int), .int .i64 fl6, .int .i64 0, .int .i64 0]) (by simp [results, Try.results19, go_sem]) rfl ?_
            exact ⟨hB7, _, _, _, _, rfl, .inr (.inr ⟨HM.out, HLE.out, _, at', true, HRD.out, .inr ⟨rfl, rfl, rfl, .inr (.inr (.inl ⟨rfl, an, by rw [HNEG.out, ← HDD.out.1, ← HDD.out.2]; exact HSP.out, by rw [HNEG.out]; rfl⟩))⟩⟩)⟩
          · have hdk := dec_ok (chs s) st HST.out hst
            rw [← HBODY.out] at hdk
            have HDK := hid hdk
            have HS := hid hst
            have b27 : ((st : Int) == 27) = false := by rw [beq_eq_false_iff_ne]; omega
            have b18 : ((st : Int) == 18) = false := by rw [beq_eq_false_iff_ne]; omega
            have b23 : ((st : Int) == 23) = false := by rw [beq_eq_false_iff_ne]; omega
            have b15 : ((st : Int) == 15) = false := by rw [beq_eq_false_iff_ne]; omega
            clear HC hdk hst
            go_wp2_with fail
            refine (decimal_any (s.extract 1 s.size) _ hs9 HDK.out).mono ?_
            rw [HBODY.out]
            rintro r w4 ⟨hb4, v4, L4, e4, rfl, o4⟩
            obtain ⟨DD, hDD⟩ : ∃ DD, DD = decScan (ahead (body (chs s)) 101) := ⟨_, rfl⟩
            have hdl := decScan_inv (ahead (body (chs s)) 101)
            have hal9 : (ahead (body (chs s)) 101).length ≤ 900 := by
              have h1 : (ahead (body (chs s)) 101).length ≤ (body (chs s)).length := (List.takeWhile_sublist _).length_le
              rw [← HBODY.out, chs_length] at h1
              rw [← HBODY.out]; omega
            have hxb := expOf_bd (body (chs s)) 101
            obtain ⟨E, hE⟩ : ∃ E, E = expOf (body (chs s)) 101 := ⟨_, rfl⟩
            rw [← hDD] at hdl o4
            rw [← hE] at hxb o4
            have HDD := hid (And.intro hDD hE)
            obtain ⟨ao4, cp4, hv4⟩ := o4.row.isSlice
            rw [hv4] at o4
            subst hv4
            have l4 := o4.len
            have bd4 := o4.bounds 300000 (by omega) (by omega) (by omega)
            have hal := (Below.refl w4.heap.size w4).alloc (Nat.le_refl _) (.cells #[.slice ao4 L4.length cp4, .int .i64 e4] 69)
            have HR4 := hid (o4.row.below hal (Nat.le_refl _))
            have HO4 := hid o4
            have hB4 := hB0.trans (hb4.mono (B' := w2.heap.size) hB0.size)
            have HAL := hid hal
            have hlt4 := hid (fun g (hg : (Value.slice ao4 L4.length cp4).ownBlock = some g) => o4.row.lt g hg)
            clear hDD hE hb4 o4 hal hdl hal9
            go_wp2_with fail
            refine (held_any _ L4 e4 _ HR4.out HO4.out.norm l4 bd4 HO4.out.nil).mono ?_
            rintro r w5 ⟨hb5, v5, L5, e5, rfl, o5⟩
            obtain ⟨ao5, cp5, hv5⟩ := o5.row.isSlice
            rw [hv5] at o5
            subst hv5
            have l5 := o5.len
            have bd5 := o5.bounds 20000 (by omega) (by omega) (by omega)
            have ke5 : -(K : Int) ≤ e5 := by
              by_cases h0 : L5 = []
              · rw [o5.nil h0]; omega
              · have := (o5.ne h0).1; omega
            have c0 := keep_cell hb5 (show (w4.alloc (.cells #[.slice ao4 L4.length cp4, .int .i64 e4] 69)).cell? ⟨w4.heap.size, 0, none⟩ = some (.slice ao4 L4.length cp4) by simp [go_sem])
            have c1 := keep_cell hb5 (show (w4.alloc (.cells #[.slice ao4 L4.length cp4, .int .i64 e4] 69)).cell? ⟨w4.heap.size, 1, none⟩ = some (.int .i64 e4) by simp [go_sem])
            have f0 : w5.frozen? ⟨w4.heap.size, 0, none⟩ = false := (hb5.frozen (p := ⟨w4.heap.size, 0, none⟩) (by simp)).trans (by simp [go_sem])
            have f1 : w5.frozen? ⟨w4.heap.size, 1, none⟩ = false := (hb5.frozen (p := ⟨w4.heap.size, 1, none⟩) (by simp)).trans (by simp [go_sem])
            have hnown : (Value.slice ao5 L5.length cp5).ownBlock ≠ some w4.heap.size := fun hg => by
              rcases o5.own _ hg with h | h
              · have := hlt4.out _ h; omega
              · simp at h; omega
            have HR5 := hid ((o5.row.setCell ⟨w4.heap.size, 0, none⟩ (.slice ao5 L5.length cp5) hnown).setCell ⟨w4.heap.size, 1, none⟩ (.int .i64 e5) hnown)
            have HN5 := hid (And.intro o5.norm (And.intro o5.nil (o5.val K (by omega))))
            have hB5 := hB4.trans (HAL.out.trans (hb5.mono (B' := w4.heap.size) (by simp)) |>.mono (B' := w2.heap.size) hB4.size)
            have hB6 := below_two hB5 (b := w4.heap.size) hB4.size (.slice ao5 L5.length cp5) (.int .i64 e5)
            clear hb5 o5 hnown
            go_wp2_with fail
            refine (rounded_any 1 mode false _ L5 e5 K _ (by omega) HR5.out HN5.out.1 (by omega) (by omega) ke5 (by omega) HN5.out.2.1).mono ?_
            rintro r w6 ⟨hb6, a6, fl6, rfl, hsp⟩
            rw [HN5.out.2.2] at hsp
            have hab := round_bd hsp
            rw [show infN 1 = 2139095040 from rfl] at hab
            obtain ⟨an, rfl⟩ := Int.eq_ofNat_of_zero_le hab.1
            have HSP := hid hsp
            have hB7 := hB6.trans (hb6.mono (B' := w2.heap.size) hB6.size)
            clear hsp hb6 c0 c1 f0 f1
            go_wp2
            refine bodyPost_ret (v := .tuple #[.int .i64 ((an : Nat) : Int), .int .i64 fl6, .int .i64 0, .int .i64 0]) (by simp [results, Try.results19, go_sem]) rfl ?_
            exact ⟨hB7, _, _, _, _, rfl, .inr (.inr ⟨HM.out, HLE.out, _, at', true, HRD.out, .inr ⟨rfl, rfl, rfl, .inr (.inr (.inr ⟨HS.out, an, L4, e4, HO4.out.norm, HO4.out.nil, by rw [← HDD.out.1, ← HDD.out.2]; exact fun h => (HO4.out.ne h).1, by rw [← HDD.out.1, ← HDD.out.2]; exact HO4.out.val, by rw [HNEG.out]; exact HSP.out, by rw [HNEG.out]; rfl⟩))⟩⟩)⟩
        · have hne43 : True := trivial
          clear hne43
          have b45 : (((s[0].toNat : Nat) : Int) == 45) = false := by rw [beq_eq_false_iff_ne]; omega
          have b43 : (((s[0].toNat : Nat) : Int) == 43) = false := by rw [beq_eq_false_iff_ne]; omega
          have HNEG : Hid (decide ((chs s).getD 0 0 = 45) = false) := by unfold Hid; rw [HG.out]; exact decide_eq_false h45
          have HBODY : Hid (chs s = body (chs s)) := by unfold Hid; exact body_none s hpos (by rw [HG.out]; unfold sgn; simp [h45, h43])
          have hs9 : s.size ≤ 900 := by omega
          clear h45 h43
          rcases HC.out with hst | hst | hst | hst | hst
          · have HS := hid hst
            clear HC
            subst hst
            go_wp2
            refine bodyPost_ret (v := .tuple #[.int .i64 2143289344, .int .i64 0, .int .i64 0, .int .i64 0]) (by simp [results, Try.results19, go_sem]) rfl ?_
            exact ⟨hB0, _, _, _, _, rfl, .inr (.inr ⟨HM.out, HLE.out, _, at', true, HRD.out, .inr ⟨rfl, rfl, rfl, .inl ⟨rfl, rfl, rfl⟩⟩⟩)⟩
          · have HS := hid hst
            clear HC
            subst hst
            go_wp2
            refine bodyPost_ret (v := .tuple #[.int .i64 2139095040, .int .i64 0, .int .i64 0, .int .i64 0]) (by simp [results, Try.results19, go_sem]) rfl ?_
            exact ⟨hB0, _, _, _, _, rfl, .inr (.inr ⟨HM.out, HLE.out, _, at', true, HRD.out, .inr ⟨rfl, rfl, rfl, .inr (.inl ⟨.inl rfl, by rw [HNEG.out]; rfl, rfl⟩)⟩⟩)⟩
          · have HS := hid hst
            clear HC
            subst hst
            go_wp2
            refine bodyPost_ret (v := .tuple #[.int .i64 2139095040, .int .i64 0, .int .i64 0, .int .i64 0]) (by simp [results, Try.results19, go_sem]) rfl ?_
            exact ⟨hB0, _, _, _, _, rfl, .inr (.inr ⟨HM.out, HLE.out, _, at', true, HRD.out, .inr ⟨rfl, rfl, rfl, .inr (.inl ⟨.inr rfl, by rw [HNEG.out]; rfl, rfl⟩)⟩⟩)⟩
          · have hhx := hex_ok (chs s) st HST.out hst
            rw [← HBODY.out] at hhx
            have hl2 : 2 ≤ s.size := by rw [← chs_length]; exact hhx.1
            have hbt : ∀ W, Below w2.heap.size w2 W → True := fun _ _ => trivial
            clear hbt
            have HHX := hid hhx.2
            have HS := hid hst
            clear HC hhx
            subst hst
            go_wp2_with fail
            refine (binaryOf_any s _ hs9 hl2 HHX.out).mono ?_
            rw [HBODY.out]
            rintro r w4 ⟨hb4, v4, rfl, how4, hl4, hl5⟩
            obtain ⟨DD, hDD⟩ : ∃ DD, DD = hexScan (ahead ((body (chs s)).drop 2) 112) := ⟨_, rfl⟩
            have hvs := hexScan_vals (ahead ((body (chs s)).drop 2) 112) (by rw [← HBODY.out]; exact HHX.out)
            have hxb := expOf_bd (body (chs s)) 112
            obtain ⟨E, hE⟩ : ∃ E, E = expOf (body (chs s)) 112 := ⟨_, rfl⟩
            rw [← hDD] at how4 hl4 hl5 hvs ⊢
            rw [← hE] at hxb ⊢
            have HDD := hid (And.intro hDD hE)
            have HVS := hid hvs
            have hB4 := hB0.trans (hb4.mono (B' := w2.heap.size) hB0.size)
            have HOW := hid how4.row
            clear hDD hE hvs hb4 how4
            go_wp2_with fail
            refine (sixteen_any _ DD.1 (E - 4 * DD.2.1) _ HOW.out HVS.out hl4 (by omega)).mono ?_
            rintro r w5 ⟨hb5, v5, L5, e5, rfl, o5⟩
            obtain ⟨ao5, cp5, hv5⟩ := o5.row.isSlice
            rw [hv5] at o5
            subst hv5
            have l5 := o5.len
            have bd5 := o5.bounds 20000 (by omega) (by omega) (by omega)
            have ke5 : -(K : Int) ≤ e5 := by
              by_cases h0 : L5 = []
              · rw [o5.nil h0]; omega
              · have := (o5.ne h0).1; omega
            have hal := (Below.refl w5.heap.size w5).alloc (Nat.le_refl _) (.cells #[.slice ao5 L5.length cp5, .int .i64 e5] 69)
            have HR5 := hid (o5.row.below hal (Nat.le_refl _))
            have HN5 := hid (And.intro o5.norm (And.intro o5.nil (o5.val K (by omega))))
            have hB5 := (hB4.trans (hb5.mono (B' := w2.heap.size) hB4.size))
            have hB6 := hB5.trans (hal.mono (B' := w2.heap.size) hB5.size)
            clear hb5 o5 hal
            go_wp2_with fail
            refine (rounded_any 1 mode false _ L5 e5 K _ (by omega) HR5.out HN5.out.1 (by omega) (by omega) ke5 (by omega) HN5.out.2.1).mono ?_
            rintro r w6 ⟨hb6, a6, fl6, rfl, hsp⟩
            rw [HN5.out.2.2] at hsp
            have hab := round_bd hsp
            rw [show infN 1 = 2139095040 from rfl] at hab
            obtain ⟨an, rfl⟩ := Int.eq_ofNat_of_zero_le hab.1
            have HSP := hid hsp
            have hB7 := hB6.trans (hb6.mono (B' := w2.heap.size) hB6.size)
            clear hsp hb6
            go_wp2
            refine bodyPost_ret (v := .tuple #[.int .i64 ((an : Nat) : Int), .int .i64 fl6, .int .i64 0, .int .i64 0]) (by simp [results, Try.results19, go_sem]) rfl ?_
            exact ⟨hB7, _, _, _, _, rfl, .inr (.inr ⟨HM.out, HLE.out, _, at', true, HRD.out, .inr ⟨rfl, rfl, rfl, .inr (.inr (.inl ⟨rfl, an, by rw [HNEG.out, ← HDD.out.1, ← HDD.out.2]; exact HSP.out, by rw [HNEG.out]; rfl⟩))⟩⟩)⟩
          · have hdk := dec_ok (chs s) st HST.out hst
            rw [← HBODY.out] at hdk
            have HDK := hid hdk
            have HS := hid hst
            have b27 : ((st : Int) == 27) = false := by rw [beq_eq_false_iff_ne]; omega
            have b18 : ((st : Int) == 18) = false := by rw [beq_eq_false_iff_ne]; omega
            have b23 : ((st : Int) == 23) = false := by rw [beq_eq_false_iff_ne]; omega
            have b15 : ((st : Int) == 15) = false := by rw [beq_eq_false_iff_ne]; omega
            clear HC hdk hst
            go_wp2_with fail
            refine (decimal_any s _ hs9 HDK.out).mono ?_
            rw [HBODY.out]
            rintro r w4 ⟨hb4, v4, L4, e4, rfl, o4⟩
            obtain ⟨DD, hDD⟩ : ∃ DD, DD = decScan (ahead (body (chs s)) 101) := ⟨_, rfl⟩
            have hdl := decScan_inv (ahead (body (chs s)) 101)
            have hal9 : (ahead (body (chs s)) 101).length ≤ 900 := by
              have h1 : (ahead (body (chs s)) 101).length ≤ (body (chs s)).length := (List.takeWhile_sublist _).length_le
              rw [← HBODY.out, chs_length] at h1
              rw [← HBODY.out]; omega
            have hxb := expOf_bd (body (chs s)) 101
            obtain ⟨E, hE⟩ : ∃ E, E = expOf (body (chs s)) 101 := ⟨_, rfl⟩
            rw [← hDD] at hdl o4
            rw [← hE] at hxb o4
            have HDD := hid (And.intro hDD hE)
            obtain ⟨ao4, cp4, hv4⟩ := o4.row.isSlice
            rw [hv4] at o4
            subst hv4
            have l4 := o4.len
            have bd4 := o4.bounds 300000 (by omega) (by omega) (by omega)
            have hal := (Below.refl w4.heap.size w4).alloc (Nat.le_refl _) (.cells #[.slice ao4 L4.length cp4, .int .i64 e4] 69)
            have HR4 := hid (o4.row.below hal (Nat.le_refl _))
            have HO4 := hid o4
            have hB4 := hB0.trans (hb4.mono (B' := w2.heap.size) hB0.size)
            have HAL := hid hal
            have hlt4 := hid (fun g (hg : (Value.slice ao4 L4.length cp4).ownBlock = some g) => o4.row.lt g hg)
            clear hDD hE hb4 o4 hal hdl hal9
            go_wp2_with fail
            refine (held_any _ L4 e4 _ HR4.out HO4.out.norm l4 bd4 HO4.out.nil).mono ?_
            rintro r w5 ⟨hb5, v5, L5, e5, rfl, o5⟩
            obtain ⟨ao5, cp5, hv5⟩ := o5.row.isSlice
            rw [hv5] at o5
            subst hv5
            have l5 := o5.len
            have bd5 := o5.bounds 20000 (by omega) (by omega) (by omega)
            have ke5 : -(K : Int) ≤ e5 := by
              by_cases h0 : L5 = []
              · rw [o5.nil h0]; omega
              · have := (o5.ne h0).1; omega
            have c0 := keep_cell hb5 (show (w4.alloc (.cells #[.slice ao4 L4.length cp4, .int .i64 e4] 69)).cell? ⟨w4.heap.size, 0, none⟩ = some (.slice ao4 L4.length cp4) by simp [go_sem])
            have c1 := keep_cell hb5 (show (w4.alloc (.cells #[.slice ao4 L4.length cp4, .int .i64 e4] 69)).cell? ⟨w4.heap.size, 1, none⟩ = some (.int .i64 e4) by simp [go_sem])
            have f0 : w5.frozen? ⟨w4.heap.size, 0, none⟩ = false := (hb5.frozen (p := ⟨w4.heap.size, 0, none⟩) (by simp)).trans (by simp [go_sem])
            have f1 : w5.frozen? ⟨w4.heap.size, 1, none⟩ = false := (hb5.frozen (p := ⟨w4.heap.size, 1, none⟩) (by simp)).trans (by simp [go_sem])
            have hnown : (Value.slice ao5 L5.length cp5).ownBlock ≠ some w4.heap.size := fun hg => by
              rcases o5.own _ hg with h | h
              · have := hlt4.out _ h; omega
              · simp at h; omega
            have HR5 := hid ((o5.row.setCell ⟨w4.heap.size, 0, none⟩ (.slice ao5 L5.length cp5) hnown).setCell ⟨w4.heap.size, 1, none⟩ (.int .i64 e5) hnown)
            have HN5 := hid (And.intro o5.norm (And.intro o5.nil (o5.val K (by omega))))
            have hB5 := hB4.trans (HAL.out.trans (hb5.mono (B' := w4.heap.size) (by simp)) |>.mono (B' := w2.heap.size) hB4.size)
            have hB6 := below_two hB5 (b := w4.heap.size) hB4.size (.slice ao5 L5.length cp5) (.int .i64 e5)
            clear hb5 o5 hnown
            go_wp2_with fail
            refine (rounded_any 1 mode false _ L5 e5 K _ (by omega) HR5.out HN5.out.1 (by omega) (by omega) ke5 (by omega) HN5.out.2.1).mono ?_
            rintro r w6 ⟨hb6, a6, fl6, rfl, hsp⟩
            rw [HN5.out.2.2] at hsp
            have hab := round_bd hsp
            rw [show infN 1 = 2139095040 from rfl] at hab
            obtain ⟨an, rfl⟩ := Int.eq_ofNat_of_zero_le hab.1
            have HSP := hid hsp
            have hB7 := hB6.trans (hb6.mono (B' := w2.heap.size) hB6.size)
            clear hsp hb6 c0 c1 f0 f1
            go_wp2
            refine bodyPost_ret (v := .tuple #[.int .i64 ((an : Nat) : Int), .int .i64 fl6, .int .i64 0, .int .i64 0]) (by simp [results, Try.results19, go_sem]) rfl ?_
            exact ⟨hB7, _, _, _, _, rfl, .inr (.inr ⟨HM.out, HLE.out, _, at', true, HRD.out, .inr ⟨rfl, rfl, rfl, .inr (.inr (.inr ⟨HS.out, an, L4, e4, HO4.out.norm, HO4.out.nil, by rw [← HDD.out.1, ← HDD.out.2]; exact fun h => (HO4.out.ne h).1, by rw [← HDD.out.1, ← HDD.out.2]; exact HO4.out.val, by rw [HNEG.out]; exact HSP.out, by rw [HNEG.out]; rfl⟩))⟩⟩)⟩

end Go.Proofs.Ytbkdaoicnobllaa
