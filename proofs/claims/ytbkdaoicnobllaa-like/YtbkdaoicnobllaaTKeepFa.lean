import Derived.Test.YtbkdaoicnobllaaTKeepF

namespace Go.Proofs.Ytbkdaoicnobllaa
open Go.RowKit

set_option maxRecDepth 100000 in
set_option maxHeartbeats 8000000 in
theorem mirrored1 (cv : Value) (s : ByteArray) (b : Int) (hb : -9223372036854775808 ≤ b ∧ b ≤ 9223372036854775807) (hpb : pickV b 3 = 1) (hs : s.size ≤ 16384) (w : World) (h0 : 0 < s.size) (h45 : s[0].toNat ≠ 45) (h43 : s[0].toNat ≠ 43) (h900 : s.size ≠ 900) :
    Calls Try.prog 16 #[cv, .string s, .int .i64 b] w fun e w' => e = .returned (.bool true) ∧ Below w.heap.size w w' := by
  have HX := hid (form_any b hb w)
  rw [hpb] at HX
  have HF : Hid (fW ((1 : Nat) : Int) = 32 ∧ fQ ((1 : Nat) : Int) = 23) := ⟨rfl, rfl⟩
  rw [HF.out.1, HF.out.2] at HX
  have HG := hid (chs_get s 0 h0)
  have HL : Hid (0 < (chs s).length ∧ (chs s).length ≠ 900 ∧ sgn ((chs s).getD 0 0) = false) := by
    refine ⟨by rw [chs_length]; exact h0, by rw [chs_length]; exact h900, ?_⟩
    rw [HG.out]; unfold sgn; simp; exact ⟨h43, h45⟩
  have t45 : (((s[0].toNat : Nat) : Int) == 45) = false := by simp; omega
  have t43 : (((s[0].toNat : Nat) : Int) == 43) = false := by simp; omega
  have t9 : ((s.size : Int) == 900) = false := by simp; omega
  have tz : ((s.size : Int) == 0) = false := by rw [beq_eq_false_iff_ne]; omega
  have hw : wrap64 9223372036854775808 = -9223372036854775808 := by unfold wrap64; decide
  clear h45 h43 h900 hpb
  go_enter Try.func16, Try.ntmps16
  go_wp2_with fail
  refine HX.out.mono ?_
  rintro e w' ⟨rfl, rfl⟩
  clear HX
  obtain ⟨G, hG⟩ : ∃ G, G = w'.heap.size := ⟨_, rfl⟩
  obtain ⟨w6, hw6⟩ : ∃ w6, w6 = w'.alloc (.cells #[.int .i64 0, .int .i64 1, .int .i64 2, .int .i64 4, .int .i64 3] 3) := ⟨_, rfl⟩
  have c0 : w6.cell? ⟨G, 0, none⟩ = some (.int .i64 0) := by rw [hw6, hG]; simp [go_sem]
  have c1 : w6.cell? ⟨G, 1, none⟩ = some (.int .i64 1) := by rw [hw6, hG]; simp [go_sem]
  have c2 : w6.cell? ⟨G, 2, none⟩ = some (.int .i64 2) := by rw [hw6, hG]; simp [go_sem]
  have c3 : w6.cell? ⟨G, 3, none⟩ = some (.int .i64 4) := by rw [hw6, hG]; simp [go_sem]
  have c4 : w6.cell? ⟨G, 4, none⟩ = some (.int .i64 3) := by rw [hw6, hG]; simp [go_sem]
  have HB6 : Hid (Below w'.heap.size w' w6) := by unfold Hid; rw [hw6]; exact (Below.refl _ _).alloc (Nat.le_refl _) _
  have HW6 := hid hw6
  have HGG := hid hG
  clear hw6 hG
  go_wp2_with (rw [← HW6.out, ← HGG.out])
  go_wp2
  go_loopw [11, 12, 13, 14, 15, 16, 17, 18, 19, 20] (fun mm _ _ _ _ _ _ _ _ _ wr => ∃ n : Nat, mm = .int .i64 n ∧ n ≤ 5 ∧ Hid (Below w6.heap.size w6 wr)) (fun mm _ _ _ _ _ _ _ _ _ _ => 5 - (intOf mm).toNat)
  case atStart => exact ⟨0, rfl, by omega, Below.refl _ _⟩
  case round =>
    obtain ⟨n, rfl, hn, HBr⟩ := hrel
    rcases (by omega : n = 0 ∨ n = 1 ∨ n = 2 ∨ n = 3 ∨ n = 4 ∨ n = 5) with rfl | rfl | rfl | rfl | rfl | rfl
    · have HXa := hid (parse_any cv s 1 0 wr)
      have d0 := keep_cell' HBr.out c0
      go_wp2_with fail
      refine HXa.out.mono ?_
      rintro e w1 ⟨v, g, a, er, rfl, hb1, hp1⟩
      have HB1 : Hid (Below w6.heap.size w6 w1) := HBr.out.trans (hb1.mono HBr.out.size)
      have d0' := keep_cell' hb1 d0
      have HXb := hid (parse_any cv (⟨#[45]⟩ ++ s) 1 0 w1)
      have HP1 := hid (prog_spec (Nat.le_refl _) hp1)
      clear HXa hb1 hp1 d0 HBr
      go_wp2_with fail
      refine HXb.out.mono ?_
      rintro e w3 ⟨u, h, t, o, rfl, hb3, hp3⟩
      have HB3 : Hid (Below w6.heap.size w6 w3) := HB1.out.trans (hb3.mono HB1.out.size)
      have hM := mirror_pure (K := 30000) (m := 0) (by omega) (by omega) HL.out.1 HL.out.2.1 HL.out.2.2 HP1.out (by rw [← chs_minus]; exact prog_spec (Nat.le_refl _) hp3)
      have eo := hM.err
      subst eo
      have HM := hid hM
      clear HXb hb3 hp3 d0' HB1 HP1 hM
      by_cases h0 : er = 0
      · subst h0
        have gh := HM.out.flags rfl
        subst gh
        by_cases hc : s[0].toNat = 110
        · have tn : (((s[0].toNat : Nat) : Int) == 110) = true := by simp; omega
          have uv := HM.out.nan rfl (by rw [HG.out]; exact hc)
          subst uv
          clear hc HM
          go_wp2
          go_roundw
          case rel => exact ⟨1, by go_num, by omega, HB3.out⟩
          case measure => simp [intOf]
        · have tn : (((s[0].toNat : Nat) : Int) == 110) = false := by simp; omega
          obtain ⟨uv, v0, v1⟩ := HM.out.num rfl (by rw [HG.out]; exact hc)
          have v1 : v ≤ 2139095040 := v1
          have uv : u = v + 2147483648 := uv
          subst uv
          obtain ⟨V, hV⟩ : ∃ V : Nat, v = (V : Int) := ⟨v.toNat, by omega⟩
          have hor : bits .or .i64 v 2147483648 = v + 2147483648 := by rw [hV]; exact or_single V (by omega)
          clear hc HM hV
          go_wp2
          go_roundw
          case rel => exact ⟨1, by go_num, by omega, HB3.out⟩
          case measure => simp [intOf]
      · have t0 : (er == 0) = false := by simpa using h0
        by_cases h3 : er = 3
        · subst h3
          have ht := HM.out.place rfl
          have hbd := HM.out.bd
          subst ht
          obtain ⟨hbd1, hbd2⟩ := hbd
          clear h0 HM
          go_wp2
          go_roundw
          case rel => exact ⟨1, by go_num, by omega, HB3.out⟩
          case measure => simp [intOf]
        · have t3 : (er == 3) = false := by simpa using h3
          clear h0 h3 HM
          go_wp2
          go_roundw
          case rel => exact ⟨1, by go_num, by omega, HB3.out⟩
          case measure => simp [intOf]
    · have HXa := hid (parse_any cv s 1 1 wr)
      have d1 := keep_cell' HBr.out c1
      go_wp2_with fail
      refine HXa.out.mono ?_
      rintro e w1 ⟨v, g, a, er, rfl, hb1, hp1⟩
      have HB1 : Hid (Below w6.heap.size w6 w1) := HBr.out.trans (hb1.mono HBr.out.size)
      have d1' := keep_cell' hb1 d1
      have HXb := hid (parse_any cv (⟨#[45]⟩ ++ s) 1 1 w1)
      have HP1 := hid (prog_spec (Nat.le_refl _) hp1)
      clear HXa hb1 hp1 d1 HBr
      go_wp2_with fail
      refine HXb.out.mono ?_
      rintro e w3 ⟨u, h, t, o, rfl, hb3, hp3⟩
      have HB3 : Hid (Below w6.heap.size w6 w3) := HB1.out.trans (hb3.mono HB1.out.size)
      have hM := mirror_pure (K := 30000) (m := 1) (by omega) (by omega) HL.out.1 HL.out.2.1 HL.out.2.2 HP1.out (by rw [← chs_minus]; exact prog_spec (Nat.le_refl _) hp3)
      have eo := hM.err
      subst eo
      have HM := hid hM
      clear HXb hb3 hp3 d1' HB1 HP1 hM
      by_cases h0 : er = 0
      · subst h0
        have gh := HM.out.flags rfl
        subst gh
        by_cases hc : s[0].toNat = 110
        · have tn : (((s[0].toNat : Nat) : Int) == 110) = true := by simp; omega
          have uv := HM.out.nan rfl (by rw [HG.out]; exact hc)
          subst uv
          clear hc HM
          go_wp2
          go_roundw
          case rel => exact ⟨2, by go_num, by omega, HB3.out⟩
          case measure => simp [intOf]
        · have tn : (((s[0].toNat : Nat) : Int) == 110) = false := by simp; omega
          obtain ⟨uv, v0, v1⟩ := HM.out.num rfl (by rw [HG.out]; exact hc)
          have v1 : v ≤ 2139095040 := v1
          have uv : u = v + 2147483648 := uv
          subst uv
          obtain ⟨V, hV⟩ : ∃ V : Nat, v = (V : Int) := ⟨v.toNat, by omega⟩
          have hor : bits .or .i64 v 2147483648 = v + 2147483648 := by rw [hV]; exact or_single V (by omega)
          clear hc HM hV
          go_wp2
          go_roundw
          case rel => exact ⟨2, by go_num, by omega, HB3.out⟩
          case measure => simp [intOf]
      · have t0 : (er == 0) = false := by simpa using h0
        by_cases h3 : er = 3
        · subst h3
          have ht := HM.out.place rfl
          have hbd := HM.out.bd
          subst ht
          obtain ⟨hbd1, hbd2⟩ := hbd
          clear h0 HM
          go_wp2
          go_roundw
          case rel => exact ⟨2, by go_num, by omega, HB3.out⟩
          case measure => simp [intOf]
        · have t3 : (er == 3) = false := by simpa using h3
          clear h0 h3 HM
          go_wp2
          go_roundw
          case rel => exact ⟨2, by go_num, by omega, HB3.out⟩
          case measure => simp [intOf]
    · have HXa := hid (parse_any cv s 1 2 wr)
      have d2 := keep_cell' HBr.out c2
      go_wp2_with fail
      refine HXa.out.mono ?_
      rintro e w1 ⟨v, g, a, er, rfl, hb1, hp1⟩
      have HB1 : Hid (Below w6.heap.size w6 w1) := HBr.out.trans (hb1.mono HBr.out.size)
      have d2' := keep_cell' hb1 d2
      have HXb := hid (parse_any cv (⟨#[45]⟩ ++ s) 1 2 w1)
      have HP1 := hid (prog_spec (Nat.le_refl _) hp1)
      clear HXa hb1 hp1 d2 HBr
      go_wp2_with fail
      refine HXb.out.mono ?_
      rintro e w3 ⟨u, h, t, o, rfl, hb3, hp3⟩
      have HB3 : Hid (Below w6.heap.size w6 w3) := HB1.out.trans (hb3.mono HB1.out.size)
      have hM := mirror_pure (K := 30000) (m := 2) (by omega) (by omega) HL.out.1 HL.out.2.1 HL.out.2.2 HP1.out (by rw [← chs_minus]; exact prog_spec (Nat.le_refl _) hp3)
      have eo := hM.err
      subst eo
      have HM := hid hM
      clear HXb hb3 hp3 d2' HB1 HP1 hM
      by_cases h0 : er = 0
      · subst h0
        have gh := HM.out.flags rfl
        subst gh
        by_cases hc : s[0].toNat = 110
        · have tn : (((s[0].toNat : Nat) : Int) == 110) = true := by simp; omega
          have uv := HM.out.nan rfl (by rw [HG.out]; exact hc)
          subst uv
          clear hc HM
          go_wp2
          go_roundw
          case rel => exact ⟨3, by go_num, by omega, HB3.out⟩
          case measure => simp [intOf]
        · have tn : (((s[0].toNat : Nat) : Int) == 110) = false := by simp; omega
          obtain ⟨uv, v0, v1⟩ := HM.out.num rfl (by rw [HG.out]; exact hc)
          have v1 : v ≤ 2139095040 := v1
          have uv : u = v + 2147483648 := uv
          subst uv
          obtain ⟨V, hV⟩ : ∃ V : Nat, v = (V : Int) := ⟨v.toNat, by omega⟩
          have hor : bits .or .i64 v 2147483648 = v + 2147483648 := by rw [hV]; exact or_single V (by omega)
          clear hc HM hV
          go_wp2
          go_roundw
          case rel => exact ⟨3, by go_num, by omega, HB3.out⟩
          case measure => simp [intOf]
      · have t0 : (er == 0) = false := by simpa using h0
        by_cases h3 : er = 3
        · subst h3
          have ht := HM.out.place rfl
          have hbd := HM.out.bd
          subst ht
          obtain ⟨hbd1, hbd2⟩ := hbd
          clear h0 HM
          go_wp2
          go_roundw
          case rel => exact ⟨3, by go_num, by omega, HB3.out⟩
          case measure => simp [intOf]
        · have t3 : (er == 3) = false := by simpa using h3
          clear h0 h3 HM
          go_wp2
          go_roundw
          case rel => exact ⟨3, by go_num, by omega, HB3.out⟩
          case measure => simp [intOf]
    · have HXa := hid (parse_any cv s 1 3 wr)
      have d3 := keep_cell' HBr.out c3
      go_wp2_with fail
      refine HXa.out.mono ?_
      rintro e w1 ⟨v, g, a, er, rfl, hb1, hp1⟩
      have HB1 : Hid (Below w6.heap.size w6 w1) := HBr.out.trans (hb1.mono HBr.out.size)
      have d3' := keep_cell' hb1 d3
      have HXb := hid (parse_any cv (⟨#[45]⟩ ++ s) 1 4 w1)
      have HP1 := hid (prog_spec (Nat.le_refl _) hp1)
      clear HXa hb1 hp1 d3 HBr
      go_wp2_with fail
      refine HXb.out.mono ?_
      rintro e w3 ⟨u, h, t, o, rfl, hb3, hp3⟩
      have HB3 : Hid (Below w6.heap.size w6 w3) := HB1.out.trans (hb3.mono HB1.out.size)
      have hM := mirror_pure (K := 30000) (m := 3) (by omega) (by omega) HL.out.1 HL.out.2.1 HL.out.2.2 HP1.out (by rw [← chs_minus]; exact prog_spec (Nat.le_refl _) hp3)
      have eo := hM.err
      subst eo
      have HM := hid hM
      clear HXb hb3 hp3 d3' HB1 HP1 hM
      by_cases h0 : er = 0
      · subst h0
        have gh := HM.out.flags rfl
        subst gh
        by_cases hc : s[0].toNat = 110
        · have tn : (((s[0].toNat : Nat) : Int) == 110) = true := by simp; omega
          have uv := HM.out.nan rfl (by rw [HG.out]; exact hc)
          subst uv
          clear hc HM
          go_wp2
          go_roundw
          case rel => exact ⟨4, by go_num, by omega, HB3.out⟩
          case measure => simp [intOf]
        · have tn : (((s[0].toNat : Nat) : Int) == 110) = false := by simp; omega
          obtain ⟨uv, v0, v1⟩ := HM.out.num rfl (by rw [HG.out]; exact hc)
          have v1 : v ≤ 2139095040 := v1
          have uv : u = v + 2147483648 := uv
          subst uv
          obtain ⟨V, hV⟩ : ∃ V : Nat, v = (V : Int) := ⟨v.toNat, by omega⟩
          have hor : bits .or .i64 v 2147483648 = v + 2147483648 := by rw [hV]; exact or_single V (by omega)
          clear hc HM hV
          go_wp2
          go_roundw
          case rel => exact ⟨4, by go_num, by omega, HB3.out⟩
          case measure => simp [intOf]
      · have t0 : (er == 0) = false := by simpa using h0
        by_cases h3 : er = 3
        · subst h3
          have ht := HM.out.place rfl
          have hbd := HM.out.bd
          subst ht
          obtain ⟨hbd1, hbd2⟩ := hbd
          clear h0 HM
          go_wp2
          go_roundw
          case rel => exact ⟨4, by go_num, by omega, HB3.out⟩
          case measure => simp [intOf]
        · have t3 : (er == 3) = false := by simpa using h3
          clear h0 h3 HM
          go_wp2
          go_roundw
          case rel => exact ⟨4, by go_num, by omega, HB3.out⟩
          case measure => simp [intOf]
    · have HXa := hid (parse_any cv s 1 4 wr)
      have d4 := keep_cell' HBr.out c4
      go_wp2_with fail
      refine HXa.out.mono ?_
      rintro e w1 ⟨v, g, a, er, rfl, hb1, hp1⟩
      have HB1 : Hid (Below w6.heap.size w6 w1) := HBr.out.trans (hb1.mono HBr.out.size)
      have d4' := keep_cell' hb1 d4
      have HXb := hid (parse_any cv (⟨#[45]⟩ ++ s) 1 3 w1)
      have HP1 := hid (prog_spec (Nat.le_refl _) hp1)
      clear HXa hb1 hp1 d4 HBr
      go_wp2_with fail
      refine HXb.out.mono ?_
      rintro e w3 ⟨u, h, t, o, rfl, hb3, hp3⟩
      have HB3 : Hid (Below w6.heap.size w6 w3) := HB1.out.trans (hb3.mono HB1.out.size)
      have hM := mirror_pure (K := 30000) (m := 4) (by omega) (by omega) HL.out.1 HL.out.2.1 HL.out.2.2 HP1.out (by rw [← chs_minus]; exact prog_spec (Nat.le_refl _) hp3)
      have eo := hM.err
      subst eo
      have HM := hid hM
      clear HXb hb3 hp3 d4' HB1 HP1 hM
      by_cases h0 : er = 0
      · subst h0
        have gh := HM.out.flags rfl
        subst gh
        by_cases hc : s[0].toNat = 110
        · have tn : (((s[0].toNat : Nat) : Int) == 110) = true := by simp; omega
          have uv := HM.out.nan rfl (by rw [HG.out]; exact hc)
          subst uv
          clear hc HM
          go_wp2
          go_roundw
          case rel => exact ⟨5, by go_num, by omega, HB3.out⟩
          case measure => simp [intOf]
        · have tn : (((s[0].toNat : Nat) : Int) == 110) = false := by simp; omega
          obtain ⟨uv, v0, v1⟩ := HM.out.num rfl (by rw [HG.out]; exact hc)
          have v1 : v ≤ 2139095040 := v1
          have uv : u = v + 2147483648 := uv
          subst uv
          obtain ⟨V, hV⟩ : ∃ V : Nat, v = (V : Int) := ⟨v.toNat, by omega⟩
          have hor : bits .or .i64 v 2147483648 = v + 2147483648 := by rw [hV]; exact or_single V (by omega)
          clear hc HM hV
          go_wp2
          go_roundw
          case rel => exact ⟨5, by go_num, by omega, HB3.out⟩
          case measure => simp [intOf]
      · have t0 : (er == 0) = false := by simpa using h0
        by_cases h3 : er = 3
        · subst h3
          have ht := HM.out.place rfl
          have hbd := HM.out.bd
          subst ht
          obtain ⟨hbd1, hbd2⟩ := hbd
          clear h0 HM
          go_wp2
          go_roundw
          case rel => exact ⟨5, by go_num, by omega, HB3.out⟩
          case measure => simp [intOf]
        · have t3 : (er == 3) = false := by simpa using h3
          clear h0 h3 HM
          go_wp2
          go_roundw
          case rel => exact ⟨5, by go_num, by omega, HB3.out⟩
          case measure => simp [intOf]
    · have HBF : Hid (Below w'.heap.size w' wr) := HB6.out.trans (HBr.out.mono HB6.out.size)
      clear HBr
      go_wp2
      all_goals (go_ret; exact ⟨rfl, HBF.out⟩)
end Go.Proofs.Ytbkdaoicnobllaa
