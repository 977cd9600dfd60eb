import Derived.Test.YtbkdaoicnobllabDoorGByte
import Derived.Deep.RegionHeld3

namespace Go.Proofs.YtbkdaoicnobllabDoor
open Go.RowKit

/-- A row of bytes, and the library's table. -/
def HeldB (w : World) (base : Nat) (v : Value) (T : List UInt8) : Prop := OwnB w base v T ∧ Tab w
theorem HeldB.next {w w' : World} {base : Nat} {v : Value} {T : List UInt8} (h : HeldB w base v T) (hb : Below w.heap.size w w') : HeldB w' base v T := ⟨h.1.below hb (Nat.le_refl _), h.2.below hb⟩
theorem HeldB.tab {w : World} {base : Nat} {v : Value} {T : List UInt8} (h : HeldB w base v T) : Tab w := h.2
theorem tdiv_eq (a b : Int) (h : 0 ≤ a) : a.tdiv b = a / b := Int.tdiv_eq_ediv_of_nonneg h
theorem tmod_eq (a b : Int) (h : 0 ≤ a) : a.tmod b = a % b := Int.tmod_eq_emod_of_nonneg h
set_option maxRecDepth 100000 in
set_option maxHeartbeats 1000000 in
theorem whex_any (m0 : Nat) (p0 : Int) (w : World) (htab : Tab w) (h0 : 0 < m0) (hm : m0 < 9007199254740992) (hp1 : -3000 ≤ p0) (hp2 : p0 ≤ 3000) :
    Calls Tryd.prog 28 #[.int .i64 m0, .int .i64 p0] w fun r w' => ∃ s : ByteArray, r = .returned (.string s) ∧ ∃ (T : List UInt8) (E : Int), HexText m0 p0 T E ∧ s = str (hexS T E) ∧ T.length ≤ 13 ∧ -4000 ≤ E ∧ E ≤ 4000 ∧ Below w.heap.size w w' := by
  obtain ⟨M0, hM0⟩ : ∃ M0 : Int, M0 = (m0 : Int) := ⟨_, rfl⟩
  rw [← hM0]
  have H0 := hid h0
  have HM0 := hid hM0
  have HTAB := hid htab
  have hM1 : 0 < M0 := by omega
  have hM2 : M0 < 9007199254740992 := by omega
  have hMle : ¬ M0 ≤ 0 := by omega
  obtain ⟨ui0, uhi, uhz0, uhz1, uhz2⟩ := info_parts Tryd.info_u8
  clear h0 hM0 hm htab
  go_enter Tryd.func28, Tryd.ntmps28
  go_wp2
  go_loop [1, 5] (fun pp uu => ∃ (U : Int) (k : Nat), pp = .int .i64 (p0 + k) ∧ uu = .int .i64 U ∧ 0 < U ∧ U ≤ M0 ∧ k ≤ 53 ∧ Hid (((2 ^ k : Nat) : Int) = U)) (fun _ uu => (M0 - intOf uu).toNat)
  case atStart => exact ⟨1, 0, by simp, rfl, by omega, by omega, Nat.zero_le _, rfl⟩
  case round =>
    obtain ⟨U, k, rfl, rfl, hU0, hUM, hk, HU⟩ := hrel
    by_cases hgo : U ≤ M0 / 2
    · have HK : Hid (((2 ^ (k + 1) : Nat) : Int) = U * 2) := by unfold Hid; rw [Nat.pow_succ]; have := HU.out; omega
      have hk2 : k + 1 < 53 := by
        have h1 := HK.out
        exact pow_gt (m := 1) (M := (U * 2).toNat) (by omega) (by omega) (by rw [show (2 : Nat) ^ 53 = 9007199254740992 from by decide]; omega)
      go_wp2
      go_round
      case rel => exact ⟨U * 2, k + 1, by go_num, rfl, by omega, by omega, by omega, HK.out⟩
      case measure => simp [intOf]; omega
    · obtain ⟨u, hu⟩ : ∃ u : Nat, (u : Int) = U := ⟨U.toNat, by omega⟩
      have HUU : Hid (u = 2 ^ k) := by unfold Hid; have := HU.out; omega
      have hk2 : k ≤ 52 := by
        have h1 := HU.out
        have := pow_gt (m := 1) (M := U.toNat) (k := k) (B := 53) (by omega) (by omega) (by rw [show (2 : Nat) ^ 53 = 9007199254740992 from by decide]; omega)
        omega
      obtain ⟨r, hr⟩ : ∃ r : Nat, (r : Int) = M0 - U := ⟨(M0 - U).toNat, by omega⟩
      have hru : r < u := by omega
      have HJ : Hid (∀ n, HexEnd u r n → HexText m0 p0 (hexP u r n) (p0 + k)) := fun n hn => by
        rw [HUU.out] at hn hru ⊢
        have := hex_join (m0 := m0) (k := 0) (j := k) (r := r) (n := n) (e0 := p0) (by have := HM0.out; have := HU.out; rw [Nat.add_zero]; simp only [Nat.pow_zero, Nat.mul_one]; omega) (by simpa using hru) (by simpa using hn)
        simpa using this
      obtain ⟨R0, hR0⟩ : ∃ R0 : Int, R0 = (r : Int) := ⟨_, rfl⟩
      have hrm : M0 % U = R0 := by
        have h1 : M0 = U + R0 := by omega
        rw [h1, Int.add_emod_left, Int.emod_eq_of_lt (by omega) (by omega)]
      have hrt : M0.tmod U = R0 := by rw [tmod_eq _ _ (by omega)]; exact hrm
      have hUne : (U == 0) = false := by rw [beq_eq_false_iff_ne]; omega
      have hUn : ¬ U = 0 := by omega
      have hR1 : 0 ≤ R0 := by omega
      have hR2 : R0 < U := by omega
      have HR0 := hid hR0
      have HUI : Hid ((u : Int) = U) := hu
      clear hr hR0 hu
      go_wp2
      go_loopw [6, 7] (fun tt rr wr => ∃ (X : Int) (n : Nat), rr = .int .i64 X ∧ (∃ g c cp, tt = .slice (some ⟨g, 0, none⟩) c cp) ∧ OwnB wr w.heap.size tt (hexP u r n) ∧ 0 ≤ X ∧ X < U ∧ n ≤ 13 ∧ Hid ((hexR u r n : Int) = X ∧ ∀ i, i < n → hexR u r i ≠ 0) ∧ Below w.heap.size w wr) (fun tt _ _ => 14 - lenOf tt)
      case atStart => exact ⟨R0, 0, rfl, ⟨_, _, _, rfl⟩, OwnB.empty w, hR1, hR2, Nat.zero_le _, ⟨by rw [hexR_zero _ _ hru]; exact HR0.out.symm, fun i hi => by omega⟩, (Below.refl _ _).alloc (Nat.le_refl _) _⟩
      case round =>
        clear hR1 hR2 hrm hrt
        obtain ⟨X, n, rfl, hsm, hown, hX1, hX2, hn, HX, hb⟩ := hrel
        obtain ⟨g2, cp2, rfl, hg2, hc1, hc2⟩ := hown.form hsm
        rw [hexP_length] at hown hc1 ⊢
        unfold maxLen at hc2
        have hsz := hb.size
        by_cases hX0 : 0 < X
        · obtain ⟨d, hd⟩ : ∃ d : Nat, (d : Int) = X * 16 / U := ⟨(X * 16 / U).toNat, by have := Int.ediv_nonneg (a := X * 16) (b := U) (by omega) (by omega); omega⟩
          have hd16 : d < 16 := by
            have : X * 16 / U < 16 := Int.ediv_lt_of_lt_mul (by omega) (by omega)
            omega
          obtain ⟨Y, hY⟩ : ∃ Y : Int, Y = X * 16 % U := ⟨_, rfl⟩
          have hY1 : 0 ≤ Y := by rw [hY]; exact Int.emod_nonneg _ (by omega)
          have hY2 : Y < U := by rw [hY]; exact Int.emod_lt_of_pos _ hU0
          have HR : Hid (hexR u r n = X.toNat) := by unfold Hid; have := HX.out.1; omega
          have HY : Hid ((hexR u r (n + 1) : Int) = Y) := by
            unfold Hid; rw [hexR_succ, HR.out, hY, ← HUI.out]
            have : X = (X.toNat : Int) := by omega
            generalize X.toNat = x at *
            subst this; simp
          have hn13 : n < 13 := by
            refine hexR_more k r n hk2 ?_
            rw [← HUU.out, HR.out]; omega
          have HT : Hid (hexP u r n ++ [hexD d] = hexP u r (n + 1)) := by
            unfold Hid
            show _ = hexP u r n ++ [hexD (hexR u r n * 16 / u)]
            rw [HR.out]
            congr 3
            have h3 : X = (X.toNat : Int) := by omega
            rw [← HUI.out] at hd
            generalize X.toNat = x at *
            subst h3
            have h4 : ((d : Nat) : Int) = ((x * 16 / u : Nat) : Int) := by rw [hd]; simp
            omega
          have HZ : Hid (hexR u r n ≠ 0) := by unfold Hid; rw [HR.out]; omega
          have hdi : X * 16 / U = (d : Int) := hd.symm
          have hdt : (X * 16).tdiv U = (d : Int) := by rw [tdiv_eq _ _ (by omega)]; exact hdi
          have hYi : X * 16 % U = Y := hY.symm
          have hYt : (X * 16).tmod U = Y := by rw [tmod_eq _ _ (by omega)]; exact hYi
          have HX2 := hid (digitByte_any d hd16 wr)
          obtain ⟨z, hz⟩ : ∃ z : Int, z = ((hexD d).toNat : Nat) := ⟨_, rfl⟩
          rw [← hz] at HX2
          have hown' : wr.ownsRow w.heap.size 5 1 (.slice (some ⟨g2, 0, none⟩) n cp2) n (byts (hexP u r n)) := hown.owns (hexP_length _ _ _)
          have HZZ := hid hz
          clear hown hd hY hsm hz
          go_wp2_with fail
          refine HX2.out.mono ?_
          rintro r1 w0 ⟨rfl, rfl⟩
          clear HX2
          go_wp2_with (at_builtin; refine wpList_append_own _ rfl (.tmp 29) (.tmp 35) 72 rfl w.heap.size 5 ui0 (.int .u8 0) 1 1 Tryd.underlying72 uhi uhz0 uhz1 uhz2 rfl (by decide) _ _ _ rfl (hown'.alloc _) ⟨w0.heap.size, 0, none⟩ 1 1 [.int .u8 z] rfl rfl (cell_one_new _ _ _) (by intro u hu; simp at hu; subst hu; rfl) (by unfold maxLen; omega) (by omega) (by simp; omega) ?_)
          intro v' w1 hown1 hgrow _
          have hb1 : Hid (Below w.heap.size w w1) := (hb.alloc (by omega) _).grown hgrow (by simp; omega) (fun k hk => (hown'.lt k hk).1)
          have hown2 : Hid (OwnB w1 w.heap.size v' (hexP u r (n + 1))) := by unfold Hid; rw [← HT.out]; exact OwnB.snoc hown1 (hexP_length _ _ _) HZZ.out
          have hsm2 : Hid (∃ g c cp, v' = .slice (some ⟨g, 0, none⟩) c cp) := hown2.out.someS (by rw [hexP_length]; omega)
          have hln : Hid (lenOf v' = n + 1) := by
            obtain ⟨g', cp', hv', _⟩ := hown2.out.form hsm2.out
            unfold Hid; rw [hv', hexP_length]; rfl
          clear hown' hgrow hown1 hb
          go_wp2
          go_roundw
          case rel => exact ⟨Y, n + 1, rfl, hsm2.out, hown2.out, hY1, hY2, by omega, ⟨HY.out, fun i hi => if h : i = n then h ▸ HZ.out else HX.out.2 i (by omega)⟩, hb1.out⟩
          case measure => rw [hln.out]; simp only [lenOf]; omega
        · have hX00 : X = 0 := by omega
          subst hX00
          have HE : Hid (HexEnd u r n) := ⟨by have := HX.out.1; omega, HX.out.2⟩
          clear hX0 hX1 hX2 hsm
          by_cases hn0 : n = 0
          · skip
            have HSS : Hid ((⟨#[48, 120, 49]⟩ : ByteArray) ++ ⟨#[]⟩ ++ str (hexP u r n) ++ ⟨#[112]⟩ ++ str (Lib.itoa (p0 + k)) = str (hexS (hexP u r n) (p0 + k))) := by
              unfold Hid hexS ptd
              rw [if_pos (List.length_eq_zero_iff.1 (by rw [hexP_length]; exact hn0))]
              apply ByteArray.ext
              simp only [ByteArray.data_append, str]
              simp [List.length_eq_zero_iff.1 (by rw [hexP_length]; exact hn0 : (hexP u r n).length = 0)]
            have t0 : decide (0 < n) = false := by simp; omega
            clear hn0
            have HHB : Hid (HeldB wr w.heap.size (.slice (some ⟨g2, 0, none⟩) n cp2) (hexP u r n)) := ⟨hown, HTAB.out.below hb⟩
            have HBR := hid hb
            have HIT : Hid (∀ wx, Tab wx → Calls Tryd.prog 41 #[.int .i64 (p0 + k)] wx fun e w' => e = .returned (.string (str (Lib.itoa (p0 + k)))) ∧ Below wx.heap.size wx w') := fun wx hx => itoa_any (p0 + k) (by omega) (by omega) wx hx
            have hts : (str (hexP u r n)).size ≤ 100 := by rw [str_size, hexP_length]; omega
            have his : (str (Lib.itoa (p0 + k))).size ≤ 100 := by rw [str_size]; have := Lib.itoa_length_le (p0 + k) (by omega) (by omega); omega
            have hs1 : ((⟨#[48, 120, 49]⟩ : ByteArray) ++ ⟨#[]⟩ ++ str (hexP u r n)).size ≤ 200 := by
              simp only [ByteArray.size_append]
              have : (⟨#[48, 120, 49]⟩ : ByteArray).size = 3 := rfl
              have hpt : (⟨#[]⟩ : ByteArray).size ≤ 1 := by decide
              omega
            have hs2 : ((⟨#[48, 120, 49]⟩ : ByteArray) ++ ⟨#[]⟩ ++ str (hexP u r n) ++ ⟨#[112]⟩).size ≤ 201 := by rw [ByteArray.size_append]; have : (⟨#[112]⟩ : ByteArray).size = 1 := rfl; omega
            have r1 : ∀ W : World, (Op.stringOp .add ((⟨#[48, 120, 49]⟩ : ByteArray) ++ ⟨#[]⟩) (str (hexP u r n))).run Tryd.prog W = .ok (.string ((⟨#[48, 120, 49]⟩ : ByteArray) ++ ⟨#[]⟩ ++ str (hexP u r n))) W := fun W => run_string_add_sum W _ _ (by rw [ByteArray.size_append] at hs1; omega)
            have r2 : ∀ W : World, (Op.stringOp .add ((⟨#[48, 120, 49]⟩ : ByteArray) ++ ⟨#[]⟩ ++ str (hexP u r n)) ⟨#[112]⟩).run Tryd.prog W = .ok (.string ((⟨#[48, 120, 49]⟩ : ByteArray) ++ ⟨#[]⟩ ++ str (hexP u r n) ++ ⟨#[112]⟩)) W := fun W => run_string_add_sum W _ _ (by have : (⟨#[112]⟩ : ByteArray).size = 1 := rfl; omega)
            have r3 : ∀ W : World, (Op.stringOp .add ((⟨#[48, 120, 49]⟩ : ByteArray) ++ ⟨#[]⟩ ++ str (hexP u r n) ++ ⟨#[112]⟩) (str (Lib.itoa (p0 + k)))).run Tryd.prog W = .ok (.string ((⟨#[48, 120, 49]⟩ : ByteArray) ++ ⟨#[]⟩ ++ str (hexP u r n) ++ ⟨#[112]⟩ ++ str (Lib.itoa (p0 + k)))) W := fun W => run_string_add_sum W _ _ (by omega)
            clear hown hb hs1 hs2 hts his
            go_wp2_with fail
            go_region_held3 (fun w' => HeldB w' w.heap.size (.slice (some ⟨g2, 0, none⟩) n cp2) (hexP u r n) ∧ (convert 72 9 (.slice (some ⟨g2, 0, none⟩) n cp2)).run Tryd.prog w' = .ok (.string (str (hexP u r n))) w')
              (first | exact ⟨HHB.out.next ((Below.refl _ _).drew), (HHB.out.next ((Below.refl _ _).drew)).1.conv (hexP_length _ _ _)⟩ | exact ⟨HeldB.next (by assumption) hb4, (HeldB.next (by assumption) hb4).1.conv (hexP_length _ _ _)⟩ | go_keep)
              ((go_at_call 41; refine (HIT.out _ (HeldB.tab (base := w.heap.size) (v := .slice (some ⟨g2, 0, none⟩) n cp2) (T := hexP u r n) (by assumption))).mono ?_; rintro e w4 ⟨rfl, hb4⟩))
            have HB4 : Hid (Below w.heap.size w w4) := HBR.out.drew.trans (hb4.mono HBR.out.size)
            clear hb4
            go_wp2
            go_ret
            exact ⟨_, rfl, _, _, HJ.out n HE.out, HSS.out, by rw [hexP_length]; exact hn, by omega, by omega, HB4.out⟩
          · skip
            have HSS : Hid ((⟨#[48, 120, 49]⟩ : ByteArray) ++ ⟨#[46]⟩ ++ str (hexP u r n) ++ ⟨#[112]⟩ ++ str (Lib.itoa (p0 + k)) = str (hexS (hexP u r n) (p0 + k))) := by
              unfold Hid hexS ptd
              rw [if_neg (fun h => hn0 (by rw [← hexP_length u r n, h]; rfl))]
              apply ByteArray.ext
              simp only [ByteArray.data_append, str]
              simp
            have t0 : decide (0 < n) = true := by simp; omega
            clear hn0
            have HHB : Hid (HeldB wr w.heap.size (.slice (some ⟨g2, 0, none⟩) n cp2) (hexP u r n)) := ⟨hown, HTAB.out.below hb⟩
            have HBR := hid hb
            have HIT : Hid (∀ wx, Tab wx → Calls Tryd.prog 41 #[.int .i64 (p0 + k)] wx fun e w' => e = .returned (.string (str (Lib.itoa (p0 + k)))) ∧ Below wx.heap.size wx w') := fun wx hx => itoa_any (p0 + k) (by omega) (by omega) wx hx
            have hts : (str (hexP u r n)).size ≤ 100 := by rw [str_size, hexP_length]; omega
            have his : (str (Lib.itoa (p0 + k))).size ≤ 100 := by rw [str_size]; have := Lib.itoa_length_le (p0 + k) (by omega) (by omega); omega
            have hs1 : ((⟨#[48, 120, 49]⟩ : ByteArray) ++ ⟨#[46]⟩ ++ str (hexP u r n)).size ≤ 200 := by
              simp only [ByteArray.size_append]
              have : (⟨#[48, 120, 49]⟩ : ByteArray).size = 3 := rfl
              have hpt : (⟨#[46]⟩ : ByteArray).size ≤ 1 := by decide
              omega
            have hs2 : ((⟨#[48, 120, 49]⟩ : ByteArray) ++ ⟨#[46]⟩ ++ str (hexP u r n) ++ ⟨#[112]⟩).size ≤ 201 := by rw [ByteArray.size_append]; have : (⟨#[112]⟩ : ByteArray).size = 1 := rfl; omega
            have r1 : ∀ W : World, (Op.stringOp .add ((⟨#[48, 120, 49]⟩ : ByteArray) ++ ⟨#[46]⟩) (str (hexP u r n))).run Tryd.prog W = .ok (.string ((⟨#[48, 120, 49]⟩ : ByteArray) ++ ⟨#[46]⟩ ++ str (hexP u r n))) W := fun W => run_string_add_sum W _ _ (by rw [ByteArray.size_append] at hs1; omega)
            have r2 : ∀ W : World, (Op.stringOp .add ((⟨#[48, 120, 49]⟩ : ByteArray) ++ ⟨#[46]⟩ ++ str (hexP u r n)) ⟨#[112]⟩).run Tryd.prog W = .ok (.string ((⟨#[48, 120, 49]⟩ : ByteArray) ++ ⟨#[46]⟩ ++ str (hexP u r n) ++ ⟨#[112]⟩)) W := fun W => run_string_add_sum W _ _ (by have : (⟨#[112]⟩ : ByteArray).size = 1 := rfl; omega)
            have r3 : ∀ W : World, (Op.stringOp .add ((⟨#[48, 120, 49]⟩ : ByteArray) ++ ⟨#[46]⟩ ++ str (hexP u r n) ++ ⟨#[112]⟩) (str (Lib.itoa (p0 + k)))).run Tryd.prog W = .ok (.string ((⟨#[48, 120, 49]⟩ : ByteArray) ++ ⟨#[46]⟩ ++ str (hexP u r n) ++ ⟨#[112]⟩ ++ str (Lib.itoa (p0 + k)))) W := fun W => run_string_add_sum W _ _ (by omega)
            clear hown hb hs1 hs2 hts his
            go_wp2_with fail
            go_region_held3 (fun w' => HeldB w' w.heap.size (.slice (some ⟨g2, 0, none⟩) n cp2) (hexP u r n) ∧ (convert 72 9 (.slice (some ⟨g2, 0, none⟩) n cp2)).run Tryd.prog w' = .ok (.string (str (hexP u r n))) w')
              (first | exact ⟨HHB.out.next ((Below.refl _ _).drew), (HHB.out.next ((Below.refl _ _).drew)).1.conv (hexP_length _ _ _)⟩ | exact ⟨HeldB.next (by assumption) hb4, (HeldB.next (by assumption) hb4).1.conv (hexP_length _ _ _)⟩ | go_keep)
              ((go_at_call 41; refine (HIT.out _ (HeldB.tab (base := w.heap.size) (v := .slice (some ⟨g2, 0, none⟩) n cp2) (T := hexP u r n) (by assumption))).mono ?_; rintro e w4 ⟨rfl, hb4⟩))
            have HB4 : Hid (Below w.heap.size w w4) := HBR.out.drew.trans (hb4.mono HBR.out.size)
            clear hb4
            go_wp2
            go_ret
            exact ⟨_, rfl, _, _, HJ.out n HE.out, HSS.out, by rw [hexP_length]; exact hn, by omega, by omega, HB4.out⟩
set_option maxRecDepth 100000 in
set_option maxHeartbeats 1000000 in
theorem whex_zero (p0 : Int) (w : World) : Calls Tryd.prog 28 #[.int .i64 0, .int .i64 p0] w fun r w' => r = .returned (.string (str [48, 120, 48, 112, 48])) ∧ w' = w := by
  go_enter Tryd.func28, Tryd.ntmps28
  go_wp2
  go_ret
  exact ⟨rfl, rfl⟩
end Go.Proofs.YtbkdaoicnobllabDoor
