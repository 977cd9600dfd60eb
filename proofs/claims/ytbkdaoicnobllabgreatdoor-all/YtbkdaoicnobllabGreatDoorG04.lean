import Derived.Test.YtbkdaoicnobllabGreatDoorG03
import Derived.Deep.RegionHeld3
import Derived.Test.YtbkdaoicnobllabGreatDoorG01
import Derived.Test.YtbkdaoicnobllabGreatDoorG00

namespace Go.Proofs.YtbkdaoicnobllabGreatDoor
set_option maxRecDepth 100000
set_option maxHeartbeats 1000000
open Go.RowKit

def HeldB (w : World) (base : Nat) (v : Value) (T : List UInt8) : Prop := OwnB w base v T ∧ Tab w
theorem HeldB.next {w w' : World} {base : Nat} {v : Value} {T : List UInt8} (h : HeldB w base v T) (hb : Below w.heap.size w w') : HeldB w' base v T := ⟨h.1.below hb (Nat.le_refl _), h.2.below hb⟩
theorem HeldB.tab {w : World} {base : Nat} {v : Value} {T : List UInt8} (h : HeldB w base v T) : Tab w := h.2
theorem tdiv_eq (a b : Int) (h : 0 ≤ a) : a.tdiv b = a / b := Int.tdiv_eq_ediv_of_nonneg h
theorem tmod_eq (a b : Int) (h : 0 ≤ a) : a.tmod b = a % b := Int.tmod_eq_emod_of_nonneg h
theorem whex_any (m0 : Nat) (p0 : Int) (w : World) (htab : Tab w) (h0 : 0 < m0) (hm : m0 < 9007199254740992) (hp1 : -3000 ≤ p0) (hp2 : p0 ≤ 3000) :
  Calls Tryz.prog 57 #[.int .i64 m0, .int .i64 p0] w fun r w' => ∃ s : ByteArray, r = .returned (.string s) ∧ ∃ (T : List UInt8) (E : Int), HexText m0 p0 T E ∧ s = str (hexS T E) ∧ T.length ≤ 13 ∧ -4000 ≤ E ∧ E ≤ 4000 ∧ Below w.heap.size w w' := by
 obtain ⟨M0, hM0⟩ : ∃ M0 : Int, M0 = (m0 : Int) := ⟨_, rfl⟩
 rw [← hM0]
 have H0 := hid h0
 have HM0 := hid hM0
 have HTAB := hid htab
 have hM1 : 0 < M0 := by omega
 have hM2 : M0 < 9007199254740992 := by omega
 have hMle : ¬ M0 ≤ 0 := by omega
 obtain ⟨ui0, uhi, uhz0, uhz1, uhz2⟩ := info_parts Tryz.info_u8
 clear h0 hM0 hm htab
 go_enter Tryz.func57, Tryz.ntmps57
 go_wp2
 go_loop [1, 5] (fun pp uu => ∃ (U : Int) (k : Nat), pp = .int .i64 (p0 + k) ∧ uu = .int .i64 U ∧ 0 < U ∧ U ≤ M0 ∧ k ≤ 53 ∧ Hid (((2 ^ k : Nat) : Int) = U)) (fun _ uu => (M0 - intOf uu).toNat)
 case atStart => exact ⟨1, 0, by simp, rfl, by omega, by omega, Nat.zero_le _, rfl⟩
 case round =>
  obtain ⟨U, k, rfl, rfl, hU0, hUM, hk, HU⟩ := hrel
  by_cases hgo : U ≤ M0 / 2
  ·have HK : Hid (((2 ^ (k + 1) : Nat) : Int) = U * 2) := by unfold Hid; rw [Nat.pow_succ]; have := HU.out; omega
   have hk2 : k + 1 < 53 := by
    have h1 := HK.out
    exact pow_gt (m := 1) (M := (U * 2).toNat) (by omega) (by omega) (by rw [show (2 : Nat) ^ 53 = 9007199254740992 from by decide]; omega)
   go_wp2
   go_round
   case rel => exact ⟨U * 2, k + 1, by go_num, rfl, by omega, by omega, by omega, HK.out⟩
   case measure => simp [intOf]; omega
  ·obtain ⟨u, hu⟩ : ∃ u : Nat, (u : Int) = U := ⟨U.toNat, by omega⟩
   have HUU : Hid (u = 2 ^ k) := by unfold Hid; have := HU.out; omega
   have hk2 : k ≤ 52 := by
    have h1 := HU.out
    have := pow_gt (m := 1) (M := U.toNat) (k := k) (B := 53) (by omega) (by omega) (by rw [show (2 : Nat) ^ 53 = 9007199254740992 from by decide]; omega)
    omega
   obtain ⟨r, hr⟩ : ∃ r : Nat, (r : Int) = M0 - U := ⟨(M0 - U).toNat, by omega⟩
   have hru : r < u := by omega
   have HJ : Hid (∀ n, HexEnd u r n → HexText m0 p0 (hexP u r n) (p0 + k)) := fun n hn => by
    rw [HUU.out] at hn hru ⊢
    have := hex_join (m0 := m0) (k := 0) (j := k) (r := r) (n := n) (e0 := p0) (by have := HM0.out; have := HU.out; rw [Nat.add_zero]; simp only [Nat.pow_zero, Nat.mul_one]; omega) (by simpa using hru) (by simpa using hn)
    simpa using this
   obtain ⟨R0, hR0⟩ : ∃ R0 : Int, R0 = (r : Int) := ⟨_, rfl⟩
   have hrm : M0 % U = R0 := by
    have h1 : M0 = U + R0 := by omega
    rw [h1, Int.add_emod_left, Int.emod_eq_of_lt (by omega) (by omega)]
   have hrt : M0.tmod U = R0 := by rw [tmod_eq _ _ (by omega)]; exact hrm
   have hUne : (U == 0) = false := by rw [beq_eq_false_iff_ne]; omega
   have hUn : ¬ U = 0 := by omega
   have hR1 : 0 ≤ R0 := by omega
   have hR2 : R0 < U := by omega
   have HR0 := hid hR0
   have HUI : Hid ((u : Int) = U) := hu
   clear hr hR0 hu
   go_wp2
   go_loopw [6, 7] (fun tt rr wr => ∃ (X : Int) (n : Nat), rr = .int .i64 X ∧ (∃ g c cp, tt = .slice (some ⟨g, 0, none⟩) c cp) ∧ OwnB wr w.heap.size tt (hexP u r n) ∧ 0 ≤ X ∧ X < U ∧ n ≤ 13 ∧ Hid ((hexR u r n : Int) = X ∧ ∀ i, i < n → hexR u r i ≠ 0) ∧ Below w.heap.size w wr) (fun tt _ _ => 14 - lenOf tt)
   case atStart => exact ⟨R0, 0, rfl, ⟨_, _, _, rfl⟩, OwnB.empty w, hR1, hR2, Nat.zero_le _, ⟨by rw [hexR_zero _ _ hru]; exact HR0.out.symm, fun i hi => by omega⟩, (Below.refl _ _).alloc (Nat.le_refl _) _⟩
   case round =>
    clear hR1 hR2 hrm hrt
    obtain ⟨X, n, rfl, hsm, hown, hX1, hX2, hn, HX, hb⟩ := hrel
    obtain ⟨g2, cp2, rfl, hg2, hc1, hc2⟩ := hown.form hsm
    rw [hexP_length] at hown hc1 ⊢
    unfold maxLen at hc2
    have hsz := hb.size
    by_cases hX0 : 0 < X
    ·obtain ⟨d, hd⟩ : ∃ d : Nat, (d : Int) = X * 16 / U := ⟨(X * 16 / U).toNat, by have := Int.ediv_nonneg (a := X * 16) (b := U) (by omega) (by omega); omega⟩
     have hd16 : d < 16 := by
      have : X * 16 / U < 16 := Int.ediv_lt_of_lt_mul (by omega) (by omega)
      omega
     obtain ⟨Y, hY⟩ : ∃ Y : Int, Y = X * 16 % U := ⟨_, rfl⟩
     have hY1 : 0 ≤ Y := by rw [hY]; exact Int.emod_nonneg _ (by omega)
     have hY2 : Y < U := by rw [hY]; exact Int.emod_lt_of_pos _ hU0
     have HR : Hid (hexR u r n = X.toNat) := by unfold Hid; have := HX.out.1; omega
     have HY : Hid ((hexR u r (n + 1) : Int) = Y) := by
      unfold Hid; rw [hexR_succ, HR.out, hY, ← HUI.out]
      have : X = (X.toNat : Int) := by omega
      generalize X.toNat = x at *
      subst this; simp
     have hn13 : n < 13 := by
      refine hexR_more k r n hk2 ?_
      rw [← HUU.out, HR.out]; omega
     have HT : Hid (hexP u r n ++ [hexD d] = hexP u r (n + 1)) := by
      unfold Hid
      show _ = hexP u r n ++ [hexD (hexR u r n * 16 / u)]
      rw [HR.out]
      congr 3
      have h3 : X = (X.toNat : Int) := by omega
      rw [← HUI.out] at hd
      generalize X.toNat = x at *
      subst h3
      have h4 : ((d : Nat) : Int) = ((x * 16 / u : Nat) : Int) := by rw [hd]; simp
      omega
     have HZ : Hid (hexR u r n ≠ 0) := by unfold Hid; rw [HR.out]; omega
     have hdi : X * 16 / U = (d : Int) := hd.symm
     have hdt : (X * 16).tdiv U = (d : Int) := by rw [tdiv_eq _ _ (by omega)]; exact hdi
     have hYi : X * 16 % U = Y := hY.symm
     have hYt : (X * 16).tmod U = Y := by rw [tmod_eq _ _ (by omega)]; exact hYi
     have HX2 := hid (digitByte_any d hd16 wr)
     obtain ⟨z, hz⟩ : ∃ z : Int, z = ((hexD d).toNat : Nat) := ⟨_, rfl⟩
     rw [← hz] at HX2
     have hown' : wr.ownsRow w.heap.size 5 1 (.slice (some ⟨g2, 0, none⟩) n cp2) n (byts (hexP u r n)) := hown.owns (hexP_length _ _ _)
     have HZZ := hid hz
     clear hown hd hY hsm hz
     go_wp2_with fail
     refine HX2.out.mono ?_
     rintro r1 w0 ⟨rfl, rfl⟩
     clear HX2
     go_wp2_with (at_builtin; refine wpList_append_own _ rfl (.tmp 29) (.tmp 35) 53 rfl w.heap.size 5 ui0 (.int .u8 0) 1 1 Tryz.underlying53 uhi uhz0 uhz1 uhz2 rfl (by decide) _ _ _ rfl (hown'.alloc _) ⟨w0.heap.size, 0, none⟩ 1 1 [.int .u8 z] rfl rfl (cell_one_new _ _ _) (by intro u hu; simp at hu; subst hu; rfl) (by unfold maxLen; omega) (by omega) (by simp; omega) ?_)
     intro v' w1 hown1 hgrow _
     have hb1 : Hid (Below w.heap.size w w1) := (hb.alloc (by omega) _).grown hgrow (by simp; omega) (fun k hk => (hown'.lt k hk).1)
     have hown2 : Hid (OwnB w1 w.heap.size v' (hexP u r (n + 1))) := by unfold Hid; rw [← HT.out]; exact OwnB.snoc hown1 (hexP_length _ _ _) HZZ.out
     have hsm2 : Hid (∃ g c cp, v' = .slice (some ⟨g, 0, none⟩) c cp) := hown2.out.someS (by rw [hexP_length]; omega)
     have hln : Hid (lenOf v' = n + 1) := by
      obtain ⟨g', cp', hv', _⟩ := hown2.out.form hsm2.out
      unfold Hid; rw [hv', hexP_length]; rfl
     clear hown' hgrow hown1 hb
     go_wp2
     go_roundw
     case rel => exact ⟨Y, n + 1, rfl, hsm2.out, hown2.out, hY1, hY2, by omega, ⟨HY.out, fun i hi => if h : i = n then h ▸ HZ.out else HX.out.2 i (by omega)⟩, hb1.out⟩
     case measure => rw [hln.out]; simp only [lenOf]; omega
    ·have hX00 : X = 0 := by omega
     subst hX00
     have HE : Hid (HexEnd u r n) := ⟨by have := HX.out.1; omega, HX.out.2⟩
     clear hX0 hX1 hX2 hsm
     by_cases hn0 : n = 0
     ·skip
      have HSS : Hid ((⟨#[48, 120, 49]⟩ : ByteArray) ++ ⟨#[]⟩ ++ str (hexP u r n) ++ ⟨#[112]⟩ ++ str (Lib.itoa (p0 + k)) = str (hexS (hexP u r n) (p0 + k))) := by
       unfold Hid hexS ptd
       rw [if_pos (List.length_eq_zero_iff.1 (by rw [hexP_length]; exact hn0))]
       apply ByteArray.ext
       simp only [ByteArray.data_append, str]
       simp [List.length_eq_zero_iff.1 (by rw [hexP_length]; exact hn0 : (hexP u r n).length = 0)]
      have t0 : decide (0 < n) = false := by simp; omega
      clear hn0
      have HHB : Hid (HeldB wr w.heap.size (.slice (some ⟨g2, 0, none⟩) n cp2) (hexP u r n)) := ⟨hown, HTAB.out.below hb⟩
      have HBR := hid hb
      have HIT : Hid (∀ wx, Tab wx → Calls Tryz.prog 102 #[.int .i64 (p0 + k)] wx fun e w' => e = .returned (.string (str (Lib.itoa (p0 + k)))) ∧ Below wx.heap.size wx w') := fun wx hx => itoa_any (p0 + k) (by omega) (by omega) wx hx
      have hts : (str (hexP u r n)).size ≤ 100 := by rw [str_size, hexP_length]; omega
      have his : (str (Lib.itoa (p0 + k))).size ≤ 100 := by rw [str_size]; have := Lib.itoa_length_le (p0 + k) (by omega) (by omega); omega
      have hs1 : ((⟨#[48, 120, 49]⟩ : ByteArray) ++ ⟨#[]⟩ ++ str (hexP u r n)).size ≤ 200 := by
       simp only [ByteArray.size_append]
       have : (⟨#[48, 120, 49]⟩ : ByteArray).size = 3 := rfl
       have hpt : (⟨#[]⟩ : ByteArray).size ≤ 1 := by decide
       omega
      have hs2 : ((⟨#[48, 120, 49]⟩ : ByteArray) ++ ⟨#[]⟩ ++ str (hexP u r n) ++ ⟨#[112]⟩).size ≤ 201 := by rw [ByteArray.size_append]; have : (⟨#[112]⟩ : ByteArray).size = 1 := rfl; omega
      have r1 : ∀ W : World, (Op.stringOp .add ((⟨#[48, 120, 49]⟩ : ByteArray) ++ ⟨#[]⟩) (str (hexP u r n))).run Tryz.prog W = .ok (.string ((⟨#[48, 120, 49]⟩ : ByteArray) ++ ⟨#[]⟩ ++ str (hexP u r n))) W := fun W => run_string_add_sum W _ _ (by rw [ByteArray.size_append] at hs1; omega)
      have r2 : ∀ W : World, (Op.stringOp .add ((⟨#[48, 120, 49]⟩ : ByteArray) ++ ⟨#[]⟩ ++ str (hexP u r n)) ⟨#[112]⟩).run Tryz.prog W = .ok (.string ((⟨#[48, 120, 49]⟩ : ByteArray) ++ ⟨#[]⟩ ++ str (hexP u r n) ++ ⟨#[112]⟩)) W := fun W => run_string_add_sum W _ _ (by have : (⟨#[112]⟩ : ByteArray).size = 1 := rfl; omega)
      have r3 : ∀ W : World, (Op.stringOp .add ((⟨#[48, 120, 49]⟩ : ByteArray) ++ ⟨#[]⟩ ++ str (hexP u r n) ++ ⟨#[112]⟩) (str (Lib.itoa (p0 + k)))).run Tryz.prog W = .ok (.string ((⟨#[48, 120, 49]⟩ : ByteArray) ++ ⟨#[]⟩ ++ str (hexP u r n) ++ ⟨#[112]⟩ ++ str (Lib.itoa (p0 + k)))) W := fun W => run_string_add_sum W _ _ (by omega)
      clear hown hb hs1 hs2 hts his
      go_wp2_with fail
      go_region_held3 (fun w' => HeldB w' w.heap.size (.slice (some ⟨g2, 0, none⟩) n cp2) (hexP u r n) ∧ (convert 53 9 (.slice (some ⟨g2, 0, none⟩) n cp2)).run Tryz.prog w' = .ok (.string (str (hexP u r n))) w')
       (first | exact ⟨HHB.out.next ((Below.refl _ _).drew), (HHB.out.next ((Below.refl _ _).drew)).1.conv (hexP_length _ _ _)⟩ | exact ⟨HeldB.next (by assumption) hb4, (HeldB.next (by assumption) hb4).1.conv (hexP_length _ _ _)⟩ | go_keep)
       ((go_at_call 102; refine (HIT.out _ (HeldB.tab (base := w.heap.size) (v := .slice (some ⟨g2, 0, none⟩) n cp2) (T := hexP u r n) (by assumption))).mono ?_; rintro e w4 ⟨rfl, hb4⟩))
      have HB4 : Hid (Below w.heap.size w w4) := HBR.out.drew.trans (hb4.mono HBR.out.size)
      clear hb4
      go_wp2
      go_ret
      exact ⟨_, rfl, _, _, HJ.out n HE.out, HSS.out, by rw [hexP_length]; exact hn, by omega, by omega, HB4.out⟩
     ·skip
      have HSS : Hid ((⟨#[48, 120, 49]⟩ : ByteArray) ++ ⟨#[46]⟩ ++ str (hexP u r n) ++ ⟨#[112]⟩ ++ str (Lib.itoa (p0 + k)) = str (hexS (hexP u r n) (p0 + k))) := by
       unfold Hid hexS ptd
       rw [if_neg (fun h => hn0 (by rw [← hexP_length u r n, h]; rfl))]
       apply ByteArray.ext
       simp only [ByteArray.data_append, str]
       simp
      have t0 : decide (0 < n) = true := by simp; omega
      clear hn0
      have HHB : Hid (HeldB wr w.heap.size (.slice (some ⟨g2, 0, none⟩) n cp2) (hexP u r n)) := ⟨hown, HTAB.out.below hb⟩
      have HBR := hid hb
      have HIT : Hid (∀ wx, Tab wx → Calls Tryz.prog 102 #[.int .i64 (p0 + k)] wx fun e w' => e = .returned (.string (str (Lib.itoa (p0 + k)))) ∧ Below wx.heap.size wx w') := fun wx hx => itoa_any (p0 + k) (by omega) (by omega) wx hx
      have hts : (str (hexP u r n)).size ≤ 100 := by rw [str_size, hexP_length]; omega
      have his : (str (Lib.itoa (p0 + k))).size ≤ 100 := by rw [str_size]; have := Lib.itoa_length_le (p0 + k) (by omega) (by omega); omega
      have hs1 : ((⟨#[48, 120, 49]⟩ : ByteArray) ++ ⟨#[46]⟩ ++ str (hexP u r n)).size ≤ 200 := by
       simp only [ByteArray.size_append]
       have : (⟨#[48, 120, 49]⟩ : ByteArray).size = 3 := rfl
       have hpt : (⟨#[46]⟩ : ByteArray).size ≤ 1 := by decide
       omega
      have hs2 : ((⟨#[48, 120, 49]⟩ : ByteArray) ++ ⟨#[46]⟩ ++ str (hexP u r n) ++ ⟨#[112]⟩).size ≤ 201 := by rw [ByteArray.size_append]; have : (⟨#[112]⟩ : ByteArray).size = 1 := rfl; omega
      have r1 : ∀ W : World, (Op.stringOp .add ((⟨#[48, 120, 49]⟩ : ByteArray) ++ ⟨#[46]⟩) (str (hexP u r n))).run Tryz.prog W = .ok (.string ((⟨#[48, 120, 49]⟩ : ByteArray) ++ ⟨#[46]⟩ ++ str (hexP u r n))) W := fun W => run_string_add_sum W _ _ (by rw [ByteArray.size_append] at hs1; omega)
      have r2 : ∀ W : World, (Op.stringOp .add ((⟨#[48, 120, 49]⟩ : ByteArray) ++ ⟨#[46]⟩ ++ str (hexP u r n)) ⟨#[112]⟩).run Tryz.prog W = .ok (.string ((⟨#[48, 120, 49]⟩ : ByteArray) ++ ⟨#[46]⟩ ++ str (hexP u r n) ++ ⟨#[112]⟩)) W := fun W => run_string_add_sum W _ _ (by have : (⟨#[112]⟩ : ByteArray).size = 1 := rfl; omega)
      have r3 : ∀ W : World, (Op.stringOp .add ((⟨#[48, 120, 49]⟩ : ByteArray) ++ ⟨#[46]⟩ ++ str (hexP u r n) ++ ⟨#[112]⟩) (str (Lib.itoa (p0 + k)))).run Tryz.prog W = .ok (.string ((⟨#[48, 120, 49]⟩ : ByteArray) ++ ⟨#[46]⟩ ++ str (hexP u r n) ++ ⟨#[112]⟩ ++ str (Lib.itoa (p0 + k)))) W := fun W => run_string_add_sum W _ _ (by omega)
      clear hown hb hs1 hs2 hts his
      go_wp2_with fail
      go_region_held3 (fun w' => HeldB w' w.heap.size (.slice (some ⟨g2, 0, none⟩) n cp2) (hexP u r n) ∧ (convert 53 9 (.slice (some ⟨g2, 0, none⟩) n cp2)).run Tryz.prog w' = .ok (.string (str (hexP u r n))) w')
       (first | exact ⟨HHB.out.next ((Below.refl _ _).drew), (HHB.out.next ((Below.refl _ _).drew)).1.conv (hexP_length _ _ _)⟩ | exact ⟨HeldB.next (by assumption) hb4, (HeldB.next (by assumption) hb4).1.conv (hexP_length _ _ _)⟩ | go_keep)
       ((go_at_call 102; refine (HIT.out _ (HeldB.tab (base := w.heap.size) (v := .slice (some ⟨g2, 0, none⟩) n cp2) (T := hexP u r n) (by assumption))).mono ?_; rintro e w4 ⟨rfl, hb4⟩))
      have HB4 : Hid (Below w.heap.size w w4) := HBR.out.drew.trans (hb4.mono HBR.out.size)
      clear hb4
      go_wp2
      go_ret
      exact ⟨_, rfl, _, _, HJ.out n HE.out, HSS.out, by rw [hexP_length]; exact hn, by omega, by omega, HB4.out⟩
theorem whex_zero (p0 : Int) (w : World) : Calls Tryz.prog 57 #[.int .i64 0, .int .i64 p0] w fun r w' => r = .returned (.string (str [48, 120, 48, 112, 48])) ∧ w' = w := by
 go_enter Tryz.func57, Tryz.ntmps57
 go_wp2
 go_ret
 exact ⟨rfl, rfl⟩
end Go.Proofs.YtbkdaoicnobllabGreatDoor

namespace Go.Proofs.YtbkdaoicnobllabGreatDoor
set_option maxRecDepth 100000
set_option maxHeartbeats 1000000
open Go.RowKit

structure DecAt (w : World) (b : Nat) (v : Value) (D : List Nat) (e : Int) : Prop where
 c0 : w.cell? ⟨b, 0, none⟩ = some v
 c1 : w.cell? ⟨b, 1, none⟩ = some (.int .i64 e)
 row : Row w v D
 digs : Digs D
 head : Headed D
 pos : 0 < D.length
 len : D.length ≤ 20000
 elo : -20000 ≤ e
 ehi : e ≤ 20000
theorem DecAt.below {w w' : World} {b : Nat} {v : Value} {D : List Nat} {e : Int} (h : DecAt w b v D e) (hb : Below w.heap.size w w') : DecAt w' b v D e :=
 ⟨keep_cell' hb h.c0, keep_cell' hb h.c1, h.row.below hb (Nat.le_refl _), h.digs, h.head, h.pos, h.len, h.elo, h.ehi⟩
theorem DecAt.form {w : World} {b : Nat} {v : Value} {D : List Nat} {e : Int} (h : DecAt w b v D e) : ∃ g off cap, v = .slice (some ⟨g, off, none⟩) D.length cap ∧ D.length ≤ cap ∧ cap ≤ maxLen ∧ g < w.heap.size ∧ ∀ j, j < D.length → w.cell? ⟨g, off + j, none⟩ = some (.int .i64 (D.getD j 0 : Nat)) := by
 rcases h.row with ⟨h0, _⟩ | ⟨g, off, cap, hv, h1, h2, h3, h4⟩
 ·have := h.pos; rw [h0] at this; simp at this
 ·exact ⟨g, off, cap, hv, h1, h2, h3, h4⟩
theorem firstPower_any (b : Nat) (v : Value) (D : List Nat) (e : Int) (w : World) (h : DecAt w b v D e) :
  Calls Tryz.prog 96 #[.pointer (some ⟨b, 0, none⟩)] w fun r w' => r = .returned (.int .i64 (e + D.length - 1)) ∧ Still w w' := by
 obtain ⟨g, off, cap, rfl, _⟩ := h.form
 have c0 := h.c0
 have c1 := h.c1
 have h1 := h.len
 have h2 := h.elo
 have h3 := h.ehi
 obtain ⟨n, hn⟩ : ∃ n, n = D.length := ⟨_, rfl⟩
 rw [← hn] at c0 h1 ⊢
 clear h hn
 go_enter Tryz.func96, Tryz.ntmps96
 go_wp2
 go_quiet (fail)
 go_wp2
 go_ret
 exact ⟨rfl, (Still.refl w).drewN _⟩
theorem lastPower_any (b : Nat) (v : Value) (D : List Nat) (e : Int) (w : World) (h : DecAt w b v D e) :
  Calls Tryz.prog 94 #[.pointer (some ⟨b, 0, none⟩)] w fun r w' => r = .returned (.int .i64 e) ∧ w' = w := by
 have c1 := h.c1
 clear h
 go_enter Tryz.func94, Tryz.ntmps94
 go_wp2
 go_ret
 exact ⟨rfl, rfl⟩
theorem digitAt_any (b : Nat) (v : Value) (D : List Nat) (e i : Int) (w : World) (h : DecAt w b v D e) :
  Calls Tryz.prog 138 #[.pointer (some ⟨b, 0, none⟩), .int .i64 i] w fun r w' => r = .returned (.int .i64 (dAt D i : Nat)) ∧ w' = w := by
 obtain ⟨g, off, cap, rfl, h4, h5, _, h7⟩ := h.form
 unfold maxLen at h5
 have c0 := h.c0
 have h1 := h.len
 obtain ⟨n, hn⟩ : ∃ n, n = D.length := ⟨_, rfl⟩
 rw [← hn] at c0 h1 h4 h7
 by_cases hi : i < 0
 ·have HD : Hid (dAt D i = 0) := by unfold Hid dAt; rw [if_pos hi]
  clear h hn h7
  go_enter Tryz.func138, Tryz.ntmps138
  go_wp2
  all_goals go_ret
  all_goals exact ⟨ret_int (by rw [HD.out]; rfl), rfl⟩
 ·by_cases hi2 : (n : Int) ≤ i
  ·have HD : Hid (dAt D i = 0) := by unfold Hid dAt; rw [if_neg hi, List.getD_eq_getElem?_getD, List.getElem?_eq_none (by omega)]; rfl
   clear h hn h7
   go_enter Tryz.func138, Tryz.ntmps138
   go_wp2
   all_goals go_ret
   all_goals exact ⟨ret_int (by rw [HD.out]; rfl), rfl⟩
  ·obtain ⟨j, rfl⟩ : ∃ j : Nat, i = j := ⟨i.toNat, by omega⟩
   have HD : Hid (dAt D (j : Int) = D.getD j 0) := by unfold Hid dAt; rw [if_neg hi]; simp
   have cj := h7 j (by omega)
   have hjn : j < n := by omega
   clear h hn h7
   go_enter Tryz.func138, Tryz.ntmps138
   go_wp2
   all_goals go_ret
   all_goals exact ⟨ret_int (by rw [HD.out]; simp), rfl⟩
end Go.Proofs.YtbkdaoicnobllabGreatDoor

namespace Go.Proofs.YtbkdaoicnobllabGreatDoor
set_option maxRecDepth 100000
set_option maxHeartbeats 1000000
open Go.RowKit

def SomeS (v : Value) : Prop := ∃ g n cp, v = .slice (some ⟨g, 0, none⟩) n cp
theorem Own.someS {w : World} {b : Nat} {v : Value} {L : List Nat} (h : Own w b v L) (hl : L ≠ []) : SomeS v := by
 rcases h.form with ⟨h0, _⟩ | ⟨g, cap, hv, _⟩
 ·exact absurd h0 hl
 ·exact ⟨g, _, cap, hv⟩
theorem first_any (b : Nat) (v : Value) (D : List Nat) (e count : Int) (w : World) (h : DecAt w b v D e) (hc : count ≤ 30000) :
  Calls Tryz.prog 122 #[.pointer (some ⟨b, 0, none⟩), .int .i64 count] w fun r w' => ∃ v' : Value, r = .returned v' ∧ SomeS v' ∧ Own w' w.heap.size v' (firstL D count.toNat) ∧ Below w.heap.size w w' := by
 obtain ⟨i0, hi, hz0, hz1, hz2⟩ := info_parts Tryz.info_int
 have HH := hid h
 clear h
 go_enter Tryz.func122, Tryz.ntmps122
 go_wp2
 go_loopw [5, 6] (fun l ii wr => ∃ k : Nat, ii = .int .i64 k ∧ k ≤ count.toNat ∧ SomeS l ∧ Own wr w.heap.size l (firstL D k) ∧ Below w.heap.size w wr) (fun _ ii _ => count.toNat - (intOf ii).toNat)
 case atStart => exact ⟨0, rfl, Nat.zero_le _, ⟨_, _, _, rfl⟩, Own.empty w, (Below.refl _ _).alloc (Nat.le_refl _) _⟩
 case round =>
  obtain ⟨k, rfl, hk, hsm, hown, hb⟩ := hrel
  have hsz := hb.size
  by_cases hlt : (k : Int) < count
  ·have HX := hid (digitAt_any b v D e k wr (HH.out.below hb))
   obtain ⟨x, hx⟩ : ∃ x, x = dAt D (k : Int) := ⟨_, rfl⟩
   rw [← hx] at HX
   have hx9 : x ≤ 9 := by rw [hx]; exact dAt_le HH.out.digs _
   have HS : Hid (firstL D (k + 1) = firstL D k ++ [x]) := by unfold Hid; rw [firstL_succ, hx]; unfold dAt; rw [if_neg (by omega)]; simp
   have hown' : wr.ownsRow w.heap.size 3 1 u5 k (ints (firstL D k)) := by have := hown; unfold Own at this; rwa [firstL_length] at this
   clear hown hx hsm
   go_wp2_with fail
   refine HX.out.mono ?_
   rintro r w0 ⟨rfl, rfl⟩
   clear HX
   go_wp2_with (at_builtin; refine wpList_append_own _ rfl (.tmp 17) (.tmp 19) 69 rfl w.heap.size 3 i0 (.int .i64 0) 1 8 Tryz.underlying69 hi hz0 hz1 hz2 rfl (by decide) _ _ _ rfl (hown'.alloc _) ⟨w0.heap.size, 0, none⟩ 1 1 [.int .i64 (x : Int)] rfl rfl (cell_one_new _ _ _) (by intro u hu; simp at hu; subst hu; rfl) (by unfold maxLen; omega) (by omega) (by simp; omega) ?_)
   intro v' w1 hown1 hgrow _
   have hb1 : Hid (Below w.heap.size w w1) := (hb.alloc (by omega) _).grown hgrow (by simp; omega) (fun k hk => (hown'.lt k hk).1)
   have hown2 : Hid (Own w1 w.heap.size v' (firstL D (k + 1))) := by unfold Hid; rw [HS.out]; exact Own.snoc hown1 (firstL_length D k) rfl
   clear hown' hgrow hown1 hb HS
   go_wp2
   go_roundw
   case rel => exact ⟨k + 1, by go_num, by omega, hown2.out.someS (by rw [firstL_succ]; simp), hown2.out, hb1.out⟩
   case measure => simp [intOf]; omega
  ·have HK : Hid (count.toNat = k) := by unfold Hid; omega
   have HO := hid (And.intro hsm (And.intro hown hb))
   clear hown hb hsm
   go_wp2
   go_ret
   exact ⟨_, rfl, HO.out.1, by rw [HK.out]; exact HO.out.2.1, HO.out.2.2⟩

theorem noughts_any (count : Int) (w : World) (hc : count ≤ 30000) :
  Calls Tryz.prog 98 #[.int .i64 count] w fun r w' => ∃ v' : Value, r = .returned v' ∧ SomeS v' ∧ Own w' w.heap.size v' (List.replicate count.toNat 0) ∧ Below w.heap.size w w' := by
 obtain ⟨i0, hi, hz0, hz1, hz2⟩ := info_parts Tryz.info_int
 go_enter Tryz.func98, Tryz.ntmps98
 go_wp2
 go_loopw [3, 4] (fun l ii wr => ∃ k : Nat, ii = .int .i64 k ∧ k ≤ count.toNat ∧ SomeS l ∧ Own wr w.heap.size l (List.replicate k 0) ∧ Below w.heap.size w wr) (fun _ ii _ => count.toNat - (intOf ii).toNat)
 case atStart => exact ⟨0, rfl, Nat.zero_le _, ⟨_, _, _, rfl⟩, Own.empty w, (Below.refl _ _).alloc (Nat.le_refl _) _⟩
 case round =>
  obtain ⟨k, rfl, hk, hsm, hown, hb⟩ := hrel
  have hsz := hb.size
  by_cases hlt : (k : Int) < count
  ·have hown' : wr.ownsRow w.heap.size 3 1 u3 k (ints (List.replicate k 0)) := by have := hown; unfold Own at this; rwa [List.length_replicate] at this
   clear hown hsm
   go_wp2_with (at_builtin; refine wpList_append_own _ rfl (.tmp 11) (.tmp 12) 69 rfl w.heap.size 3 i0 (.int .i64 0) 1 8 Tryz.underlying69 hi hz0 hz1 hz2 rfl (by decide) _ _ _ rfl (hown'.alloc _) ⟨wr.heap.size, 0, none⟩ 1 1 [.int .i64 0] rfl rfl (cell_one_new _ _ _) (by intro u hu; simp at hu; subst hu; rfl) (by unfold maxLen; omega) (by omega) (by simp; omega) ?_)
   intro v' w1 hown1 hgrow _
   have hb1 : Hid (Below w.heap.size w w1) := (hb.alloc (by omega) _).grown hgrow (by simp; omega) (fun k hk => (hown'.lt k hk).1)
   have hown2 : Hid (Own w1 w.heap.size v' (List.replicate (k + 1) 0)) := by unfold Hid; rw [List.replicate_succ']; exact Own.snoc hown1 List.length_replicate rfl
   clear hown' hgrow hown1 hb
   go_wp2
   go_roundw
   case rel => exact ⟨k + 1, by go_num, by omega, hown2.out.someS (by rw [List.replicate_succ']; simp), hown2.out, hb1.out⟩
   case measure => simp [intOf]; omega
  ·have HK : Hid (count.toNat = k) := by unfold Hid; omega
   have HO := hid (And.intro hsm (And.intro hown hb))
   clear hown hb hsm
   go_wp2
   go_ret
   exact ⟨_, rfl, HO.out.1, by rw [HK.out]; exact HO.out.2.1, HO.out.2.2⟩
end Go.Proofs.YtbkdaoicnobllabGreatDoor

namespace Go.Proofs.YtbkdaoicnobllabGreatDoor
set_option maxRecDepth 100000
set_option maxHeartbeats 1000000
open Go.RowKit

def upB (mode : Int) (neg : Bool) (rest : Int) (odd : Bool) : Bool := if rest = 0 then false else awayB mode neg rest odd
theorem upper_any (mode rest : Int) (neg odd : Bool) (h1 : 0 ≤ rest) (h2 : rest ≤ 3) (w : World) :
  Calls Tryz.prog 68 #[.int .i64 mode, .bool neg, .bool odd, .int .i64 rest] w fun e w' => e = .returned (.bool (upB mode neg rest odd)) ∧ w' = w := by
 rcases (by omega : rest = 0 ∨ rest = 1 ∨ rest = 2 ∨ rest = 3) with rfl | rfl | rfl | rfl
 ·go_enter Tryz.func68, Tryz.ntmps68
  go_wp2
  go_ret
  exact ⟨by simp [upB], rfl⟩
 ·by_cases m0 : mode = 0
  ·subst m0
   go_enter Tryz.func68, Tryz.ntmps68
   go_wp2
   all_goals (go_ret; exact ⟨by simp [upB, awayB], rfl⟩)
  ·by_cases m1 : mode = 1
   ·subst m1
    go_enter Tryz.func68, Tryz.ntmps68
    go_wp2
    all_goals (go_ret; exact ⟨by simp [upB, awayB], rfl⟩)
   ·by_cases m3 : mode = 3
    ·subst m3
     go_enter Tryz.func68, Tryz.ntmps68
     go_wp2
     all_goals (go_ret; exact ⟨by simp [upB, awayB], rfl⟩)
    ·by_cases m4 : mode = 4
     ·subst m4
      go_enter Tryz.func68, Tryz.ntmps68
      go_wp2
      all_goals (go_ret; exact ⟨by simp [upB, awayB], rfl⟩)
     ·go_enter Tryz.func68, Tryz.ntmps68
      go_wp2
      go_ret
      exact ⟨by simp [upB, awayB, m0, m1, m3, m4], rfl⟩
 ·by_cases m0 : mode = 0
  ·subst m0
   go_enter Tryz.func68, Tryz.ntmps68
   go_wp2
   all_goals (go_ret; exact ⟨by simp [upB, awayB], rfl⟩)
  ·by_cases m1 : mode = 1
   ·subst m1
    go_enter Tryz.func68, Tryz.ntmps68
    go_wp2
    all_goals (go_ret; exact ⟨by simp [upB, awayB], rfl⟩)
   ·by_cases m3 : mode = 3
    ·subst m3
     go_enter Tryz.func68, Tryz.ntmps68
     go_wp2
     all_goals (go_ret; exact ⟨by simp [upB, awayB], rfl⟩)
    ·by_cases m4 : mode = 4
     ·subst m4
      go_enter Tryz.func68, Tryz.ntmps68
      go_wp2
      all_goals (go_ret; exact ⟨by simp [upB, awayB], rfl⟩)
     ·go_enter Tryz.func68, Tryz.ntmps68
      go_wp2
      go_ret
      exact ⟨by simp [upB, awayB, m0, m1, m3, m4], rfl⟩
 ·by_cases m0 : mode = 0
  ·subst m0
   go_enter Tryz.func68, Tryz.ntmps68
   go_wp2
   all_goals (go_ret; exact ⟨by simp [upB, awayB], rfl⟩)
  ·by_cases m1 : mode = 1
   ·subst m1
    go_enter Tryz.func68, Tryz.ntmps68
    go_wp2
    all_goals (go_ret; exact ⟨by simp [upB, awayB], rfl⟩)
   ·by_cases m3 : mode = 3
    ·subst m3
     go_enter Tryz.func68, Tryz.ntmps68
     go_wp2
     all_goals (go_ret; exact ⟨by simp [upB, awayB], rfl⟩)
    ·by_cases m4 : mode = 4
     ·subst m4
      go_enter Tryz.func68, Tryz.ntmps68
      go_wp2
      all_goals (go_ret; exact ⟨by simp [upB, awayB], rfl⟩)
     ·go_enter Tryz.func68, Tryz.ntmps68
      go_wp2
      go_ret
      exact ⟨by simp [upB, awayB, m0, m1, m3, m4], rfl⟩
theorem any_nil (ao : Option Addr) (cap : Nat) (w : World) :
  Calls Tryz.prog 143 #[.slice ao 0 cap] w fun e w' => e = .returned (.bool false) ∧ w' = w := by
 go_enter Tryz.func143, Tryz.ntmps143
 go_wp2
 go_loop [7] (fun i => i = .int .i64 0) (fun _ => 0)
 case atStart => rfl
 case round =>
  subst hrel
  go_wp2
  go_ret
  exact ⟨rfl, rfl⟩
def moreB (L : List Nat) : Bool := decide (num L ≠ 0)
theorem ret_bool {a b : Bool} (h : a = b) : Ending.returned (.bool a) = .returned (.bool b) := by rw [h]
theorem getD_mem {L : List Nat} {j : Nat} (h : j < L.length) : L.getD j 0 ∈ L := by
 rw [List.getD_eq_getElem?_getD, List.getElem?_eq_getElem h]; exact List.getElem_mem h
theorem any_some (g off cap n : Nat) (L : List Nat) (w : World) (hn : L.length = n) (_hl : n ≤ 100000) (hcap : n ≤ cap) (hc2 : cap ≤ 9223372036854775807) (hce : ∀ j, j < n → w.cell? ⟨g, off + j, none⟩ = some (.int .i64 (L.getD j 0 : Nat))) :
  Calls Tryz.prog 143 #[.slice (some ⟨g, off, none⟩) n cap] w fun e w' => e = .returned (.bool (moreB L)) ∧ w' = w := by
 have HC := hid hce
 have HN := hid hn
 clear hce hn
 go_enter Tryz.func143, Tryz.ntmps143
 go_wp2
 go_loop [7] (fun i => ∃ k : Nat, i = .int .i64 k ∧ k ≤ n ∧ Hid (∀ j, j < k → L.getD j 0 = 0)) (fun i => n - (intOf i).toNat)
 case atStart => exact ⟨0, rfl, Nat.zero_le _, fun j hj => by omega⟩
 case round =>
  obtain ⟨k, rfl, hk, HZ⟩ := hrel
  by_cases hlt : k < n
  ·obtain ⟨x, hx⟩ : ∃ x, x = L.getD k 0 := ⟨_, rfl⟩
   have cx := HC.out k hlt
   rw [← hx] at cx
   by_cases h0 : 0 < x
   ·have HR : Hid (moreB L = true) := by
     unfold Hid moreB
     simp only [decide_eq_true_eq]
     intro hz
     have := (num_zero_iff L).1 hz _ (getD_mem (by rw [HN.out]; exact hlt) : L.getD k 0 ∈ L)
     omega
    have t : decide (0 < x) = true := by simp; omega
    clear hx
    go_wp2
    go_ret
    exact ⟨ret_bool HR.out.symm, rfl⟩
   ·have hx0 : x = 0 := by omega
    have HX : Hid (L.getD k 0 = 0) := by unfold Hid; omega
    have t : decide (0 < x) = false := by simp; omega
    clear hx h0 hx0
    go_wp2
    go_round
    case rel => exact ⟨k + 1, by go_num, by omega, fun j hj => if h : j = k then h ▸ HX.out else HZ.out j (by omega)⟩
    case measure => simp [intOf]; omega
  ·have HR : Hid (moreB L = false) := by
    unfold Hid moreB
    simp only [decide_eq_false_iff_not, Classical.not_not]
    exact num_all_zero L (fun j hj => HZ.out j (by rw [HN.out] at hj; omega))
   go_wp2
   go_ret
   exact ⟨ret_bool HR.out.symm, rfl⟩
def behL (D : List Nat) (c : Int) : Int :=
 if c < 0 then 1 else if (D.length : Int) ≤ c then 0 else
  if D.getD c.toNat 0 = 0 ∧ num (D.drop (c.toNat + 1)) = 0 then 0 else if D.getD c.toNat 0 < 5 then 1 else if D.getD c.toNat 0 = 5 ∧ num (D.drop (c.toNat + 1)) = 0 then 2 else 3
theorem behL_left {D : List Nat} (h : Digs D) (h0 : 0 < num D) (K : Nat) (e p : Int) (he : -(K : Int) ≤ e) (hp : -(K : Int) ≤ p) : behL D (D.length + e - p) = leftN (val K D e) (10 ^ (p + K).toNat) := by
 unfold behL
 by_cases h1 : (D.length : Int) + e - p < 0
 ·rw [if_pos h1, (cut_high h K e p he (by omega) h0).2]
 ·rw [if_neg h1]
  obtain ⟨k, hk⟩ : ∃ k : Nat, (k : Int) = D.length + e - p := ⟨(D.length + e - p).toNat, by omega⟩
  rw [← hk, Int.toNat_natCast]
  by_cases h2 : D.length ≤ k
  ·rw [if_pos (by omega), (cut_low D K e p hp k hk h2).2]
  ·rw [if_neg (by omega), (cut_mid h K e p he k hk (by omega)).2]
theorem behL_at (D : List Nat) (k : Nat) (hk : k < D.length) (x : Nat) (hx : x = D.getD k 0) (m : Bool) (hm : m = moreB (D.drop (k + 1))) (r : Int) (hr : r = if x = 0 ∧ m = false then 0 else if x < 5 then 1 else if x = 5 ∧ m = false then 2 else 3) : r = behL D (k : Int) := by
 unfold behL
 rw [if_neg (by omega), if_neg (by omega), Int.toNat_natCast, ← hx, hr]
 have e : (num (D.drop (k + 1)) = 0) = (m = false) := by
  rw [hm]; unfold moreB
  exact propext ⟨fun h => by simp [h], fun h => by simpa using h⟩
 simp only [e]
theorem behind_any (b : Nat) (v : Value) (D : List Nat) (e c : Int) (w : World) (h : DecAt w b v D e) (hc1 : -100000 ≤ c) (hc2 : c ≤ 100000) :
  Calls Tryz.prog 127 #[.pointer (some ⟨b, 0, none⟩), .int .i64 c] w fun r w' => r = .returned (.int .i64 (behL D c)) ∧ w' = w := by
 obtain ⟨g, off, cap, rfl, h4, h5, _, h7⟩ := h.form
 unfold maxLen at h5
 have c0 := h.c0
 have h1 := h.len
 obtain ⟨n, hn⟩ : ∃ n, n = D.length := ⟨_, rfl⟩
 rw [← hn] at c0 h1 h4 h7
 by_cases hneg : c < 0
 ·have HD : Hid (1 = behL D c) := by unfold Hid behL; rw [if_pos hneg]
  clear h hn h7
  go_enter Tryz.func127, Tryz.ntmps127
  go_wp2
  go_ret
  exact ⟨ret_int HD.out, rfl⟩
 ·by_cases hge : (n : Int) ≤ c
  ·have HD : Hid (0 = behL D c) := by unfold Hid behL; rw [if_neg hneg, if_pos (by omega)]
   clear h hn h7
   go_enter Tryz.func127, Tryz.ntmps127
   go_wp2
   go_ret
   exact ⟨ret_int HD.out, rfl⟩
  ·obtain ⟨k, rfl⟩ : ∃ k : Nat, c = k := ⟨c.toNat, by omega⟩
   have hkn : k < n := by omega
   obtain ⟨x, hx⟩ : ∃ x, x = D.getD k 0 := ⟨_, rfl⟩
   have cx := h7 k hkn
   rw [← hx] at cx
   have hx9 : x ≤ 9 := by rw [hx]; exact h.digs.getD k
   obtain ⟨m, hm⟩ : ∃ m, m = moreB (D.drop (k + 1)) := ⟨_, rfl⟩
   have HD : Hid (∀ r, (r = if x = 0 ∧ m = false then 0 else if x < 5 then 1 else if x = 5 ∧ m = false then 2 else 3) → r = behL D (k : Int)) := fun r hr => behL_at D k (by omega) x hx m hm r hr
   by_cases hlast : k + 1 = n
   ·have HM : Hid (m = false) := by
     unfold Hid; rw [hm, List.drop_of_length_le (by omega)]; rfl
    clear h hn h7 hx hm
    have hk1 : (k : Int) + 1 = n := by omega
    rcases (by omega : x = 0 ∨ (0 < x ∧ x < 5) ∨ x = 5 ∨ 5 < x) with rfl | ⟨q1, q2⟩ | rfl | q1
    ·go_enter Tryz.func127, Tryz.ntmps127
     go_wp2_with fail
     all_goals (
      refine (any_nil _ _ w).mono ?_
      rintro r w' ⟨rfl, rfl⟩
      go_wp2
      all_goals (go_ret; exact ⟨ret_int (HD.out _ (by simp [HM.out])), rfl⟩))
    ·have t0 : ((x : Int) == 0) = false := by rw [beq_eq_false_iff_ne]; omega
     have t1 : decide (x < 5) = true := by simp; omega
     go_enter Tryz.func127, Tryz.ntmps127
     go_wp2_with fail
     all_goals (
      refine (any_nil _ _ w).mono ?_
      rintro r w' ⟨rfl, rfl⟩
      go_wp2
      all_goals (go_ret; exact ⟨ret_int (HD.out _ (by simp [HM.out, q2, show ¬ x = 0 from by omega])), rfl⟩))
    ·go_enter Tryz.func127, Tryz.ntmps127
     go_wp2_with fail
     all_goals (
      refine (any_nil _ _ w).mono ?_
      rintro r w' ⟨rfl, rfl⟩
      go_wp2
      all_goals (go_ret; exact ⟨ret_int (HD.out _ (by simp [HM.out])), rfl⟩))
    ·have t0 : ((x : Int) == 0) = false := by rw [beq_eq_false_iff_ne]; omega
     have t1 : decide (x < 5) = false := by simp; omega
     have t2 : ((x : Int) == 5) = false := by rw [beq_eq_false_iff_ne]; omega
     go_enter Tryz.func127, Tryz.ntmps127
     go_wp2_with fail
     all_goals (
      refine (any_nil _ _ w).mono ?_
      rintro r w' ⟨rfl, rfl⟩
      go_wp2
      all_goals (go_ret; exact ⟨ret_int (HD.out _ (by simp [HM.out, show ¬ x < 5 from by omega, show ¬ x = 0 from by omega, show ¬ x = 5 from by omega])), rfl⟩))
   ·have HX : Hid (Calls Tryz.prog 143 #[.slice (some ⟨g, off + (k + 1), none⟩) (n - (k + 1)) (cap - (k + 1))] w fun e w' => e = .returned (.bool m) ∧ w' = w) := by
     unfold Hid; rw [hm]
     exact any_some g (off + (k + 1)) (cap - (k + 1)) (n - (k + 1)) (D.drop (k + 1)) w (by rw [List.length_drop, ← hn]) (by omega) (by omega) (by omega) (fun j hj => by
      have := h7 (k + 1 + j) (by omega)
      rw [show off + (k + 1) + j = off + (k + 1 + j) from by omega, this]
      congr 3
      rw [List.getD_eq_getElem?_getD, List.getD_eq_getElem?_getD, List.getElem?_drop])
    clear h hn h7 hx hm
    cases m
    ·rcases (by omega : x = 0 ∨ (0 < x ∧ x < 5) ∨ x = 5 ∨ 5 < x) with rfl | ⟨q1, q2⟩ | rfl | q1
     ·go_enter Tryz.func127, Tryz.ntmps127
      go_wp2_with fail
      all_goals (
       refine HX.out.mono ?_
       rintro r w' ⟨rfl, rfl⟩
       go_wp2
       all_goals (go_ret; exact ⟨ret_int (HD.out _ (by simp [])), rfl⟩))
     ·have t0 : ((x : Int) == 0) = false := by rw [beq_eq_false_iff_ne]; omega
      have t1 : decide (x < 5) = true := by simp; omega
      go_enter Tryz.func127, Tryz.ntmps127
      go_wp2_with fail
      all_goals (
       refine HX.out.mono ?_
       rintro r w' ⟨rfl, rfl⟩
       go_wp2
       all_goals (go_ret; exact ⟨ret_int (HD.out _ (by simp [q2, show ¬ x = 0 from by omega])), rfl⟩))
     ·go_enter Tryz.func127, Tryz.ntmps127
      go_wp2_with fail
      all_goals (
       refine HX.out.mono ?_
       rintro r w' ⟨rfl, rfl⟩
       go_wp2
       all_goals (go_ret; exact ⟨ret_int (HD.out _ (by simp [])), rfl⟩))
     ·have t0 : ((x : Int) == 0) = false := by rw [beq_eq_false_iff_ne]; omega
      have t1 : decide (x < 5) = false := by simp; omega
      have t2 : ((x : Int) == 5) = false := by rw [beq_eq_false_iff_ne]; omega
      go_enter Tryz.func127, Tryz.ntmps127
      go_wp2_with fail
      all_goals (
       refine HX.out.mono ?_
       rintro r w' ⟨rfl, rfl⟩
       go_wp2
       all_goals (go_ret; exact ⟨ret_int (HD.out _ (by simp [show ¬ x < 5 from by omega, show ¬ x = 0 from by omega, show ¬ x = 5 from by omega])), rfl⟩))
    ·rcases (by omega : x = 0 ∨ (0 < x ∧ x < 5) ∨ x = 5 ∨ 5 < x) with rfl | ⟨q1, q2⟩ | rfl | q1
     ·go_enter Tryz.func127, Tryz.ntmps127
      go_wp2_with fail
      all_goals (
       refine HX.out.mono ?_
       rintro r w' ⟨rfl, rfl⟩
       go_wp2
       all_goals (go_ret; exact ⟨ret_int (HD.out _ (by simp [])), rfl⟩))
     ·have t0 : ((x : Int) == 0) = false := by rw [beq_eq_false_iff_ne]; omega
      have t1 : decide (x < 5) = true := by simp; omega
      go_enter Tryz.func127, Tryz.ntmps127
      go_wp2_with fail
      all_goals (
       refine HX.out.mono ?_
       rintro r w' ⟨rfl, rfl⟩
       go_wp2
       all_goals (go_ret; exact ⟨ret_int (HD.out _ (by simp [q2, show ¬ x = 0 from by omega])), rfl⟩))
     ·go_enter Tryz.func127, Tryz.ntmps127
      go_wp2_with fail
      all_goals (
       refine HX.out.mono ?_
       rintro r w' ⟨rfl, rfl⟩
       go_wp2
       all_goals (go_ret; exact ⟨ret_int (HD.out _ (by simp [])), rfl⟩))
     ·have t0 : ((x : Int) == 0) = false := by rw [beq_eq_false_iff_ne]; omega
      have t1 : decide (x < 5) = false := by simp; omega
      have t2 : ((x : Int) == 5) = false := by rw [beq_eq_false_iff_ne]; omega
      go_enter Tryz.func127, Tryz.ntmps127
      go_wp2_with fail
      all_goals (
       refine HX.out.mono ?_
       rintro r w' ⟨rfl, rfl⟩
       go_wp2
       all_goals (go_ret; exact ⟨ret_int (HD.out _ (by simp [show ¬ x < 5 from by omega, show ¬ x = 0 from by omega, show ¬ x = 5 from by omega])), rfl⟩))

end Go.Proofs.YtbkdaoicnobllabGreatDoor

namespace Go.Proofs.YtbkdaoicnobllabGreatDoor

theorem pQ0 : 2 ^ fQ 0 = 1024 := by simp [fQ]
theorem pQ1 : 2 ^ fQ 1 = 8388608 := by simp [fQ]
theorem pQ2 : 2 ^ fQ 2 = 4503599627370496 := by simp [fQ]
theorem fE_ge (f : Int) : -1074 ≤ fE f := by unfold fE; split <;> (try split) <;> omega
theorem valA_at (K : Nat) (f : Int) (lo r : Nat) (hr : r ≤ 2 ^ fQ f) (hK : 1100 ≤ K) :
  valA K f (lo * 2 ^ fQ f + r) = if lo = 0 then two K (fE f) * r else two K (fE f + (lo - 1 : Nat)) * (2 ^ fQ f + r) := by
 have hge := fE_ge f
 have hp : 0 < 2 ^ fQ f := Nat.pow_pos (by omega)
 unfold valA mA xA
 generalize 2 ^ fQ f = Q at *
 by_cases h : r = Q
 ·subst h
  have e1 : (lo * r + r) / r = lo + 1 := by rw [← Nat.succ_mul, Nat.mul_div_cancel _ hp]
  have e2 : (lo * r + r) % r = 0 := by rw [← Nat.succ_mul, Nat.mul_mod_left]
  rw [e1, e2, if_neg (by omega)]
  by_cases h0 : lo = 0
  ·rw [if_pos h0, h0]; simp
  ·rw [if_neg h0, Nat.zero_add, show fE f + ((lo + 1 - 1 : Nat) : Int) = fE f + ((lo - 1 : Nat) : Int) + (1 : Nat) from by omega, two_mul K _ (by omega)]
   rw [Nat.pow_one, Nat.mul_assoc, Nat.two_mul]
 ·have e1 : (lo * Q + r) / Q = lo := by rw [Nat.mul_comm, Nat.mul_add_div hp, Nat.div_eq_of_lt (by omega)]; omega
  have e2 : (lo * Q + r) % Q = r := by rw [Nat.mul_comm, Nat.mul_add_mod, Nat.mod_eq_of_lt (by omega)]
  rw [e1, e2]
  by_cases h0 : lo = 0
  ·rw [if_pos h0, if_pos h0, h0]; simp
  ·rw [if_neg h0, if_neg h0, Nat.add_comm r]
theorem valA_zero (K : Nat) (f : Int) : valA K f 0 = 0 := by unfold valA mA; simp

theorem below_end (K : Nat) (f : Int) (lo m X : Nat) (hK : 1100 ≤ K)
  (h0 : lo = 0 → m < 2 ^ fQ f ∧ two K (fE f) * m ≤ X ∧ X < two K (fE f) * (m + 1))
  (h1 : lo ≠ 0 → 2 ^ fQ f ≤ m ∧ m < 2 * 2 ^ fQ f ∧ two K (fE f + (lo - 1 : Nat)) * m ≤ X ∧ X < two K (fE f + (lo - 1 : Nat)) * (m + 1)) :
  valA K f (lo * 2 ^ fQ f + (if lo = 0 then m else m - 2 ^ fQ f)) ≤ X ∧ X < valA K f (lo * 2 ^ fQ f + (if lo = 0 then m else m - 2 ^ fQ f) + 1) := by
 by_cases h : lo = 0
 ·obtain ⟨a, b, c⟩ := h0 h
  rw [if_pos h, Nat.add_assoc, valA_at K f lo m (by omega) hK, valA_at K f lo (m + 1) (by omega) hK, if_pos h, if_pos h]
  exact ⟨b, c⟩
 ·obtain ⟨a, b, c, d⟩ := h1 h
  rw [if_neg h, Nat.add_assoc, valA_at K f lo (m - 2 ^ fQ f) (by omega) hK, valA_at K f lo (m - 2 ^ fQ f + 1) (by omega) hK, if_neg h, if_neg h,
   show 2 ^ fQ f + (m - 2 ^ fQ f) = m from by omega, show 2 ^ fQ f + (m - 2 ^ fQ f + 1) = m + 1 from by omega]
  exact ⟨c, d⟩
end Go.Proofs.YtbkdaoicnobllabGreatDoor

namespace Go.Proofs.YtbkdaoicnobllabGreatDoor

def fLow (f : Int) : Int := if f = 0 then -14 else if f = 1 then -126 else -1022
def infN (f : Int) : Nat := if f = 0 then 31744 else if f = 1 then 2139095040 else 9218868437227405312

def RoundSpec (K : Nat) (f mode : Int) (neg : Bool) (X : Nat) (r fl : Int) : Prop :=
  (X = 0 ∧ r = 0 ∧ fl = 0) ∨
  (0 < X ∧ valA K f (infN f) ≤ X ∧ fl = 3 ∧ r = if awayB mode neg 3 true = true then (infN f : Int) else (infN f : Int) - 1) ∨
  (0 < X ∧ X < valA K f (infN f) ∧ ∃ a : Nat, a < infN f ∧ valA K f a ≤ X ∧ X < valA K f (a + 1) ∧
    ((X = valA K f a ∧ r = a ∧ fl = 0) ∨
     (X ≠ valA K f a ∧ r = (if awayB mode neg (cmpN (X * 2) (valA K f a + valA K f (a + 1)) + 2) (a % 2 == 1) = true then (a : Int) + 1 else (a : Int)) ∧
      fl = 1 + (if X < two K (fLow f) then 4 else 0) + (if r = infN f then 2 else 0))))

theorem infN_le (f : Int) : 1 ≤ infN f ∧ infN f ≤ 9218868437227405312 := by unfold infN; split <;> (try split) <;> omega
end Go.Proofs.YtbkdaoicnobllabGreatDoor
