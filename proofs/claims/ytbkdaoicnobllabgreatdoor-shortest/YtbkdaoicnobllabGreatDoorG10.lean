import Derived.Test.YtbkdaoicnobllabGreatDoorG09
import Derived.Test.YtbkdaoicnobllabGreatDoorG08
import Derived.Test.YtbkdaoicnobllabGreatDoorG07
import Derived.Test.YtbkdaoicnobllabGreatDoorG01

namespace Go.Proofs.YtbkdaoicnobllabGreatDoor
open Go.RowKit

/-- The text without a power of ten of n digits D of which b stand behind the point. -/
def fixW (D : List Nat) (n : Nat) (b : Int) : List UInt8 := fixT D (-b) ((n : Int) - b - 1).toNat b.toNat
set_option maxRecDepth 100000 in
set_option maxHeartbeats 1000000 in
theorem wdigitAt_any (g off cap n : Nat) (D : List Nat) (i : Int) (w : World) (hn : D.length = n) (_hcap : n ≤ cap) (_hc2 : cap ≤ 9223372036854775807) (hce : ∀ j, j < n → w.cell? ⟨g, off + j, none⟩ = some (.int .i64 (D.getD j 0 : Nat))) (_hl : n ≤ 30000) :
    Calls Tryz.prog 123 #[.slice (some ⟨g, off, none⟩) n cap, .int .i64 i] w fun r w' => r = .returned (.int .i64 (dAt D i : Nat)) ∧ w' = w := by
  by_cases hi : i < 0
  · have HD : Hid (dAt D i = 0) := by unfold Hid dAt; rw [if_pos hi]
    clear hn hce
    go_enter Tryz.func123, Tryz.ntmps123
    go_wp2
    all_goals go_ret
    all_goals exact ⟨ret_int (by rw [HD.out]; rfl), rfl⟩
  · by_cases hi2 : (n : Int) ≤ i
    · have HD : Hid (dAt D i = 0) := by unfold Hid dAt; rw [if_neg hi, List.getD_eq_getElem?_getD, List.getElem?_eq_none (by omega)]; rfl
      clear hn hce
      go_enter Tryz.func123, Tryz.ntmps123
      go_wp2
      all_goals go_ret
      all_goals exact ⟨ret_int (by rw [HD.out]; rfl), rfl⟩
    · obtain ⟨j, rfl⟩ : ∃ j : Nat, i = j := ⟨i.toNat, by omega⟩
      have HD : Hid (dAt D (j : Int) = D.getD j 0) := by unfold Hid dAt; rw [if_neg hi]; simp
      have cj := hce j (by omega)
      have hjn : j < n := by omega
      clear hn hce
      go_enter Tryz.func123, Tryz.ntmps123
      go_wp2
      all_goals go_ret
      all_goals exact ⟨ret_int (by rw [HD.out]; simp), rfl⟩
set_option maxRecDepth 100000 in
set_option maxHeartbeats 2000000 in
theorem wfix_any (g off cap n : Nat) (D : List Nat) (b : Int) (w : World) (hn : D.length = n) (hl : n ≤ 1500) (hcap : n ≤ cap) (hc2 : cap ≤ 9223372036854775807) (hg : g < w.heap.size) (hce : ∀ j, j < n → w.cell? ⟨g, off + j, none⟩ = some (.int .i64 (D.getD j 0 : Nat))) (hd : Digs D) (hb1 : -400 ≤ b) (hb2 : b ≤ 1500) :
    Calls Tryz.prog 95 #[.slice (some ⟨g, off, none⟩) n cap, .int .i64 b] w fun r w' => r = .returned (.string (str (fixW D n b))) ∧ Below w.heap.size w w' := by
  have HFR0 := fix_rows D b
  have H4 := hid hce
  have HN := hid hn
  have HD := hid hd
  have hl : n ≤ 30000 := by omega
  obtain ⟨ui0, uhi, uhz0, uhz1, uhz2⟩ := info_parts Tryz.info_u8
  rw [hn] at HFR0
  clear hce hn hd
  by_cases hah : (n : Int) - b ≤ 0
  · rw [if_pos hah] at HFR0
    have hown' : (w.alloc (.cells #[] 5)).ownsRow w.heap.size 5 1 (.slice (some ⟨w.heap.size, 0, none⟩) 0 0) 0 (byts []) := OwnB.empty w
    have hb0 : Below w.heap.size w (w.alloc (.cells #[] 5)) := (Below.refl _ _).alloc (Nat.le_refl _) _
    have hsz0 := hb0.size
    go_enter Tryz.func95, Tryz.ntmps95
    go_wp2_with (at_builtin; refine wpList_append_own _ rfl (.tmp 18) (.tmp 19) 53 rfl w.heap.size 5 ui0 (.int .u8 0) 1 1 Tryz.underlying53 uhi uhz0 uhz1 uhz2 rfl (by decide) _ _ _ rfl (hown'.alloc _) ⟨w.heap.size + 1, 0, none⟩ 1 1 [.int .u8 48] rfl rfl (by simp [go_sem]) (by intro u hu; simp at hu; subst hu; rfl) (by unfold maxLen; omega) (by omega) (by simp; omega) ?_)
    intro v' w1 hown1 hgrow _
    have hbz : Hid (Below w.heap.size w w1) := (hb0.alloc (by omega) _).grown hgrow (by simp; omega) (fun k hk => (hown'.lt k hk).1)
    have hownz : Hid (OwnB w1 w.heap.size v' [48]) := OwnB.snoc (T := []) hown1 rfl rfl
    have hsmz : Hid (∃ g c cp, v' = .slice (some ⟨g, 0, none⟩) c cp) := hownz.out.someS (by simp)
    have HPL : Hid (([48] : List UInt8).length ≤ 2000) := by unfold Hid; simp
    have hcnt : ((n : Int) - b).toNat = 0 := by omega
    clear hown' hgrow hown1 hb0 hsz0
    go_wp2
    go_loopw [6, 7] (fun tt ii wr => ii = .int .i64 0 ∧ (∃ g c cp, tt = .slice (some ⟨g, 0, none⟩) c cp) ∧ OwnB wr w.heap.size tt [48] ∧ Below w.heap.size w wr) (fun _ _ _ => 0)
    case atStart => exact ⟨rfl, hsmz.out, hownz.out, hbz.out⟩
    case round =>
      obtain ⟨rfl, hsm, hown, hb⟩ := hrel
      obtain ⟨g2, cp2, rfl, hg2, hc1, hc3⟩ := hown.form hsm
      have hsz := hb.size
      obtain ⟨m, hm⟩ : ∃ m, ([48] : List UInt8).length = m := ⟨_, rfl⟩
      rw [hm] at hown hc1 ⊢
      unfold maxLen at hc3
      have HM := hid hm
      have HF0 := hid HFR0
      have hml : m ≤ 4000 := by rw [← hm]; simp
      have hgo : ¬ (0 : Int) < n - b := by omega
      clear hsm hm HFR0 hsmz hownz hbz hcnt
      have HML : Hid (m ≤ 1999) := by unfold Hid; rw [← HM.out]; first | (simp; done) | (simp [rowT_length]; done) | (simp [rowT_length]; omega)
      by_cases hbp : 0 < b
      · obtain ⟨PP, hPP⟩ : ∃ PP, PP = (([48] : List UInt8)) ++ [46] := ⟨_, rfl⟩
        have HPP := hid hPP
        have HFR : Hid (PP ++ rowT D (-b) (-1) b.toNat = fixW D n b) := by unfold Hid fixW; rw [hPP]; have := HF0.out; rw [if_pos hbp] at this; rw [← this]; try simp
        clear hPP
        have hown' : wr.ownsRow w.heap.size 5 1 (.slice (some ⟨g2, 0, none⟩) m cp2) m (byts (([48] : List UInt8))) := hown.owns HM.out
        clear hown
        go_wp2_with (at_builtin; refine wpList_append_own _ rfl (.tmp 36) (.tmp 37) 53 rfl w.heap.size 5 ui0 (.int .u8 0) 1 1 Tryz.underlying53 uhi uhz0 uhz1 uhz2 rfl (by decide) _ _ _ rfl (hown'.alloc _) ⟨wr.heap.size, 0, none⟩ 1 1 [.int .u8 46] rfl rfl (cell_one_new _ _ _) (by intro u hu; simp at hu; subst hu; rfl) (by unfold maxLen; omega) (by omega) (by simp; omega) ?_)
        intro v' w1 hown1 hgrow _
        have hb1 : Hid (Below w.heap.size w w1) := (hb.alloc (by omega) _).grown hgrow (by simp; omega) (fun k hk => (hown'.lt k hk).1)
        have hownb : Hid (OwnB w1 w.heap.size v' PP) := by unfold Hid; rw [HPP.out]; exact OwnB.snoc hown1 HM.out rfl
        have hsmb : Hid (∃ g c cp, v' = .slice (some ⟨g, 0, none⟩) c cp) := hownb.out.someS (by rw [HPP.out]; first | (simp; done) | (simp; omega))
        have HPL : Hid (PP.length ≤ 2000) := by unfold Hid; rw [HPP.out]; have h1 := HML.out; have h2 := HM.out; rw [List.length_append]; simp only [List.length_singleton] at *; omega
        clear hown' hgrow hown1 hb
        go_wp2
        go_loopw [6, 9] (fun tt ii wr => ∃ k : Nat, ii = .int .i64 ((n - b) + k) ∧ k ≤ b.toNat ∧ (∃ g c cp, tt = .slice (some ⟨g, 0, none⟩) c cp) ∧ OwnB wr w.heap.size tt (PP ++ rowT D (-b) (-1) k) ∧ Below w.heap.size w wr) (fun _ ii _ => ((n - b) + b.toNat - intOf ii).toNat)
        case atStart => exact ⟨0, by simp, Nat.zero_le _, hsmb.out, by simpa [rowT] using hownb.out, hb1.out⟩
        case round =>
          obtain ⟨k, rfl, hk, hsm, hown, hb⟩ := hrel
          obtain ⟨g2, cp2, rfl, hg2, hc1, hc3⟩ := hown.form hsm
          have hsz := hb.size
          obtain ⟨m, hm⟩ : ∃ m, (PP ++ rowT D (-b) (-1) k).length = m := ⟨_, rfl⟩
          have hml : m ≤ 4000 := by rw [← hm, List.length_append, rowT_length]; have := HPL.out; omega
          rw [hm] at hown hc1 ⊢
          unfold maxLen at hc3
          have HM := hid hm
          obtain ⟨J, hJ⟩ : ∃ J : Int, (n - b) + (k : Int) = J := ⟨_, rfl⟩
          rw [hJ]
          have hJb1 : -10000 ≤ J := by omega
          have hJb2 : J ≤ 10000 := by omega
          clear hsm hm
          by_cases hlt : k < b.toNat
          · have hJl : J < n := by omega
            have HDX := hid (wdigitAt_any g off cap n D J wr HN.out hcap hc2 (fun j hj => by rw [hb.cell (p := ⟨g, off + j, none⟩) (by show g < _; omega)]; exact H4.out j hj) hl)
            obtain ⟨x, hx⟩ : ∃ x, x = dAt D J := ⟨_, rfl⟩
            have hx9 : x ≤ 9 := by rw [hx]; exact dAt_le HD.out J
            rw [← hx] at HDX
            obtain ⟨z, hz⟩ : ∃ z : Int, z = ((hexD x).toNat : Nat) := ⟨_, rfl⟩
            have HDB : Hid (∀ w, Calls Tryz.prog 101 #[.int .i64 x] w fun e w' => e = .returned (.int .u8 z) ∧ w' = w) := fun w => by rw [hz]; exact digitByte_any x (by omega) w
            have HZ := hid hz
            have HXD : Hid (rowT D (-b) (-1) (k + 1) = rowT D (-b) (-1) k ++ [hexD x]) := by
              unfold Hid
              rw [hexD_small x (by omega), hx, ← dig_dAt D b J]
              show rowT D (-b) (-1) k ++ [UInt8.ofNat (48 + dig D (-b) (-1 - k))] = _
              rw [show (-1) - (k : Int) = D.length - b - 1 - J from by have := HN.out; omega]
            have hown' : wr.ownsRow w.heap.size 5 1 (.slice (some ⟨g2, 0, none⟩) m cp2) m (byts (PP ++ rowT D (-b) (-1) k)) := hown.owns HM.out
            have HJ := hid hJ
            clear hown hz hx hJ
            go_wp2_with fail
            refine HDX.out.mono ?_
            rintro r w2 ⟨rfl, rfl⟩
            clear HDX
            go_wp2_with fail
            refine (HDB.out _).mono ?_
            rintro r w3 ⟨rfl, rfl⟩
            go_wp2_with (at_builtin; refine wpList_append_own _ rfl (.tmp 49) (.tmp 52) 53 rfl w.heap.size 5 ui0 (.int .u8 0) 1 1 Tryz.underlying53 uhi uhz0 uhz1 uhz2 rfl (by decide) _ _ _ rfl (hown'.alloc _) ⟨w3.heap.size, 0, none⟩ 1 1 [.int .u8 z] rfl rfl (cell_one_new _ _ _) (by intro u hu; simp at hu; subst hu; rfl) (by unfold maxLen; omega) (by omega) (by simp; omega) ?_)
            intro v' w1 hown1 hgrow _
            have hb1 : Hid (Below w.heap.size w w1) := (hb.alloc (by omega) _).grown hgrow (by simp; omega) (fun k hk => (hown'.lt k hk).1)
            have hown4 : Hid (OwnB w1 w.heap.size v' (PP ++ rowT D (-b) (-1) (k + 1))) := by
              unfold Hid
              have := OwnB.snoc (d := hexD x) hown1 HM.out HZ.out
              rw [HXD.out, ← List.append_assoc]; exact this
            clear hown' hgrow hown1 hb
            go_wp2
            go_roundw
            case rel => exact ⟨k + 1, congrArg (Value.int .i64) (by have := HJ.out; omega), by omega, hown4.out.someS (by simp [rowT]; omega), hown4.out, hb1.out⟩
            case measure => have := HJ.out; simp [intOf]; omega
          · have hkn : k = b.toNat := by omega
            have hJl : ¬ (J < n) := by omega
            rw [hkn] at HM hown
            clear hJ hlt hk
            have hcv := hown.conv HM.out
            have HBF := hid hb
            have HSS : Hid (str (PP ++ rowT D (-b) (-1) b.toNat) = str (fixW D n b)) := by
              unfold Hid; rw [HFR.out]
            clear hown hb
            go_wp2
            go_ret
            exact ⟨ret_str HSS.out, HBF.out⟩
      · obtain ⟨PP, hPP⟩ : ∃ PP, PP = (([48] : List UInt8)) := ⟨_, rfl⟩
        have HPP := hid hPP
        have HFR : Hid (PP ++ rowT D (-b) (-1) b.toNat = fixW D n b) := by unfold Hid fixW; rw [hPP]; have := HF0.out; rw [if_neg hbp] at this; rw [← this]; try simp
        clear hPP
        have hownb : Hid (OwnB wr w.heap.size (.slice (some ⟨g2, 0, none⟩) m cp2) PP) := by unfold Hid; rw [HPP.out]; exact hown
        have hb1 := hid hb
        have HPL : Hid (PP.length ≤ 2000) := by unfold Hid; rw [HPP.out, HM.out]; have := HML.out; omega
        clear hown hb
        go_wp2
        go_loopw [6, 9] (fun tt ii wr => ∃ k : Nat, ii = .int .i64 ((n - b) + k) ∧ k ≤ b.toNat ∧ (∃ g c cp, tt = .slice (some ⟨g, 0, none⟩) c cp) ∧ OwnB wr w.heap.size tt (PP ++ rowT D (-b) (-1) k) ∧ Below w.heap.size w wr) (fun _ ii _ => ((n - b) + b.toNat - intOf ii).toNat)
        case atStart => exact ⟨0, by simp, Nat.zero_le _, ⟨_, _, _, rfl⟩, by simpa [rowT] using hownb.out, hb1.out⟩
        case round =>
          obtain ⟨k, rfl, hk, hsm, hown, hb⟩ := hrel
          obtain ⟨g2, cp2, rfl, hg2, hc1, hc3⟩ := hown.form hsm
          have hsz := hb.size
          obtain ⟨m, hm⟩ : ∃ m, (PP ++ rowT D (-b) (-1) k).length = m := ⟨_, rfl⟩
          have hml : m ≤ 4000 := by rw [← hm, List.length_append, rowT_length]; have := HPL.out; omega
          rw [hm] at hown hc1 ⊢
          unfold maxLen at hc3
          have HM := hid hm
          obtain ⟨J, hJ⟩ : ∃ J : Int, (n - b) + (k : Int) = J := ⟨_, rfl⟩
          rw [hJ]
          have hJb1 : -10000 ≤ J := by omega
          have hJb2 : J ≤ 10000 := by omega
          clear hsm hm
          by_cases hlt : k < b.toNat
          · omega
          · have hkn : k = b.toNat := by omega
            have hJl : ¬ (J < n) := by omega
            rw [hkn] at HM hown
            clear hJ hlt hk
            have hcv := hown.conv HM.out
            have HBF := hid hb
            have HSS : Hid (str (PP ++ rowT D (-b) (-1) b.toNat) = str (fixW D n b)) := by
              unfold Hid; rw [HFR.out]
            clear hown hb
            go_wp2
            go_ret
            exact ⟨ret_str HSS.out, HBF.out⟩
  · rw [if_neg hah] at HFR0
    obtain ⟨P0, hP0⟩ : ∃ P0 : List UInt8, P0 = [] := ⟨_, rfl⟩
    have HP0 := hid hP0
    have HPL : Hid (P0.length ≤ 2000) := by unfold Hid; rw [hP0]; simp
    clear hP0
    have HF0 := hid HFR0
    clear HFR0
    go_enter Tryz.func95, Tryz.ntmps95
    go_wp2
    go_loopw [6, 7] (fun tt ii wr => ∃ k : Nat, ii = .int .i64 (0 + k) ∧ k ≤ ((n : Int) - b).toNat ∧ (∃ g c cp, tt = .slice (some ⟨g, 0, none⟩) c cp) ∧ OwnB wr w.heap.size tt (P0 ++ rowT D (-b) ((n : Int) - b - 1) k) ∧ Below w.heap.size w wr) (fun _ ii _ => (0 + ((n : Int) - b).toNat - intOf ii).toNat)
    case atStart => exact ⟨0, by simp, Nat.zero_le _, ⟨_, _, _, rfl⟩, by rw [HP0.out]; exact OwnB.empty w, (Below.refl _ _).alloc (Nat.le_refl _) _⟩
    case round =>
      obtain ⟨k, rfl, hk, hsm, hown, hb⟩ := hrel
      obtain ⟨g2, cp2, rfl, hg2, hc1, hc3⟩ := hown.form hsm
      have hsz := hb.size
      obtain ⟨m, hm⟩ : ∃ m, (P0 ++ rowT D (-b) ((n : Int) - b - 1) k).length = m := ⟨_, rfl⟩
      have hml : m ≤ 4000 := by rw [← hm, List.length_append, rowT_length]; have := HPL.out; omega
      rw [hm] at hown hc1 ⊢
      unfold maxLen at hc3
      have HM := hid hm
      obtain ⟨J, hJ⟩ : ∃ J : Int, 0 + (k : Int) = J := ⟨_, rfl⟩
      rw [hJ]
      have hJb1 : -10000 ≤ J := by omega
      have hJb2 : J ≤ 10000 := by omega
      clear hsm hm
      by_cases hlt : k < ((n : Int) - b).toNat
      · have hJl : J < (n : Int) - b := by omega
        have HDX := hid (wdigitAt_any g off cap n D J wr HN.out hcap hc2 (fun j hj => by rw [hb.cell (p := ⟨g, off + j, none⟩) (by show g < _; omega)]; exact H4.out j hj) hl)
        obtain ⟨x, hx⟩ : ∃ x, x = dAt D J := ⟨_, rfl⟩
        have hx9 : x ≤ 9 := by rw [hx]; exact dAt_le HD.out J
        rw [← hx] at HDX
        obtain ⟨z, hz⟩ : ∃ z : Int, z = ((hexD x).toNat : Nat) := ⟨_, rfl⟩
        have HDB : Hid (∀ w, Calls Tryz.prog 101 #[.int .i64 x] w fun e w' => e = .returned (.int .u8 z) ∧ w' = w) := fun w => by rw [hz]; exact digitByte_any x (by omega) w
        have HZ := hid hz
        have HXD : Hid (rowT D (-b) ((n : Int) - b - 1) (k + 1) = rowT D (-b) ((n : Int) - b - 1) k ++ [hexD x]) := by
          unfold Hid
          rw [hexD_small x (by omega), hx, ← dig_dAt D b J]
          show rowT D (-b) ((n : Int) - b - 1) k ++ [UInt8.ofNat (48 + dig D (-b) ((n : Int) - b - 1 - k))] = _
          rw [show ((n : Int) - b - 1) - (k : Int) = D.length - b - 1 - J from by have := HN.out; omega]
        have hown' : wr.ownsRow w.heap.size 5 1 (.slice (some ⟨g2, 0, none⟩) m cp2) m (byts (P0 ++ rowT D (-b) ((n : Int) - b - 1) k)) := hown.owns HM.out
        have HJ := hid hJ
        clear hown hz hx hJ
        go_wp2_with fail
        refine HDX.out.mono ?_
        rintro r w2 ⟨rfl, rfl⟩
        clear HDX
        go_wp2_with fail
        refine (HDB.out _).mono ?_
        rintro r w3 ⟨rfl, rfl⟩
        go_wp2_with (at_builtin; refine wpList_append_own _ rfl (.tmp 29) (.tmp 32) 53 rfl w.heap.size 5 ui0 (.int .u8 0) 1 1 Tryz.underlying53 uhi uhz0 uhz1 uhz2 rfl (by decide) _ _ _ rfl (hown'.alloc _) ⟨w3.heap.size, 0, none⟩ 1 1 [.int .u8 z] rfl rfl (cell_one_new _ _ _) (by intro u hu; simp at hu; subst hu; rfl) (by unfold maxLen; omega) (by omega) (by simp; omega) ?_)
        intro v' w1 hown1 hgrow _
        have hb1 : Hid (Below w.heap.size w w1) := (hb.alloc (by omega) _).grown hgrow (by simp; omega) (fun k hk => (hown'.lt k hk).1)
        have hown4 : Hid (OwnB w1 w.heap.size v' (P0 ++ rowT D (-b) ((n : Int) - b - 1) (k + 1))) := by
          unfold Hid
          have := OwnB.snoc (d := hexD x) hown1 HM.out HZ.out
          rw [HXD.out, ← List.append_assoc]; exact this
        clear hown' hgrow hown1 hb
        go_wp2
        go_roundw
        case rel => exact ⟨k + 1, congrArg (Value.int .i64) (by have := HJ.out; omega), by omega, hown4.out.someS (by simp [rowT]; omega), hown4.out, hb1.out⟩
        case measure => have := HJ.out; simp [intOf]; omega
      · have hkn : k = ((n : Int) - b).toNat := by omega
        have hJl : ¬ (J < (n : Int) - b) := by omega
        rw [hkn] at HM hown
        clear hJ hlt hk
        have HML : Hid (m ≤ 1999) := by unfold Hid; rw [← HM.out]; rw [HP0.out]; first | (simp; done) | (simp [rowT_length]; done) | (simp [rowT_length]; omega)
        by_cases hbp : 0 < b
        · obtain ⟨PP, hPP⟩ : ∃ PP, PP = (P0 ++ rowT D (-b) ((n : Int) - b - 1) ((n : Int) - b).toNat) ++ [46] := ⟨_, rfl⟩
          have HPP := hid hPP
          have HFR : Hid (PP ++ rowT D (-b) (-1) b.toNat = fixW D n b) := by unfold Hid fixW; rw [hPP]; have := HF0.out; rw [if_pos hbp] at this; rw [← this]; rw [HP0.out]; try simp
          clear hPP
          have hown' : wr.ownsRow w.heap.size 5 1 (.slice (some ⟨g2, 0, none⟩) m cp2) m (byts (P0 ++ rowT D (-b) ((n : Int) - b - 1) ((n : Int) - b).toNat)) := hown.owns HM.out
          clear hown
          go_wp2_with (at_builtin; refine wpList_append_own _ rfl (.tmp 36) (.tmp 37) 53 rfl w.heap.size 5 ui0 (.int .u8 0) 1 1 Tryz.underlying53 uhi uhz0 uhz1 uhz2 rfl (by decide) _ _ _ rfl (hown'.alloc _) ⟨wr.heap.size, 0, none⟩ 1 1 [.int .u8 46] rfl rfl (cell_one_new _ _ _) (by intro u hu; simp at hu; subst hu; rfl) (by unfold maxLen; omega) (by omega) (by simp; omega) ?_)
          intro v' w1 hown1 hgrow _
          have hb1 : Hid (Below w.heap.size w w1) := (hb.alloc (by omega) _).grown hgrow (by simp; omega) (fun k hk => (hown'.lt k hk).1)
          have hownb : Hid (OwnB w1 w.heap.size v' PP) := by unfold Hid; rw [HPP.out]; exact OwnB.snoc hown1 HM.out rfl
          have hsmb : Hid (∃ g c cp, v' = .slice (some ⟨g, 0, none⟩) c cp) := hownb.out.someS (by rw [HPP.out]; first | (simp; done) | (simp; omega))
          have HPL : Hid (PP.length ≤ 2000) := by unfold Hid; rw [HPP.out]; have h1 := HML.out; have h2 := HM.out; rw [List.length_append]; simp only [List.length_singleton] at *; omega
          clear hown' hgrow hown1 hb
          go_wp2
          go_loopw [6, 9] (fun tt ii wr => ∃ k : Nat, ii = .int .i64 ((n - b) + k) ∧ k ≤ b.toNat ∧ (∃ g c cp, tt = .slice (some ⟨g, 0, none⟩) c cp) ∧ OwnB wr w.heap.size tt (PP ++ rowT D (-b) (-1) k) ∧ Below w.heap.size w wr) (fun _ ii _ => ((n - b) + b.toNat - intOf ii).toNat)
          case atStart => exact ⟨0, by simp, Nat.zero_le _, hsmb.out, by simpa [rowT] using hownb.out, hb1.out⟩
          case round =>
            obtain ⟨k, rfl, hk, hsm, hown, hb⟩ := hrel
            obtain ⟨g2, cp2, rfl, hg2, hc1, hc3⟩ := hown.form hsm
            have hsz := hb.size
            obtain ⟨m, hm⟩ : ∃ m, (PP ++ rowT D (-b) (-1) k).length = m := ⟨_, rfl⟩
            have hml : m ≤ 4000 := by rw [← hm, List.length_append, rowT_length]; have := HPL.out; omega
            rw [hm] at hown hc1 ⊢
            unfold maxLen at hc3
            have HM := hid hm
            obtain ⟨J, hJ⟩ : ∃ J : Int, (n - b) + (k : Int) = J := ⟨_, rfl⟩
            rw [hJ]
            have hJb1 : -10000 ≤ J := by omega
            have hJb2 : J ≤ 10000 := by omega
            clear hsm hm
            by_cases hlt : k < b.toNat
            · have hJl : J < n := by omega
              have HDX := hid (wdigitAt_any g off cap n D J wr HN.out hcap hc2 (fun j hj => by rw [hb.cell (p := ⟨g, off + j, none⟩) (by show g < _; omega)]; exact H4.out j hj) hl)
              obtain ⟨x, hx⟩ : ∃ x, x = dAt D J := ⟨_, rfl⟩
              have hx9 : x ≤ 9 := by rw [hx]; exact dAt_le HD.out J
              rw [← hx] at HDX
              obtain ⟨z, hz⟩ : ∃ z : Int, z = ((hexD x).toNat : Nat) := ⟨_, rfl⟩
              have HDB : Hid (∀ w, Calls Tryz.prog 101 #[.int .i64 x] w fun e w' => e = .returned (.int .u8 z) ∧ w' = w) := fun w => by rw [hz]; exact digitByte_any x (by omega) w
              have HZ := hid hz
              have HXD : Hid (rowT D (-b) (-1) (k + 1) = rowT D (-b) (-1) k ++ [hexD x]) := by
                unfold Hid
                rw [hexD_small x (by omega), hx, ← dig_dAt D b J]
                show rowT D (-b) (-1) k ++ [UInt8.ofNat (48 + dig D (-b) (-1 - k))] = _
                rw [show (-1) - (k : Int) = D.length - b - 1 - J from by have := HN.out; omega]
              have hown' : wr.ownsRow w.heap.size 5 1 (.slice (some ⟨g2, 0, none⟩) m cp2) m (byts (PP ++ rowT D (-b) (-1) k)) := hown.owns HM.out
              have HJ := hid hJ
              clear hown hz hx hJ
              go_wp2_with fail
              refine HDX.out.mono ?_
              rintro r w2 ⟨rfl, rfl⟩
              clear HDX
              go_wp2_with fail
              refine (HDB.out _).mono ?_
              rintro r w3 ⟨rfl, rfl⟩
              go_wp2_with (at_builtin; refine wpList_append_own _ rfl (.tmp 49) (.tmp 52) 53 rfl w.heap.size 5 ui0 (.int .u8 0) 1 1 Tryz.underlying53 uhi uhz0 uhz1 uhz2 rfl (by decide) _ _ _ rfl (hown'.alloc _) ⟨w3.heap.size, 0, none⟩ 1 1 [.int .u8 z] rfl rfl (cell_one_new _ _ _) (by intro u hu; simp at hu; subst hu; rfl) (by unfold maxLen; omega) (by omega) (by simp; omega) ?_)
              intro v' w1 hown1 hgrow _
              have hb1 : Hid (Below w.heap.size w w1) := (hb.alloc (by omega) _).grown hgrow (by simp; omega) (fun k hk => (hown'.lt k hk).1)
              have hown4 : Hid (OwnB w1 w.heap.size v' (PP ++ rowT D (-b) (-1) (k + 1))) := by
                unfold Hid
                have := OwnB.snoc (d := hexD x) hown1 HM.out HZ.out
                rw [HXD.out, ← List.append_assoc]; exact this
              clear hown' hgrow hown1 hb
              go_wp2
              go_roundw
              case rel => exact ⟨k + 1, congrArg (Value.int .i64) (by have := HJ.out; omega), by omega, hown4.out.someS (by simp [rowT]; omega), hown4.out, hb1.out⟩
              case measure => have := HJ.out; simp [intOf]; omega
            · have hkn : k = b.toNat := by omega
              have hJl : ¬ (J < n) := by omega
              rw [hkn] at HM hown
              clear hJ hlt hk
              have hcv := hown.conv HM.out
              have HBF := hid hb
              have HSS : Hid (str (PP ++ rowT D (-b) (-1) b.toNat) = str (fixW D n b)) := by
                unfold Hid; rw [HFR.out]
              clear hown hb
              go_wp2
              go_ret
              exact ⟨ret_str HSS.out, HBF.out⟩
        · obtain ⟨PP, hPP⟩ : ∃ PP, PP = (P0 ++ rowT D (-b) ((n : Int) - b - 1) ((n : Int) - b).toNat) := ⟨_, rfl⟩
          have HPP := hid hPP
          have HFR : Hid (PP ++ rowT D (-b) (-1) b.toNat = fixW D n b) := by unfold Hid fixW; rw [hPP]; have := HF0.out; rw [if_neg hbp] at this; rw [← this]; rw [HP0.out]; try simp
          clear hPP
          have hownb : Hid (OwnB wr w.heap.size (.slice (some ⟨g2, 0, none⟩) m cp2) PP) := by unfold Hid; rw [HPP.out]; exact hown
          have hb1 := hid hb
          have HPL : Hid (PP.length ≤ 2000) := by unfold Hid; rw [HPP.out, HM.out]; have := HML.out; omega
          clear hown hb
          go_wp2
          go_loopw [6, 9] (fun tt ii wr => ∃ k : Nat, ii = .int .i64 ((n - b) + k) ∧ k ≤ b.toNat ∧ (∃ g c cp, tt = .slice (some ⟨g, 0, none⟩) c cp) ∧ OwnB wr w.heap.size tt (PP ++ rowT D (-b) (-1) k) ∧ Below w.heap.size w wr) (fun _ ii _ => ((n - b) + b.toNat - intOf ii).toNat)
          case atStart => exact ⟨0, by simp, Nat.zero_le _, ⟨_, _, _, rfl⟩, by simpa [rowT] using hownb.out, hb1.out⟩
          case round =>
            obtain ⟨k, rfl, hk, hsm, hown, hb⟩ := hrel
            obtain ⟨g2, cp2, rfl, hg2, hc1, hc3⟩ := hown.form hsm
            have hsz := hb.size
            obtain ⟨m, hm⟩ : ∃ m, (PP ++ rowT D (-b) (-1) k).length = m := ⟨_, rfl⟩
            have hml : m ≤ 4000 := by rw [← hm, List.length_append, rowT_length]; have := HPL.out; omega
            rw [hm] at hown hc1 ⊢
            unfold maxLen at hc3
            have HM := hid hm
            obtain ⟨J, hJ⟩ : ∃ J : Int, (n - b) + (k : Int) = J := ⟨_, rfl⟩
            rw [hJ]
            have hJb1 : -10000 ≤ J := by omega
            have hJb2 : J ≤ 10000 := by omega
            clear hsm hm
            by_cases hlt : k < b.toNat
            · omega
            · have hkn : k = b.toNat := by omega
              have hJl : ¬ (J < n) := by omega
              rw [hkn] at HM hown
              clear hJ hlt hk
              have hcv := hown.conv HM.out
              have HBF := hid hb
              have HSS : Hid (str (PP ++ rowT D (-b) (-1) b.toNat) = str (fixW D n b)) := by
                unfold Hid; rw [HFR.out]
              clear hown hb
              go_wp2
              go_ret
              exact ⟨ret_str HSS.out, HBF.out⟩
end Go.Proofs.YtbkdaoicnobllabGreatDoor

namespace Go.Proofs.YtbkdaoicnobllabGreatDoor
open Go.RowKit

theorem Own.sliceLen {w : World} {b g m cp : Nat} {R : List Nat} (h : Own w b (.slice (some ⟨g, 0, none⟩) m cp) R) : R.length = m ∧ m ≤ cp ∧ cp ≤ 9223372036854775807 ∧ g < w.heap.size := by
  rcases h.form with ⟨_, h2⟩ | ⟨g', cap', hv, q1, q2, q3, q4⟩
  · cases h2
  · simp only [Value.slice.injEq, Option.some.injEq, Addr.mk.injEq, and_true] at hv
    obtain ⟨rfl, rfl, rfl⟩ := hv
    unfold maxLen at q4
    exact ⟨rfl, q3, by omega, q2⟩
theorem wexp_cut (g m cp k : Nat) (R : List Nat) (pw : Int) (b : Nat) (w : World) (ht : Tab w) (ho : Own w b (.slice (some ⟨g, 0, none⟩) m cp) R) (hk : k ≤ m) (h0 : 0 < k) (hl : k ≤ 2000) (hd : Digs R) (hp1 : -100000 ≤ pw) (hp2 : pw ≤ 100000) :
    Calls Tryz.prog 97 #[.slice (some ⟨g, 0, none⟩) k cp, .int .i64 pw] w fun r w' => r = .returned (.string (str (expB (R.take k) k ++ (101 :: Lib.itoa pw)))) ∧ Below w.heap.size w w' := by
  obtain ⟨hm, h1, h2, h3⟩ := ho.sliceLen
  refine wexp_any g 0 cp k (R.take k) pw w ht (by rw [List.length_take]; omega) h0 hl (by omega) h2 h3 (fun j hj => ?_) (hd.take k) hp1 hp2
  rw [Nat.zero_add, ho.cell hm j (by omega)]
  simp [List.getD_eq_getElem?_getD, hj]
theorem wfix_own (g m cp : Nat) (R : List Nat) (pr : Int) (b : Nat) (w : World) (ho : Own w b (.slice (some ⟨g, 0, none⟩) m cp) R) (hl : m ≤ 1500) (hd : Digs R) (hp1 : -400 ≤ pr) (hp2 : pr ≤ 1500) :
    Calls Tryz.prog 95 #[.slice (some ⟨g, 0, none⟩) m cp, .int .i64 pr] w fun r w' => r = .returned (.string (str (fixW R m pr))) ∧ Below w.heap.size w w' := by
  obtain ⟨hm, h1, h2, h3⟩ := ho.sliceLen
  exact wfix_any g 0 cp m R pr w hm hl h1 h2 h3 (fun j hj => by rw [Nat.zero_add, ho.cell hm j hj]) hd hp1 hp2
theorem expB_text (D : List Nat) (n : Nat) (pw : Int) (hn : n ≤ 2000) (h1 : -100000 ≤ pw) (h2 : pw ≤ 100000) : (expB D n ++ (101 :: Lib.itoa pw)).length ≤ 5000 := by
  have := expB_length D n
  have h3 := Lib.itoa_length_le pw (by omega) (by omega)
  rw [List.length_append, List.length_cons]; omega
theorem Digs.zeros (n : Nat) : Digs (List.replicate n 0) := fun d hd => by have := List.eq_of_mem_replicate hd; omega
set_option maxRecDepth 100000 in
set_option maxHeartbeats 1000000 in
theorem expText_any (m : Nat) (M pw : Int) (ng : Bool) (vb prec mode : Int) (w : World) (ht : Tab w) (hM : M = (m : Int)) (hm : m < 1152921504606846976) (hp1 : -1080 ≤ pw) (hp2 : pw ≤ 1080) (h1 : 0 ≤ prec) (h2 : prec ≤ 800) :
    Calls Tryz.prog 55 #[.int .i64 M, .int .i64 pw, .bool ng, styV vb prec mode] w fun r w' => TextPost w w' r (ExpQ (awayB mode ng) (two 3000 pw * m) prec.toNat) := by
  unfold styV
  obtain ⟨k, hk⟩ : ∃ k : Nat, prec + 1 = (k : Int) := ⟨(prec + 1).toNat, by omega⟩
  have HK : Hid (prec.toNat + 1 = k) := by unfold Hid; omega
  have hk1 : k ≤ 801 := by omega
  have HTAB := hid ht
  have HBX : Hid (Below w.heap.size w (w.alloc (.cells #[.int .i64 vb, .int .i64 prec, .int .i64 mode] 66))) := (Below.refl _ _).alloc (Nat.le_refl _) _
  clear ht
  by_cases h0 : m = 0
  · have hM0 : M = 0 := by omega
    subst hM0
    have H0 := hid h0
    clear hM hm h0
    go_enter Tryz.func55, Tryz.ntmps55
    go_wp2_with fail
    refine (noughts_any k _ (by omega)).mono ?_
    rintro r w1 ⟨v', rfl, ⟨g, n, cp, rfl⟩, ho, hb⟩
    rw [Int.toNat_natCast] at ho
    have hn := ho.sliceLen.1
    rw [List.length_replicate] at hn
    have HB1 : Hid (Below w.heap.size w w1) := HBX.out.trans (hb.mono (by simp))
    subst hn
    have HWX := hid (wexp_cut g k cp k (List.replicate k 0) 0 _ w1 (HTAB.out.below HB1.out) ho (Nat.le_refl _) (by omega) (by omega) (Digs.zeros k) (by omega) (by omega))
    rw [show (List.replicate k 0).take k = List.replicate k 0 from List.take_of_length_le (by simp)] at HWX
    clear ho hb
    go_wp2_with fail
    refine HWX.out.mono ?_
    rintro r w2 ⟨rfl, hb2⟩
    have HB2 : Hid (Below w.heap.size w w2) := HB1.out.trans (hb2.mono HB1.out.size)
    clear hb2
    go_wp2
    go_ret
    exact ⟨_, rfl, by rw [H0.out, Nat.mul_zero, ← HK.out]; exact exp_zero _ _, expB_text _ _ _ (by omega) (by omega) (by omega), HB2.out⟩
  · have HFB := hid (fun w => fromBinary_any m pw w (by omega) hm hp1 hp2)
    rw [← hM] at HFB
    have hM0 : (M == 0) = false := by rw [beq_eq_false_iff_ne]; omega
    have hM1 : ¬ M = 0 := by omega
    clear hM hm h0
    go_enter Tryz.func55, Tryz.ntmps55
    go_wp2_with fail
    obtain ⟨W, hW⟩ : ∃ W, W = w.alloc (.cells #[.int .i64 vb, .int .i64 prec, .int .i64 mode] 66) := ⟨_, rfl⟩
    have s0 : W.cell? ⟨w.heap.size, 0, none⟩ = some (.int .i64 vb) := by rw [hW]; simp [go_sem]
    have s1 : W.cell? ⟨w.heap.size, 1, none⟩ = some (.int .i64 prec) := by rw [hW]; simp [go_sem]
    have s2 : W.cell? ⟨w.heap.size, 2, none⟩ = some (.int .i64 mode) := by rw [hW]; simp [go_sem]
    have hws : w.heap.size < W.heap.size := by rw [hW]; simp
    rw [← hW] at HBX ⊢
    clear hW
    refine (HFB.out W).mono ?_
    rintro r w1 ⟨b, rfl, v, D, e, hdec, ⟨he1, he2⟩, hval, hbb, hb1⟩
    have HB1 : Hid (Below w.heap.size w w1) := HBX.out.trans (hb1.mono (by omega))
    have z1 := keep_cell' hb1 s1
    have z2 := keep_cell' hb1 s2
    have HDEC := hid hdec
    have HV : Hid (val 3000 D e = two 3000 pw * m) := hval 3000 (by omega)
    obtain ⟨n, hn⟩ : ∃ n : Nat, D.length = n := ⟨_, rfl⟩
    have hn1 := hdec.len
    have hn0 := hdec.pos
    obtain ⟨F, hF⟩ : ∃ F : Int, F = e + D.length - 1 := ⟨_, rfl⟩
    have hF1 : -1080 ≤ F := by omega
    have hF2 : F ≤ 20000 := by omega
    obtain ⟨P, hP⟩ : ∃ P : Int, F - prec = P := ⟨_, rfl⟩
    have HFP : Hid (∀ n, Calls Tryz.prog 96 #[.pointer (some ⟨b, 0, none⟩)] (w1.drewN n) fun r w' => r = .returned (.int .i64 F) ∧ ∃ m, w' = (w1.drewN n).drewN m) := fun n => by
      rw [hF]
      exact (firstPower_any b v D e _ (hdec.below (((Still.refl w1).drewN n).below _))).mono (fun _ _ hh => ⟨hh.1, hh.2.drew⟩)
    have HF := hid hF
    clear hdec hval hbb hb1 s0 s1 s2 hws hn hn1 hn0 hF HFB he2
    go_wp2
    go_quiet ((go_at_call 96; exact Calls.quiet_of (HFP.out _)))
    obtain ⟨W2, hW2⟩ : ∃ W2, W2 = w1.drewN nq := ⟨_, rfl⟩
    have hst := (Still.refl w1).drewN nq
    rw [← hW2] at hst ⊢
    have y1 := (hst.cell _).trans z1
    have y2 := (hst.cell _).trans z2
    have HB2 : Hid (Below w.heap.size w W2) := HB1.out.trans (hst.below _)
    have HRD := hid (fun hh : D.length + e - P ≤ 30000 => drounded_any b v D e P mode ng W2 (HDEC.out.below (hst.below _)) (by omega) (by omega) hh)
    clear hst hW2 z1 z2 HFP
    go_wp2_with fail
    refine (HRD.out (by have := HF.out; omega)).mono ?_
    rintro r w3 ⟨v3, rfl, ⟨g, l, cp, rfl⟩, R, hrnd, ho, hb3⟩
    have HB3 : Hid (Below w.heap.size w w3) := HB2.out.trans (hb3.mono HB2.out.size)
    obtain ⟨hl, hc1, hc2, hg⟩ := ho.sliceLen
    have hlo : k ≤ l := by have a := hrnd.ge; have b := HF.out; omega
    have hhi : l ≤ k + 1 := by have a := hrnd.len; have b := HF.out; omega
    have hP1 : -2000 ≤ P := by omega
    have hP2 : P ≤ 20000 := by omega
    have HEQ : Hid (ExpQ (awayB mode ng) (two 3000 pw * m) prec.toNat (expB (R.take k) k ++ (101 :: Lib.itoa (P + l - 1)))) := by
      have := exp_prog (n := prec.toNat) HDEC.out.digs HDEC.out.head HDEC.out.pos he1 (by omega) HV.out (by have := HF.out; omega) hrnd
      rw [HK.out, hl] at this
      exact this
    have HWX := hid (wexp_cut g l cp k R (P + l - 1) _ w3 (HTAB.out.below HB3.out) ho hlo (by omega) (by omega) hrnd.digs (by omega) (by omega))
    have HG := hid hg
    clear HRD hrnd ho hb3 hl HDEC HV hg y1 y2
    rcases (by omega : l = k ∨ l = k + 1) with hlk | hlk
    · subst hlk
      go_wp2_with fail
      all_goals
        refine HWX.out.mono ?_
        rintro r w4 ⟨rfl, hb4⟩
        have HB4 : Hid (Below w.heap.size w w4) := HB3.out.trans (hb4.mono HB3.out.size)
        clear hb4
        go_wp2
        go_ret
        exact ⟨_, rfl, HEQ.out, expB_text _ _ _ (by omega) (by omega) (by omega), HB4.out⟩
    · subst hlk
      go_wp2_with fail
      all_goals
        refine HWX.out.mono ?_
        rintro r w4 ⟨rfl, hb4⟩
        have HB4 : Hid (Below w.heap.size w w4) := HB3.out.trans (hb4.mono HB3.out.size)
        clear hb4
        go_wp2
        go_ret
        exact ⟨_, rfl, HEQ.out, expB_text _ _ _ (by omega) (by omega) (by omega), HB4.out⟩
set_option exponentiation.threshold 4000 in
theorem two_small (pw : Int) (h1 : -1080 ≤ pw) (h2 : pw ≤ 1080) : two 3000 pw ≤ 2 ^ 1080 * 10 ^ 3000 := by
  unfold two; split
  · exact Nat.mul_le_mul_right _ (Nat.pow_le_pow_right (by omega) (by omega))
  · refine Nat.le_trans (Nat.mul_le_mul_right _ (Nat.pow_le_pow_left (show 5 ≤ 10 by omega) _)) ?_
    rw [← Nat.pow_add, show (-pw).toNat + (((3000 : Nat) : Int) + pw).toNat = 3000 from by omega]
    exact Nat.le_mul_of_pos_left _ (Nat.two_pow_pos _)
set_option exponentiation.threshold 4000 in
theorem small_top {D : List Nat} {e pw : Int} {m : Nat} (hh : Headed D) (hl : 0 < D.length) (he : -(3000 : Int) ≤ e) (hv : val 3000 D e = two 3000 pw * m) (hm : m < 1152921504606846976) (h1 : -1080 ≤ pw) (h2 : pw ≤ 1080) : e + D.length ≤ 400 := by
  apply Int.not_lt.1
  intro hlt
  have a : 10 ^ (400 + 3000) ≤ val 3000 D e := by
    unfold val
    refine Nat.le_trans ?_ (Nat.mul_le_mul_right _ (hh.lo hl))
    rw [← Nat.pow_add]
    exact Nat.pow_le_pow_right (by omega) (by omega)
  have b : val 3000 D e < 10 ^ (400 + 3000) := by
    rw [hv]
    refine Nat.lt_of_lt_of_le (Nat.mul_lt_mul_of_le_of_lt (two_small pw h1 h2) (show m < 2 ^ 60 from hm) (Nat.mul_pos (Nat.pow_pos (by omega)) (Nat.pow_pos (by omega)))) ?_
    rw [Nat.mul_assoc, Nat.mul_comm (10 ^ 3000), ← Nat.mul_assoc, ← Nat.pow_add, Nat.pow_add 10 400 3000]
    refine Nat.mul_le_mul_right _ ?_
    rw [show 1080 + 60 = 3 * 380 from rfl, Nat.pow_mul]
    exact Nat.le_trans (Nat.pow_le_pow_left (show 2 ^ 3 ≤ 10 by omega) _) (Nat.pow_le_pow_right (by omega) (by omega))
  exact absurd b (Nat.not_lt.2 a)
theorem fixW_text (R : List Nat) (n : Nat) (pr : Int) (hn : n ≤ 1500) (h1 : 0 ≤ pr) (h2 : pr ≤ 1500) : (fixW R n pr).length ≤ 5000 := by
  unfold fixW
  have := fixT_length R (-pr) ((n : Int) - pr - 1).toNat pr.toNat
  omega
theorem noughts_none (w : World) : Calls Tryz.prog 98 #[.int .i64 0] w fun r w' => ∃ g cp : Nat, r = .returned (.slice (some ⟨g, 0, none⟩) 0 cp) ∧ Own w' w.heap.size (.slice (some ⟨g, 0, none⟩) 0 cp) [] ∧ Below w.heap.size w w' :=
  (noughts_any 0 w (by omega)).mono fun r w' ⟨v', hr, ⟨g, n, cp, hv⟩, ho, hb⟩ => by
    subst hv
    rw [show ((0 : Int)).toNat = 0 from rfl, List.replicate_zero] at ho
    have hn := ho.sliceLen.1
    rw [List.length_nil] at hn
    subst hn
    exact ⟨g, cp, hr, ho, hb⟩
set_option maxRecDepth 100000 in
set_option maxHeartbeats 1000000 in
theorem fixText_any (m : Nat) (M pw : Int) (ng : Bool) (vb prec mode : Int) (w : World) (ht : Tab w) (hM : M = (m : Int)) (hm : m < 1152921504606846976) (hp1 : -1080 ≤ pw) (hp2 : pw ≤ 1080) (h1 : 0 ≤ prec) (h2 : prec ≤ 800) :
    Calls Tryz.prog 56 #[.int .i64 M, .int .i64 pw, .bool ng, styV vb prec mode] w fun r w' => TextPost w w' r (FixQ (awayB mode ng) (two 3000 pw * m) prec.toNat) := by
  unfold styV
  have HPR : Hid (((prec.toNat : Nat) : Int) = prec) := by unfold Hid; omega
  have HTAB := hid ht
  have HBX : Hid (Below w.heap.size w (w.alloc (.cells #[.int .i64 vb, .int .i64 prec, .int .i64 mode] 66))) := (Below.refl _ _).alloc (Nat.le_refl _) _
  clear ht
  by_cases h0 : m = 0
  · have hM0 : M = 0 := by omega
    subst hM0
    have H0 := hid h0
    clear hM hm h0
    go_enter Tryz.func56, Tryz.ntmps56
    go_wp2_with fail
    obtain ⟨W, hW⟩ : ∃ W, W = w.alloc (.cells #[.int .i64 vb, .int .i64 prec, .int .i64 mode] 66) := ⟨_, rfl⟩
    have s1 : W.cell? ⟨w.heap.size, 1, none⟩ = some (.int .i64 prec) := by rw [hW]; simp [go_sem]
    have hws : w.heap.size < W.heap.size := by rw [hW]; simp
    rw [← hW] at HBX ⊢
    clear hW
    go_region_held3 (fun w' => w'.cell? ⟨w.heap.size, 1, none⟩ = some (.int .i64 prec))
      (first | exact keep_cell' ((Below.refl W.heap.size W).drew) s1 | exact keep_cell' hb4 (by assumption) | exact keep_cell' hb5 (by assumption) | go_keep)
      (first | (go_at_call 98; refine (noughts_none _).mono ?_; rintro e w4 ⟨g, cp, rfl, ho, hb4⟩; have HO := hid ho; clear ho) | (go_at_call 95; refine (wfix_own _ _ _ [] prec _ _ HO.out (by omega) (fun d hd => by simp at hd) (by omega) (by omega)).mono ?_; rintro e w5 ⟨rfl, hb5⟩))
    have HB2 : Hid (Below w.heap.size w w5) := (HBX.out.drew.trans (hb4.mono HBX.out.size)).trans (hb5.mono (HBX.out.drew.trans (hb4.mono HBX.out.size)).size)
    clear hb4 hb5 s1
    go_wp2
    go_ret
    refine ⟨_, rfl, ?_, fixW_text _ _ _ (by omega) (by omega) (by omega), HB2.out⟩
    rw [H0.out, Nat.mul_zero]
    have := fix_zero (awayB mode ng) prec.toNat (by omega)
    rw [HPR.out] at this
    exact this
  · have HFB := hid (fun w => fromBinary_any m pw w (by omega) hm hp1 hp2)
    rw [← hM] at HFB
    have hM0 : (M == 0) = false := by rw [beq_eq_false_iff_ne]; omega
    have hM1 : ¬ M = 0 := by omega
    have HML := hid hm
    clear hM hm h0
    go_enter Tryz.func56, Tryz.ntmps56
    go_wp2_with fail
    obtain ⟨W, hW⟩ : ∃ W, W = w.alloc (.cells #[.int .i64 vb, .int .i64 prec, .int .i64 mode] 66) := ⟨_, rfl⟩
    have s1 : W.cell? ⟨w.heap.size, 1, none⟩ = some (.int .i64 prec) := by rw [hW]; simp [go_sem]
    have s2 : W.cell? ⟨w.heap.size, 2, none⟩ = some (.int .i64 mode) := by rw [hW]; simp [go_sem]
    have hws : w.heap.size < W.heap.size := by rw [hW]; simp
    rw [← hW] at HBX ⊢
    clear hW
    refine (HFB.out W).mono ?_
    rintro r w1 ⟨b, rfl, v, D, e, hdec, ⟨he1, he2⟩, hval, hbb, hb1⟩
    have HB1 : Hid (Below w.heap.size w w1) := HBX.out.trans (hb1.mono (by omega))
    have z1 := keep_cell' hb1 s1
    have z2 := keep_cell' hb1 s2
    have HDEC := hid hdec
    have HV : Hid (val 3000 D e = two 3000 pw * m) := hval 3000 (by omega)
    have HT := hid (small_top hdec.head hdec.pos (by omega) HV.out HML.out hp1 hp2)
    have hn1 := hdec.len
    have hw1 : w.heap.size < w1.heap.size := by have := hb1.size; omega
    obtain ⟨N, hN⟩ : ∃ N : Int, -prec = N := ⟨_, rfl⟩
    have HRD := hid (fun w2 hb => drounded_any b v D e N mode ng w2 (DecAt.below hdec hb) (by omega) (by omega) (by omega))
    clear hdec hval hbb hb1 s1 s2 hws hn1 HFB he2
    go_wp2_with fail
    refine (HRD.out _ (Below.refl _ _)).mono ?_
    rintro r w3 ⟨v3, rfl, ⟨g, l, cp, rfl⟩, R, hrnd, ho, hb3⟩
    have HB3 : Hid (Below w.heap.size w w3) := HB1.out.trans (hb3.mono HB1.out.size)
    have x1 := keep_cell' hb3 z1
    obtain ⟨hl, hc1, hc2, hg⟩ := ho.sliceLen
    have hhi : l ≤ 1300 := by have a := hrnd.len; have b := HT.out; omega
    have HEQ : Hid (FixQ (awayB mode ng) (two 3000 pw * m) prec.toNat (fixW R l prec)) := by
      have hx : N = -((prec.toNat : Nat) : Int) := by rw [HPR.out]; omega
      rw [hx] at hrnd
      have := fix_prog (n := prec.toNat) he1 (by omega) HV.out hrnd
      rw [HPR.out, hl] at this
      exact this
    have HWX := hid (wfix_own g l cp R prec _ w3 ho (by omega) hrnd.digs (by omega) (by omega))
    clear HRD hrnd ho hb3 hl HDEC HV hg z1 z2 HT
    go_wp2_with fail
    refine HWX.out.mono ?_
    rintro r w4 ⟨rfl, hb4⟩
    have HB4 : Hid (Below w.heap.size w w4) := HB3.out.trans (hb4.mono HB3.out.size)
    clear hb4
    go_wp2
    go_ret
    exact ⟨_, rfl, HEQ.out, fixW_text _ _ _ (by omega) (by omega) (by omega), HB4.out⟩
end Go.Proofs.YtbkdaoicnobllabGreatDoor
