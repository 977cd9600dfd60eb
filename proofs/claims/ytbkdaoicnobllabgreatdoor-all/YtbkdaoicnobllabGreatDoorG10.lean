import Derived.Test.YtbkdaoicnobllabGreatDoorG09
import Derived.Test.YtbkdaoicnobllabGreatDoorG01

namespace Go.Proofs.YtbkdaoicnobllabGreatDoor
set_option maxRecDepth 100000
set_option maxHeartbeats 2000000
open Go.RowKit

def fixW (D : List Nat) (n : Nat) (b : Int) : List UInt8 := fixT D (-b) ((n : Int) - b - 1).toNat b.toNat
theorem wdigitAt_any (g off cap n : Nat) (D : List Nat) (i : Int) (w : World) (hn : D.length = n) (_hcap : n ≤ cap) (_hc2 : cap ≤ 9223372036854775807) (hce : ∀ j, j < n → w.cell? ⟨g, off + j, none⟩ = some (.int .i64 (D.getD j 0 : Nat))) (_hl : n ≤ 30000) :
  Calls Tryz.prog 123 #[.slice (some ⟨g, off, none⟩) n cap, .int .i64 i] w fun r w' => r = .returned (.int .i64 (dAt D i : Nat)) ∧ w' = w := by
 by_cases hi : i < 0
 ·have HD : Hid (dAt D i = 0) := by unfold Hid dAt; rw [if_pos hi]
  clear hn hce
  go_enter Tryz.func123, Tryz.ntmps123
  go_wp2
  all_goals go_ret
  all_goals exact ⟨ret_int (by rw [HD.out]; rfl), rfl⟩
 ·by_cases hi2 : (n : Int) ≤ i
  ·have HD : Hid (dAt D i = 0) := by unfold Hid dAt; rw [if_neg hi, List.getD_eq_getElem?_getD, List.getElem?_eq_none (by omega)]; rfl
   clear hn hce
   go_enter Tryz.func123, Tryz.ntmps123
   go_wp2
   all_goals go_ret
   all_goals exact ⟨ret_int (by rw [HD.out]; rfl), rfl⟩
  ·obtain ⟨j, rfl⟩ : ∃ j : Nat, i = j := ⟨i.toNat, by omega⟩
   have HD : Hid (dAt D (j : Int) = D.getD j 0) := by unfold Hid dAt; rw [if_neg hi]; simp
   have cj := hce j (by omega)
   have hjn : j < n := by omega
   clear hn hce
   go_enter Tryz.func123, Tryz.ntmps123
   go_wp2
   all_goals go_ret
   all_goals exact ⟨ret_int (by rw [HD.out]; simp), rfl⟩
theorem wfix_any (g off cap n : Nat) (D : List Nat) (b : Int) (w : World) (hn : D.length = n) (hl : n ≤ 1500) (hcap : n ≤ cap) (hc2 : cap ≤ 9223372036854775807) (hg : g < w.heap.size) (hce : ∀ j, j < n → w.cell? ⟨g, off + j, none⟩ = some (.int .i64 (D.getD j 0 : Nat))) (hd : Digs D) (hb1 : -400 ≤ b) (hb2 : b ≤ 1500) :
  Calls Tryz.prog 95 #[.slice (some ⟨g, off, none⟩) n cap, .int .i64 b] w fun r w' => r = .returned (.string (str (fixW D n b))) ∧ Below w.heap.size w w' := by
 have HFR0 := fix_rows D b
 have H4 := hid hce
 have HN := hid hn
 have HD := hid hd
 have hl : n ≤ 30000 := by omega
 obtain ⟨ui0, uhi, uhz0, uhz1, uhz2⟩ := info_parts Tryz.info_u8
 rw [hn] at HFR0
 clear hce hn hd
 by_cases hah : (n : Int) - b ≤ 0
 ·rw [if_pos hah] at HFR0
  have hown' : (w.alloc (.cells #[] 5)).ownsRow w.heap.size 5 1 (.slice (some ⟨w.heap.size, 0, none⟩) 0 0) 0 (byts []) := OwnB.empty w
  have hb0 : Below w.heap.size w (w.alloc (.cells #[] 5)) := (Below.refl _ _).alloc (Nat.le_refl _) _
  have hsz0 := hb0.size
  go_enter Tryz.func95, Tryz.ntmps95
  go_wp2_with (at_builtin; refine wpList_append_own _ rfl (.tmp 18) (.tmp 19) 53 rfl w.heap.size 5 ui0 (.int .u8 0) 1 1 Tryz.underlying53 uhi uhz0 uhz1 uhz2 rfl (by decide) _ _ _ rfl (hown'.alloc _) ⟨w.heap.size + 1, 0, none⟩ 1 1 [.int .u8 48] rfl rfl (by simp [go_sem]) (by intro u hu; simp at hu; subst hu; rfl) (by unfold maxLen; omega) (by omega) (by simp; omega) ?_)
  intro v' w1 hown1 hgrow _
  have hbz : Hid (Below w.heap.size w w1) := (hb0.alloc (by omega) _).grown hgrow (by simp; omega) (fun k hk => (hown'.lt k hk).1)
  have hownz : Hid (OwnB w1 w.heap.size v' [48]) := OwnB.snoc (T := []) hown1 rfl rfl
  have hsmz : Hid (∃ g c cp, v' = .slice (some ⟨g, 0, none⟩) c cp) := hownz.out.someS (by simp)
  have HPL : Hid (([48] : List UInt8).length ≤ 2000) := by unfold Hid; simp
  have hcnt : ((n : Int) - b).toNat = 0 := by omega
  clear hown' hgrow hown1 hb0 hsz0
  go_wp2
  go_loopw [6, 7] (fun tt ii wr => ii = .int .i64 0 ∧ (∃ g c cp, tt = .slice (some ⟨g, 0, none⟩) c cp) ∧ OwnB wr w.heap.size tt [48] ∧ Below w.heap.size w wr) (fun _ _ _ => 0)
  case atStart => exact ⟨rfl, hsmz.out, hownz.out, hbz.out⟩
  case round =>
   obtain ⟨rfl, hsm, hown, hb⟩ := hrel
   obtain ⟨g2, cp2, rfl, hg2, hc1, hc3⟩ := hown.form hsm
   have hsz := hb.size
   obtain ⟨m, hm⟩ : ∃ m, ([48] : List UInt8).length = m := ⟨_, rfl⟩
   rw [hm] at hown hc1 ⊢
   unfold maxLen at hc3
   have HM := hid hm
   have HF0 := hid HFR0
   have hml : m ≤ 4000 := by rw [← hm]; simp
   have hgo : ¬ (0 : Int) < n - b := by omega
   clear hsm hm HFR0 hsmz hownz hbz hcnt
   have HML : Hid (m ≤ 1999) := by unfold Hid; rw [← HM.out]; first | (simp; done) | (simp [rowT_length]; done) | (simp [rowT_length]; omega)
   by_cases hbp : 0 < b
   ·obtain ⟨PP, hPP⟩ : ∃ PP, PP = (([48] : List UInt8)) ++ [46] := ⟨_, rfl⟩
    have HPP := hid hPP
    have HFR : Hid (PP ++ rowT D (-b) (-1) b.toNat = fixW D n b) := by unfold Hid fixW; rw [hPP]; have := HF0.out; rw [if_pos hbp] at this; rw [← this]; try simp
    clear hPP
    have hown' : wr.ownsRow w.heap.size 5 1 (.slice (some ⟨g2, 0, none⟩) m cp2) m (byts (([48] : List UInt8))) := hown.owns HM.out
    clear hown
    go_wp2_with (at_builtin; refine wpList_append_own _ rfl (.tmp 36) (.tmp 37) 53 rfl w.heap.size 5 ui0 (.int .u8 0) 1 1 Tryz.underlying53 uhi uhz0 uhz1 uhz2 rfl (by decide) _ _ _ rfl (hown'.alloc _) ⟨wr.heap.size, 0, none⟩ 1 1 [.int .u8 46] rfl rfl (cell_one_new _ _ _) (by intro u hu; simp at hu; subst hu; rfl) (by unfold maxLen; omega) (by omega) (by simp; omega) ?_)
    intro v' w1 hown1 hgrow _
    have hb1 : Hid (Below w.heap.size w w1) := (hb.alloc (by omega) _).grown hgrow (by simp; omega) (fun k hk => (hown'.lt k hk).1)
    have hownb : Hid (OwnB w1 w.heap.size v' PP) := by unfold Hid; rw [HPP.out]; exact OwnB.snoc hown1 HM.out rfl
    have hsmb : Hid (∃ g c cp, v' = .slice (some ⟨g, 0, none⟩) c cp) := hownb.out.someS (by rw [HPP.out]; first | (simp; done) | (simp; omega))
    have HPL : Hid (PP.length ≤ 2000) := by unfold Hid; rw [HPP.out]; have h1 := HML.out; have h2 := HM.out; rw [List.length_append]; simp only [List.length_singleton] at *; omega
    clear hown' hgrow hown1 hb
    go_wp2
    go_loopw [6, 9] (fun tt ii wr => ∃ k : Nat, ii = .int .i64 ((n - b) + k) ∧ k ≤ b.toNat ∧ (∃ g c cp, tt = .slice (some ⟨g, 0, none⟩) c cp) ∧ OwnB wr w.heap.size tt (PP ++ rowT D (-b) (-1) k) ∧ Below w.heap.size w wr) (fun _ ii _ => ((n - b) + b.toNat - intOf ii).toNat)
    case atStart => exact ⟨0, by simp, Nat.zero_le _, hsmb.out, by simpa [rowT] using hownb.out, hb1.out⟩
    case round =>
     obtain ⟨k, rfl, hk, hsm, hown, hb⟩ := hrel
     obtain ⟨g2, cp2, rfl, hg2, hc1, hc3⟩ := hown.form hsm
     have hsz := hb.size
     obtain ⟨m, hm⟩ : ∃ m, (PP ++ rowT D (-b) (-1) k).length = m := ⟨_, rfl⟩
     have hml : m ≤ 4000 := by rw [← hm, List.length_append, rowT_length]; have := HPL.out; omega
     rw [hm] at hown hc1 ⊢
     unfold maxLen at hc3
     have HM := hid hm
     obtain ⟨J, hJ⟩ : ∃ J : Int, (n - b) + (k : Int) = J := ⟨_, rfl⟩
     rw [hJ]
     have hJb1 : -10000 ≤ J := by omega
     have hJb2 : J ≤ 10000 := by omega
     clear hsm hm
     by_cases hlt : k < b.toNat
     ·have hJl : J < n := by omega
      have HDX := hid (wdigitAt_any g off cap n D J wr HN.out hcap hc2 (fun j hj => by rw [hb.cell (p := ⟨g, off + j, none⟩) (by show g < _; omega)]; exact H4.out j hj) hl)
      obtain ⟨x, hx⟩ : ∃ x, x = dAt D J := ⟨_, rfl⟩
      have hx9 : x ≤ 9 := by rw [hx]; exact dAt_le HD.out J
      rw [← hx] at HDX
      obtain ⟨z, hz⟩ : ∃ z : Int, z = ((hexD x).toNat : Nat) := ⟨_, rfl⟩
      have HDB : Hid (∀ w, Calls Tryz.prog 101 #[.int .i64 x] w fun e w' => e = .returned (.int .u8 z) ∧ w' = w) := fun w => by rw [hz]; exact digitByte_any x (by omega) w
      have HZ := hid hz
      have HXD : Hid (rowT D (-b) (-1) (k + 1) = rowT D (-b) (-1) k ++ [hexD x]) := by
       unfold Hid
       rw [hexD_small x (by omega), hx, ← dig_dAt D b J]
       show rowT D (-b) (-1) k ++ [UInt8.ofNat (48 + dig D (-b) (-1 - k))] = _
       rw [show (-1) - (k : Int) = D.length - b - 1 - J from by have := HN.out; omega]
      have hown' : wr.ownsRow w.heap.size 5 1 (.slice (some ⟨g2, 0, none⟩) m cp2) m (byts (PP ++ rowT D (-b) (-1) k)) := hown.owns HM.out
      have HJ := hid hJ
      clear hown hz hx hJ
      go_wp2_with fail
      refine HDX.out.mono ?_
      rintro r w2 ⟨rfl, rfl⟩
      clear HDX
      go_wp2_with fail
      refine (HDB.out _).mono ?_
      rintro r w3 ⟨rfl, rfl⟩
      go_wp2_with (at_builtin; refine wpList_append_own _ rfl (.tmp 49) (.tmp 52) 53 rfl w.heap.size 5 ui0 (.int .u8 0) 1 1 Tryz.underlying53 uhi uhz0 uhz1 uhz2 rfl (by decide) _ _ _ rfl (hown'.alloc _) ⟨w3.heap.size, 0, none⟩ 1 1 [.int .u8 z] rfl rfl (cell_one_new _ _ _) (by intro u hu; simp at hu; subst hu; rfl) (by unfold maxLen; omega) (by omega) (by simp; omega) ?_)
      intro v' w1 hown1 hgrow _
      have hb1 : Hid (Below w.heap.size w w1) := (hb.alloc (by omega) _).grown hgrow (by simp; omega) (fun k hk => (hown'.lt k hk).1)
      have hown4 : Hid (OwnB w1 w.heap.size v' (PP ++ rowT D (-b) (-1) (k + 1))) := by
       unfold Hid
       have := OwnB.snoc (d := hexD x) hown1 HM.out HZ.out
       rw [HXD.out, ← List.append_assoc]; exact this
      clear hown' hgrow hown1 hb
      go_wp2
      go_roundw
      case rel => exact ⟨k + 1, congrArg (Value.int .i64) (by have := HJ.out; omega), by omega, hown4.out.someS (by simp [rowT]; omega), hown4.out, hb1.out⟩
      case measure => have := HJ.out; simp [intOf]; omega
     ·have hkn : k = b.toNat := by omega
      have hJl : ¬ (J < n) := by omega
      rw [hkn] at HM hown
      clear hJ hlt hk
      have hcv := hown.conv HM.out
      have HBF := hid hb
      have HSS : Hid (str (PP ++ rowT D (-b) (-1) b.toNat) = str (fixW D n b)) := by
       unfold Hid; rw [HFR.out]
      clear hown hb
      go_wp2
      go_ret
      exact ⟨ret_str HSS.out, HBF.out⟩
   ·obtain ⟨PP, hPP⟩ : ∃ PP, PP = (([48] : List UInt8)) := ⟨_, rfl⟩
    have HPP := hid hPP
    have HFR : Hid (PP ++ rowT D (-b) (-1) b.toNat = fixW D n b) := by unfold Hid fixW; rw [hPP]; have := HF0.out; rw [if_neg hbp] at this; rw [← this]; try simp
    clear hPP
    have hownb : Hid (OwnB wr w.heap.size (.slice (some ⟨g2, 0, none⟩) m cp2) PP) := by unfold Hid; rw [HPP.out]; exact hown
    have hb1 := hid hb
    have HPL : Hid (PP.length ≤ 2000) := by unfold Hid; rw [HPP.out, HM.out]; have := HML.out; omega
    clear hown hb
    go_wp2
    go_loopw [6, 9] (fun tt ii wr => ∃ k : Nat, ii = .int .i64 ((n - b) + k) ∧ k ≤ b.toNat ∧ (∃ g c cp, tt = .slice (some ⟨g, 0, none⟩) c cp) ∧ OwnB wr w.heap.size tt (PP ++ rowT D (-b) (-1) k) ∧ Below w.heap.size w wr) (fun _ ii _ => ((n - b) + b.toNat - intOf ii).toNat)
    case atStart => exact ⟨0, by simp, Nat.zero_le _, ⟨_, _, _, rfl⟩, by simpa [rowT] using hownb.out, hb1.out⟩
    case round =>
     obtain ⟨k, rfl, hk, hsm, hown, hb⟩ := hrel
     obtain ⟨g2, cp2, rfl, hg2, hc1, hc3⟩ := hown.form hsm
     have hsz := hb.size
     obtain ⟨m, hm⟩ : ∃ m, (PP ++ rowT D (-b) (-1) k).length = m := ⟨_, rfl⟩
     have hml : m ≤ 4000 := by rw [← hm, List.length_append, rowT_length]; have := HPL.out; omega
     rw [hm] at hown hc1 ⊢
     unfold maxLen at hc3
     have HM := hid hm
     obtain ⟨J, hJ⟩ : ∃ J : Int, (n - b) + (k : Int) = J := ⟨_, rfl⟩
     rw [hJ]
     have hJb1 : -10000 ≤ J := by omega
     have hJb2 : J ≤ 10000 := by omega
     clear hsm hm
     by_cases hlt : k < b.toNat
     ·omega
     ·have hkn : k = b.toNat := by omega
      have hJl : ¬ (J < n) := by omega
      rw [hkn] at HM hown
      clear hJ hlt hk
      have hcv := hown.conv HM.out
      have HBF := hid hb
      have HSS : Hid (str (PP ++ rowT D (-b) (-1) b.toNat) = str (fixW D n b)) := by
       unfold Hid; rw [HFR.out]
      clear hown hb
      go_wp2
      go_ret
      exact ⟨ret_str HSS.out, HBF.out⟩
 ·rw [if_neg hah] at HFR0
  obtain ⟨P0, hP0⟩ : ∃ P0 : List UInt8, P0 = [] := ⟨_, rfl⟩
  have HP0 := hid hP0
  have HPL : Hid (P0.length ≤ 2000) := by unfold Hid; rw [hP0]; simp
  clear hP0
  have HF0 := hid HFR0
  clear HFR0
  go_enter Tryz.func95, Tryz.ntmps95
  go_wp2
  go_loopw [6, 7] (fun tt ii wr => ∃ k : Nat, ii = .int .i64 (0 + k) ∧ k ≤ ((n : Int) - b).toNat ∧ (∃ g c cp, tt = .slice (some ⟨g, 0, none⟩) c cp) ∧ OwnB wr w.heap.size tt (P0 ++ rowT D (-b) ((n : Int) - b - 1) k) ∧ Below w.heap.size w wr) (fun _ ii _ => (0 + ((n : Int) - b).toNat - intOf ii).toNat)
  case atStart => exact ⟨0, by simp, Nat.zero_le _, ⟨_, _, _, rfl⟩, by rw [HP0.out]; exact OwnB.empty w, (Below.refl _ _).alloc (Nat.le_refl _) _⟩
  case round =>
   obtain ⟨k, rfl, hk, hsm, hown, hb⟩ := hrel
   obtain ⟨g2, cp2, rfl, hg2, hc1, hc3⟩ := hown.form hsm
   have hsz := hb.size
   obtain ⟨m, hm⟩ : ∃ m, (P0 ++ rowT D (-b) ((n : Int) - b - 1) k).length = m := ⟨_, rfl⟩
   have hml : m ≤ 4000 := by rw [← hm, List.length_append, rowT_length]; have := HPL.out; omega
   rw [hm] at hown hc1 ⊢
   unfold maxLen at hc3
   have HM := hid hm
   obtain ⟨J, hJ⟩ : ∃ J : Int, 0 + (k : Int) = J := ⟨_, rfl⟩
   rw [hJ]
   have hJb1 : -10000 ≤ J := by omega
   have hJb2 : J ≤ 10000 := by omega
   clear hsm hm
   by_cases hlt : k < ((n : Int) - b).toNat
   ·have hJl : J < (n : Int) - b := by omega
    have HDX := hid (wdigitAt_any g off cap n D J wr HN.out hcap hc2 (fun j hj => by rw [hb.cell (p := ⟨g, off + j, none⟩) (by show g < _; omega)]; exact H4.out j hj) hl)
    obtain ⟨x, hx⟩ : ∃ x, x = dAt D J := ⟨_, rfl⟩
    have hx9 : x ≤ 9 := by rw [hx]; exact dAt_le HD.out J
    rw [← hx] at HDX
    obtain ⟨z, hz⟩ : ∃ z : Int, z = ((hexD x).toNat : Nat) := ⟨_, rfl⟩
    have HDB : Hid (∀ w, Calls Tryz.prog 101 #[.int .i64 x] w fun e w' => e = .returned (.int .u8 z) ∧ w' = w) := fun w => by rw [hz]; exact digitByte_any x (by omega) w
    have HZ := hid hz
    have HXD : Hid (rowT D (-b) ((n : Int) - b - 1) (k + 1) = rowT D (-b) ((n : Int) - b - 1) k ++ [hexD x]) := by
     unfold Hid
     rw [hexD_small x (by omega), hx, ← dig_dAt D b J]
     show rowT D (-b) ((n : Int) - b - 1) k ++ [UInt8.ofNat (48 + dig D (-b) ((n : Int) - b - 1 - k))] = _
     rw [show ((n : Int) - b - 1) - (k : Int) = D.length - b - 1 - J from by have := HN.out; omega]
    have hown' : wr.ownsRow w.heap.size 5 1 (.slice (some ⟨g2, 0, none⟩) m cp2) m (byts (P0 ++ rowT D (-b) ((n : Int) - b - 1) k)) := hown.owns HM.out
    have HJ := hid hJ
    clear hown hz hx hJ
    go_wp2_with fail
    refine HDX.out.mono ?_
    rintro r w2 ⟨rfl, rfl⟩
    clear HDX
    go_wp2_with fail
    refine (HDB.out _).mono ?_
    rintro r w3 ⟨rfl, rfl⟩
    go_wp2_with (at_builtin; refine wpList_append_own _ rfl (.tmp 29) (.tmp 32) 53 rfl w.heap.size 5 ui0 (.int .u8 0) 1 1 Tryz.underlying53 uhi uhz0 uhz1 uhz2 rfl (by decide) _ _ _ rfl (hown'.alloc _) ⟨w3.heap.size, 0, none⟩ 1 1 [.int .u8 z] rfl rfl (cell_one_new _ _ _) (by intro u hu; simp at hu; subst hu; rfl) (by unfold maxLen; omega) (by omega) (by simp; omega) ?_)
    intro v' w1 hown1 hgrow _
    have hb1 : Hid (Below w.heap.size w w1) := (hb.alloc (by omega) _).grown hgrow (by simp; omega) (fun k hk => (hown'.lt k hk).1)
    have hown4 : Hid (OwnB w1 w.heap.size v' (P0 ++ rowT D (-b) ((n : Int) - b - 1) (k + 1))) := by
     unfold Hid
     have := OwnB.snoc (d := hexD x) hown1 HM.out HZ.out
     rw [HXD.out, ← List.append_assoc]; exact this
    clear hown' hgrow hown1 hb
    go_wp2
    go_roundw
    case rel => exact ⟨k + 1, congrArg (Value.int .i64) (by have := HJ.out; omega), by omega, hown4.out.someS (by simp [rowT]; omega), hown4.out, hb1.out⟩
    case measure => have := HJ.out; simp [intOf]; omega
   ·have hkn : k = ((n : Int) - b).toNat := by omega
    have hJl : ¬ (J < (n : Int) - b) := by omega
    rw [hkn] at HM hown
    clear hJ hlt hk
    have HML : Hid (m ≤ 1999) := by unfold Hid; rw [← HM.out]; rw [HP0.out]; first | (simp; done) | (simp [rowT_length]; done) | (simp [rowT_length]; omega)
    by_cases hbp : 0 < b
    ·obtain ⟨PP, hPP⟩ : ∃ PP, PP = (P0 ++ rowT D (-b) ((n : Int) - b - 1) ((n : Int) - b).toNat) ++ [46] := ⟨_, rfl⟩
     have HPP := hid hPP
     have HFR : Hid (PP ++ rowT D (-b) (-1) b.toNat = fixW D n b) := by unfold Hid fixW; rw [hPP]; have := HF0.out; rw [if_pos hbp] at this; rw [← this]; rw [HP0.out]; try simp
     clear hPP
     have hown' : wr.ownsRow w.heap.size 5 1 (.slice (some ⟨g2, 0, none⟩) m cp2) m (byts (P0 ++ rowT D (-b) ((n : Int) - b - 1) ((n : Int) - b).toNat)) := hown.owns HM.out
     clear hown
     go_wp2_with (at_builtin; refine wpList_append_own _ rfl (.tmp 36) (.tmp 37) 53 rfl w.heap.size 5 ui0 (.int .u8 0) 1 1 Tryz.underlying53 uhi uhz0 uhz1 uhz2 rfl (by decide) _ _ _ rfl (hown'.alloc _) ⟨wr.heap.size, 0, none⟩ 1 1 [.int .u8 46] rfl rfl (cell_one_new _ _ _) (by intro u hu; simp at hu; subst hu; rfl) (by unfold maxLen; omega) (by omega) (by simp; omega) ?_)
     intro v' w1 hown1 hgrow _
     have hb1 : Hid (Below w.heap.size w w1) := (hb.alloc (by omega) _).grown hgrow (by simp; omega) (fun k hk => (hown'.lt k hk).1)
     have hownb : Hid (OwnB w1 w.heap.size v' PP) := by unfold Hid; rw [HPP.out]; exact OwnB.snoc hown1 HM.out rfl
     have hsmb : Hid (∃ g c cp, v' = .slice (some ⟨g, 0, none⟩) c cp) := hownb.out.someS (by rw [HPP.out]; first | (simp; done) | (simp; omega))
     have HPL : Hid (PP.length ≤ 2000) := by unfold Hid; rw [HPP.out]; have h1 := HML.out; have h2 := HM.out; rw [List.length_append]; simp only [List.length_singleton] at *; omega
     clear hown' hgrow hown1 hb
     go_wp2
     go_loopw [6, 9] (fun tt ii wr => ∃ k : Nat, ii = .int .i64 ((n - b) + k) ∧ k ≤ b.toNat ∧ (∃ g c cp, tt = .slice (some ⟨g, 0, none⟩) c cp) ∧ OwnB wr w.heap.size tt (PP ++ rowT D (-b) (-1) k) ∧ Below w.heap.size w wr) (fun _ ii _ => ((n - b) + b.toNat - intOf ii).toNat)
     case atStart => exact ⟨0, by simp, Nat.zero_le _, hsmb.out, by simpa [rowT] using hownb.out, hb1.out⟩
     case round =>
      obtain ⟨k, rfl, hk, hsm, hown, hb⟩ := hrel
      obtain ⟨g2, cp2, rfl, hg2, hc1, hc3⟩ := hown.form hsm
      have hsz := hb.size
      obtain ⟨m, hm⟩ : ∃ m, (PP ++ rowT D (-b) (-1) k).length = m := ⟨_, rfl⟩
      have hml : m ≤ 4000 := by rw [← hm, List.length_append, rowT_length]; have := HPL.out; omega
      rw [hm] at hown hc1 ⊢
      unfold maxLen at hc3
      have HM := hid hm
      obtain ⟨J, hJ⟩ : ∃ J : Int, (n - b) + (k : Int) = J := ⟨_, rfl⟩
      rw [hJ]
      have hJb1 : -10000 ≤ J := by omega
      have hJb2 : J ≤ 10000 := by omega
      clear hsm hm
      by_cases hlt : k < b.toNat
      ·have hJl : J < n := by omega
       have HDX := hid (wdigitAt_any g off cap n D J wr HN.out hcap hc2 (fun j hj => by rw [hb.cell (p := ⟨g, off + j, none⟩) (by show g < _; omega)]; exact H4.out j hj) hl)
       obtain ⟨x, hx⟩ : ∃ x, x = dAt D J := ⟨_, rfl⟩
       have hx9 : x ≤ 9 := by rw [hx]; exact dAt_le HD.out J
       rw [← hx] at HDX
       obtain ⟨z, hz⟩ : ∃ z : Int, z = ((hexD x).toNat : Nat) := ⟨_, rfl⟩
       have HDB : Hid (∀ w, Calls Tryz.prog 101 #[.int .i64 x] w fun e w' => e = .returned (.int .u8 z) ∧ w' = w) := fun w => by rw [hz]; exact digitByte_any x (by omega) w
       have HZ := hid hz
       have HXD : Hid (rowT D (-b) (-1) (k + 1) = rowT D (-b) (-1) k ++ [hexD x]) := by
        unfold Hid
        rw [hexD_small x (by omega), hx, ← dig_dAt D b J]
        show rowT D (-b) (-1) k ++ [UInt8.ofNat (48 + dig D (-b) (-1 - k))] = _
        rw [show (-1) - (k : Int) = D.length - b - 1 - J from by have := HN.out; omega]
       have hown' : wr.ownsRow w.heap.size 5 1 (.slice (some ⟨g2, 0, none⟩) m cp2) m (byts (PP ++ rowT D (-b) (-1) k)) := hown.owns HM.out
       have HJ := hid hJ
       clear hown hz hx hJ
       go_wp2_with fail
       refine HDX.out.mono ?_
       rintro r w2 ⟨rfl, rfl⟩
       clear HDX
       go_wp2_with fail
       refine (HDB.out _).mono ?_
       rintro r w3 ⟨rfl, rfl⟩
       go_wp2_with (at_builtin; refine wpList_append_own _ rfl (.tmp 49) (.tmp 52) 53 rfl w.heap.size 5 ui0 (.int .u8 0) 1 1 Tryz.underlying53 uhi uhz0 uhz1 uhz2 rfl (by decide) _ _ _ rfl (hown'.alloc _) ⟨w3.heap.size, 0, none⟩ 1 1 [.int .u8 z] rfl rfl (cell_one_new _ _ _) (by intro u hu; simp at hu; subst hu; rfl) (by unfold maxLen; omega) (by omega) (by simp; omega) ?_)
       intro v' w1 hown1 hgrow _
       have hb1 : Hid (Below w.heap.size w w1) := (hb.alloc (by omega) _).grown hgrow (by simp; omega) (fun k hk => (hown'.lt k hk).1)
       have hown4 : Hid (OwnB w1 w.heap.size v' (PP ++ rowT D (-b) (-1) (k + 1))) := by
        unfold Hid
        have := OwnB.snoc (d := hexD x) hown1 HM.out HZ.out
        rw [HXD.out, ← List.append_assoc]; exact this
       clear hown' hgrow hown1 hb
       go_wp2
       go_roundw
       case rel => exact ⟨k + 1, congrArg (Value.int .i64) (by have := HJ.out; omega), by omega, hown4.out.someS (by simp [rowT]; omega), hown4.out, hb1.out⟩
       case measure => have := HJ.out; simp [intOf]; omega
      ·have hkn : k = b.toNat := by omega
       have hJl : ¬ (J < n) := by omega
       rw [hkn] at HM hown
       clear hJ hlt hk
       have hcv := hown.conv HM.out
       have HBF := hid hb
       have HSS : Hid (str (PP ++ rowT D (-b) (-1) b.toNat) = str (fixW D n b)) := by
        unfold Hid; rw [HFR.out]
       clear hown hb
       go_wp2
       go_ret
       exact ⟨ret_str HSS.out, HBF.out⟩
    ·obtain ⟨PP, hPP⟩ : ∃ PP, PP = (P0 ++ rowT D (-b) ((n : Int) - b - 1) ((n : Int) - b).toNat) := ⟨_, rfl⟩
     have HPP := hid hPP
     have HFR : Hid (PP ++ rowT D (-b) (-1) b.toNat = fixW D n b) := by unfold Hid fixW; rw [hPP]; have := HF0.out; rw [if_neg hbp] at this; rw [← this]; rw [HP0.out]; try simp
     clear hPP
     have hownb : Hid (OwnB wr w.heap.size (.slice (some ⟨g2, 0, none⟩) m cp2) PP) := by unfold Hid; rw [HPP.out]; exact hown
     have hb1 := hid hb
     have HPL : Hid (PP.length ≤ 2000) := by unfold Hid; rw [HPP.out, HM.out]; have := HML.out; omega
     clear hown hb
     go_wp2
     go_loopw [6, 9] (fun tt ii wr => ∃ k : Nat, ii = .int .i64 ((n - b) + k) ∧ k ≤ b.toNat ∧ (∃ g c cp, tt = .slice (some ⟨g, 0, none⟩) c cp) ∧ OwnB wr w.heap.size tt (PP ++ rowT D (-b) (-1) k) ∧ Below w.heap.size w wr) (fun _ ii _ => ((n - b) + b.toNat - intOf ii).toNat)
     case atStart => exact ⟨0, by simp, Nat.zero_le _, ⟨_, _, _, rfl⟩, by simpa [rowT] using hownb.out, hb1.out⟩
     case round =>
      obtain ⟨k, rfl, hk, hsm, hown, hb⟩ := hrel
      obtain ⟨g2, cp2, rfl, hg2, hc1, hc3⟩ := hown.form hsm
      have hsz := hb.size
      obtain ⟨m, hm⟩ : ∃ m, (PP ++ rowT D (-b) (-1) k).length = m := ⟨_, rfl⟩
      have hml : m ≤ 4000 := by rw [← hm, List.length_append, rowT_length]; have := HPL.out; omega
      rw [hm] at hown hc1 ⊢
      unfold maxLen at hc3
      have HM := hid hm
      obtain ⟨J, hJ⟩ : ∃ J : Int, (n - b) + (k : Int) = J := ⟨_, rfl⟩
      rw [hJ]
      have hJb1 : -10000 ≤ J := by omega
      have hJb2 : J ≤ 10000 := by omega
      clear hsm hm
      by_cases hlt : k < b.toNat
      ·omega
      ·have hkn : k = b.toNat := by omega
       have hJl : ¬ (J < n) := by omega
       rw [hkn] at HM hown
       clear hJ hlt hk
       have hcv := hown.conv HM.out
       have HBF := hid hb
       have HSS : Hid (str (PP ++ rowT D (-b) (-1) b.toNat) = str (fixW D n b)) := by
        unfold Hid; rw [HFR.out]
       clear hown hb
       go_wp2
       go_ret
       exact ⟨ret_str HSS.out, HBF.out⟩
end Go.Proofs.YtbkdaoicnobllabGreatDoor

namespace Go.Proofs.YtbkdaoicnobllabGreatDoor

structure ExpR (aw : Int → Bool → Bool) (V n : Nat) (D : List Nat) (e : Int) (L : List Nat) (g : Int) (T : List UInt8) : Prop where
 digs : Digs D
 headed : Headed D
 pos : 0 < D.length
 lo : -(3000 : Int) ≤ e
 val : val 3000 D e = V
 digs' : Digs L
 headed' : Headed L
 pos' : 0 < L.length
 lo' : -(3000 : Int) ≤ g
 lon : -(3000 : Int) ≤ g + L.length - 1 - n
 val' : Go.Proofs.YtbkdaoicnobllabGreatDoor.val 3000 L g = rndN aw V (10 ^ (e + D.length - 1 - n + (3000 : Nat)).toNat) * 10 ^ (e + D.length - 1 - n + (3000 : Nat)).toNat
 text : T = sciT L g (g + L.length - 1) n ++ (101 :: Lib.itoa (g + L.length - 1))
def ExpQ (aw : Int → Bool → Bool) (V n : Nat) (T : List UInt8) : Prop := (V = 0 ∧ T = fixT [] 0 0 n ++ [101, 48]) ∨ ∃ D e L g, ExpR aw V n D e L g T
theorem ExpR.ne {aw : Int → Bool → Bool} {V n : Nat} {D L : List Nat} {e g : Int} {T : List UInt8} (h : ExpR aw V n D e L g T) : V ≠ 0 := by
 rw [← h.val]; unfold Go.Proofs.YtbkdaoicnobllabGreatDoor.val
 exact Nat.ne_of_gt (Nat.mul_pos (h.headed.pos h.pos) (Nat.pow_pos (by omega)))
theorem ExpQ.same {aw : Int → Bool → Bool} {V n : Nat} {T T' : List UInt8} (h : ExpQ aw V n T) (h' : ExpQ aw V n T') : T = T' := by
 rcases h with ⟨h0, rfl⟩ | ⟨D, e, L, g, h⟩
 ·rcases h' with ⟨_, rfl⟩ | ⟨D, e, L, g, h⟩
  ·rfl
  ·exact absurd h0 h.ne
 ·rcases h' with ⟨h0, _⟩ | ⟨D', e', L', g', h'⟩
  ·exact absurd h0 h.ne
  ·have ht := top_same h.digs h'.digs h.headed h'.headed h.pos h'.pos (K := 3000) h.lo h'.lo (h.val.trans h'.val.symm)
   have hv : val 3000 L g = val 3000 L' g' := by
    rw [h.val', h'.val', show e' + (D'.length : Int) - 1 - n + (3000 : Nat) = e + D.length - 1 - n + (3000 : Nat) from by omega]
   have ht' := top_same h.digs' h'.digs' h.headed' h'.headed' h.pos' h'.pos' h.lo' h'.lo' hv
   rw [h.text, h'.text, ← ht', sciT_same h.digs' h'.digs' h.lo' h'.lo' hv h.lon]
theorem exp_prog {aw : Int → Bool → Bool} {V n : Nat} {D R : List Nat} {e p : Int} (hd : Digs D) (hh : Headed D) (hl : 0 < D.length) (he : -1080 ≤ e) (hn : n ≤ 800) (hV : val 3000 D e = V) (hp : p = e + D.length - 1 - n) (hR : Rnd aw D e p R) :
  ExpQ aw V n (expB (R.take (n + 1)) (n + 1) ++ (101 :: Lib.itoa (p + R.length - 1))) := by
 obtain ⟨c1, c2, c3, c4⟩ := hR.cut hd (c := n + 1) (by omega) (by omega)
 have hge := hR.ge
 rw [show (D.length + e - p).toNat = n + 1 from by omega] at hge
 have hv := c4 3000 (by omega) (by omega)
 refine .inr ⟨D, e, R.take (n + 1), p + R.length - (n + 1 : Nat), ⟨hd, hh, hl, by omega, hV, c1, c2, by omega, by omega, by rw [c3]; omega, ?_, ?_⟩⟩
 ·rw [hv]; unfold val
  rw [hR.nval 3000 (by omega) (by omega), hV, hp]
 ·rw [expB_rows (R.take (n + 1)) (p + R.length - 1) n (by omega), c3]
  have e1 : p + (R.length : Int) - 1 - ((n + 1 : Nat) : Int) + 1 = p + R.length - (n + 1 : Nat) := by omega
  have e2 : p + (R.length : Int) - ((n + 1 : Nat) : Int) + ((n + 1 : Nat) : Int) - 1 = p + R.length - 1 := by omega
  rw [e1, e2]
theorem exp_zero (aw : Int → Bool → Bool) (n : Nat) : ExpQ aw 0 n (expB (List.replicate (n + 1) 0) (n + 1) ++ (101 :: Lib.itoa 0)) := by
 refine .inl ⟨rfl, ?_⟩
 have hz : ∀ e p, dig (List.replicate (n + 1) 0) e p = 0 := by
  intro e p
  by_cases h1 : p < e
  ·exact dig_lo _ h1
  ·by_cases h2 : e + (List.replicate (n + 1) 0).length ≤ p
   ·exact dig_hi _ (by omega)
   ·rw [dig_mid (List.replicate (n + 1) 0) (e := e) (p := p) (by omega) (by omega) ((List.replicate (n + 1) 0).length - 1 - (p - e).toNat) (by omega)]
    simp [List.getD_eq_getElem?_getD, List.getElem?_replicate]
    split <;> rfl
 have hz2 : ∀ e p, dig ([] : List Nat) e p = 0 := by
  intro e p
  by_cases h1 : p < e
  ·exact dig_lo _ h1
  ·exact dig_hi _ (by simp; omega)
 rw [expB_rows _ 0 n (by simp)]
 unfold sciT fixT
 rw [show Lib.itoa 0 = [48] from by decide +kernel]
 rw [rowT_congr (M := []) (g := 0) 1 (fun p _ _ => by rw [hz, hz2]), rowT_congr (M := []) (g := 0) n (fun p _ _ => by rw [hz, hz2])]
 simp
theorem exp_ref {aw : Int → Bool → Bool} {V n : Nat} {D L : List Nat} {e g : Int} (hd : Norm D) (hl : 0 < D.length) (he : -1100 ≤ e) (hn : n ≤ 800) (hV : val 3000 D e = V) (hd' : Norm L) (hg : L ≠ [] → -2000 ≤ g)
  (hv : val 3000 L g = rndN aw V (10 ^ (e + D.length - 1 - n + (3000 : Nat)).toNat) * 10 ^ (e + D.length - 1 - n + (3000 : Nat)).toNat) :
  0 < L.length ∧ ExpQ aw V n (sciT L g (g + L.length - 1) n ++ (101 :: Lib.itoa (g + L.length - 1))) := by
 have hpos : 0 < L.length := by
  apply Nat.pos_of_ne_zero; intro h0
  rw [List.length_eq_zero_iff.1 h0] at hv
  have h1 := rndN_ge aw V (10 ^ (e + D.length - 1 - n + (3000 : Nat)).toNat)
  have hP : 0 < 10 ^ (e + D.length - 1 - n + (3000 : Nat)).toNat := Nat.pow_pos (by omega)
  have h2 : 10 ^ (e + D.length - 1 - n + (3000 : Nat)).toNat ≤ V := by
   rw [← hV]; unfold val
   refine Nat.le_trans ?_ (Nat.mul_le_mul_right _ (hd.headed.lo hl))
   rw [← Nat.pow_add]
   exact Nat.pow_le_pow_right (by omega) (by omega)
  have h3 := Nat.div_pos h2 hP
  have h4 : 0 < rndN aw V (10 ^ (e + D.length - 1 - n + (3000 : Nat)).toNat) := by omega
  have h5 := Nat.mul_pos h4 hP
  rw [← hv] at h5
  simp [val, num_nil] at h5
 have hg' := hg (fun h => by rw [h] at hpos; simp at hpos)
 exact ⟨hpos, .inr ⟨D, e, L, g, ⟨hd.digs, hd.headed, hl, by omega, hV, hd'.digs, hd'.headed, hpos, by omega, by omega, hv, rfl⟩⟩⟩
def FixQ (aw : Int → Bool → Bool) (V n : Nat) (T : List UInt8) : Prop := ∃ (L : List Nat) (g : Int), Digs L ∧ Headed L ∧ -(3000 : Int) ≤ g ∧ n ≤ 3000 ∧ val 3000 L g = rndN aw V (10 ^ (-(n : Int) + (3000 : Nat)).toNat) * 10 ^ (-(n : Int) + (3000 : Nat)).toNat ∧ T = fixT L g (highN L g) n
theorem high_same {K : Nat} {L M : List Nat} {e g : Int} (h1 : Digs L) (h2 : Digs M) (d1 : Headed L) (d2 : Headed M) (k1 : -(K : Int) ≤ e) (k2 : -(K : Int) ≤ g) (h : val K L e = val K M g) : highN L e = highN M g := by
 have z : ∀ {L : List Nat} {e : Int}, Headed L → L ≠ [] → val K L e ≠ 0 := fun {L e} hh hl => by
  unfold val
  exact Nat.ne_of_gt (Nat.mul_pos (hh.pos (List.length_pos_iff.2 hl)) (Nat.pow_pos (by omega)))
 unfold highN
 by_cases a : L = []
 ·by_cases b : M = []
  ·rw [if_pos a, if_pos b]
  ·have := z (e := g) d2 b
   rw [← h, a] at this
   simp [val, num_nil] at this
 ·by_cases b : M = []
  ·have := z (e := e) d1 a
   rw [h, b] at this
   simp [val, num_nil] at this
  ·rw [if_neg a, if_neg b, top_same h1 h2 d1 d2 (List.length_pos_iff.2 a) (List.length_pos_iff.2 b) k1 k2 h]
theorem FixQ.same {aw : Int → Bool → Bool} {V n : Nat} {T T' : List UInt8} (h : FixQ aw V n T) (h' : FixQ aw V n T') : T = T' := by
 obtain ⟨L, g, a1, a2, a3, a4, a5, rfl⟩ := h
 obtain ⟨M, k, b1, b2, b3, b4, b5, rfl⟩ := h'
 have hv := a5.trans b5.symm
 rw [high_same a1 b1 a2 b2 a3 b3 hv, fixT_same a1 b1 a3 b3 hv a4]
theorem fix_prog {aw : Int → Bool → Bool} {V n : Nat} {D R : List Nat} {e : Int} (he : -1080 ≤ e) (hn : n ≤ 800) (hV : val 3000 D e = V) (hR : Rnd aw D e (-(n : Int)) R) :
  FixQ aw V n (fixT R (-(n : Int)) ((R.length : Int) - n - 1).toNat n) := by
 refine ⟨R, -(n : Int), hR.digs, hR.headed, by omega, by omega, ?_, ?_⟩
 ·unfold val; rw [hR.nval 3000 (by omega) (by omega), hV]
 ·unfold highN
  by_cases h : R = []
  ·rw [if_pos h]; subst h; rw [show ((([] : List Nat).length : Int) - n - 1).toNat = 0 from by simp]
  ·rw [if_neg h, show ((R.length : Int) - n - 1).toNat = (max (-(n : Int) + R.length - 1) 0).toNat from by omega]
theorem rndN_zero (aw : Int → Bool → Bool) (P : Nat) : rndN aw 0 P = 0 := by unfold rndN leftN; simp
theorem fix_zero (aw : Int → Bool → Bool) (n : Nat) (hn : n ≤ 800) : FixQ aw 0 n (fixT [] (-(n : Int)) ((0 : Int) - n - 1).toNat n) := by
 refine ⟨[], -(n : Int), fun d h => by simp at h, fun h => by simp at h, by omega, by omega, ?_, ?_⟩
 ·rw [rndN_zero]; simp [val, num_nil]
 ·unfold highN; rw [if_pos rfl, show ((0 : Int) - n - 1).toNat = 0 from by omega]
theorem fix_ref {aw : Int → Bool → Bool} {V n : Nat} {L : List Nat} {g : Int} (hn : n ≤ 800) (hd' : Norm L) (hg0 : L = [] → g = 0) (hg : L ≠ [] → -2000 ≤ g)
  (hv : val 3000 L g = rndN aw V (10 ^ (-(n : Int) + (3000 : Nat)).toNat) * 10 ^ (-(n : Int) + (3000 : Nat)).toNat) : FixQ aw V n (fixT L g (highN L g) n) :=
 ⟨L, g, hd'.digs, hd'.headed, (Decidable.em (L = [])).elim (fun h => by have := hg0 h; omega) (fun h => by have := hg h; omega), by omega, hv, rfl⟩
theorem sciT_length (L : List Nat) (e top : Int) (n : Nat) : (sciT L e top n).length ≤ n + 2 := by
 unfold sciT; split <;> simp [rowT_length] <;> omega
theorem fixT_length (L : List Nat) (e : Int) (h b : Nat) : (fixT L e h b).length ≤ h + b + 2 := by
 unfold fixT; split <;> simp [rowT_length] <;> omega
end Go.Proofs.YtbkdaoicnobllabGreatDoor
