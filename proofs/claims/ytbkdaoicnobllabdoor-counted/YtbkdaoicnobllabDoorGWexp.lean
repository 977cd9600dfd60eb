import Derived.Test.YtbkdaoicnobllabDoorGHex
import Derived.Test.YtbkdaoicnobllabDoorGFrom

namespace Go.Proofs.YtbkdaoicnobllabDoor
open Go.RowKit

theorem expB_length (D : List Nat) (n : Nat) : (expB D n).length ≤ 2 * n := by
  induction n with
  | zero => simp [expB]
  | succ n ih => simp only [expB]; split <;> simp <;> omega
theorem hexD_small (d : Nat) (h : d < 10) : hexD d = UInt8.ofNat (48 + d) := by unfold hexD; rw [if_pos h]
set_option maxRecDepth 100000 in
set_option maxHeartbeats 1000000 in
theorem wexp_any (g off cap n : Nat) (D : List Nat) (pw : Int) (w : World) (htab : Tab w) (hn : D.length = n) (h0 : 0 < n) (hl : n ≤ 2000) (hcap : n ≤ cap) (hc2 : cap ≤ 9223372036854775807) (hg : g < w.heap.size) (hce : ∀ j, j < n → w.cell? ⟨g, off + j, none⟩ = some (.int .i64 (D.getD j 0 : Nat))) (hd : Digs D) (hp1 : -100000 ≤ pw) (hp2 : pw ≤ 100000) :
    Calls Tryd.prog 36 #[.slice (some ⟨g, off, none⟩) n cap, .int .i64 pw] w fun r w' => r = .returned (.string (str (expB D n ++ (101 :: Lib.itoa pw)))) ∧ Below w.heap.size w w' := by
  have H4 := hid hce
  have HN := hid hn
  have HD := hid hd
  have HTAB := hid htab
  obtain ⟨ui0, uhi, uhz0, uhz1, uhz2⟩ := info_parts Tryd.info_u8
  clear hce hn hd htab
  go_enter Tryd.func36, Tryd.ntmps36
  go_wp2
  go_loopw [5, 11] (fun tt ii wr => ∃ k : Nat, ii = .int .i64 k ∧ k ≤ n ∧ (∃ g c cp, tt = .slice (some ⟨g, 0, none⟩) c cp) ∧ OwnB wr w.heap.size tt (expB D k) ∧ Below w.heap.size w wr) (fun _ ii _ => n - (intOf ii).toNat)
  case atStart => exact ⟨0, rfl, Nat.zero_le _, ⟨_, _, _, rfl⟩, OwnB.empty w, (Below.refl _ _).alloc (Nat.le_refl _) _⟩
  case round =>
    obtain ⟨k, rfl, hk, hsm, hown, hb⟩ := hrel
    obtain ⟨g2, cp2, rfl, hg2, hc1, hc3⟩ := hown.form hsm
    have hsz := hb.size
    have hel := expB_length D k
    obtain ⟨m, hm⟩ : ∃ m, (expB D k).length = m := ⟨_, rfl⟩
    rw [hm] at hown hc1 hel ⊢
    unfold maxLen at hc3
    have HM := hid hm
    clear hsm hm
    by_cases hlt : k < n
    · obtain ⟨x, hx⟩ : ∃ x, x = D.getD k 0 := ⟨_, rfl⟩
      have hx9 : x ≤ 9 := by rw [hx]; exact HD.out.getD k
      have cx : wr.cell? ⟨g, off + k, none⟩ = some (.int .i64 x) := by
        rw [hx, hb.cell (p := ⟨g, off + k, none⟩) (by show g < _; omega)]; exact H4.out k hlt
      obtain ⟨z, hz⟩ : ∃ z : Int, z = ((hexD x).toNat : Nat) := ⟨_, rfl⟩
      have HDB : Hid (∀ w, Calls Tryd.prog 40 #[.int .i64 x] w fun e w' => e = .returned (.int .u8 z) ∧ w' = w) := fun w => by rw [hz]; exact digitByte_any x (by omega) w
      have HZ := hid hz
      have HXD : Hid (hexD x = UInt8.ofNat (48 + D.getD k 0)) := by unfold Hid; rw [hexD_small x (by omega), hx]
      have hown' : wr.ownsRow w.heap.size 5 1 (.slice (some ⟨g2, 0, none⟩) m cp2) m (byts (expB D k)) := hown.owns HM.out
      clear hown hz hx
      by_cases h1 : k = 1
      · subst h1
        go_wp2_with (at_builtin; refine wpList_append_own _ rfl (.tmp 18) (.tmp 19) 72 rfl w.heap.size 5 ui0 (.int .u8 0) 1 1 Tryd.underlying72 uhi uhz0 uhz1 uhz2 rfl (by decide) _ _ _ rfl (hown'.alloc _) ⟨wr.heap.size, 0, none⟩ 1 1 [.int .u8 46] rfl rfl (cell_one_new _ _ _) (by intro u hu; simp at hu; subst hu; rfl) (by unfold maxLen; omega) (by omega) (by simp; omega) ?_)
        intro v' w1 hown1 hgrow _
        have hb1 : Below w.heap.size w w1 := (hb.alloc (by omega) _).grown hgrow (by simp; omega) (fun k hk => (hown'.lt k hk).1)
        have hownb : OwnB w1 w.heap.size v' (expB D 1 ++ [46]) := OwnB.snoc hown1 HM.out rfl
        have hsm := hownb.someS (by simp)
        obtain ⟨g3, cp3, rfl, hg3, hc4, hc5⟩ := hownb.form hsm
        have hlen : (expB D 1 ++ [46]).length = m + 1 := by rw [List.length_append, HM.out]; rfl
        rw [hlen] at hownb hc4 ⊢
        unfold maxLen at hc5
        have hownc : w1.ownsRow w.heap.size 5 1 (.slice (some ⟨g3, 0, none⟩) (m + 1) cp3) (m + 1) (byts (expB D 1 ++ [46])) := hownb.owns hlen
        have HLE := hid hlen
        have hsz1 := hb1.size
        clear hown' hgrow hown1 hb hownb hsm cx hlen
        go_wp2_with fail
        refine (HDB.out _).mono ?_
        rintro r w2 ⟨rfl, rfl⟩
        go_wp2_with (at_builtin; refine wpList_append_own _ rfl (.tmp 21) (.tmp 24) 72 rfl w.heap.size 5 ui0 (.int .u8 0) 1 1 Tryd.underlying72 uhi uhz0 uhz1 uhz2 rfl (by decide) _ _ _ rfl (hownc.alloc _) ⟨w2.heap.size, 0, none⟩ 1 1 [.int .u8 z] rfl rfl (cell_one_new _ _ _) (by intro u hu; simp at hu; subst hu; rfl) (by unfold maxLen; omega) (by omega) (by simp; omega) ?_)
        intro v2 w3 hown3 hgrow3 _
        have hb3 : Hid (Below w.heap.size w w3) := (hb1.alloc (by omega) _).grown hgrow3 (by simp; omega) (fun k hk => (hownc.lt k hk).1)
        have hown4 : Hid (OwnB w3 w.heap.size v2 (expB D 2)) := by
          unfold Hid
          have := OwnB.snoc (d := hexD x) hown3 HLE.out HZ.out
          rw [HXD.out] at this; exact this
        clear hownc hgrow3 hown3 hb1
        go_wp2
        go_roundw
        case rel => exact ⟨2, by go_num, by omega, hown4.out.someS (by simp [expB]), hown4.out, hb3.out⟩
        case measure => simp [intOf]; omega
      · have t1 : ((k : Int) == 1) = false := by rw [beq_eq_false_iff_ne]; omega
        go_wp2_with fail
        refine (HDB.out _).mono ?_
        rintro r w2 ⟨rfl, rfl⟩
        go_wp2_with (at_builtin; refine wpList_append_own _ rfl (.tmp 21) (.tmp 24) 72 rfl w.heap.size 5 ui0 (.int .u8 0) 1 1 Tryd.underlying72 uhi uhz0 uhz1 uhz2 rfl (by decide) _ _ _ rfl (hown'.alloc _) ⟨w2.heap.size, 0, none⟩ 1 1 [.int .u8 z] rfl rfl (cell_one_new _ _ _) (by intro u hu; simp at hu; subst hu; rfl) (by unfold maxLen; omega) (by omega) (by simp; omega) ?_)
        intro v' w1 hown1 hgrow _
        have hb1 : Hid (Below w.heap.size w w1) := (hb.alloc (by omega) _).grown hgrow (by simp; omega) (fun k hk => (hown'.lt k hk).1)
        have hown4 : Hid (OwnB w1 w.heap.size v' (expB D (k + 1))) := by
          unfold Hid
          have := OwnB.snoc (d := hexD x) hown1 HM.out HZ.out
          rw [HXD.out] at this
          rw [expB, if_neg h1, List.append_nil]; exact this
        clear hown' hgrow hown1 hb cx
        go_wp2
        go_roundw
        case rel => exact ⟨k + 1, by go_num, by omega, hown4.out.someS (by simp [expB]; omega), hown4.out, hb1.out⟩
        case measure => simp [intOf]; omega
    · have hkn : k = n := by omega
      subst hkn
      have HHB : Hid (HeldB wr w.heap.size (.slice (some ⟨g2, 0, none⟩) m cp2) (expB D k)) := ⟨hown, HTAB.out.below hb⟩
      have HBR := hid hb
      have HIT : Hid (∀ wx, Tab wx → Calls Tryd.prog 41 #[.int .i64 pw] wx fun e w' => e = .returned (.string (str (Lib.itoa pw))) ∧ Below wx.heap.size wx w') := fun wx hx => itoa_any pw (by omega) (by omega) wx hx
      have hts : (str (expB D k)).size ≤ 4000 := by rw [str_size, HM.out]; omega
      have his : (str (Lib.itoa pw)).size ≤ 100 := by rw [str_size]; have := Lib.itoa_length_le pw (by omega) (by omega); omega
      have hs1 : (str (expB D k) ++ ⟨#[101]⟩).size ≤ 4001 := by rw [ByteArray.size_append]; have : (⟨#[101]⟩ : ByteArray).size = 1 := rfl; omega
      have r1 : ∀ W : World, (Op.stringOp .add (str (expB D k)) ⟨#[101]⟩).run Tryd.prog W = .ok (.string (str (expB D k) ++ ⟨#[101]⟩)) W := fun W => run_string_add_sum W _ _ (by have : (⟨#[101]⟩ : ByteArray).size = 1 := rfl; omega)
      have r2 : ∀ W : World, (Op.stringOp .add (str (expB D k) ++ ⟨#[101]⟩) (str (Lib.itoa pw))).run Tryd.prog W = .ok (.string (str (expB D k) ++ ⟨#[101]⟩ ++ str (Lib.itoa pw))) W := fun W => run_string_add_sum W _ _ (by omega)
      have HSS : Hid (str (expB D k) ++ ⟨#[101]⟩ ++ str (Lib.itoa pw) = str (expB D k ++ (101 :: Lib.itoa pw))) := by
        unfold Hid
        rw [show (101 :: Lib.itoa pw : List UInt8) = [101] ++ Lib.itoa pw from rfl, ← List.append_assoc, ← str_append, ← str_append]; rfl
      clear hown hb hs1 hts his
      go_wp2_with fail
      go_region_held3 (fun w' => HeldB w' w.heap.size (.slice (some ⟨g2, 0, none⟩) m cp2) (expB D k) ∧ (convert 72 9 (.slice (some ⟨g2, 0, none⟩) m cp2)).run Tryd.prog w' = .ok (.string (str (expB D k))) w')
        (first | exact ⟨HHB.out.next ((Below.refl _ _).drew), (HHB.out.next ((Below.refl _ _).drew)).1.conv HM.out⟩ | exact ⟨HeldB.next (by assumption) hb4, (HeldB.next (by assumption) hb4).1.conv HM.out⟩ | go_keep)
        ((go_at_call 41; refine (HIT.out _ (HeldB.tab (base := w.heap.size) (v := .slice (some ⟨g2, 0, none⟩) m cp2) (T := expB D k) (by assumption))).mono ?_; rintro e w4 ⟨rfl, hb4⟩))
      have HB4 : Hid (Below w.heap.size w w4) := HBR.out.drew.trans (hb4.mono HBR.out.size)
      clear hb4
      go_wp2
      go_ret
      exact ⟨ret_str HSS.out, HB4.out⟩
end Go.Proofs.YtbkdaoicnobllabDoor

namespace Go.Proofs.YtbkdaoicnobllabDoor
open Go.RowKit

/-- The text without a power of ten of n digits D of which b stand behind the point. -/
def fixW (D : List Nat) (n : Nat) (b : Int) : List UInt8 := fixT D (-b) ((n : Int) - b - 1).toNat b.toNat
set_option maxRecDepth 100000 in
set_option maxHeartbeats 1000000 in
theorem wdigitAt_any (g off cap n : Nat) (D : List Nat) (i : Int) (w : World) (hn : D.length = n) (_hcap : n ≤ cap) (_hc2 : cap ≤ 9223372036854775807) (hce : ∀ j, j < n → w.cell? ⟨g, off + j, none⟩ = some (.int .i64 (D.getD j 0 : Nat))) (_hl : n ≤ 30000) :
    Calls Tryd.prog 44 #[.slice (some ⟨g, off, none⟩) n cap, .int .i64 i] w fun r w' => r = .returned (.int .i64 (dAt D i : Nat)) ∧ w' = w := by
  by_cases hi : i < 0
  · have HD : Hid (dAt D i = 0) := by unfold Hid dAt; rw [if_pos hi]
    clear hn hce
    go_enter Tryd.func44, Tryd.ntmps44
    go_wp2
    all_goals go_ret
    all_goals exact ⟨ret_int (by rw [HD.out]; rfl), rfl⟩
  · by_cases hi2 : (n : Int) ≤ i
    · have HD : Hid (dAt D i = 0) := by unfold Hid dAt; rw [if_neg hi, List.getD_eq_getElem?_getD, List.getElem?_eq_none (by omega)]; rfl
      clear hn hce
      go_enter Tryd.func44, Tryd.ntmps44
      go_wp2
      all_goals go_ret
      all_goals exact ⟨ret_int (by rw [HD.out]; rfl), rfl⟩
    · obtain ⟨j, rfl⟩ : ∃ j : Nat, i = j := ⟨i.toNat, by omega⟩
      have HD : Hid (dAt D (j : Int) = D.getD j 0) := by unfold Hid dAt; rw [if_neg hi]; simp
      have cj := hce j (by omega)
      have hjn : j < n := by omega
      clear hn hce
      go_enter Tryd.func44, Tryd.ntmps44
      go_wp2
      all_goals go_ret
      all_goals exact ⟨ret_int (by rw [HD.out]; simp), rfl⟩
set_option maxRecDepth 100000 in
set_option maxHeartbeats 2000000 in
theorem wfix_any (g off cap n : Nat) (D : List Nat) (b : Int) (w : World) (hn : D.length = n) (hl : n ≤ 1500) (hcap : n ≤ cap) (hc2 : cap ≤ 9223372036854775807) (hg : g < w.heap.size) (hce : ∀ j, j < n → w.cell? ⟨g, off + j, none⟩ = some (.int .i64 (D.getD j 0 : Nat))) (hd : Digs D) (hb1 : -400 ≤ b) (hb2 : b ≤ 1500) :
    Calls Tryd.prog 34 #[.slice (some ⟨g, off, none⟩) n cap, .int .i64 b] w fun r w' => r = .returned (.string (str (fixW D n b))) ∧ Below w.heap.size w w' := by
  have HFR0 := fix_rows D b
  have H4 := hid hce
  have HN := hid hn
  have HD := hid hd
  have hl : n ≤ 30000 := by omega
  obtain ⟨ui0, uhi, uhz0, uhz1, uhz2⟩ := info_parts Tryd.info_u8
  rw [hn] at HFR0
  clear hce hn hd
  by_cases hah : (n : Int) - b ≤ 0
  · rw [if_pos hah] at HFR0
    have hown' : (w.alloc (.cells #[] 5)).ownsRow w.heap.size 5 1 (.slice (some ⟨w.heap.size, 0, none⟩) 0 0) 0 (byts []) := OwnB.empty w
    have hb0 : Below w.heap.size w (w.alloc (.cells #[] 5)) := (Below.refl _ _).alloc (Nat.le_refl _) _
    have hsz0 := hb0.size
    go_enter Tryd.func34, Tryd.ntmps34
    go_wp2_with (at_builtin; refine wpList_append_own _ rfl (.tmp 18) (.tmp 19) 72 rfl w.heap.size 5 ui0 (.int .u8 0) 1 1 Tryd.underlying72 uhi uhz0 uhz1 uhz2 rfl (by decide) _ _ _ rfl (hown'.alloc _) ⟨w.heap.size + 1, 0, none⟩ 1 1 [.int .u8 48] rfl rfl (by simp [go_sem]) (by intro u hu; simp at hu; subst hu; rfl) (by unfold maxLen; omega) (by omega) (by simp; omega) ?_)
    intro v' w1 hown1 hgrow _
    have hbz : Hid (Below w.heap.size w w1) := (hb0.alloc (by omega) _).grown hgrow (by simp; omega) (fun k hk => (hown'.lt k hk).1)
    have hownz : Hid (OwnB w1 w.heap.size v' [48]) := OwnB.snoc (T := []) hown1 rfl rfl
    have hsmz : Hid (∃ g c cp, v' = .slice (some ⟨g, 0, none⟩) c cp) := hownz.out.someS (by simp)
    have HPL : Hid (([48] : List UInt8).length ≤ 2000) := by unfold Hid; simp
    have hcnt : ((n : Int) - b).toNat = 0 := by omega
    clear hown' hgrow hown1 hb0 hsz0
    go_wp2
    go_loopw [6, 7] (fun tt ii wr => ii = .int .i64 0 ∧ (∃ g c cp, tt = .slice (some ⟨g, 0, none⟩) c cp) ∧ OwnB wr w.heap.size tt [48] ∧ Below w.heap.size w wr) (fun _ _ _ => 0)
    case atStart => exact ⟨rfl, hsmz.out, hownz.out, hbz.out⟩
    case round =>
      obtain ⟨rfl, hsm, hown, hb⟩ := hrel
      obtain ⟨g2, cp2, rfl, hg2, hc1, hc3⟩ := hown.form hsm
      have hsz := hb.size
      obtain ⟨m, hm⟩ : ∃ m, ([48] : List UInt8).length = m := ⟨_, rfl⟩
      rw [hm] at hown hc1 ⊢
      unfold maxLen at hc3
      have HM := hid hm
      have HF0 := hid HFR0
      have hml : m ≤ 4000 := by rw [← hm]; simp
      have hgo : ¬ (0 : Int) < n - b := by omega
      clear hsm hm HFR0 hsmz hownz hbz hcnt
      have HML : Hid (m ≤ 1999) := by unfold Hid; rw [← HM.out]; first | (simp; done) | (simp [rowT_length]; done) | (simp [rowT_length]; omega)
      by_cases hbp : 0 < b
      · obtain ⟨PP, hPP⟩ : ∃ PP, PP = (([48] : List UInt8)) ++ [46] := ⟨_, rfl⟩
        have HPP := hid hPP
        have HFR : Hid (PP ++ rowT D (-b) (-1) b.toNat = fixW D n b) := by unfold Hid fixW; rw [hPP]; have := HF0.out; rw [if_pos hbp] at this; rw [← this]; try simp
        clear hPP
        have hown' : wr.ownsRow w.heap.size 5 1 (.slice (some ⟨g2, 0, none⟩) m cp2) m (byts (([48] : List UInt8))) := hown.owns HM.out
        clear hown
        go_wp2_with (at_builtin; refine wpList_append_own _ rfl (.tmp 36) (.tmp 37) 72 rfl w.heap.size 5 ui0 (.int .u8 0) 1 1 Tryd.underlying72 uhi uhz0 uhz1 uhz2 rfl (by decide) _ _ _ rfl (hown'.alloc _) ⟨wr.heap.size, 0, none⟩ 1 1 [.int .u8 46] rfl rfl (cell_one_new _ _ _) (by intro u hu; simp at hu; subst hu; rfl) (by unfold maxLen; omega) (by omega) (by simp; omega) ?_)
        intro v' w1 hown1 hgrow _
        have hb1 : Hid (Below w.heap.size w w1) := (hb.alloc (by omega) _).grown hgrow (by simp; omega) (fun k hk => (hown'.lt k hk).1)
        have hownb : Hid (OwnB w1 w.heap.size v' PP) := by unfold Hid; rw [HPP.out]; exact OwnB.snoc hown1 HM.out rfl
        have hsmb : Hid (∃ g c cp, v' = .slice (some ⟨g, 0, none⟩) c cp) := hownb.out.someS (by rw [HPP.out]; first | (simp; done) | (simp; omega))
        have HPL : Hid (PP.length ≤ 2000) := by unfold Hid; rw [HPP.out]; have h1 := HML.out; have h2 := HM.out; rw [List.length_append]; simp only [List.length_singleton] at *; omega
        clear hown' hgrow hown1 hb
        go_wp2
        go_loopw [6, 9] (fun tt ii wr => ∃ k : Nat, ii = .int .i64 ((n - b) + k) ∧ k ≤ b.toNat ∧ (∃ g c cp, tt = .slice (some ⟨g, 0, none⟩) c cp) ∧ OwnB wr w.heap.size tt (PP ++ rowT D (-b) (-1) k) ∧ Below w.heap.size w wr) (fun _ ii _ => ((n - b) + b.toNat - intOf ii).toNat)
        case atStart => exact ⟨0, by simp, Nat.zero_le _, hsmb.out, by simpa [rowT] using hownb.out, hb1.out⟩
        case round =>
          obtain ⟨k, rfl, hk, hsm, hown, hb⟩ := hrel
          obtain ⟨g2, cp2, rfl, hg2, hc1, hc3⟩ := hown.form hsm
          have hsz := hb.size
          obtain ⟨m, hm⟩ : ∃ m, (PP ++ rowT D (-b) (-1) k).length = m := ⟨_, rfl⟩
          have hml : m ≤ 4000 := by rw [← hm, List.length_append, rowT_length]; have := HPL.out; omega
          rw [hm] at hown hc1 ⊢
          unfold maxLen at hc3
          have HM := hid hm
          obtain ⟨J, hJ⟩ : ∃ J : Int, (n - b) + (k : Int) = J := ⟨_, rfl⟩
          rw [hJ]
          have hJb1 : -10000 ≤ J := by omega
          have hJb2 : J ≤ 10000 := by omega
          clear hsm hm
          by_cases hlt : k < b.toNat
          · have hJl : J < n := by omega
            have HDX := hid (wdigitAt_any g off cap n D J wr HN.out hcap hc2 (fun j hj => by rw [hb.cell (p := ⟨g, off + j, none⟩) (by show g < _; omega)]; exact H4.out j hj) hl)
            obtain ⟨x, hx⟩ : ∃ x, x = dAt D J := ⟨_, rfl⟩
            have hx9 : x ≤ 9 := by rw [hx]; exact dAt_le HD.out J
            rw [← hx] at HDX
            obtain ⟨z, hz⟩ : ∃ z : Int, z = ((hexD x).toNat : Nat) := ⟨_, rfl⟩
            have HDB : Hid (∀ w, Calls Tryd.prog 40 #[.int .i64 x] w fun e w' => e = .returned (.int .u8 z) ∧ w' = w) := fun w => by rw [hz]; exact digitByte_any x (by omega) w
            have HZ := hid hz
            have HXD : Hid (rowT D (-b) (-1) (k + 1) = rowT D (-b) (-1) k ++ [hexD x]) := by
              unfold Hid
              rw [hexD_small x (by omega), hx, ← dig_dAt D b J]
              show rowT D (-b) (-1) k ++ [UInt8.ofNat (48 + dig D (-b) (-1 - k))] = _
              rw [show (-1) - (k : Int) = D.length - b - 1 - J from by have := HN.out; omega]
            have hown' : wr.ownsRow w.heap.size 5 1 (.slice (some ⟨g2, 0, none⟩) m cp2) m (byts (PP ++ rowT D (-b) (-1) k)) := hown.owns HM.out
            have HJ := hid hJ
            clear hown hz hx hJ
            go_wp2_with fail
            refine HDX.out.mono ?_
            rintro r w2 ⟨rfl, rfl⟩
            clear HDX
            go_wp2_with fail
            refine (HDB.out _).mono ?_
            rintro r w3 ⟨rfl, rfl⟩
            go_wp2_with (at_builtin; refine wpList_append_own _ rfl (.tmp 49) (.tmp 52) 72 rfl w.heap.size 5 ui0 (.int .u8 0) 1 1 Tryd.underlying72 uhi uhz0 uhz1 uhz2 rfl (by decide) _ _ _ rfl (hown'.alloc _) ⟨w3.heap.size, 0, none⟩ 1 1 [.int .u8 z] rfl rfl (cell_one_new _ _ _) (by intro u hu; simp at hu; subst hu; rfl) (by unfold maxLen; omega) (by omega) (by simp; omega) ?_)
            intro v' w1 hown1 hgrow _
            have hb1 : Hid (Below w.heap.size w w1) := (hb.alloc (by omega) _).grown hgrow (by simp; omega) (fun k hk => (hown'.lt k hk).1)
            have hown4 : Hid (OwnB w1 w.heap.size v' (PP ++ rowT D (-b) (-1) (k + 1))) := by
              unfold Hid
              have := OwnB.snoc (d := hexD x) hown1 HM.out HZ.out
              rw [HXD.out, ← List.append_assoc]; exact this
            clear hown' hgrow hown1 hb
            go_wp2
            go_roundw
            case rel => exact ⟨k + 1, congrArg (Value.int .i64) (by have := HJ.out; omega), by omega, hown4.out.someS (by simp [rowT]; omega), hown4.out, hb1.out⟩
            case measure => have := HJ.out; simp [intOf]; omega
          · have hkn : k = b.toNat := by omega
            have hJl : ¬ (J < n) := by omega
            rw [hkn] at HM hown
            clear hJ hlt hk
            have hcv := hown.conv HM.out
            have HBF := hid hb
            have HSS : Hid (str (PP ++ rowT D (-b) (-1) b.toNat) = str (fixW D n b)) := by
              unfold Hid; rw [HFR.out]
            clear hown hb
            go_wp2
            go_ret
            exact ⟨ret_str HSS.out, HBF.out⟩
      · obtain ⟨PP, hPP⟩ : ∃ PP, PP = (([48] : List UInt8)) := ⟨_, rfl⟩
        have HPP := hid hPP
        have HFR : Hid (PP ++ rowT D (-b) (-1) b.toNat = fixW D n b) := by unfold Hid fixW; rw [hPP]; have := HF0.out; rw [if_neg hbp] at this; rw [← this]; try simp
        clear hPP
        have hownb : Hid (OwnB wr w.heap.size (.slice (some ⟨g2, 0, none⟩) m cp2) PP) := by unfold Hid; rw [HPP.out]; exact hown
        have hb1 := hid hb
        have HPL : Hid (PP.length ≤ 2000) := by unfold Hid; rw [HPP.out, HM.out]; have := HML.out; omega
        clear hown hb
        go_wp2
        go_loopw [6, 9] (fun tt ii wr => ∃ k : Nat, ii = .int .i64 ((n - b) + k) ∧ k ≤ b.toNat ∧ (∃ g c cp, tt = .slice (some ⟨g, 0, none⟩) c cp) ∧ OwnB wr w.heap.size tt (PP ++ rowT D (-b) (-1) k) ∧ Below w.heap.size w wr) (fun _ ii _ => ((n - b) + b.toNat - intOf ii).toNat)
        case atStart => exact ⟨0, by simp, Nat.zero_le _, ⟨_, _, _, rfl⟩, by simpa [rowT] using hownb.out, hb1.out⟩
        case round =>
          obtain ⟨k, rfl, hk, hsm, hown, hb⟩ := hrel
          obtain ⟨g2, cp2, rfl, hg2, hc1, hc3⟩ := hown.form hsm
          have hsz := hb.size
          obtain ⟨m, hm⟩ : ∃ m, (PP ++ rowT D (-b) (-1) k).length = m := ⟨_, rfl⟩
          have hml : m ≤ 4000 := by rw [← hm, List.length_append, rowT_length]; have := HPL.out; omega
          rw [hm] at hown hc1 ⊢
          unfold maxLen at hc3
          have HM := hid hm
          obtain ⟨J, hJ⟩ : ∃ J : Int, (n - b) + (k : Int) = J := ⟨_, rfl⟩
          rw [hJ]
          have hJb1 : -10000 ≤ J := by omega
          have hJb2 : J ≤ 10000 := by omega
          clear hsm hm
          by_cases hlt : k < b.toNat
          · omega
          · have hkn : k = b.toNat := by omega
            have hJl : ¬ (J < n) := by omega
            rw [hkn] at HM hown
            clear hJ hlt hk
            have hcv := hown.conv HM.out
            have HBF := hid hb
            have HSS : Hid (str (PP ++ rowT D (-b) (-1) b.toNat) = str (fixW D n b)) := by
              unfold Hid; rw [HFR.out]
            clear hown hb
            go_wp2
            go_ret
            exact ⟨ret_str HSS.out, HBF.out⟩
  · rw [if_neg hah] at HFR0
    obtain ⟨P0, hP0⟩ : ∃ P0 : List UInt8, P0 = [] := ⟨_, rfl⟩
    have HP0 := hid hP0
    have HPL : Hid (P0.length ≤ 2000) := by unfold Hid; rw [hP0]; simp
    clear hP0
    have HF0 := hid HFR0
    clear HFR0
    go_enter Tryd.func34, Tryd.ntmps34
    go_wp2
    go_loopw [6, 7] (fun tt ii wr => ∃ k : Nat, ii = .int .i64 (0 + k) ∧ k ≤ ((n : Int) - b).toNat ∧ (∃ g c cp, tt = .slice (some ⟨g, 0, none⟩) c cp) ∧ OwnB wr w.heap.size tt (P0 ++ rowT D (-b) ((n : Int) - b - 1) k) ∧ Below w.heap.size w wr) (fun _ ii _ => (0 + ((n : Int) - b).toNat - intOf ii).toNat)
    case atStart => exact ⟨0, by simp, Nat.zero_le _, ⟨_, _, _, rfl⟩, by rw [HP0.out]; exact OwnB.empty w, (Below.refl _ _).alloc (Nat.le_refl _) _⟩
    case round =>
      obtain ⟨k, rfl, hk, hsm, hown, hb⟩ := hrel
      obtain ⟨g2, cp2, rfl, hg2, hc1, hc3⟩ := hown.form hsm
      have hsz := hb.size
      obtain ⟨m, hm⟩ : ∃ m, (P0 ++ rowT D (-b) ((n : Int) - b - 1) k).length = m := ⟨_, rfl⟩
      have hml : m ≤ 4000 := by rw [← hm, List.length_append, rowT_length]; have := HPL.out; omega
      rw [hm] at hown hc1 ⊢
      unfold maxLen at hc3
      have HM := hid hm
      obtain ⟨J, hJ⟩ : ∃ J : Int, 0 + (k : Int) = J := ⟨_, rfl⟩
      rw [hJ]
      have hJb1 : -10000 ≤ J := by omega
      have hJb2 : J ≤ 10000 := by omega
      clear hsm hm
      by_cases hlt : k < ((n : Int) - b).toNat
      · have hJl : J < (n : Int) - b := by omega
        have HDX := hid (wdigitAt_any g off cap n D J wr HN.out hcap hc2 (fun j hj => by rw [hb.cell (p := ⟨g, off + j, none⟩) (by show g < _; omega)]; exact H4.out j hj) hl)
        obtain ⟨x, hx⟩ : ∃ x, x = dAt D J := ⟨_, rfl⟩
        have hx9 : x ≤ 9 := by rw [hx]; exact dAt_le HD.out J
        rw [← hx] at HDX
        obtain ⟨z, hz⟩ : ∃ z : Int, z = ((hexD x).toNat : Nat) := ⟨_, rfl⟩
        have HDB : Hid (∀ w, Calls Tryd.prog 40 #[.int .i64 x] w fun e w' => e = .returned (.int .u8 z) ∧ w' = w) := fun w => by rw [hz]; exact digitByte_any x (by omega) w
        have HZ := hid hz
        have HXD : Hid (rowT D (-b) ((n : Int) - b - 1) (k + 1) = rowT D (-b) ((n : Int) - b - 1) k ++ [hexD x]) := by
          unfold Hid
          rw [hexD_small x (by omega), hx, ← dig_dAt D b J]
          show rowT D (-b) ((n : Int) - b - 1) k ++ [UInt8.ofNat (48 + dig D (-b) ((n : Int) - b - 1 - k))] = _
          rw [show ((n : Int) - b - 1) - (k : Int) = D.length - b - 1 - J from by have := HN.out; omega]
        have hown' : wr.ownsRow w.heap.size 5 1 (.slice (some ⟨g2, 0, none⟩) m cp2) m (byts (P0 ++ rowT D (-b) ((n : Int) - b - 1) k)) := hown.owns HM.out
        have HJ := hid hJ
        clear hown hz hx hJ
        go_wp2_with fail
        refine HDX.out.mono ?_
        rintro r w2 ⟨rfl, rfl⟩
        clear HDX
        go_wp2_with fail
        refine (HDB.out _).mono ?_
        rintro r w3 ⟨rfl, rfl⟩
        go_wp2_with (at_builtin; refine wpList_append_own _ rfl (.tmp 29) (.tmp 32) 72 rfl w.heap.size 5 ui0 (.int .u8 0) 1 1 Tryd.underlying72 uhi uhz0 uhz1 uhz2 rfl (by decide) _ _ _ rfl (hown'.alloc _) ⟨w3.heap.size, 0, none⟩ 1 1 [.int .u8 z] rfl rfl (cell_one_new _ _ _) (by intro u hu; simp at hu; subst hu; rfl) (by unfold maxLen; omega) (by omega) (by simp; omega) ?_)
        intro v' w1 hown1 hgrow _
        have hb1 : Hid (Below w.heap.size w w1) := (hb.alloc (by omega) _).grown hgrow (by simp; omega) (fun k hk => (hown'.lt k hk).1)
        have hown4 : Hid (OwnB w1 w.heap.size v' (P0 ++ rowT D (-b) ((n : Int) - b - 1) (k + 1))) := by
          unfold Hid
          have := OwnB.snoc (d := hexD x) hown1 HM.out HZ.out
          rw [HXD.out, ← List.append_assoc]; exact this
        clear hown' hgrow hown1 hb
        go_wp2
        go_roundw
        case rel => exact ⟨k + 1, congrArg (Value.int .i64) (by have := HJ.out; omega), by omega, hown4.out.someS (by simp [rowT]; omega), hown4.out, hb1.out⟩
        case measure => have := HJ.out; simp [intOf]; omega
      · have hkn : k = ((n : Int) - b).toNat := by omega
        have hJl : ¬ (J < (n : Int) - b) := by omega
        rw [hkn] at HM hown
        clear hJ hlt hk
        have HML : Hid (m ≤ 1999) := by unfold Hid; rw [← HM.out]; rw [HP0.out]; first | (simp; done) | (simp [rowT_length]; done) | (simp [rowT_length]; omega)
        by_cases hbp : 0 < b
        · obtain ⟨PP, hPP⟩ : ∃ PP, PP = (P0 ++ rowT D (-b) ((n : Int) - b - 1) ((n : Int) - b).toNat) ++ [46] := ⟨_, rfl⟩
          have HPP := hid hPP
          have HFR : Hid (PP ++ rowT D (-b) (-1) b.toNat = fixW D n b) := by unfold Hid fixW; rw [hPP]; have := HF0.out; rw [if_pos hbp] at this; rw [← this]; rw [HP0.out]; try simp
          clear hPP
          have hown' : wr.ownsRow w.heap.size 5 1 (.slice (some ⟨g2, 0, none⟩) m cp2) m (byts (P0 ++ rowT D (-b) ((n : Int) - b - 1) ((n : Int) - b).toNat)) := hown.owns HM.out
          clear hown
          go_wp2_with (at_builtin; refine wpList_append_own _ rfl (.tmp 36) (.tmp 37) 72 rfl w.heap.size 5 ui0 (.int .u8 0) 1 1 Tryd.underlying72 uhi uhz0 uhz1 uhz2 rfl (by decide) _ _ _ rfl (hown'.alloc _) ⟨wr.heap.size, 0, none⟩ 1 1 [.int .u8 46] rfl rfl (cell_one_new _ _ _) (by intro u hu; simp at hu; subst hu; rfl) (by unfold maxLen; omega) (by omega) (by simp; omega) ?_)
          intro v' w1 hown1 hgrow _
          have hb1 : Hid (Below w.heap.size w w1) := (hb.alloc (by omega) _).grown hgrow (by simp; omega) (fun k hk => (hown'.lt k hk).1)
          have hownb : Hid (OwnB w1 w.heap.size v' PP) := by unfold Hid; rw [HPP.out]; exact OwnB.snoc hown1 HM.out rfl
          have hsmb : Hid (∃ g c cp, v' = .slice (some ⟨g, 0, none⟩) c cp) := hownb.out.someS (by rw [HPP.out]; first | (simp; done) | (simp; omega))
          have HPL : Hid (PP.length ≤ 2000) := by unfold Hid; rw [HPP.out]; have h1 := HML.out; have h2 := HM.out; rw [List.length_append]; simp only [List.length_singleton] at *; omega
          clear hown' hgrow hown1 hb
          go_wp2
          go_loopw [6, 9] (fun tt ii wr => ∃ k : Nat, ii = .int .i64 ((n - b) + k) ∧ k ≤ b.toNat ∧ (∃ g c cp, tt = .slice (some ⟨g, 0, none⟩) c cp) ∧ OwnB wr w.heap.size tt (PP ++ rowT D (-b) (-1) k) ∧ Below w.heap.size w wr) (fun _ ii _ => ((n - b) + b.toNat - intOf ii).toNat)
          case atStart => exact ⟨0, by simp, Nat.zero_le _, hsmb.out, by simpa [rowT] using hownb.out, hb1.out⟩
          case round =>
            obtain ⟨k, rfl, hk, hsm, hown, hb⟩ := hrel
            obtain ⟨g2, cp2, rfl, hg2, hc1, hc3⟩ := hown.form hsm
            have hsz := hb.size
            obtain ⟨m, hm⟩ : ∃ m, (PP ++ rowT D (-b) (-1) k).length = m := ⟨_, rfl⟩
            have hml : m ≤ 4000 := by rw [← hm, List.length_append, rowT_length]; have := HPL.out; omega
            rw [hm] at hown hc1 ⊢
            unfold maxLen at hc3
            have HM := hid hm
            obtain ⟨J, hJ⟩ : ∃ J : Int, (n - b) + (k : Int) = J := ⟨_, rfl⟩
            rw [hJ]
            have hJb1 : -10000 ≤ J := by omega
            have hJb2 : J ≤ 10000 := by omega
            clear hsm hm
            by_cases hlt : k < b.toNat
            · have hJl : J < n := by omega
              have HDX := hid (wdigitAt_any g off cap n D J wr HN.out hcap hc2 (fun j hj => by rw [hb.cell (p := ⟨g, off + j, none⟩) (by show g < _; omega)]; exact H4.out j hj) hl)
              obtain ⟨x, hx⟩ : ∃ x, x = dAt D J := ⟨_, rfl⟩
              have hx9 : x ≤ 9 := by rw [hx]; exact dAt_le HD.out J
              rw [← hx] at HDX
              obtain ⟨z, hz⟩ : ∃ z : Int, z = ((hexD x).toNat : Nat) := ⟨_, rfl⟩
              have HDB : Hid (∀ w, Calls Tryd.prog 40 #[.int .i64 x] w fun e w' => e = .returned (.int .u8 z) ∧ w' = w) := fun w => by rw [hz]; exact digitByte_any x (by omega) w
              have HZ := hid hz
              have HXD : Hid (rowT D (-b) (-1) (k + 1) = rowT D (-b) (-1) k ++ [hexD x]) := by
                unfold Hid
                rw [hexD_small x (by omega), hx, ← dig_dAt D b J]
                show rowT D (-b) (-1) k ++ [UInt8.ofNat (48 + dig D (-b) (-1 - k))] = _
                rw [show (-1) - (k : Int) = D.length - b - 1 - J from by have := HN.out; omega]
              have hown' : wr.ownsRow w.heap.size 5 1 (.slice (some ⟨g2, 0, none⟩) m cp2) m (byts (PP ++ rowT D (-b) (-1) k)) := hown.owns HM.out
              have HJ := hid hJ
              clear hown hz hx hJ
              go_wp2_with fail
              refine HDX.out.mono ?_
              rintro r w2 ⟨rfl, rfl⟩
              clear HDX
              go_wp2_with fail
              refine (HDB.out _).mono ?_
              rintro r w3 ⟨rfl, rfl⟩
              go_wp2_with (at_builtin; refine wpList_append_own _ rfl (.tmp 49) (.tmp 52) 72 rfl w.heap.size 5 ui0 (.int .u8 0) 1 1 Tryd.underlying72 uhi uhz0 uhz1 uhz2 rfl (by decide) _ _ _ rfl (hown'.alloc _) ⟨w3.heap.size, 0, none⟩ 1 1 [.int .u8 z] rfl rfl (cell_one_new _ _ _) (by intro u hu; simp at hu; subst hu; rfl) (by unfold maxLen; omega) (by omega) (by simp; omega) ?_)
              intro v' w1 hown1 hgrow _
              have hb1 : Hid (Below w.heap.size w w1) := (hb.alloc (by omega) _).grown hgrow (by simp; omega) (fun k hk => (hown'.lt k hk).1)
              have hown4 : Hid (OwnB w1 w.heap.size v' (PP ++ rowT D (-b) (-1) (k + 1))) := by
                unfold Hid
                have := OwnB.snoc (d := hexD x) hown1 HM.out HZ.out
                rw [HXD.out, ← List.append_assoc]; exact this
              clear hown' hgrow hown1 hb
              go_wp2
              go_roundw
              case rel => exact ⟨k + 1, congrArg (Value.int .i64) (by have := HJ.out; omega), by omega, hown4.out.someS (by simp [rowT]; omega), hown4.out, hb1.out⟩
              case measure => have := HJ.out; simp [intOf]; omega
            · have hkn : k = b.toNat := by omega
              have hJl : ¬ (J < n) := by omega
              rw [hkn] at HM hown
              clear hJ hlt hk
              have hcv := hown.conv HM.out
              have HBF := hid hb
              have HSS : Hid (str (PP ++ rowT D (-b) (-1) b.toNat) = str (fixW D n b)) := by
                unfold Hid; rw [HFR.out]
              clear hown hb
              go_wp2
              go_ret
              exact ⟨ret_str HSS.out, HBF.out⟩
        · obtain ⟨PP, hPP⟩ : ∃ PP, PP = (P0 ++ rowT D (-b) ((n : Int) - b - 1) ((n : Int) - b).toNat) := ⟨_, rfl⟩
          have HPP := hid hPP
          have HFR : Hid (PP ++ rowT D (-b) (-1) b.toNat = fixW D n b) := by unfold Hid fixW; rw [hPP]; have := HF0.out; rw [if_neg hbp] at this; rw [← this]; rw [HP0.out]; try simp
          clear hPP
          have hownb : Hid (OwnB wr w.heap.size (.slice (some ⟨g2, 0, none⟩) m cp2) PP) := by unfold Hid; rw [HPP.out]; exact hown
          have hb1 := hid hb
          have HPL : Hid (PP.length ≤ 2000) := by unfold Hid; rw [HPP.out, HM.out]; have := HML.out; omega
          clear hown hb
          go_wp2
          go_loopw [6, 9] (fun tt ii wr => ∃ k : Nat, ii = .int .i64 ((n - b) + k) ∧ k ≤ b.toNat ∧ (∃ g c cp, tt = .slice (some ⟨g, 0, none⟩) c cp) ∧ OwnB wr w.heap.size tt (PP ++ rowT D (-b) (-1) k) ∧ Below w.heap.size w wr) (fun _ ii _ => ((n - b) + b.toNat - intOf ii).toNat)
          case atStart => exact ⟨0, by simp, Nat.zero_le _, ⟨_, _, _, rfl⟩, by simpa [rowT] using hownb.out, hb1.out⟩
          case round =>
            obtain ⟨k, rfl, hk, hsm, hown, hb⟩ := hrel
            obtain ⟨g2, cp2, rfl, hg2, hc1, hc3⟩ := hown.form hsm
            have hsz := hb.size
            obtain ⟨m, hm⟩ : ∃ m, (PP ++ rowT D (-b) (-1) k).length = m := ⟨_, rfl⟩
            have hml : m ≤ 4000 := by rw [← hm, List.length_append, rowT_length]; have := HPL.out; omega
            rw [hm] at hown hc1 ⊢
            unfold maxLen at hc3
            have HM := hid hm
            obtain ⟨J, hJ⟩ : ∃ J : Int, (n - b) + (k : Int) = J := ⟨_, rfl⟩
            rw [hJ]
            have hJb1 : -10000 ≤ J := by omega
            have hJb2 : J ≤ 10000 := by omega
            clear hsm hm
            by_cases hlt : k < b.toNat
            · omega
            · have hkn : k = b.toNat := by omega
              have hJl : ¬ (J < n) := by omega
              rw [hkn] at HM hown
              clear hJ hlt hk
              have hcv := hown.conv HM.out
              have HBF := hid hb
              have HSS : Hid (str (PP ++ rowT D (-b) (-1) b.toNat) = str (fixW D n b)) := by
                unfold Hid; rw [HFR.out]
              clear hown hb
              go_wp2
              go_ret
              exact ⟨ret_str HSS.out, HBF.out⟩
end Go.Proofs.YtbkdaoicnobllabDoor
