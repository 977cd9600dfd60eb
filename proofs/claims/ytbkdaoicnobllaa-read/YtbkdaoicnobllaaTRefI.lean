import Derived.Test.YtbkdaoicnobllaaTRefH

namespace Go.Proofs.Ytbkdaoicnobllaa
open Go.RowKit

set_option maxRecDepth 100000 in
set_option maxHeartbeats 1000000 in
theorem decimal_any (s : ByteArray) (w : World) (hs : s.size ≤ 900) (hok : ∀ c, c ∈ ahead (chs s) 101 → c = 46 ∨ isDig c = true) :
    Calls Try.prog 36 #[.string s] w fun r w' => Below w.heap.size w w' ∧
      ∃ v' L' e', r = .returned (.agg #[v', .int .i64 e']) ∧ Out w' v' L' e' 900 (expOf (chs s) 101 - (decScan (ahead (chs s) 101)).2.1) (expOf (chs s) 101 - (decScan (ahead (chs s) 101)).2.1 + (decScan (ahead (chs s) 101)).1.length) (fun g => w.heap.size ≤ g)
        (fun K => val K (decScan (ahead (chs s) 101)).1 (expOf (chs s) 101 - (decScan (ahead (chs s) 101)).2.1)) := by
  have HL := hid (chs_length s)
  have HOK := hid hok
  clear hok
  obtain ⟨i0, hi, hz0, hz1, hz2⟩ := info_parts Try.info_int
  go_enter Try.func36, Try.ntmps36
  go_wp2
  go_loopw [3, 4, 5, 6] (fun o bh sn i wr => ∃ k b : Nat, ∃ t : Bool, ∃ O : List Nat, k ≤ s.size ∧ i = .int .i64 k ∧ bh = .int .i64 b ∧ b ≤ k ∧ sn = .bool t ∧ O.length ≤ k ∧ Own wr (w.heap.size + 1) o O ∧ Hid (decScan ((chs s).take k) = (O, b, t)) ∧ Hid (∀ j, j < k → (chs s).getD j 0 ≠ 101) ∧
      Below (w.heap.size + 1) (w.alloc (.cells #[.slice none 0 0, .int .i64 0] 69)) wr) (fun _ _ _ i _ => s.size - (intOf i).toNat)
  case atStart => exact ⟨0, 0, false, [], Nat.zero_le _, rfl, rfl, Nat.le_refl _, rfl, Nat.le_refl _, Own.nil _ _, rfl, fun j hj => absurd hj (by omega), Below.refl _ _⟩
  case round =>
    obtain ⟨k, b, t, O, hk, rfl, rfl, hbk, rfl, hOk, hown, HS, HN, hb⟩ := hrel
    have hsz := hb.size
    simp at hsz
    by_cases hlen : k < s.size
    · have HG := hid (chs_get s k hlen)
      have HT := hid (take_snoc_getD (chs s) k (by rw [HL.out]; exact hlen))
      by_cases he : s[k].toNat = 101
      · have hbe : (((s[k].toNat : Nat) : Int) != 101) = false := by simp [he]
        have HA := hid (ahead_take (chs s) 101 k (by rw [HL.out]; exact hk) HN.out (fun _ => by rw [HG.out]; exact he))
        clear he
        have HDG : Hid (Digs O) := by
          have h1 := decScan_digs (ahead (chs s) 101) HOK.out
          rw [HA.out, HS.out] at h1
          exact h1
        have hx := exponent_any s 101 wr hs
        rw [show ((101 : Nat) : Int) = 101 from rfl] at hx
        have hbd := expOf_bd (chs s) 101
        go_wp2_with fail
        refine hx.mono ?_
        rintro r w1 ⟨rfl, rfl⟩
        obtain ⟨E, hE⟩ : ∃ E, E = expOf (chs s) 101 := ⟨_, rfl⟩
        rw [← hE] at hbd ⊢
        have HEE := hid hE
        clear hE hx
        go_wp2_with fail
        refine (made_any _ O (E - b) _ hown.row HDG.out (by omega) (by omega)).mono ?_
        rintro r w2 ⟨hb2, v', L', e', rfl, hout⟩
        have hb3 := below_next hb hb2 (by omega)
        have hform := hown.form
        have x0 : w2.cell? ⟨w.heap.size, 0, none⟩ = some (.slice none 0 0) := (hb3.cell (p := ⟨w.heap.size, 0, none⟩) (by simp)).trans (by simp [go_sem])
        have x1 : w2.cell? ⟨w.heap.size, 1, none⟩ = some (.int .i64 0) := (hb3.cell (p := ⟨w.heap.size, 1, none⟩) (by simp)).trans (by simp [go_sem])
        have f0 : w2.frozen? ⟨w.heap.size, 0, none⟩ = false := (hb3.frozen (p := ⟨w.heap.size, 0, none⟩) (by simp)).trans (by simp [go_sem])
        have f1 : w2.frozen? ⟨w.heap.size, 1, none⟩ = false := (hb3.frozen (p := ⟨w.heap.size, 1, none⟩) (by simp)).trans (by simp [go_sem])
        have HB := hid (((Below.refl w.heap.size w).alloc (Nat.le_refl _) (.cells #[.slice none 0 0, .int .i64 0] 69)).trans (hb3.mono (B' := w.heap.size) (by omega)))
        obtain ⟨ao, cp, hv⟩ := hout.row.isSlice
        rw [hv] at hout
        subst hv
        have HF := hid hform
        clear hb hb2 hb3 hown hform
        go_wp2
        refine bodyPost_ret (v := .agg #[.slice ao L'.length cp, .int .i64 e']) (dec_results rfl _ _ w.heap.size _ _ rfl (two_cells x0 x1).1 (two_cells x0 x1).2) rfl ⟨below_two HB.out (Nat.le_refl _) _ _, _, L', e', rfl, ?_⟩
        rw [HA.out, HS.out, ← HEE.out]
        have h9 : Out w2 (.slice ao L'.length cp) L' e' 900 (E - b) (E - b + O.length) (fun g => w.heap.size + 1 ≤ g) (fun K => val K O (E - b)) :=
          hout.mono (by omega) (Int.le_refl _) (Int.le_refl _) (fun g hg => by
            rcases HF.out with ⟨_, h⟩ | ⟨g', cp', h, hg1, _⟩
            · rw [h] at hg; simp [Value.ownBlock] at hg
            · rw [h] at hg; simp [Value.ownBlock] at hg; omega) (fun _ _ => rfl)
        exact ((h9.setCell _ _ (by simp)).setCell _ _ (by simp)).mono (Nat.le_refl _) (Int.le_refl _) (Int.le_refl _) (fun g hg => by omega) (fun _ _ => rfl)
      · have hbe : (((s[k].toNat : Nat) : Int) != 101) = true := by simp; omega
        have HE := hid he
        clear he
        by_cases hp : s[k].toNat = 46
        · have hbp : (((s[k].toNat : Nat) : Int) == 46) = true := by simp [hp]
          have HP := hid hp
          clear hp
          go_wp2
          go_roundw
          case rel => exact ⟨k + 1, b, true, O, by omega, by go_num, rfl, by omega, rfl, by omega, hown, by unfold Hid; rw [HT.out, decScan_snoc, HS.out, HG.out, HP.out]; rfl, fun j hj => if h : j = k then by rw [h, HG.out]; exact HE.out else HN.out j (by omega), hb⟩
          case measure => simp [intOf]; omega
        · have hbp : (((s[k].toNat : Nat) : Int) == 46) = false := by rw [beq_eq_false_iff_ne]; omega
          have HP := hid hp
          clear hp
          have hcl : s[k].toNat < 256 := s[k].toNat_lt
          by_cases hdg : 48 ≤ s[k].toNat
          · have hown' : wr.ownsRow (w.heap.size + 1) 3 1 u3 O.length (ints O) := hown
            clear hown
            go_wp2_with (at_builtin; refine wpList_append_own _ rfl (.tmp 24) (.tmp 30) 46 rfl (w.heap.size + 1) 3 i0 (.int .i64 0) 1 8 Try.underlying46 hi hz0 hz1 hz2 rfl (by decide) _ _ _ rfl (hown'.alloc _) ⟨wr.heap.size, 0, none⟩ 1 1 [.int .i64 ((s[k].toNat : Int) - 48)] rfl rfl ?c1 ?c2 ?c3 ?c4 ?c5 ?_)
            case c1 => exact cell_one_new _ _ _
            case c2 => intro u hu; simp at hu; subst hu; rfl
            case c3 => unfold maxLen; omega
            case c4 => omega
            case c5 => simp; omega
            intro v' w1 hown1 hgrow _
            have hb1 := (hb.alloc (by omega) (.cells #[.int .i64 ((s[k].toNat : Int) - 48)] 3)).grown hgrow (by simp; omega) (fun k hk => (hown'.lt k hk).1)
            have hown2 := Own.snoc (d := s[k].toNat - 48) hown1 rfl (by omega)
            clear hown' hgrow hb hown1
            cases t with
            | true =>
              go_wp2
              go_roundw
              case rel => exact ⟨k + 1, b + 1, true, O ++ [s[k].toNat - 48], by omega, by go_num, by go_num, by omega, rfl, by simp; omega, hown2, by unfold Hid; rw [HT.out, decScan_snoc, HS.out, HG.out]; unfold decStep; rw [if_neg HP.out]; simp, fun j hj => if h : j = k then by rw [h, HG.out]; exact HE.out else HN.out j (by omega), hb1⟩
              case measure => simp [intOf]; omega
            | false =>
              go_wp2
              go_roundw
              case rel => exact ⟨k + 1, b, false, O ++ [s[k].toNat - 48], by omega, by go_num, rfl, by omega, rfl, by simp; omega, hown2, by unfold Hid; rw [HT.out, decScan_snoc, HS.out, HG.out]; unfold decStep; rw [if_neg HP.out]; simp, fun j hj => if h : j = k then by rw [h, HG.out]; exact HE.out else HN.out j (by omega), hb1⟩
              case measure => simp [intOf]; omega
          · exfalso
            have hm : s[k].toNat ∈ ahead (chs s) 101 := mem_ahead (chs s) 101 k (by rw [HL.out]; exact hlen) (fun j hj => HN.out j hj) (by rw [HG.out]; exact HE.out) _ HG.out.symm
            rcases HOK.out _ hm with h | h
            · exact HP.out h
            · simp [isDig] at h; omega
    · have HA := hid (ahead_take (chs s) 101 k (by rw [HL.out]; exact hk) HN.out (fun h => by rw [HL.out] at h; omega))
      have HDG : Hid (Digs O) := by
        have h1 := decScan_digs (ahead (chs s) 101) HOK.out
        rw [HA.out, HS.out] at h1
        exact h1
      have hx := exponent_any s 101 wr hs
      rw [show ((101 : Nat) : Int) = 101 from rfl] at hx
      have hbd := expOf_bd (chs s) 101
      go_wp2_with fail
      refine hx.mono ?_
      rintro r w1 ⟨rfl, rfl⟩
      obtain ⟨E, hE⟩ : ∃ E, E = expOf (chs s) 101 := ⟨_, rfl⟩
      rw [← hE] at hbd ⊢
      have HEE := hid hE
      clear hE hx
      go_wp2_with fail
      refine (made_any _ O (E - b) _ hown.row HDG.out (by omega) (by omega)).mono ?_
      rintro r w2 ⟨hb2, v', L', e', rfl, hout⟩
      have hb3 := below_next hb hb2 (by omega)
      have hform := hown.form
      have x0 : w2.cell? ⟨w.heap.size, 0, none⟩ = some (.slice none 0 0) := (hb3.cell (p := ⟨w.heap.size, 0, none⟩) (by simp)).trans (by simp [go_sem])
      have x1 : w2.cell? ⟨w.heap.size, 1, none⟩ = some (.int .i64 0) := (hb3.cell (p := ⟨w.heap.size, 1, none⟩) (by simp)).trans (by simp [go_sem])
      have f0 : w2.frozen? ⟨w.heap.size, 0, none⟩ = false := (hb3.frozen (p := ⟨w.heap.size, 0, none⟩) (by simp)).trans (by simp [go_sem])
      have f1 : w2.frozen? ⟨w.heap.size, 1, none⟩ = false := (hb3.frozen (p := ⟨w.heap.size, 1, none⟩) (by simp)).trans (by simp [go_sem])
      have HB := hid (((Below.refl w.heap.size w).alloc (Nat.le_refl _) (.cells #[.slice none 0 0, .int .i64 0] 69)).trans (hb3.mono (B' := w.heap.size) (by omega)))
      obtain ⟨ao, cp, hv⟩ := hout.row.isSlice
      rw [hv] at hout
      subst hv
      have HF := hid hform
      clear hb hb2 hb3 hown hform
      go_wp2
      refine bodyPost_ret (v := .agg #[.slice ao L'.length cp, .int .i64 e']) (dec_results rfl _ _ w.heap.size _ _ rfl (two_cells x0 x1).1 (two_cells x0 x1).2) rfl ⟨below_two HB.out (Nat.le_refl _) _ _, _, L', e', rfl, ?_⟩
      rw [HA.out, HS.out, ← HEE.out]
      have h9 : Out w2 (.slice ao L'.length cp) L' e' 900 (E - b) (E - b + O.length) (fun g => w.heap.size + 1 ≤ g) (fun K => val K O (E - b)) :=
        hout.mono (by omega) (Int.le_refl _) (Int.le_refl _) (fun g hg => by
          rcases HF.out with ⟨_, h⟩ | ⟨g', cp', h, hg1, _⟩
          · rw [h] at hg; simp [Value.ownBlock] at hg
          · rw [h] at hg; simp [Value.ownBlock] at hg; omega) (fun _ _ => rfl)
      exact ((h9.setCell _ _ (by simp)).setCell _ _ (by simp)).mono (Nat.le_refl _) (Int.le_refl _) (Int.le_refl _) (fun g hg => by omega) (fun _ _ => rfl)

end Go.Proofs.Ytbkdaoicnobllaa

namespace Go.Proofs.Ytbkdaoicnobllaa
open Go.RowKit

set_option maxRecDepth 100000 in
set_option maxHeartbeats 2000000 in
theorem binaryOf_any (s : ByteArray) (w : World) (hs : s.size ≤ 900) (h2 : 2 ≤ s.size) (hok : ∀ c, c ∈ ahead ((chs s).drop 2) 112 → c = 46 ∨ isHexc c = true) :
    Calls Try.prog 33 #[.string s] w fun r w' => Below w.heap.size w w' ∧
      ∃ v', r = .returned (.tuple #[v', .int .i64 (expOf (chs s) 112 - 4 * (hexScan (ahead ((chs s).drop 2) 112)).2.1)]) ∧ Own w' w.heap.size v' (hexScan (ahead ((chs s).drop 2) 112)).1 ∧ (hexScan (ahead ((chs s).drop 2) 112)).1.length ≤ 900 ∧ (hexScan (ahead ((chs s).drop 2) 112)).2.1 ≤ 900 := by
  have HL := hid (chs_length s)
  have HLD : Hid (((chs s).drop 2).length = s.size - 2) := by unfold Hid; rw [List.length_drop, HL.out]
  have HOK := hid hok
  clear hok
  obtain ⟨i0, hi, hz0, hz1, hz2⟩ := info_parts Try.info_int
  go_enter Try.func33, Try.ntmps33
  go_wp2
  go_loopw [4, 5, 6, 7] (fun o bh sn i wr => ∃ k b : Nat, ∃ t : Bool, ∃ O : List Nat, k + 2 ≤ s.size ∧ i = .int .i64 ((k + 2 : Nat) : Int) ∧ bh = .int .i64 b ∧ b ≤ k ∧ sn = .bool t ∧ O.length ≤ k ∧ Own wr w.heap.size o O ∧ Hid (hexScan (((chs s).drop 2).take k) = (O, b, t)) ∧ Hid (∀ j, j < k → ((chs s).drop 2).getD j 0 ≠ 112) ∧
      Below w.heap.size w wr) (fun _ _ _ i _ => s.size - (intOf i).toNat)
  case atStart => exact ⟨0, 0, false, [], h2, rfl, rfl, Nat.le_refl _, rfl, Nat.le_refl _, Own.nil _ _, rfl, fun j hj => absurd hj (by omega), Below.refl _ _⟩
  case round =>
    obtain ⟨k, b, t, O, hk, rfl, rfl, hbk, rfl, hOk, hown, HS, HN, hb⟩ := hrel
    have hsz := hb.size
    obtain ⟨ao, cap, hv⟩ := hown.row.isSlice
    subst hv
    by_cases hlen : k + 2 < s.size
    · have HG : Hid (((chs s).drop 2).getD k 0 = s[k + 2].toNat) := by
        unfold Hid
        rw [← chs_get s (k + 2) hlen, List.getD_eq_getElem?_getD, List.getElem?_drop, List.getD_eq_getElem?_getD, Nat.add_comm]
      have HT := hid (take_snoc_getD ((chs s).drop 2) k (by rw [HLD.out]; omega))
      by_cases he : s[k + 2].toNat = 112
      · have hbe : (((s[k + 2].toNat : Nat) : Int) != 112) = false := by simp [he]
        have HA := hid (ahead_take ((chs s).drop 2) 112 k (by rw [HLD.out]; omega) HN.out (fun _ => by rw [HG.out]; exact he))
        clear he
        have hx := exponent_any s 112 wr hs
        rw [show ((112 : Nat) : Int) = 112 from rfl] at hx
        have hbd := expOf_bd (chs s) 112
        go_wp2_with fail
        refine hx.mono ?_
        rintro r w1 ⟨rfl, rfl⟩
        obtain ⟨E, hE⟩ : ∃ E, E = expOf (chs s) 112 := ⟨_, rfl⟩
        rw [← hE] at hbd ⊢
        have HEE := hid hE
        have HOWN := hid hown
        clear hE hx hown
        go_wp2
        go_ret2
        refine ⟨hb, .slice ao O.length cap, ?_, ?_, ?_, ?_⟩
        · rw [HA.out, HS.out, ← HEE.out]; rfl
        · rw [HA.out, HS.out]; exact HOWN.out
        · rw [HA.out, HS.out]; show O.length ≤ 900; omega
        · rw [HA.out, HS.out]; show b ≤ 900; omega
      · have hbe : (((s[k + 2].toNat : Nat) : Int) != 112) = true := by simp; omega
        have HE := hid he
        clear he
        by_cases hp : s[k + 2].toNat = 46
        · have hbp : (((s[k + 2].toNat : Nat) : Int) == 46) = true := by simp [hp]
          have HP := hid hp
          clear hp
          go_wp2
          go_roundw
          case rel => exact ⟨k + 1, b, true, O, by omega, by go_num, rfl, by omega, rfl, by omega, hown, by unfold Hid; rw [HT.out, hexScan_snoc, HS.out, HG.out, HP.out]; rfl, fun j hj => if h : j = k then by rw [h, HG.out]; exact HE.out else HN.out j (by omega), hb⟩
          case measure => simp [intOf]; omega
        · have hbp : (((s[k + 2].toNat : Nat) : Int) == 46) = false := by rw [beq_eq_false_iff_ne]; omega
          have HP := hid hp
          clear hp
          have hcl : s[k + 2].toNat < 256 := s[k + 2].toNat_lt
          have hhx : isHexc s[k + 2].toNat = true := by
            rcases HOK.out _ (mem_ahead ((chs s).drop 2) 112 k (by rw [HLD.out]; omega) (fun j hj => HN.out j hj) (by rw [HG.out]; exact HE.out) _ HG.out.symm) with h | h
            · exact absurd h HP.out
            · exact h
          have hrg : (48 ≤ s[k + 2].toNat ∧ s[k + 2].toNat ≤ 57) ∨ (97 ≤ s[k + 2].toNat ∧ s[k + 2].toNat ≤ 102) := by simp [isHexc, isDig] at hhx; omega
          clear hhx
          obtain ⟨v, hv⟩ : ∃ v, v = hexv s[k + 2].toNat := ⟨_, rfl⟩
          have hv15 : v ≤ 15 := by rw [hv]; unfold hexv; split <;> omega
          have HV := hid hv
          rcases hrg with hrg | hrg
          · have hvi : (s[k + 2].toNat : Int) - 48 = (v : Int) := by rw [hv]; unfold hexv; rw [if_pos (by omega)]; omega
            clear hv
            by_cases hO : O = []
            · subst hO
              simp only [List.length_nil] at hown ⊢
              by_cases hv0 : 0 < v
              · have hown' : wr.ownsRow w.heap.size 3 1 (.slice ao 0 cap) 0 (ints []) := hown
                clear hown
                go_wp2_with (at_builtin; refine wpList_append_own _ rfl (.tmp 46) (.tmp 48) 46 rfl w.heap.size 3 i0 (.int .i64 0) 1 8 Try.underlying46 hi hz0 hz1 hz2 rfl (by decide) _ _ _ rfl (hown'.alloc _) ⟨wr.heap.size, 0, none⟩ 1 1 [.int .i64 (v : Int)] rfl rfl ?c1 ?c2 ?c3 ?c4 ?c5 ?_)
                case c1 => exact cell_one_new _ _ _
                case c2 => intro u hu; simp at hu; subst hu; rfl
                case c3 => unfold maxLen; omega
                case c4 => omega
                case c5 => simp; omega
                intro v' w1 hown1 hgrow _
                have hb1 := (hb.alloc (by omega) (.cells #[.int .i64 (v : Int)] 3)).grown hgrow (by simp; omega) (fun k hk => (hown'.lt k hk).1)
                have hown2 := Own.snoc (O := []) (d := v) hown1 rfl rfl
                clear hown' hgrow hb hown1
                cases t with
                | true =>
                  go_wp2
                  go_roundw
                  case rel => exact ⟨k + 1, b + 1, true, [] ++ [v], by omega, by go_num, by go_num, by omega, rfl, by simp <;> omega, hown2, by unfold Hid; rw [HT.out, hexScan_snoc, HS.out, HG.out]; unfold hexStep; rw [if_neg HP.out]; simp only [← HV.out]; rw [if_pos (.inr hv0)]; rfl, fun j hj => if h : j = k then by rw [h, HG.out]; exact HE.out else HN.out j (by omega), hb1⟩
                  case measure => simp [intOf]; omega
                | false =>
                  go_wp2
                  go_roundw
                  case rel => exact ⟨k + 1, b, false, [] ++ [v], by omega, by go_num, rfl, by omega, rfl, by simp <;> omega, hown2, by unfold Hid; rw [HT.out, hexScan_snoc, HS.out, HG.out]; unfold hexStep; rw [if_neg HP.out]; simp only [← HV.out]; rw [if_pos (.inr hv0)]; rfl, fun j hj => if h : j = k then by rw [h, HG.out]; exact HE.out else HN.out j (by omega), hb1⟩
                  case measure => simp [intOf]; omega
              · have HV0 := hid hv0
                have hvz : v = 0 := by omega
                have hv1 : ¬ (0 : Int) < v := by omega
                clear hv0 hvz
                cases t with
                | true =>
                  go_wp2
                  go_roundw
                  case rel => exact ⟨k + 1, b + 1, true, [], by omega, by go_num, by go_num, by omega, rfl, by simp, hown, by unfold Hid; rw [HT.out, hexScan_snoc, HS.out, HG.out]; unfold hexStep; rw [if_neg HP.out]; simp only [← HV.out]; rw [if_neg (by have := HV0.out; simp <;> omega)]; rfl, fun j hj => if h : j = k then by rw [h, HG.out]; exact HE.out else HN.out j (by omega), hb⟩
                  case measure => simp [intOf]; omega
                | false =>
                  go_wp2
                  go_roundw
                  case rel => exact ⟨k + 1, b, false, [], by omega, by go_num, rfl, by omega, rfl, by simp, hown, by unfold Hid; rw [HT.out, hexScan_snoc, HS.out, HG.out]; unfold hexStep; rw [if_neg HP.out]; simp only [← HV.out]; rw [if_neg (by have := HV0.out; simp <;> omega)]; rfl, fun j hj => if h : j = k then by rw [h, HG.out]; exact HE.out else HN.out j (by omega), hb⟩
                  case measure => simp [intOf]; omega
            · have hpos : 0 < O.length := List.length_pos_iff.2 hO
              have hown' : wr.ownsRow w.heap.size 3 1 (.slice ao O.length cap) O.length (ints O) := hown
              clear hown hO
              go_wp2_with (at_builtin; refine wpList_append_own _ rfl (.tmp 46) (.tmp 48) 46 rfl w.heap.size 3 i0 (.int .i64 0) 1 8 Try.underlying46 hi hz0 hz1 hz2 rfl (by decide) _ _ _ rfl (hown'.alloc _) ⟨wr.heap.size, 0, none⟩ 1 1 [.int .i64 (v : Int)] rfl rfl ?c1 ?c2 ?c3 ?c4 ?c5 ?_)
              case c1 => exact cell_one_new _ _ _
              case c2 => intro u hu; simp at hu; subst hu; rfl
              case c3 => unfold maxLen; omega
              case c4 => omega
              case c5 => simp; omega
              intro v' w1 hown1 hgrow _
              have hb1 := (hb.alloc (by omega) (.cells #[.int .i64 (v : Int)] 3)).grown hgrow (by simp; omega) (fun k hk => (hown'.lt k hk).1)
              have hown2 := Own.snoc (O := O) (d := v) hown1 rfl rfl
              clear hown' hgrow hb hown1
              cases t with
              | true =>
                go_wp2
                go_roundw
                case rel => exact ⟨k + 1, b + 1, true, O ++ [v], by omega, by go_num, by go_num, by omega, rfl, by simp <;> omega, hown2, by unfold Hid; rw [HT.out, hexScan_snoc, HS.out, HG.out]; unfold hexStep; rw [if_neg HP.out]; simp only [← HV.out]; rw [if_pos (.inl hpos)]; rfl, fun j hj => if h : j = k then by rw [h, HG.out]; exact HE.out else HN.out j (by omega), hb1⟩
                case measure => simp [intOf]; omega
              | false =>
                go_wp2
                go_roundw
                case rel => exact ⟨k + 1, b, false, O ++ [v], by omega, by go_num, rfl, by omega, rfl, by simp <;> omega, hown2, by unfold Hid; rw [HT.out, hexScan_snoc, HS.out, HG.out]; unfold hexStep; rw [if_neg HP.out]; simp only [← HV.out]; rw [if_pos (.inl hpos)]; rfl, fun j hj => if h : j = k then by rw [h, HG.out]; exact HE.out else HN.out j (by omega), hb1⟩
                case measure => simp [intOf]; omega
          · have hvi : (s[k + 2].toNat : Int) - 97 + 10 = (v : Int) := by rw [hv]; unfold hexv; rw [if_neg (by omega)]; omega
            clear hv
            by_cases hO : O = []
            · subst hO
              simp only [List.length_nil] at hown ⊢
              by_cases hv0 : 0 < v
              · have hown' : wr.ownsRow w.heap.size 3 1 (.slice ao 0 cap) 0 (ints []) := hown
                clear hown
                go_wp2_with (at_builtin; refine wpList_append_own _ rfl (.tmp 46) (.tmp 48) 46 rfl w.heap.size 3 i0 (.int .i64 0) 1 8 Try.underlying46 hi hz0 hz1 hz2 rfl (by decide) _ _ _ rfl (hown'.alloc _) ⟨wr.heap.size, 0, none⟩ 1 1 [.int .i64 (v : Int)] rfl rfl ?c1 ?c2 ?c3 ?c4 ?c5 ?_)
                case c1 => exact cell_one_new _ _ _
                case c2 => intro u hu; simp at hu; subst hu; rfl
                case c3 => unfold maxLen; omega
                case c4 => omega
                case c5 => simp; omega
                intro v' w1 hown1 hgrow _
                have hb1 := (hb.alloc (by omega) (.cells #[.int .i64 (v : Int)] 3)).grown hgrow (by simp; omega) (fun k hk => (hown'.lt k hk).1)
                have hown2 := Own.snoc (O := []) (d := v) hown1 rfl rfl
                clear hown' hgrow hb hown1
                cases t with
                | true =>
                  go_wp2
                  go_roundw
                  case rel => exact ⟨k + 1, b + 1, true, [] ++ [v], by omega, by go_num, by go_num, by omega, rfl, by simp <;> omega, hown2, by unfold Hid; rw [HT.out, hexScan_snoc, HS.out, HG.out]; unfold hexStep; rw [if_neg HP.out]; simp only [← HV.out]; rw [if_pos (.inr hv0)]; rfl, fun j hj => if h : j = k then by rw [h, HG.out]; exact HE.out else HN.out j (by omega), hb1⟩
                  case measure => simp [intOf]; omega
                | false =>
                  go_wp2
                  go_roundw
                  case rel => exact ⟨k + 1, b, false, [] ++ [v], by omega, by go_num, rfl, by omega, rfl, by simp <;> omega, hown2, by unfold Hid; rw [HT.out, hexScan_snoc, HS.out, HG.out]; unfold hexStep; rw [if_neg HP.out]; simp only [← HV.out]; rw [if_pos (.inr hv0)]; rfl, fun j hj => if h : j = k then by rw [h, HG.out]; exact HE.out else HN.out j (by omega), hb1⟩
                  case measure => simp [intOf]; omega
              · exfalso; omega
            · have hpos : 0 < O.length := List.length_pos_iff.2 hO
              have hown' : wr.ownsRow w.heap.size 3 1 (.slice ao O.length cap) O.length (ints O) := hown
              clear hown hO
              go_wp2_with (at_builtin; refine wpList_append_own _ rfl (.tmp 46) (.tmp 48) 46 rfl w.heap.size 3 i0 (.int .i64 0) 1 8 Try.underlying46 hi hz0 hz1 hz2 rfl (by decide) _ _ _ rfl (hown'.alloc _) ⟨wr.heap.size, 0, none⟩ 1 1 [.int .i64 (v : Int)] rfl rfl ?c1 ?c2 ?c3 ?c4 ?c5 ?_)
              case c1 => exact cell_one_new _ _ _
              case c2 => intro u hu; simp at hu; subst hu; rfl
              case c3 => unfold maxLen; omega
              case c4 => omega
              case c5 => simp; omega
              intro v' w1 hown1 hgrow _
              have hb1 := (hb.alloc (by omega) (.cells #[.int .i64 (v : Int)] 3)).grown hgrow (by simp; omega) (fun k hk => (hown'.lt k hk).1)
              have hown2 := Own.snoc (O := O) (d := v) hown1 rfl rfl
              clear hown' hgrow hb hown1
              cases t with
              | true =>
                go_wp2
                go_roundw
                case rel => exact ⟨k + 1, b + 1, true, O ++ [v], by omega, by go_num, by go_num, by omega, rfl, by simp <;> omega, hown2, by unfold Hid; rw [HT.out, hexScan_snoc, HS.out, HG.out]; unfold hexStep; rw [if_neg HP.out]; simp only [← HV.out]; rw [if_pos (.inl hpos)]; rfl, fun j hj => if h : j = k then by rw [h, HG.out]; exact HE.out else HN.out j (by omega), hb1⟩
                case measure => simp [intOf]; omega
              | false =>
                go_wp2
                go_roundw
                case rel => exact ⟨k + 1, b, false, O ++ [v], by omega, by go_num, rfl, by omega, rfl, by simp <;> omega, hown2, by unfold Hid; rw [HT.out, hexScan_snoc, HS.out, HG.out]; unfold hexStep; rw [if_neg HP.out]; simp only [← HV.out]; rw [if_pos (.inl hpos)]; rfl, fun j hj => if h : j = k then by rw [h, HG.out]; exact HE.out else HN.out j (by omega), hb1⟩
                case measure => simp [intOf]; omega
    · have HA := hid (ahead_take ((chs s).drop 2) 112 k (by rw [HLD.out]; omega) HN.out (fun h => by rw [HLD.out] at h; omega))
      have hx := exponent_any s 112 wr hs
      rw [show ((112 : Nat) : Int) = 112 from rfl] at hx
      have hbd := expOf_bd (chs s) 112
      go_wp2_with fail
      refine hx.mono ?_
      rintro r w1 ⟨rfl, rfl⟩
      obtain ⟨E, hE⟩ : ∃ E, E = expOf (chs s) 112 := ⟨_, rfl⟩
      rw [← hE] at hbd ⊢
      have HEE := hid hE
      have HOWN := hid hown
      clear hE hx hown
      go_wp2
      go_ret2
      refine ⟨hb, .slice ao O.length cap, ?_, ?_, ?_, ?_⟩
      · rw [HA.out, HS.out, ← HEE.out]; rfl
      · rw [HA.out, HS.out]; exact HOWN.out
      · rw [HA.out, HS.out]; show O.length ≤ 900; omega
      · rw [HA.out, HS.out]; show b ≤ 900; omega

end Go.Proofs.Ytbkdaoicnobllaa
