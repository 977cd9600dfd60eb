import Derived.Test.YtbkdaoicnobllabGreatDoorG36

namespace Go.Proofs.YtbkdaoicnobllabGreatDoor
set_option maxRecDepth 100000
set_option maxHeartbeats 2000000
open Go.RowKit

theorem binaryOf_any (s : ByteArray) (w : World) (hs : s.size ≤ 900) (h2 : 2 ≤ s.size) (hok : ∀ c, c ∈ ahead ((chs s).drop 2) 112 → c = 46 ∨ isHexc c = true) :
  Calls Tryz.prog 47 #[.string s] w fun r w' => Below w.heap.size w w' ∧
   ∃ v', r = .returned (.tuple #[v', .int .i64 (expOf (chs s) 112 - 4 * (hexScan (ahead ((chs s).drop 2) 112)).2.1)]) ∧ Own w' w.heap.size v' (hexScan (ahead ((chs s).drop 2) 112)).1 ∧ (hexScan (ahead ((chs s).drop 2) 112)).1.length ≤ 900 ∧ (hexScan (ahead ((chs s).drop 2) 112)).2.1 ≤ 900 := by
 have HL := hid (chs_length s)
 have HLD : Hid (((chs s).drop 2).length = s.size - 2) := by unfold Hid; rw [List.length_drop, HL.out]
 have HOK := hid hok
 clear hok
 obtain ⟨i0, hi, hz0, hz1, hz2⟩ := info_parts Tryz.info_int
 go_enter Tryz.func47, Tryz.ntmps47
 go_wp2
 go_loopw [4, 5, 6, 7] (fun o bh sn i wr => ∃ k b : Nat, ∃ t : Bool, ∃ O : List Nat, k + 2 ≤ s.size ∧ i = .int .i64 ((k + 2 : Nat) : Int) ∧ bh = .int .i64 b ∧ b ≤ k ∧ sn = .bool t ∧ O.length ≤ k ∧ Own wr w.heap.size o O ∧ Hid (hexScan (((chs s).drop 2).take k) = (O, b, t)) ∧ Hid (∀ j, j < k → ((chs s).drop 2).getD j 0 ≠ 112) ∧
   Below w.heap.size w wr) (fun _ _ _ i _ => s.size - (intOf i).toNat)
 case atStart => exact ⟨0, 0, false, [], h2, rfl, rfl, Nat.le_refl _, rfl, Nat.le_refl _, Own.nil _ _, rfl, fun j hj => absurd hj (by omega), Below.refl _ _⟩
 case round =>
  obtain ⟨k, b, t, O, hk, rfl, rfl, hbk, rfl, hOk, hown, HS, HN, hb⟩ := hrel
  have hsz := hb.size
  obtain ⟨ao, cap, hv⟩ := hown.row.isSlice
  subst hv
  by_cases hlen : k + 2 < s.size
  ·have HG : Hid (((chs s).drop 2).getD k 0 = s[k + 2].toNat) := by
    unfold Hid
    rw [← chs_get s (k + 2) hlen, List.getD_eq_getElem?_getD, List.getElem?_drop, List.getD_eq_getElem?_getD, Nat.add_comm]
   have HT := hid (take_snoc_getD ((chs s).drop 2) k (by rw [HLD.out]; omega))
   by_cases he : s[k + 2].toNat = 112
   ·have hbe : (((s[k + 2].toNat : Nat) : Int) != 112) = false := by simp [he]
    have HA := hid (ahead_take ((chs s).drop 2) 112 k (by rw [HLD.out]; omega) HN.out (fun _ => by rw [HG.out]; exact he))
    clear he
    have hx := exponent_any s 112 wr hs
    rw [show ((112 : Nat) : Int) = 112 from rfl] at hx
    have hbd := expOf_bd (chs s) 112
    go_wp2_with fail
    refine hx.mono ?_
    rintro r w1 ⟨rfl, rfl⟩
    obtain ⟨E, hE⟩ : ∃ E, E = expOf (chs s) 112 := ⟨_, rfl⟩
    rw [← hE] at hbd ⊢
    have HEE := hid hE
    have HOWN := hid hown
    clear hE hx hown
    go_wp2
    go_ret2
    refine ⟨hb, .slice ao O.length cap, ?_, ?_, ?_, ?_⟩
    ·rw [HA.out, HS.out, ← HEE.out]; rfl
    ·rw [HA.out, HS.out]; exact HOWN.out
    ·rw [HA.out, HS.out]; show O.length ≤ 900; omega
    ·rw [HA.out, HS.out]; show b ≤ 900; omega
   ·have hbe : (((s[k + 2].toNat : Nat) : Int) != 112) = true := by simp; omega
    have HE := hid he
    clear he
    by_cases hp : s[k + 2].toNat = 46
    ·have hbp : (((s[k + 2].toNat : Nat) : Int) == 46) = true := by simp [hp]
     have HP := hid hp
     clear hp
     go_wp2
     go_roundw
     case rel => exact ⟨k + 1, b, true, O, by omega, by go_num, rfl, by omega, rfl, by omega, hown, by unfold Hid; rw [HT.out, hexScan_snoc, HS.out, HG.out, HP.out]; rfl, fun j hj => if h : j = k then by rw [h, HG.out]; exact HE.out else HN.out j (by omega), hb⟩
     case measure => simp [intOf]; omega
    ·have hbp : (((s[k + 2].toNat : Nat) : Int) == 46) = false := by rw [beq_eq_false_iff_ne]; omega
     have HP := hid hp
     clear hp
     have hcl : s[k + 2].toNat < 256 := s[k + 2].toNat_lt
     have hhx : isHexc s[k + 2].toNat = true := by
      rcases HOK.out _ (mem_ahead ((chs s).drop 2) 112 k (by rw [HLD.out]; omega) (fun j hj => HN.out j hj) (by rw [HG.out]; exact HE.out) _ HG.out.symm) with h | h
      ·exact absurd h HP.out
      ·exact h
     have hrg : (48 ≤ s[k + 2].toNat ∧ s[k + 2].toNat ≤ 57) ∨ (97 ≤ s[k + 2].toNat ∧ s[k + 2].toNat ≤ 102) := by simp [isHexc, isDig] at hhx; omega
     clear hhx
     obtain ⟨v, hv⟩ : ∃ v, v = hexv s[k + 2].toNat := ⟨_, rfl⟩
     have hv15 : v ≤ 15 := by rw [hv]; unfold hexv; split <;> omega
     have HV := hid hv
     rcases hrg with hrg | hrg
     ·have hvi : (s[k + 2].toNat : Int) - 48 = (v : Int) := by rw [hv]; unfold hexv; rw [if_pos (by omega)]; omega
      clear hv
      by_cases hO : O = []
      ·subst hO
       simp only [List.length_nil] at hown ⊢
       by_cases hv0 : 0 < v
       ·have hown' : wr.ownsRow w.heap.size 3 1 (.slice ao 0 cap) 0 (ints []) := hown
        clear hown
        go_wp2_with (at_builtin; refine wpList_append_own _ rfl (.tmp 46) (.tmp 48) 69 rfl w.heap.size 3 i0 (.int .i64 0) 1 8 Tryz.underlying69 hi hz0 hz1 hz2 rfl (by decide) _ _ _ rfl (hown'.alloc _) ⟨wr.heap.size, 0, none⟩ 1 1 [.int .i64 (v : Int)] rfl rfl ?c1 ?c2 ?c3 ?c4 ?c5 ?_)
        case c1 => exact cell_one_new _ _ _
        case c2 => intro u hu; simp at hu; subst hu; rfl
        case c3 => unfold maxLen; omega
        case c4 => omega
        case c5 => simp; omega
        intro v' w1 hown1 hgrow _
        have hb1 := (hb.alloc (by omega) (.cells #[.int .i64 (v : Int)] 3)).grown hgrow (by simp; omega) (fun k hk => (hown'.lt k hk).1)
        have hown2 := Own.snoc (O := []) (d := v) hown1 rfl rfl
        clear hown' hgrow hb hown1
        cases t with
        | true =>
         go_wp2
         go_roundw
         case rel => exact ⟨k + 1, b + 1, true, [] ++ [v], by omega, by go_num, by go_num, by omega, rfl, by simp <;> omega, hown2, by unfold Hid; rw [HT.out, hexScan_snoc, HS.out, HG.out]; unfold hexStep; rw [if_neg HP.out]; simp only [← HV.out]; rw [if_pos (.inr hv0)]; rfl, fun j hj => if h : j = k then by rw [h, HG.out]; exact HE.out else HN.out j (by omega), hb1⟩
         case measure => simp [intOf]; omega
        | false =>
         go_wp2
         go_roundw
         case rel => exact ⟨k + 1, b, false, [] ++ [v], by omega, by go_num, rfl, by omega, rfl, by simp <;> omega, hown2, by unfold Hid; rw [HT.out, hexScan_snoc, HS.out, HG.out]; unfold hexStep; rw [if_neg HP.out]; simp only [← HV.out]; rw [if_pos (.inr hv0)]; rfl, fun j hj => if h : j = k then by rw [h, HG.out]; exact HE.out else HN.out j (by omega), hb1⟩
         case measure => simp [intOf]; omega
       ·have HV0 := hid hv0
        have hvz : v = 0 := by omega
        have hv1 : ¬ (0 : Int) < v := by omega
        clear hv0 hvz
        cases t with
        | true =>
         go_wp2
         go_roundw
         case rel => exact ⟨k + 1, b + 1, true, [], by omega, by go_num, by go_num, by omega, rfl, by simp, hown, by unfold Hid; rw [HT.out, hexScan_snoc, HS.out, HG.out]; unfold hexStep; rw [if_neg HP.out]; simp only [← HV.out]; rw [if_neg (by have := HV0.out; simp <;> omega)]; rfl, fun j hj => if h : j = k then by rw [h, HG.out]; exact HE.out else HN.out j (by omega), hb⟩
         case measure => simp [intOf]; omega
        | false =>
         go_wp2
         go_roundw
         case rel => exact ⟨k + 1, b, false, [], by omega, by go_num, rfl, by omega, rfl, by simp, hown, by unfold Hid; rw [HT.out, hexScan_snoc, HS.out, HG.out]; unfold hexStep; rw [if_neg HP.out]; simp only [← HV.out]; rw [if_neg (by have := HV0.out; simp <;> omega)]; rfl, fun j hj => if h : j = k then by rw [h, HG.out]; exact HE.out else HN.out j (by omega), hb⟩
         case measure => simp [intOf]; omega
      ·have hpos : 0 < O.length := List.length_pos_iff.2 hO
       have hown' : wr.ownsRow w.heap.size 3 1 (.slice ao O.length cap) O.length (ints O) := hown
       clear hown hO
       go_wp2_with (at_builtin; refine wpList_append_own _ rfl (.tmp 46) (.tmp 48) 69 rfl w.heap.size 3 i0 (.int .i64 0) 1 8 Tryz.underlying69 hi hz0 hz1 hz2 rfl (by decide) _ _ _ rfl (hown'.alloc _) ⟨wr.heap.size, 0, none⟩ 1 1 [.int .i64 (v : Int)] rfl rfl ?c1 ?c2 ?c3 ?c4 ?c5 ?_)
       case c1 => exact cell_one_new _ _ _
       case c2 => intro u hu; simp at hu; subst hu; rfl
       case c3 => unfold maxLen; omega
       case c4 => omega
       case c5 => simp; omega
       intro v' w1 hown1 hgrow _
       have hb1 := (hb.alloc (by omega) (.cells #[.int .i64 (v : Int)] 3)).grown hgrow (by simp; omega) (fun k hk => (hown'.lt k hk).1)
       have hown2 := Own.snoc (O := O) (d := v) hown1 rfl rfl
       clear hown' hgrow hb hown1
       cases t with
       | true =>
        go_wp2
        go_roundw
        case rel => exact ⟨k + 1, b + 1, true, O ++ [v], by omega, by go_num, by go_num, by omega, rfl, by simp <;> omega, hown2, by unfold Hid; rw [HT.out, hexScan_snoc, HS.out, HG.out]; unfold hexStep; rw [if_neg HP.out]; simp only [← HV.out]; rw [if_pos (.inl hpos)]; rfl, fun j hj => if h : j = k then by rw [h, HG.out]; exact HE.out else HN.out j (by omega), hb1⟩
        case measure => simp [intOf]; omega
       | false =>
        go_wp2
        go_roundw
        case rel => exact ⟨k + 1, b, false, O ++ [v], by omega, by go_num, rfl, by omega, rfl, by simp <;> omega, hown2, by unfold Hid; rw [HT.out, hexScan_snoc, HS.out, HG.out]; unfold hexStep; rw [if_neg HP.out]; simp only [← HV.out]; rw [if_pos (.inl hpos)]; rfl, fun j hj => if h : j = k then by rw [h, HG.out]; exact HE.out else HN.out j (by omega), hb1⟩
        case measure => simp [intOf]; omega
     ·have hvi : (s[k + 2].toNat : Int) - 97 + 10 = (v : Int) := by rw [hv]; unfold hexv; rw [if_neg (by omega)]; omega
      clear hv
      by_cases hO : O = []
      ·subst hO
       simp only [List.length_nil] at hown ⊢
       by_cases hv0 : 0 < v
       ·have hown' : wr.ownsRow w.heap.size 3 1 (.slice ao 0 cap) 0 (ints []) := hown
        clear hown
        go_wp2_with (at_builtin; refine wpList_append_own _ rfl (.tmp 46) (.tmp 48) 69 rfl w.heap.size 3 i0 (.int .i64 0) 1 8 Tryz.underlying69 hi hz0 hz1 hz2 rfl (by decide) _ _ _ rfl (hown'.alloc _) ⟨wr.heap.size, 0, none⟩ 1 1 [.int .i64 (v : Int)] rfl rfl ?c1 ?c2 ?c3 ?c4 ?c5 ?_)
        case c1 => exact cell_one_new _ _ _
        case c2 => intro u hu; simp at hu; subst hu; rfl
        case c3 => unfold maxLen; omega
        case c4 => omega
        case c5 => simp; omega
        intro v' w1 hown1 hgrow _
        have hb1 := (hb.alloc (by omega) (.cells #[.int .i64 (v : Int)] 3)).grown hgrow (by simp; omega) (fun k hk => (hown'.lt k hk).1)
        have hown2 := Own.snoc (O := []) (d := v) hown1 rfl rfl
        clear hown' hgrow hb hown1
        cases t with
        | true =>
         go_wp2
         go_roundw
         case rel => exact ⟨k + 1, b + 1, true, [] ++ [v], by omega, by go_num, by go_num, by omega, rfl, by simp <;> omega, hown2, by unfold Hid; rw [HT.out, hexScan_snoc, HS.out, HG.out]; unfold hexStep; rw [if_neg HP.out]; simp only [← HV.out]; rw [if_pos (.inr hv0)]; rfl, fun j hj => if h : j = k then by rw [h, HG.out]; exact HE.out else HN.out j (by omega), hb1⟩
         case measure => simp [intOf]; omega
        | false =>
         go_wp2
         go_roundw
         case rel => exact ⟨k + 1, b, false, [] ++ [v], by omega, by go_num, rfl, by omega, rfl, by simp <;> omega, hown2, by unfold Hid; rw [HT.out, hexScan_snoc, HS.out, HG.out]; unfold hexStep; rw [if_neg HP.out]; simp only [← HV.out]; rw [if_pos (.inr hv0)]; rfl, fun j hj => if h : j = k then by rw [h, HG.out]; exact HE.out else HN.out j (by omega), hb1⟩
         case measure => simp [intOf]; omega
       ·exfalso; omega
      ·have hpos : 0 < O.length := List.length_pos_iff.2 hO
       have hown' : wr.ownsRow w.heap.size 3 1 (.slice ao O.length cap) O.length (ints O) := hown
       clear hown hO
       go_wp2_with (at_builtin; refine wpList_append_own _ rfl (.tmp 46) (.tmp 48) 69 rfl w.heap.size 3 i0 (.int .i64 0) 1 8 Tryz.underlying69 hi hz0 hz1 hz2 rfl (by decide) _ _ _ rfl (hown'.alloc _) ⟨wr.heap.size, 0, none⟩ 1 1 [.int .i64 (v : Int)] rfl rfl ?c1 ?c2 ?c3 ?c4 ?c5 ?_)
       case c1 => exact cell_one_new _ _ _
       case c2 => intro u hu; simp at hu; subst hu; rfl
       case c3 => unfold maxLen; omega
       case c4 => omega
       case c5 => simp; omega
       intro v' w1 hown1 hgrow _
       have hb1 := (hb.alloc (by omega) (.cells #[.int .i64 (v : Int)] 3)).grown hgrow (by simp; omega) (fun k hk => (hown'.lt k hk).1)
       have hown2 := Own.snoc (O := O) (d := v) hown1 rfl rfl
       clear hown' hgrow hb hown1
       cases t with
       | true =>
        go_wp2
        go_roundw
        case rel => exact ⟨k + 1, b + 1, true, O ++ [v], by omega, by go_num, by go_num, by omega, rfl, by simp <;> omega, hown2, by unfold Hid; rw [HT.out, hexScan_snoc, HS.out, HG.out]; unfold hexStep; rw [if_neg HP.out]; simp only [← HV.out]; rw [if_pos (.inl hpos)]; rfl, fun j hj => if h : j = k then by rw [h, HG.out]; exact HE.out else HN.out j (by omega), hb1⟩
        case measure => simp [intOf]; omega
       | false =>
        go_wp2
        go_roundw
        case rel => exact ⟨k + 1, b, false, O ++ [v], by omega, by go_num, rfl, by omega, rfl, by simp <;> omega, hown2, by unfold Hid; rw [HT.out, hexScan_snoc, HS.out, HG.out]; unfold hexStep; rw [if_neg HP.out]; simp only [← HV.out]; rw [if_pos (.inl hpos)]; rfl, fun j hj => if h : j = k then by rw [h, HG.out]; exact HE.out else HN.out j (by omega), hb1⟩
        case measure => simp [intOf]; omega
  ·have HA := hid (ahead_take ((chs s).drop 2) 112 k (by rw [HLD.out]; omega) HN.out (fun h => by rw [HLD.out] at h; omega))
   have hx := exponent_any s 112 wr hs
   rw [show ((112 : Nat) : Int) = 112 from rfl] at hx
   have hbd := expOf_bd (chs s) 112
   go_wp2_with fail
   refine hx.mono ?_
   rintro r w1 ⟨rfl, rfl⟩
   obtain ⟨E, hE⟩ : ∃ E, E = expOf (chs s) 112 := ⟨_, rfl⟩
   rw [← hE] at hbd ⊢
   have HEE := hid hE
   have HOWN := hid hown
   clear hE hx hown
   go_wp2
   go_ret2
   refine ⟨hb, .slice ao O.length cap, ?_, ?_, ?_, ?_⟩
   ·rw [HA.out, HS.out, ← HEE.out]; rfl
   ·rw [HA.out, HS.out]; exact HOWN.out
   ·rw [HA.out, HS.out]; show O.length ≤ 900; omega
   ·rw [HA.out, HS.out]; show b ≤ 900; omega

end Go.Proofs.YtbkdaoicnobllabGreatDoor
