import Derived.Test.YtbkdaoicnobllabGreatDoorG14
import Derived.Test.YtbkdaoicnobllabGreatDoorG06

namespace Go.Proofs.YtbkdaoicnobllabGreatDoor
set_option maxRecDepth 100000
set_option maxHeartbeats 1000000
open Go.RowKit
theorem held_own {w w' w3 : World} {v : Value} {L : List Nat} {e : Int} (r : Row w v L) (hb : Below w.heap.size w w3) (n : Norm L) (hl : L.length ≤ 900) (z : L = [] → e = 0) (h1 : L ≠ [] → -1300 ≤ e ∧ e + L.length ≤ 400) (V : Nat → Nat) (hV : ∀ K : Nat, val K L e = V K) (B : Nat) (hB : w.heap.size ≤ B) (x y : Value)
  (hw : w' = (w3.setCell ⟨B, 0, none⟩ x).setCell ⟨B, 1, none⟩ y) : Out w' v L e 900 (-1300) 400 (fun g => v.ownBlock = some g ∨ w.heap.size ≤ g) V := by
 subst hw
 have h2 : Out w3 v L e 900 (-1300) 400 (fun g => g < w.heap.size ∧ v.ownBlock = some g) V := ⟨r.below hb (Nat.le_refl _), fun g hg => ⟨r.lt g hg, hg⟩, n, hl, z, h1, fun K _ => hV K⟩
 exact ((h2.setCell _ _ (by rintro ⟨h, _⟩; simp at h; omega)).setCell _ _ (by rintro ⟨h, _⟩; simp at h; omega)).mono (Nat.le_refl _) (Int.le_refl _) (Int.le_refl _) (fun g hg => .inl hg.2) (fun _ _ => rfl)

theorem held_any (v : Value) (L : List Nat) (e : Int) (w : World) (hr : Row w v L) (hn : Norm L) (hl : L.length ≤ 900) (he : -300000 ≤ e ∧ e ≤ 300000) (hz : L = [] → e = 0) :
  Calls Tryz.prog 51 #[.agg #[v, .int .i64 e]] w fun r w' => Below w.heap.size w w' ∧
   ∃ v' L' e', r = .returned (.agg #[v', .int .i64 e']) ∧ Out w' v' L' e' 900 (-1300) 400 (fun g => v.ownBlock = some g ∨ w.heap.size ≤ g) (fun K => heldV K L e) := by
 obtain ⟨ao, cap, hv⟩ := hr.isSlice
 subst hv
 have HR := hid (And.intro hr (And.intro hn hz))
 clear hr hn hz
 by_cases hL : L.length = 0
 ·have HL := hid hL
  clear hL
  go_enter Tryz.func51, Tryz.ntmps51
  go_wp2_with fail
  refine (zero_yes _ L e _ (HR.out.1.below box4_below (Nat.le_refl _)) HL.out).mono ?_
  rintro r w3 ⟨rfl, hb3⟩
  have hb := box4_start hb3
  clear hb3
  obtain ⟨x1, x2, x3, x4, f1, f2, f3, f4, hs⟩ := box4 hb
  have HB := hid (box4_up hb)
  clear hb
  go_wp2
  refine bodyPost_ret (v := .agg #[.slice ao L.length cap, .int .i64 e]) (dec_results rfl _ _ (w.heap.size + 1) _ _ rfl (two_cells x3 x4).1 (two_cells x3 x4).2) rfl ⟨below_two HB.out (by omega) _ _, _, L, e, rfl, ?_⟩
  have h0 := List.length_eq_zero_iff.1 HL.out
  exact held_own HR.out.1 HB.out HR.out.2.1 hl HR.out.2.2 (fun h => absurd h0 h) _ (fun K => by unfold heldV; rw [if_pos HL.out, h0, val_nil]) _ (by omega) _ _ rfl
 ·by_cases hbig : 390 < e + L.length - 1
  ·go_enter Tryz.func51, Tryz.ntmps51
   go_wp2_with fail
   refine (zero_no _ L e _ (HR.out.1.below box4_below (Nat.le_refl _)) hL).mono ?_
   rintro r w3 ⟨rfl, hb3⟩
   have hb := box4_start hb3
   clear hb3
   obtain ⟨x1, x2, x3, x4, f1, f2, f3, f4, hs⟩ := box4 hb
   go_wp2_with fail
   refine (top_any _ L e _ (HR.out.1.below (box4_up hb) (Nat.le_refl _)) (by omega) (by omega)).mono ?_
   rintro r w4 ⟨rfl, hb4⟩
   have hb5 := below_next hb hb4 hs
   clear hb hb4 x1 x2 x3 x4 f1 f2 f3 f4 hs
   go_wp2_with fail
   refine (one_any 390 _).mono ?_
   rintro r w5 ⟨hb6, v', L', e', rfl, hout⟩
   have hb7 := below_next hb5 hb6 (box4 hb5).2.2.2.2.2.2.2.2
   have hs4 := (box4 hb5).2.2.2.2.2.2.2.2
   clear hb5 hb6
   obtain ⟨x1, x2, x3, x4, f1, f2, f3, f4, hs⟩ := box4 hb7
   have HB := hid (box4_up hb7)
   obtain ⟨ao', cp, hv⟩ := hout.row.isSlice
   rw [hv] at hout
   subst hv
   clear hb7
   go_wp2
   refine bodyPost_ret (v := .agg #[.slice ao' L'.length cp, .int .i64 e']) (dec_results rfl _ _ (w.heap.size + 1) _ _ rfl (two_cells x3 x4).1 (two_cells x3 x4).2) rfl ⟨below_two HB.out (by omega) _ _, _, L', e', rfl, ?_⟩
   have h9 : Out w5 (.slice ao' L'.length cp) L' e' 900 (-1300) 400 (fun g => w.heap.size + 2 ≤ g) (fun K => heldV K L e) :=
    hout.mono (by omega) (by omega) (by omega) (fun g hg => by omega) (fun K _ => by unfold heldV; rw [if_neg hL, if_pos hbig])
   exact ((h9.setCell _ _ (by simp)).setCell _ _ (by simp)).mono (Nat.le_refl _) (Int.le_refl _) (Int.le_refl _) (fun g hg => .inr (by omega)) (fun _ _ => rfl)
  ·by_cases hsm : e + L.length - 1 < -390
   ·go_enter Tryz.func51, Tryz.ntmps51
    go_wp2_with fail
    refine (zero_no _ L e _ (HR.out.1.below box4_below (Nat.le_refl _)) hL).mono ?_
    rintro r w3 ⟨rfl, hb3⟩
    have hb := box4_start hb3
    clear hb3
    obtain ⟨x1, x2, x3, x4, f1, f2, f3, f4, hs⟩ := box4 hb
    go_wp2_with fail
    refine (top_any _ L e _ (HR.out.1.below (box4_up hb) (Nat.le_refl _)) (by omega) (by omega)).mono ?_
    rintro r w4 ⟨rfl, hb4⟩
    have hb5 := below_next hb hb4 hs
    clear hb hb4 x1 x2 x3 x4 f1 f2 f3 f4 hs
    go_wp2_with fail
    refine (one_any (-390) _).mono ?_
    rintro r w5 ⟨hb6, v', L', e', rfl, hout⟩
    have hs4 := (box4 hb5).2.2.2.2.2.2.2.2
    have hb7 := below_next hb5 hb6 hs4
    clear hb5 hb6
    obtain ⟨x1, x2, x3, x4, f1, f2, f3, f4, hs⟩ := box4 hb7
    have HB := hid (box4_up hb7)
    obtain ⟨ao', cp, hv⟩ := hout.row.isSlice
    rw [hv] at hout
    subst hv
    clear hb7
    go_wp2
    refine bodyPost_ret (v := .agg #[.slice ao' L'.length cp, .int .i64 e']) (dec_results rfl _ _ (w.heap.size + 1) _ _ rfl (two_cells x3 x4).1 (two_cells x3 x4).2) rfl ⟨below_two HB.out (by omega) _ _, _, L', e', rfl, ?_⟩
    have h9 : Out w5 (.slice ao' L'.length cp) L' e' 900 (-1300) 400 (fun g => w.heap.size + 2 ≤ g) (fun K => heldV K L e) :=
     hout.mono (by omega) (by omega) (by omega) (fun g hg => by omega) (fun K _ => by unfold heldV; rw [if_neg hL, if_neg (by omega), if_pos hsm])
    exact ((h9.setCell _ _ (by simp)).setCell _ _ (by simp)).mono (Nat.le_refl _) (Int.le_refl _) (Int.le_refl _) (fun g hg => .inr (by omega)) (fun _ _ => rfl)
   ·go_enter Tryz.func51, Tryz.ntmps51
    go_wp2_with fail
    refine (zero_no _ L e _ (HR.out.1.below box4_below (Nat.le_refl _)) hL).mono ?_
    rintro r w3 ⟨rfl, hb3⟩
    have hb := box4_start hb3
    clear hb3
    obtain ⟨x1, x2, x3, x4, f1, f2, f3, f4, hs⟩ := box4 hb
    go_wp2_with fail
    refine (top_any _ L e _ (HR.out.1.below (box4_up hb) (Nat.le_refl _)) (by omega) (by omega)).mono ?_
    rintro r w4 ⟨rfl, hb4⟩
    have hb5 := below_next hb hb4 hs
    clear hb hb4 x1 x2 x3 x4 f1 f2 f3 f4 hs
    obtain ⟨x1, x2, x3, x4, f1, f2, f3, f4, hs⟩ := box4 hb5
    have HB := hid (box4_up hb5)
    clear hb5
    go_wp2
    refine bodyPost_ret (v := .agg #[.slice ao L.length cap, .int .i64 e]) (dec_results rfl _ _ (w.heap.size + 1) _ _ rfl (two_cells x3 x4).1 (two_cells x3 x4).2) rfl ⟨below_two HB.out (by omega) _ _, _, L, e, rfl, ?_⟩
    exact held_own HR.out.1 HB.out HR.out.2.1 hl HR.out.2.2 (fun _ => by omega) _ (fun K => by unfold heldV; rw [if_neg hL, if_neg (by omega), if_neg (by omega)]) _ (by omega) _ _ rfl

end Go.Proofs.YtbkdaoicnobllabGreatDoor

namespace Go.Proofs.YtbkdaoicnobllabGreatDoor
set_option maxRecDepth 100000
set_option maxHeartbeats 1000000
open Go.RowKit

theorem isDigit_yes (c : Int) (w : World) (h : 48 ≤ c ∧ c ≤ 57) : Calls Tryz.prog 111 #[.int .u8 c] w fun e w' => e = .returned (.bool true) ∧ w' = w := by
 have := isDigit_any c w
 rwa [show (decide (48 ≤ c) && decide (c ≤ 57)) = true from by simp; omega] at this
theorem isDigit_no (c : Int) (w : World) (h : ¬ (48 ≤ c ∧ c ≤ 57)) : Calls Tryz.prog 111 #[.int .u8 c] w fun e w' => e = .returned (.bool false) ∧ w' = w := by
 have := isDigit_any c w
 rwa [show (decide (48 ≤ c) && decide (c ≤ 57)) = false from by simp; omega] at this

theorem exponent_any (s : ByteArray) (letter : Nat) (w : World) (hs : s.size ≤ 900) :
  Calls Tryz.prog 71 #[.string s, .int .u8 letter] w fun e w' => e = .returned (.int .i64 (expOf (chs s) letter)) ∧ w' = w := by
 have HL := hid (chs_length s)
 go_enter Tryz.func71, Tryz.ntmps71
 go_wp2
 go_loop [5] (fun i => ∃ k : Nat, k ≤ s.size ∧ i = .int .i64 k ∧ Hid (∀ j, j < k → (chs s).getD j 0 ≠ letter)) (fun i => s.size - (intOf i).toNat)
 case atStart => exact ⟨0, Nat.zero_le _, rfl, fun j hj => absurd hj (by omega)⟩
 case round =>
  obtain ⟨k, hk, rfl, HN⟩ := hrel
  by_cases hlen : k < s.size
  ·have HG := hid (chs_get s k hlen)
   by_cases heq : s[k].toNat = letter
   ·have hb : (((s[k].toNat : Nat) : Int) != (letter : Int)) = false := by simp [heq]
    have HE := hid (expOf_at (chs s) letter k (by rw [HL.out]; exact hlen) HN.out (by rw [HG.out]; exact heq))
    clear heq HG HN
    go_wp2
    go_loop [6, 7, 8] (fun v n kk => ∃ j v' : Nat, ∃ b : Bool, k + 1 ≤ j ∧ j ≤ s.size ∧ kk = .int .i64 j ∧ v = .int .i64 v' ∧ n = .bool b ∧ v' ≤ 200000 ∧ Hid (v' = expNum (cut (chs s) (k + 1) j)) ∧ Hid (b = hasMinus (cut (chs s) (k + 1) j))) (fun _ _ kk => s.size - (intOf kk).toNat)
    case atStart => exact ⟨k + 1, 0, false, by omega, by omega, by go_num, rfl, rfl, by omega, by unfold Hid; rw [cut_self]; rfl, by unfold Hid; rw [cut_self]; rfl⟩
    case round =>
     obtain ⟨j, v, b, hj1, hj2, rfl, rfl, rfl, hv, HV, HB⟩ := hrel
     by_cases hjl : j < s.size
     ·have HG := hid (chs_get s j hjl)
      have HS := hid (cut_snoc (chs s) (k + 1) j hj1 (by rw [HL.out]; exact hjl))
      have hcl : s[j].toNat < 256 := s[j].toNat_lt
      by_cases h45 : s[j].toNat = 45
      ·have hb45 : (((s[j].toNat : Nat) : Int) == 45) = true := by simp [h45]
       have H45 := hid h45
       have hnd : ¬ (48 ≤ ((s[j].toNat : Nat) : Int) ∧ ((s[j].toNat : Nat) : Int) ≤ 57) := by omega
       clear h45
       go_wp2_with (go_at_call 111; refine (isDigit_no _ _ hnd).mono ?_; rintro r w' ⟨rfl, rfl⟩)
       go_round
       case rel => exact ⟨j + 1, v, true, by omega, by omega, by go_num, rfl, rfl, hv, by unfold Hid; rw [HS.out, expNum_snoc, HG.out, H45.out, ← HV.out]; rfl, by unfold Hid; rw [HS.out, hasMinus_snoc, HG.out, H45.out]; simp⟩
       case measure => simp [intOf]; omega
      ·have hb45 : (((s[j].toNat : Nat) : Int) == 45) = false := by rw [beq_eq_false_iff_ne]; omega
       have H45 := hid h45
       clear h45
       by_cases hdg : 48 ≤ ((s[j].toNat : Nat) : Int) ∧ ((s[j].toNat : Nat) : Int) ≤ 57
       ·by_cases hsm : v < 20000
        ·have HST : Hid (expStep v s[j].toNat = 10 * v + (s[j].toNat - 48)) := by unfold Hid expStep isDig; rw [if_pos (by simp; omega)]
         go_wp2_with (go_at_call 111; refine (isDigit_yes _ _ hdg).mono ?_; rintro r w' ⟨rfl, rfl⟩)
         go_round
         case rel => exact ⟨j + 1, 10 * v + (s[j].toNat - 48), b, by omega, by omega, by go_num, by go_num, rfl, by omega, by unfold Hid; rw [HS.out, expNum_snoc, HG.out, ← HV.out, HST.out], by unfold Hid; rw [HS.out, hasMinus_snoc, HG.out, ← HB.out]; have := H45.out; simp [this]⟩
         case measure => simp [intOf]; omega
        ·have HST : Hid (expStep v s[j].toNat = v) := by unfold Hid expStep; rw [if_neg (by omega)]
         have hds : decide ((v : Int) < 20000) = false := by simp; omega
         go_wp2_with (go_at_call 111; refine (isDigit_yes _ _ hdg).mono ?_; rintro r w' ⟨rfl, rfl⟩)
         go_round
         case rel => exact ⟨j + 1, v, b, by omega, by omega, by go_num, rfl, rfl, hv, by unfold Hid; rw [HS.out, expNum_snoc, HG.out, ← HV.out, HST.out], by unfold Hid; rw [HS.out, hasMinus_snoc, HG.out, ← HB.out]; have := H45.out; simp [this]⟩
         case measure => simp [intOf]; omega
       ·have HST : Hid (expStep v s[j].toNat = v) := by unfold Hid expStep isDig; rw [if_neg (by simp; omega)]
        go_wp2_with (go_at_call 111; refine (isDigit_no _ _ hdg).mono ?_; rintro r w' ⟨rfl, rfl⟩)
        go_round
        case rel => exact ⟨j + 1, v, b, by omega, by omega, by go_num, rfl, rfl, hv, by unfold Hid; rw [HS.out, expNum_snoc, HG.out, ← HV.out, HST.out], by unfold Hid; rw [HS.out, hasMinus_snoc, HG.out, ← HB.out]; have := H45.out; simp [this]⟩
        case measure => simp [intOf]; omega
     ·have HA := hid (cut_all (chs s) (k + 1) j (by rw [HL.out]; omega))
      cases b with
      | true =>
       go_wp2
       go_ret
       exact ⟨ret_int (by rw [HE.out, expVal_eq, ← HA.out, ← HB.out, if_pos rfl, ← HV.out]), rfl⟩
      | false =>
       go_wp2
       go_ret
       exact ⟨ret_int (by rw [HE.out, expVal_eq, ← HA.out, ← HB.out, if_neg (by simp), ← HV.out]), rfl⟩
   ·have hb : (((s[k].toNat : Nat) : Int) != (letter : Int)) = true := by simp; omega
    have HQ := hid heq
    clear heq
    go_wp2
    go_round
    case rel => exact ⟨k + 1, by omega, by go_num, fun j hj => if h : j = k then by rw [h, HG.out]; exact HQ.out else HN.out j (by omega)⟩
    case measure => simp [intOf]; omega
  ·have HE := hid (expOf_none (chs s) letter (fun j hj => HN.out j (by rw [HL.out] at hj; omega)))
   go_wp2
   go_ret
   exact ⟨ret_int (by rw [HE.out]), rfl⟩

end Go.Proofs.YtbkdaoicnobllabGreatDoor
