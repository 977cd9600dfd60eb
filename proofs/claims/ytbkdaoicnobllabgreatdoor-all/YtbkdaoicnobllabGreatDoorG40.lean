import Derived.Test.YtbkdaoicnobllabGreatDoorG39
import Derived.Test.YtbkdaoicnobllabGreatDoorG36
import Derived.Test.YtbkdaoicnobllabGreatDoorG06

namespace Go.Proofs.YtbkdaoicnobllabGreatDoor
set_option maxRecDepth 100000
set_option maxHeartbeats 2000000
open Go.RowKit
structure SFrame (w wr : World) : Prop where
 below : Below w.heap.size w wr
 size : w.heap.size + 2 ≤ wr.heap.size
 r0 : wr.cell? ⟨w.heap.size, 0, none⟩ = some (.slice none 0 0)
 r1 : wr.cell? ⟨w.heap.size, 1, none⟩ = some (.int .i64 0)
 rf0 : wr.frozen? ⟨w.heap.size, 0, none⟩ = false
 rf1 : wr.frozen? ⟨w.heap.size, 1, none⟩ = false
 xf0 : wr.frozen? ⟨w.heap.size + 1, 0, none⟩ = false
 xf1 : wr.frozen? ⟨w.heap.size + 1, 1, none⟩ = false
theorem SFrame.next {w wr w1 : World} (h : SFrame w wr) (hb : Below wr.heap.size wr w1) : SFrame w w1 := by
 have hs := h.size
 have hs1 := hb.size
 have fz : ∀ b o, b < wr.heap.size → w1.frozen? ⟨b, o, none⟩ = wr.frozen? ⟨b, o, none⟩ := fun b o hh => hb.frozen (p := ⟨b, o, none⟩) hh
 exact ⟨h.below.trans (hb.mono (by omega)), by omega, keep_cell hb h.r0, keep_cell hb h.r1, (fz _ _ (by omega)).trans h.rf0, (fz _ _ (by omega)).trans h.rf1, (fz _ _ (by omega)).trans h.xf0, (fz _ _ (by omega)).trans h.xf1⟩
theorem SFrame.store {w wr : World} (h : SFrame w wr) (x y : Value) : SFrame w ((wr.setCell ⟨w.heap.size + 1, 0, none⟩ x).setCell ⟨w.heap.size + 1, 1, none⟩ y) := by
 have oth : ∀ o, ((wr.setCell ⟨w.heap.size + 1, 0, none⟩ x).setCell ⟨w.heap.size + 1, 1, none⟩ y).cell? ⟨w.heap.size, o, none⟩ = wr.cell? ⟨w.heap.size, o, none⟩ := fun o => by
  rw [World.cell?_setCell_other _ _ _ _ (by simp), World.cell?_setCell_other _ _ _ _ (by simp)]
 refine ⟨below_two h.below (by omega) _ _, by simpa [World.setCell] using h.size, ?_, ?_, ?_, ?_, ?_, ?_⟩
 ·rw [oth]; exact h.r0
 ·rw [oth]; exact h.r1
 ·rw [frozen_set, frozen_set]; exact h.rf0
 ·rw [frozen_set, frozen_set]; exact h.rf1
 ·rw [frozen_set, frozen_set]; exact h.xf0
 ·rw [frozen_set, frozen_set]; exact h.xf1

theorem six_end {L L1 : List Nat} {e e1 : Int} {K N : Nat} {t : Int} (h : ∀ K : Nat, val K L e = 10 ^ K * N) (h1 : ∀ K : Nat, -(K : Int) ≤ min t 0 → val K L1 e1 = two K t) (he : 0 ≤ e) (hk : -(K : Int) ≤ min t 0) (hk2 : -(K : Int) ≤ e1) :
  num L * num L1 * 10 ^ (e + e1 + K).toNat = N * two K t := by
 have h2 := h 0
 have h3 := h1 K hk
 unfold val at h2 h3
 rw [Nat.pow_zero, Nat.one_mul, show (e + ((0 : Nat) : Int)).toNat = e.toNat from by omega] at h2
 rw [← h3, ← h2, show (e + e1 + K).toNat = e.toNat + (e1 + K).toNat from by omega, Nat.pow_add]
 grind
theorem six_some {D : List Nat} {n i : Nat} {t : Bool} (h : t = some16 (D.drop i)) (hi : i = min n 300) (hn : n = D.length) : some16 (D.drop 300) = t := by
 rw [h]; by_cases h3 : n ≤ 300
 ·rw [List.drop_eq_nil_of_le (by omega), List.drop_eq_nil_of_le (by omega)]
 ·rw [show i = 300 from by omega]
theorem six_take {D : List Nat} {n i : Nat} (hi : i = min n 300) (hn : n = D.length) : D.take 300 = D.take i := by
 by_cases h3 : n ≤ 300
 ·rw [List.take_of_length_le (by omega), List.take_of_length_le (by omega)]
 ·rw [show i = 300 from by omega]

theorem six_step {wr W2 wc w3 : World} {s0 s1 s2 s4 : Value} {L L1 L2 L4 : List Nat} {e e1 e2 e4 hi0 hi1 hi2 hi4 : Int} {len0 len1 len2 len4 N m x b1 b2 b3 B : Nat} {own0 : Nat → Prop} (H : Nat)
  (HO : Out wr s0 L e len0 0 hi0 own0 (fun K => 10 ^ K * N)) (HO2 : Out W2 s1 L1 e1 len1 e hi1 (fun g => b1 ≤ g) (fun K => val K L e * m)) (HO3 : Out wc s2 L2 e2 len2 0 hi2 (fun g => b2 ≤ g) (fun K => 10 ^ K * x))
  (o4 : Out w3 s4 L4 e4 len4 (min e1 e2) hi4 (fun g => s1.ownBlock = some g ∨ s2.ownBlock = some g ∨ b3 ≤ g) (fun K => val K L1 e1 + val K L2 e2)) (h1 : B ≤ b1) (h2 : B ≤ b2) (h3 : B ≤ b3) (hH : N * m + x < 10 ^ H) :
  Out w3 s4 L4 e4 H 0 H (fun g => B ≤ g) (fun K => 10 ^ K * (N * m + x)) := by
 have he : 0 ≤ e := by
  by_cases h0 : L = []
  ·rw [HO.nil h0]; omega
  ·exact (HO.ne h0).1
 have he1 : 0 ≤ e1 := by
  by_cases h0 : L1 = []
  ·rw [HO2.nil h0]; omega
  ·have := (HO2.ne h0).1; omega
 have he2 : 0 ≤ e2 := by
  by_cases h0 : L2 = []
  ·rw [HO3.nil h0]; omega
  ·exact (HO3.ne h0).1
 have hv : ∀ K : Nat, val K L1 e1 + val K L2 e2 = 10 ^ K * (N * m + x) := fun K => by
  rw [HO2.val K (by omega), HO3.val K (by omega), HO.val K (by omega)]
  grind
 have h5 : Out w3 s4 L4 e4 len4 0 hi4 (fun g => B ≤ g) (fun K => 10 ^ K * (N * m + x)) :=
  o4.mono (Nat.le_refl _) (by omega) (Int.le_refl _) (fun g hg => by
   rcases hg with hg | hg | hg
   ·have := HO2.own g hg; omega
   ·have := HO3.own g hg; omega
   ·omega) (fun K _ => hv K)
 have h6 := h5.tight 0 H (by omega) (by omega) (by simpa using hH) (by omega)
 rwa [Int.sub_zero, Int.toNat_natCast] at h6
theorem some16_drop (D : List Nat) (k : Nat) (h : k < D.length) : some16 (D.drop k) = (decide (0 < D.getD k 0) || some16 (D.drop (k + 1))) := by
 unfold some16; rw [List.drop_eq_getElem_cons h, List.any_cons, List.getD_eq_getElem?_getD, List.getElem?_eq_getElem h]; rfl
theorem six_lt (N d i : Nat) (hN : N < 16 ^ i) (hd : d ≤ 15) : N * 16 + d < 10 ^ (2 * (i + 1)) := by
 have h1 : 16 ^ i ≤ 10 ^ (2 * i) := by rw [Nat.pow_mul]; exact Nat.pow_le_pow_left (by omega) _
 rw [show 2 * (i + 1) = 2 * i + 2 from by omega, Nat.pow_add]
 omega

theorem getD_le {D : List Nat} (h : ∀ d, d ∈ D → d ≤ 15) (i : Nat) : D.getD i 0 ≤ 15 := by
 rw [List.getD_eq_getElem?_getD]
 cases hi : D[i]? with
 | none => simp
 | some d => simpa using h d (List.mem_of_getElem? hi)

theorem sixteen_any (v : Value) (D : List Nat) (e0 : Int) (w : World) (hr : Row w v D) (hd : ∀ d, d ∈ D → d ≤ 15) (hl : D.length ≤ 900) (he : -300000 ≤ e0 ∧ e0 ≤ 300000) :
  Calls Tryz.prog 48 #[v, .int .i64 e0] w fun r w' => Below w.heap.size w w' ∧
   ∃ v' L' e', r = .returned (.agg #[v', .int .i64 e']) ∧ Out w' v' L' e' 20000 (-2500) 20000 (fun g => w.heap.size ≤ g) (fun K => sixV K D e0) := by
 by_cases h0 : D.length = 0
 ·obtain ⟨ao, cap, hv⟩ := hr.isSlice
  have hD := List.length_eq_zero_iff.1 h0
  rw [h0] at hv
  subst hv
  have HV : Hid (∀ K, sixV K D e0 = 0) := fun K => by unfold sixV; rw [if_pos h0]
  clear hr h0 hd hl
  go_enter Tryz.func48, Tryz.ntmps48
  go_wp2
  refine bodyPost_ret (v := .agg #[.slice none 0 0, .int .i64 0]) (by simp [results, Tryz.results48, go_sem]) rfl ⟨(Below.refl _ _).alloc (Nat.le_refl _) _, _, [], 0, rfl, ?_⟩
  exact ⟨Row.nil _, fun g hg => by simp [Value.ownBlock] at hg, norm_nil, Nat.zero_le _, fun _ => rfl, fun h => absurd rfl h, fun K _ => by rw [HV.out K, val_nil]⟩
 ·rcases hr with ⟨h1, _⟩ | ⟨b, off, cap, hv, q1, q2, q3, q4⟩
  ·rw [h1] at h0; simp at h0
  ·subst hv
   obtain ⟨n, hn⟩ : ∃ n, n = D.length := ⟨_, rfl⟩
   rw [← hn] at q1 q4 hl ⊢
   have hn0 : ((n : Int) == 0) = false := by rw [beq_eq_false_iff_ne]; omega
   have HN := hid hn
   have H4 : Hid (∀ j, j < n → w.cell? ⟨b, off + j, none⟩ = some (.int .i64 (D.getD j 0 : Nat))) := q4
   have HD := hid hd
   unfold maxLen at q2
   clear hn q4 hd h0
   by_cases hbig : 1200 < 4 * (n : Int) + e0
   ·have HV : Hid (∀ K, sixV K D e0 = 10 ^ (390 + (K : Int)).toNat) := fun K => by unfold sixV; rw [← HN.out, if_neg (by simpa using hn0), if_pos hbig]
    go_enter Tryz.func48, Tryz.ntmps48
    go_wp2_with fail
    refine (one_any 390 _).mono ?_
    rintro r w1 ⟨hb1, v', L', e', rfl, hout⟩
    have c0 := keep_cell hb1 (show (w.alloc (.cells #[.slice none 0 0, .int .i64 0] 95)).cell? ⟨w.heap.size, 0, none⟩ = some (.slice none 0 0) by simp [go_sem])
    have c1 := keep_cell hb1 (show (w.alloc (.cells #[.slice none 0 0, .int .i64 0] 95)).cell? ⟨w.heap.size, 1, none⟩ = some (.int .i64 0) by simp [go_sem])
    have f0 : w1.frozen? ⟨w.heap.size, 0, none⟩ = false := (hb1.frozen (p := ⟨w.heap.size, 0, none⟩) (by simp)).trans (by simp [go_sem])
    have f1 : w1.frozen? ⟨w.heap.size, 1, none⟩ = false := (hb1.frozen (p := ⟨w.heap.size, 1, none⟩) (by simp)).trans (by simp [go_sem])
    have HB := hid (((Below.refl w.heap.size w).alloc (Nat.le_refl _) (.cells #[.slice none 0 0, .int .i64 0] 95)).trans (hb1.mono (B' := w.heap.size) (by simp)))
    obtain ⟨ao', cp, hv⟩ := hout.row.isSlice
    rw [hv] at hout
    subst hv
    clear hb1
    go_wp2
    refine bodyPost_ret (v := .agg #[.slice ao' L'.length cp, .int .i64 e']) (dec_results rfl _ _ w.heap.size _ _ rfl (two_cells c0 c1).1 (two_cells c0 c1).2) rfl ⟨below_two HB.out (Nat.le_refl _) _ _, _, L', e', rfl, ?_⟩
    have h9 : Out w1 (.slice ao' L'.length cp) L' e' 20000 (-2500) 20000 (fun g => w.heap.size + 1 ≤ g) (fun K => sixV K D e0) :=
     hout.mono (by omega) (by omega) (by omega) (fun g hg => by simpa using hg) (fun K _ => (HV.out K).symm)
    exact ((h9.setCell _ _ (by simp)).setCell _ _ (by simp)).mono (Nat.le_refl _) (Int.le_refl _) (Int.le_refl _) (fun g hg => by omega) (fun _ _ => rfl)
   ·by_cases hsm : 4 * (n : Int) + e0 < -1200
    ·have HV : Hid (∀ K, sixV K D e0 = 10 ^ (-390 + (K : Int)).toNat) := fun K => by unfold sixV; rw [← HN.out, if_neg (by simpa using hn0), if_neg hbig, if_pos hsm]
     go_enter Tryz.func48, Tryz.ntmps48
     go_wp2_with fail
     refine (one_any (-390) _).mono ?_
     rintro r w1 ⟨hb1, v', L', e', rfl, hout⟩
     have c0 := keep_cell hb1 (show (w.alloc (.cells #[.slice none 0 0, .int .i64 0] 95)).cell? ⟨w.heap.size, 0, none⟩ = some (.slice none 0 0) by simp [go_sem])
     have c1 := keep_cell hb1 (show (w.alloc (.cells #[.slice none 0 0, .int .i64 0] 95)).cell? ⟨w.heap.size, 1, none⟩ = some (.int .i64 0) by simp [go_sem])
     have f0 : w1.frozen? ⟨w.heap.size, 0, none⟩ = false := (hb1.frozen (p := ⟨w.heap.size, 0, none⟩) (by simp)).trans (by simp [go_sem])
     have f1 : w1.frozen? ⟨w.heap.size, 1, none⟩ = false := (hb1.frozen (p := ⟨w.heap.size, 1, none⟩) (by simp)).trans (by simp [go_sem])
     have HB := hid (((Below.refl w.heap.size w).alloc (Nat.le_refl _) (.cells #[.slice none 0 0, .int .i64 0] 95)).trans (hb1.mono (B' := w.heap.size) (by simp)))
     obtain ⟨ao', cp, hv⟩ := hout.row.isSlice
     rw [hv] at hout
     subst hv
     clear hb1
     go_wp2
     refine bodyPost_ret (v := .agg #[.slice ao' L'.length cp, .int .i64 e']) (dec_results rfl _ _ w.heap.size _ _ rfl (two_cells c0 c1).1 (two_cells c0 c1).2) rfl ⟨below_two HB.out (Nat.le_refl _) _ _, _, L', e', rfl, ?_⟩
     have h9 : Out w1 (.slice ao' L'.length cp) L' e' 20000 (-2500) 20000 (fun g => w.heap.size + 1 ≤ g) (fun K => sixV K D e0) :=
      hout.mono (by omega) (by omega) (by omega) (fun g hg => by simpa using hg) (fun K _ => (HV.out K).symm)
     exact ((h9.setCell _ _ (by simp)).setCell _ _ (by simp)).mono (Nat.le_refl _) (Int.le_refl _) (Int.le_refl _) (fun g hg => by omega) (fun _ _ => rfl)
    ·go_enter Tryz.func48, Tryz.ntmps48
     go_wp2
     go_loop [6, 7, 1] (fun m rs ee => ∃ k : Nat, ∃ t : Bool, m = .int .i64 k ∧ k ≤ n ∧ (k = n ∨ 300 ≤ k) ∧ rs = .bool t ∧ ee = .int .i64 (e0 + 4 * (n - k)) ∧ Hid (t = some16 (D.drop k))) (fun m _ _ => (intOf m).toNat)
     case atStart => exact ⟨n, false, rfl, Nat.le_refl _, .inl rfl, rfl, by simp, by unfold Hid; rw [HN.out, List.drop_length]; rfl⟩
     case round =>
      obtain ⟨k, t, rfl, hk, hk2, rfl, rfl, HT⟩ := hrel
      have HROW : Hid (∀ W, Below w.heap.size w W → ∀ j, j < n → W.cell? ⟨b, off + j, none⟩ = some (.int .i64 (D.getD j 0 : Nat))) := fun W hW j hj => (hW.cell (p := ⟨b, off + j, none⟩) (by exact q3)).trans (H4.out j hj)

      by_cases hgt : 300 < k
      ·have hsd := hid (some16_drop D (k - 1) (by rw [← HN.out]; omega))
       obtain ⟨x, hx⟩ : ∃ x, x = D.getD (k - 1) 0 := ⟨_, rfl⟩
       have cx : w.cell? ⟨b, off + (k - 1), none⟩ = some (.int .i64 x) := by rw [hx]; exact H4.out (k - 1) (by omega)
       have HX := hid hx
       clear hx
       cases t with
       | true =>
        clear cx
        go_wp2
        go_round
        case rel => exact ⟨k - 1, true, by go_num, by omega, by omega, rfl, by go_num, by unfold Hid; rw [hsd.out, show k - 1 + 1 = k from by omega, ← HT.out]; simp⟩
        case measure => simp [intOf]; omega
       | false =>
        by_cases hx0 : 0 < x
        ·go_wp2
         go_round
         case rel => exact ⟨k - 1, true, by go_num, by omega, by omega, by simp, by go_num, by unfold Hid; rw [hsd.out, ← HX.out]; simp [hx0]⟩
         case measure => simp [intOf]; omega
        ·have hxz : x = 0 := by omega
         subst hxz
         go_wp2
         go_round
         case rel => exact ⟨k - 1, false, by go_num, by omega, by omega, rfl, by go_num, by unfold Hid; rw [hsd.out, ← HX.out, show k - 1 + 1 = k from by omega, ← HT.out]; simp⟩
         case measure => simp [intOf]; omega
      ·have hkm : k = min n 300 := by omega
       have HKM := hid hkm
       have hk300 : k ≤ 300 := by omega
       clear hkm hk2 hgt
       go_wp2
       go_loopw [9] (fun ii wr => ∃ i : Nat, ∃ ao cap L e, ii = .int .i64 i ∧ i ≤ k ∧ SFrame w wr ∧ wr.cell? ⟨w.heap.size + 1, 0, none⟩ = some (.slice ao (List.length L) cap) ∧ wr.cell? ⟨w.heap.size + 1, 1, none⟩ = some (.int .i64 e) ∧
        Out wr (.slice ao (List.length L) cap) L e (2 * i) 0 (2 * i : Nat) (fun g => w.heap.size + 2 ≤ g) (fun K => 10 ^ K * num16 (D.take i))) (fun ii _ => k - (intOf ii).toNat)
       case atStart =>
        refine ⟨0, none, 0, [], 0, rfl, Nat.zero_le _, ⟨box4_below, by simp, by simp [go_sem], by simp [go_sem], by simp [go_sem], by simp [go_sem], by simp [go_sem], by simp [go_sem]⟩, by simp [go_sem], by simp [go_sem], ⟨Row.nil _, fun g hg => by simp [Value.ownBlock] at hg, norm_nil, by simp, fun _ => rfl, fun h => absurd rfl h, fun K _ => by simp [val_nil, num16]⟩⟩
       case round =>
        obtain ⟨i, ao, cap, L, e, rfl, hi, hfr, x0, x1, hout⟩ := hrel
        have HO := hid hout
        clear hout
        by_cases hlt : i < k
        ·have hlt : i < n := by omega
         have hl := HO.out.len
         have hbd := HO.out.bounds 2000 (by omega) (by omega) (by omega)
         go_wp2_with fail
         refine (times_any _ L e 16 _ HO.out.row HO.out.norm.digs (by omega) (by omega) (by omega)).mono ?_
         rintro r w1 ⟨hb1, v1, L1, e1, rfl, o1'⟩
         obtain ⟨ao1, cap1, hv1⟩ := o1'.row.isSlice
         rw [hv1] at o1'
         subst hv1
         have hfr1 := hfr.next hb1
         have xf0 := hfr1.xf0
         have xf1 := hfr1.xf1
         have y0 := keep_cell hb1 x0
         have y1 := keep_cell hb1 x1
         have hs := hfr.size
         have hs1 := hb1.size
         have hfr2 := hfr1.store (.slice ao1 L1.length cap1) (.int .i64 e1)
         have hc2 := two_cells (x := .slice ao1 L1.length cap1) (y := .int .i64 e1) y0 y1
         have hout2 := (o1'.setCell ⟨w.heap.size + 1, 0, none⟩ (.slice ao1 L1.length cap1) (by simp; omega)).setCell ⟨w.heap.size + 1, 1, none⟩ (.int .i64 e1) (by simp; omega)
         have l1 := hout2.len
         have bd1 := hout2.bounds 3000 (by omega) (by omega) (by omega)
         have HO2 := hid hout2
         have HFR := hid hfr2
         have HC2 := hid hc2
         have cx := HROW.out _ hfr2.below i hlt
         clear hfr hfr1 x0 x1 hb1 o1' hout2 hfr2 hc2
         go_upto_region 19 with fail
         generalize (w1.setCell ⟨w.heap.size + 1, 0, none⟩ (.slice ao1 L1.length cap1)).setCell ⟨w.heap.size + 1, 1, none⟩ (.int .i64 e1) = W2 at *
         obtain ⟨x, hx⟩ : ∃ x, x = D.getD i 0 := ⟨_, rfl⟩
         rw [← hx] at cx
         have hx15 : x ≤ 15 := by rw [hx]; exact getD_le (HD.out) i
         have HX := hid hx
         clear hx y0 y1 xf0 xf1
         have hs2 := HFR.out.size
         go_wp2_with fail
         refine (whole_any x _ (by omega)).mono ?_
         rintro r w2 ⟨hb2, v2, L2, e2, rfl, o2⟩
         obtain ⟨ao2, cap2, hv2⟩ := o2.row.isSlice
         rw [hv2] at o2
         subst hv2
         have hl2 := o2.len
         have bd2 := o2.bounds 3000 (by omega) (by omega) (by omega)
         have hs3 := hb2.size
         have hfr3 := HFR.out.next hb2
         have p0 := keep_cell hb2 HC2.out.1
         have p1 := keep_cell hb2 HC2.out.2
         have hal := (Below.refl w2.heap.size w2).alloc (Nat.le_refl _) (.cells #[.slice ao2 L2.length cap2, .int .i64 e2] 95)
         have hr1 := hid ((HO2.out.below hb2 (Nat.le_refl _)).below hal (Nat.le_refl _))
         have hr2 := hid (o2.below hal (Nat.le_refl _))
         have hfr4 := hid (hfr3.next hal)
         have lt1 : w.heap.size + 1 < w2.heap.size := by omega
         have pp0 := keep_cell hal p0
         have pp1 := keep_cell hal p1
         clear cx hb2 o2 hfr3 hal
         have PP := hid (And.intro pp0 pp1)
         clear pp0 pp1
         go_wp2_with fail
         refine (add_any _ _ L1 L2 e1 e2 _ hr1.out.row hr2.out.row hr1.out.norm hr2.out.norm hr1.out.nil hr2.out.nil (by omega) (by omega) (by omega) (by omega)).mono ?_
         rintro r w3 ⟨hb3, v4, L4, e4, rfl, o4⟩
         obtain ⟨ao4, cap4, hv4⟩ := o4.row.isSlice
         rw [hv4] at o4
         subst hv4
         have hfr5 := hfr4.out.next hb3
         have xf0 := hfr5.xf0
         have xf1 := hfr5.xf1
         have y0 := keep_cell hb3 PP.out.1
         have y1 := keep_cell hb3 PP.out.2
         have hs5 : w2.heap.size + 1 ≤ w3.heap.size := by have := hb3.size; simpa using this
         have hfr6 := hfr5.store (.slice ao4 L4.length cap4) (.int .i64 e4)
         have hc6 := two_cells (x := .slice ao4 L4.length cap4) (y := .int .i64 e4) y0 y1
         have HST := hid (And.intro hfr6 (And.intro hc6 o4))
         clear p0 p1 hb3 hfr5 hfr6 hc6 o4 lt1 PP
         go_wp2
         go_roundw
         case rel =>
          have hN16 : num16 (D.take i) < 16 ^ i := by
           have := num16_lt (D.take i) (fun d hd => HD.out d (List.mem_of_mem_take hd))
           rwa [List.length_take, Nat.min_eq_left (by rw [← HN.out]; omega)] at this
          have h7 := six_step (B := w.heap.size + 2) (2 * (i + 1)) HO.out HO2.out hr2.out HST.out.2.2 (by omega) (by omega) (by simp; omega) (six_lt _ x i hN16 hx15)
          rw [← num16_snoc, HX.out, ← take_succ_getD D i (by rw [← HN.out]; exact hlt)] at h7
          exact ⟨i + 1, ao4, cap4, L4, e4, by go_num, by omega, HST.out.1, HST.out.2.1.1, HST.out.2.1.2, (h7.setCell _ _ (by simp)).setCell _ _ (by simp)⟩
         case measure => simp [intOf]; omega
        ·have hik : i = k := by omega
         subst hik
         have hcount : (e0 + 4 * ((n - min n 300 : Nat) : Int)) = e0 + 4 * ((n : Int) - i) := by have := HKM.out; omega
         cases t with
         | false =>
          have HV : Hid (∀ K, sixV K D e0 = num16 (D.take i) * two K (e0 + 4 * ((n : Int) - i))) := fun K => by
           unfold sixV; rw [← HN.out, if_neg (by simpa using hn0), if_neg (by omega), if_neg (by omega), six_some HT.out HKM.out HN.out, if_neg (by simp), hcount, six_take HKM.out HN.out]
          have hl := HO.out.len
          have hbd := HO.out.bounds 1000 (by omega) (by omega) (by omega)
          have he0 : 0 ≤ e := by
           by_cases h0 : L = []
           ·rw [HO.out.nil h0]; omega
           ·exact (HO.out.ne h0).1
          have hs := hfr.size
          go_wp2_with fail
          refine (two_tight (e0 + 4 * ((n : Int) - i)) _ (by omega)).mono ?_
          rintro r w1 ⟨hb1, v1, L1, e1, rfl, o1⟩
          obtain ⟨ao1, cap1, hv1⟩ := o1.row.isSlice
          rw [hv1] at o1
          subst hv1
          have l1 := o1.len
          have bd1 := o1.bounds 3000 (by omega) (by omega) (by omega)
          have hne1 : L1 ≠ [] := by
           intro h0
           have h1 := o1.val 5000 (by omega)
           rw [h0, val_nil] at h1
           have := two_pos 5000 (e0 + 4 * ((n : Int) - i)); omega
          have lo1 := (o1.ne hne1).1
          have hs1 := hb1.size
          have hfr1 := hfr.next hb1
          have y0 := keep_cell hb1 x0
          have y1 := keep_cell hb1 x1
          have hal := (Below.refl w1.heap.size w1).alloc (Nat.le_refl _) (.cells #[.slice ao1 L1.length cap1, .int .i64 e1] 95)
          have hr1 := hid ((HO.out.below hb1 (Nat.le_refl _)).below hal (Nat.le_refl _))
          have hr2 := hid (o1.below hal (Nat.le_refl _))
          have hfr2 := hid (hfr1.next hal)
          have lt1 : w.heap.size + 1 < w1.heap.size := by omega
          have HNE := hid hne1
          clear hfr hfr1 x0 x1 hb1 o1 hal hne1
          go_wp2_with fail
          refine (product_any _ _ L L1 e e1 _ hr1.out.row hr2.out.row hr1.out.norm hr2.out.norm (by omega) (by omega) (by omega) (by omega) HNE.out).mono ?_
          rintro r w2 ⟨hb2, v2, L2, e2, rfl, o2⟩
          obtain ⟨ao2, cap2, hv2⟩ := o2.row.isSlice
          rw [hv2] at o2
          subst hv2
          have hfr3 := hfr2.out.next hb2
          have r0 := hfr3.r0
          have r1 := hfr3.r1
          have rf0 := hfr3.rf0
          have rf1 := hfr3.rf1
          have HB := hid hfr3.below
          have hs9 : w.heap.size + 2 ≤ w1.heap.size := by omega
          clear y0 y1 hb2 hfr3 lt1
          go_wp2
          refine bodyPost_ret (v := .agg #[.slice ao2 L2.length cap2, .int .i64 e2]) (dec_results rfl _ _ w.heap.size _ _ rfl (two_cells r0 r1).1 (two_cells r0 r1).2) rfl ⟨below_two HB.out (Nat.le_refl _) _ _, _, L2, e2, rfl, ?_⟩
          have h9 : Out w2 (.slice ao2 L2.length cap2) L2 e2 20000 (-2500) 20000 (fun g => w.heap.size + 1 ≤ g) (fun K => sixV K D e0) :=
           o2.mono (Nat.le_refl _) (by omega) (Int.le_refl _) (fun g hg => by simp at hg; omega) (fun K hK => by
            rw [six_end (N := num16 (D.take i)) (t := e0 + 4 * ((n : Int) - i)) (fun K => HO.out.val K (by omega)) (fun K hK => hr2.out.val K hK) he0 (by omega) (by omega)]
            exact (HV.out K).symm)
          exact ((h9.setCell _ _ (by simp)).setCell _ _ (by simp)).mono (Nat.le_refl _) (Int.le_refl _) (Int.le_refl _) (fun g hg => by omega) (fun _ _ => rfl)
         | true =>
          have HV : Hid (∀ K, sixV K D e0 = (num16 (D.take i) * 2 + 1) * two K (e0 + 4 * ((n : Int) - i) - 1)) := fun K => by
           unfold sixV; rw [← HN.out, if_neg (by simpa using hn0), if_neg (by omega), if_neg (by omega), six_some HT.out HKM.out HN.out, if_pos rfl, hcount, six_take HKM.out HN.out]
          have hl := HO.out.len
          have hbd := HO.out.bounds 2000 (by omega) (by omega) (by omega)
          go_wp2_with fail
          refine (times_any _ L e 2 _ HO.out.row HO.out.norm.digs (by omega) (by omega) (by omega)).mono ?_
          rintro r w1 ⟨hb1, v1, L1, e1, rfl, o1'⟩
          obtain ⟨ao1, cap1, hv1⟩ := o1'.row.isSlice
          rw [hv1] at o1'
          subst hv1
          have hfr1 := hfr.next hb1
          have xf0 := hfr1.xf0
          have xf1 := hfr1.xf1
          have y0 := keep_cell hb1 x0
          have y1 := keep_cell hb1 x1
          have hs := hfr.size
          have hs1 := hb1.size
          have hfr2 := hfr1.store (.slice ao1 L1.length cap1) (.int .i64 e1)
          have hc2 := two_cells (x := .slice ao1 L1.length cap1) (y := .int .i64 e1) y0 y1
          have hout2 := (o1'.setCell ⟨w.heap.size + 1, 0, none⟩ (.slice ao1 L1.length cap1) (by simp; omega)).setCell ⟨w.heap.size + 1, 1, none⟩ (.int .i64 e1) (by simp; omega)
          have l1 := hout2.len
          have bd1 := hout2.bounds 3000 (by omega) (by omega) (by omega)
          have HO2 := hid hout2
          have HFR := hid hfr2
          have HC2 := hid hc2
          have HQ1 := hid hfr2.below
          clear hfr hfr1 x0 x1 hb1 o1' hout2 hfr2 hc2
          go_upto_region 23 with fail
          generalize (w1.setCell ⟨w.heap.size + 1, 0, none⟩ (.slice ao1 L1.length cap1)).setCell ⟨w.heap.size + 1, 1, none⟩ (.int .i64 e1) = W2 at *
          have HQ2 := hid hs
          clear HQ2
          clear HQ1
          have HX := trivial
          clear y0 y1 xf0 xf1
          have hs2 := HFR.out.size
          go_wp2_with fail
          refine (whole_any 1 _ (by omega)).mono ?_
          rintro r w2 ⟨hb2, v2, L2, e2, rfl, o2⟩
          obtain ⟨ao2, cap2, hv2⟩ := o2.row.isSlice
          rw [hv2] at o2
          subst hv2
          have hl2 := o2.len
          have bd2 := o2.bounds 3000 (by omega) (by omega) (by omega)
          have hs3 := hb2.size
          have hfr3 := HFR.out.next hb2
          have p0 := keep_cell hb2 HC2.out.1
          have p1 := keep_cell hb2 HC2.out.2
          have hal := (Below.refl w2.heap.size w2).alloc (Nat.le_refl _) (.cells #[.slice ao2 L2.length cap2, .int .i64 e2] 95)
          have hr1 := hid ((HO2.out.below hb2 (Nat.le_refl _)).below hal (Nat.le_refl _))
          have hr2 := hid (o2.below hal (Nat.le_refl _))
          have hfr4 := hid (hfr3.next hal)
          have lt1 : w.heap.size + 1 < w2.heap.size := by omega
          have pp0 := keep_cell hal p0
          have pp1 := keep_cell hal p1
          clear hb2 o2 hfr3 hal
          have PP := hid (And.intro pp0 pp1)
          clear pp0 pp1
          go_wp2_with fail
          refine (add_any _ _ L1 L2 e1 e2 _ hr1.out.row hr2.out.row hr1.out.norm hr2.out.norm hr1.out.nil hr2.out.nil (by omega) (by omega) (by omega) (by omega)).mono ?_
          rintro r w3 ⟨hb3, v4, L4, e4, rfl, o4⟩
          obtain ⟨ao4, cap4, hv4⟩ := o4.row.isSlice
          rw [hv4] at o4
          subst hv4
          have hfr5 := hfr4.out.next hb3
          have xf0 := hfr5.xf0
          have xf1 := hfr5.xf1
          have y0 := keep_cell hb3 PP.out.1
          have y1 := keep_cell hb3 PP.out.2
          have hs5 : w2.heap.size + 1 ≤ w3.heap.size := by have := hb3.size; simpa using this
          have hfr6 := hfr5.store (.slice ao4 L4.length cap4) (.int .i64 e4)
          have hc6 := two_cells (x := .slice ao4 L4.length cap4) (y := .int .i64 e4) y0 y1
          have HST := hid (And.intro hfr6 (And.intro hc6 o4))
          clear p0 p1 hb3 hfr5 hfr6 hc6 o4 lt1 PP
          go_upto_region 26 with fail
          have hN16 : num16 (D.take i) < 16 ^ i := by
           have := num16_lt (D.take i) (fun d hd => HD.out d (List.mem_of_mem_take hd))
           rwa [List.length_take, Nat.min_eq_left (by rw [← HN.out]; omega)] at this
          have h7 := six_step (B := w.heap.size + 2) (2 * (i + 1)) HO.out HO2.out hr2.out HST.out.2.2 (by omega) (by omega) (by simp; omega) (Nat.lt_of_le_of_lt (by omega) (six_lt _ 1 i hN16 (by omega)))
          have hfr := HST.out.1
          have x0 := HST.out.2.1.1
          have x1 := HST.out.2.1.2
          have HOn := hid ((h7.setCell ⟨w.heap.size + 1, 0, none⟩ (.slice ao4 L4.length cap4) (by simp)).setCell ⟨w.heap.size + 1, 1, none⟩ (.int .i64 e4) (by simp))
          clear h7 HO HO2 hr1 hr2 hfr4 HFR HC2 HST xf0 xf1 y0 y1 hN16 HX bd1 bd2 l1 hl2 hs hs1 hs2 hs3 hs5 hl hbd
          generalize (w3.setCell ⟨w.heap.size + 1, 0, none⟩ (.slice ao4 L4.length cap4)).setCell ⟨w.heap.size + 1, 1, none⟩ (.int .i64 e4) = w3' at *
          obtain ⟨L, hL⟩ : ∃ L, L = L4 := ⟨_, rfl⟩
          obtain ⟨e, hee⟩ : ∃ e, e = e4 := ⟨_, rfl⟩
          subst hL hee
          have HO := HOn
          clear HOn
          have hl := HO.out.len
          have hbd := HO.out.bounds 1000 (by omega) (by omega) (by omega)
          have he0 : 0 ≤ e := by
           by_cases h0 : L = []
           ·rw [HO.out.nil h0]; omega
           ·exact (HO.out.ne h0).1
          have hs := hfr.size
          go_wp2_with fail
          refine (two_tight (e0 + 4 * ((n : Int) - i) - 1) _ (by omega)).mono ?_
          rintro r w1 ⟨hb1, v1, L1, e1, rfl, o1⟩
          obtain ⟨ao1, cap1, hv1⟩ := o1.row.isSlice
          rw [hv1] at o1
          subst hv1
          have l1 := o1.len
          have bd1 := o1.bounds 3000 (by omega) (by omega) (by omega)
          have hne1 : L1 ≠ [] := by
           intro h0
           have h1 := o1.val 5000 (by omega)
           rw [h0, val_nil] at h1
           have := two_pos 5000 (e0 + 4 * ((n : Int) - i) - 1); omega
          have lo1 := (o1.ne hne1).1
          have hs1 := hb1.size
          have hfr1 := hfr.next hb1
          have y0 := keep_cell hb1 x0
          have y1 := keep_cell hb1 x1
          have hal := (Below.refl w1.heap.size w1).alloc (Nat.le_refl _) (.cells #[.slice ao1 L1.length cap1, .int .i64 e1] 95)
          have hr1 := hid ((HO.out.below hb1 (Nat.le_refl _)).below hal (Nat.le_refl _))
          have hr2 := hid (o1.below hal (Nat.le_refl _))
          have hfr2 := hid (hfr1.next hal)
          have lt1 : w.heap.size + 1 < w1.heap.size := by omega
          have HNE := hid hne1
          clear hfr hfr1 x0 x1 hb1 o1 hal hne1
          go_wp2_with fail
          refine (product_any _ _ L L1 e e1 _ hr1.out.row hr2.out.row hr1.out.norm hr2.out.norm (by omega) (by omega) (by omega) (by omega) HNE.out).mono ?_
          rintro r w2 ⟨hb2, v2, L2, e2, rfl, o2⟩
          obtain ⟨ao2, cap2, hv2⟩ := o2.row.isSlice
          rw [hv2] at o2
          subst hv2
          have hfr3 := hfr2.out.next hb2
          have r0 := hfr3.r0
          have r1 := hfr3.r1
          have rf0 := hfr3.rf0
          have rf1 := hfr3.rf1
          have HB := hid hfr3.below
          have hs9 : w.heap.size + 2 ≤ w1.heap.size := by omega
          clear y0 y1 hb2 hfr3 lt1
          go_wp2
          refine bodyPost_ret (v := .agg #[.slice ao2 L2.length cap2, .int .i64 e2]) (dec_results rfl _ _ w.heap.size _ _ rfl (two_cells r0 r1).1 (two_cells r0 r1).2) rfl ⟨below_two HB.out (Nat.le_refl _) _ _, _, L2, e2, rfl, ?_⟩
          have h9 : Out w2 (.slice ao2 L2.length cap2) L2 e2 20000 (-2500) 20000 (fun g => w.heap.size + 1 ≤ g) (fun K => sixV K D e0) :=
           o2.mono (Nat.le_refl _) (by omega) (Int.le_refl _) (fun g hg => by simp at hg; omega) (fun K hK => by
            rw [six_end (N := num16 (D.take i) * 2 + 1) (t := e0 + 4 * ((n : Int) - i) - 1) (fun K => HO.out.val K (by omega)) (fun K hK => hr2.out.val K hK) he0 (by omega) (by omega)]
            exact (HV.out K).symm)
          exact ((h9.setCell _ _ (by simp)).setCell _ _ (by simp)).mono (Nat.le_refl _) (Int.le_refl _) (Int.le_refl _) (fun g hg => by omega) (fun _ _ => rfl)

end Go.Proofs.YtbkdaoicnobllabGreatDoor

namespace Go.Proofs.YtbkdaoicnobllabGreatDoor
set_option maxRecDepth 100000
set_option maxHeartbeats 1000000
open Go.RowKit

theorem decimal_any (s : ByteArray) (w : World) (hs : s.size ≤ 900) (hok : ∀ c, c ∈ ahead (chs s) 101 → c = 46 ∨ isDig c = true) :
  Calls Tryz.prog 50 #[.string s] w fun r w' => Below w.heap.size w w' ∧
   ∃ v' L' e', r = .returned (.agg #[v', .int .i64 e']) ∧ Out w' v' L' e' 900 (expOf (chs s) 101 - (decScan (ahead (chs s) 101)).2.1) (expOf (chs s) 101 - (decScan (ahead (chs s) 101)).2.1 + (decScan (ahead (chs s) 101)).1.length) (fun g => w.heap.size ≤ g)
    (fun K => val K (decScan (ahead (chs s) 101)).1 (expOf (chs s) 101 - (decScan (ahead (chs s) 101)).2.1)) := by
 have HL := hid (chs_length s)
 have HOK := hid hok
 clear hok
 obtain ⟨i0, hi, hz0, hz1, hz2⟩ := info_parts Tryz.info_int
 go_enter Tryz.func50, Tryz.ntmps50
 go_wp2
 go_loopw [3, 4, 5, 6] (fun o bh sn i wr => ∃ k b : Nat, ∃ t : Bool, ∃ O : List Nat, k ≤ s.size ∧ i = .int .i64 k ∧ bh = .int .i64 b ∧ b ≤ k ∧ sn = .bool t ∧ O.length ≤ k ∧ Own wr (w.heap.size + 1) o O ∧ Hid (decScan ((chs s).take k) = (O, b, t)) ∧ Hid (∀ j, j < k → (chs s).getD j 0 ≠ 101) ∧
   Below (w.heap.size + 1) (w.alloc (.cells #[.slice none 0 0, .int .i64 0] 95)) wr) (fun _ _ _ i _ => s.size - (intOf i).toNat)
 case atStart => exact ⟨0, 0, false, [], Nat.zero_le _, rfl, rfl, Nat.le_refl _, rfl, Nat.le_refl _, Own.nil _ _, rfl, fun j hj => absurd hj (by omega), Below.refl _ _⟩
 case round =>
  obtain ⟨k, b, t, O, hk, rfl, rfl, hbk, rfl, hOk, hown, HS, HN, hb⟩ := hrel
  have hsz := hb.size
  simp at hsz
  by_cases hlen : k < s.size
  ·have HG := hid (chs_get s k hlen)
   have HT := hid (take_snoc_getD (chs s) k (by rw [HL.out]; exact hlen))
   by_cases he : s[k].toNat = 101
   ·have hbe : (((s[k].toNat : Nat) : Int) != 101) = false := by simp [he]
    have HA := hid (ahead_take (chs s) 101 k (by rw [HL.out]; exact hk) HN.out (fun _ => by rw [HG.out]; exact he))
    clear he
    have HDG : Hid (Digs O) := by
     have h1 := decScan_digs (ahead (chs s) 101) HOK.out
     rw [HA.out, HS.out] at h1
     exact h1
    have hx := exponent_any s 101 wr hs
    rw [show ((101 : Nat) : Int) = 101 from rfl] at hx
    have hbd := expOf_bd (chs s) 101
    go_wp2_with fail
    refine hx.mono ?_
    rintro r w1 ⟨rfl, rfl⟩
    obtain ⟨E, hE⟩ : ∃ E, E = expOf (chs s) 101 := ⟨_, rfl⟩
    rw [← hE] at hbd ⊢
    have HEE := hid hE
    clear hE hx
    go_wp2_with fail
    refine (made_any _ O (E - b) _ hown.row HDG.out (by omega) (by omega)).mono ?_
    rintro r w2 ⟨hb2, v', L', e', rfl, hout⟩
    have hb3 := below_next hb hb2 (by omega)
    have hform := hown.form
    have x0 : w2.cell? ⟨w.heap.size, 0, none⟩ = some (.slice none 0 0) := (hb3.cell (p := ⟨w.heap.size, 0, none⟩) (by simp)).trans (by simp [go_sem])
    have x1 : w2.cell? ⟨w.heap.size, 1, none⟩ = some (.int .i64 0) := (hb3.cell (p := ⟨w.heap.size, 1, none⟩) (by simp)).trans (by simp [go_sem])
    have f0 : w2.frozen? ⟨w.heap.size, 0, none⟩ = false := (hb3.frozen (p := ⟨w.heap.size, 0, none⟩) (by simp)).trans (by simp [go_sem])
    have f1 : w2.frozen? ⟨w.heap.size, 1, none⟩ = false := (hb3.frozen (p := ⟨w.heap.size, 1, none⟩) (by simp)).trans (by simp [go_sem])
    have HB := hid (((Below.refl w.heap.size w).alloc (Nat.le_refl _) (.cells #[.slice none 0 0, .int .i64 0] 95)).trans (hb3.mono (B' := w.heap.size) (by omega)))
    obtain ⟨ao, cp, hv⟩ := hout.row.isSlice
    rw [hv] at hout
    subst hv
    have HF := hid hform
    clear hb hb2 hb3 hown hform
    go_wp2
    refine bodyPost_ret (v := .agg #[.slice ao L'.length cp, .int .i64 e']) (dec_results rfl _ _ w.heap.size _ _ rfl (two_cells x0 x1).1 (two_cells x0 x1).2) rfl ⟨below_two HB.out (Nat.le_refl _) _ _, _, L', e', rfl, ?_⟩
    rw [HA.out, HS.out, ← HEE.out]
    have h9 : Out w2 (.slice ao L'.length cp) L' e' 900 (E - b) (E - b + O.length) (fun g => w.heap.size + 1 ≤ g) (fun K => val K O (E - b)) :=
     hout.mono (by omega) (Int.le_refl _) (Int.le_refl _) (fun g hg => by
      rcases HF.out with ⟨_, h⟩ | ⟨g', cp', h, hg1, _⟩
      ·rw [h] at hg; simp [Value.ownBlock] at hg
      ·rw [h] at hg; simp [Value.ownBlock] at hg; omega) (fun _ _ => rfl)
    exact ((h9.setCell _ _ (by simp)).setCell _ _ (by simp)).mono (Nat.le_refl _) (Int.le_refl _) (Int.le_refl _) (fun g hg => by omega) (fun _ _ => rfl)
   ·have hbe : (((s[k].toNat : Nat) : Int) != 101) = true := by simp; omega
    have HE := hid he
    clear he
    by_cases hp : s[k].toNat = 46
    ·have hbp : (((s[k].toNat : Nat) : Int) == 46) = true := by simp [hp]
     have HP := hid hp
     clear hp
     go_wp2
     go_roundw
     case rel => exact ⟨k + 1, b, true, O, by omega, by go_num, rfl, by omega, rfl, by omega, hown, by unfold Hid; rw [HT.out, decScan_snoc, HS.out, HG.out, HP.out]; rfl, fun j hj => if h : j = k then by rw [h, HG.out]; exact HE.out else HN.out j (by omega), hb⟩
     case measure => simp [intOf]; omega
    ·have hbp : (((s[k].toNat : Nat) : Int) == 46) = false := by rw [beq_eq_false_iff_ne]; omega
     have HP := hid hp
     clear hp
     have hcl : s[k].toNat < 256 := s[k].toNat_lt
     by_cases hdg : 48 ≤ s[k].toNat
     ·have hown' : wr.ownsRow (w.heap.size + 1) 3 1 u3 O.length (ints O) := hown
      clear hown
      go_wp2_with (at_builtin; refine wpList_append_own _ rfl (.tmp 24) (.tmp 30) 69 rfl (w.heap.size + 1) 3 i0 (.int .i64 0) 1 8 Tryz.underlying69 hi hz0 hz1 hz2 rfl (by decide) _ _ _ rfl (hown'.alloc _) ⟨wr.heap.size, 0, none⟩ 1 1 [.int .i64 ((s[k].toNat : Int) - 48)] rfl rfl ?c1 ?c2 ?c3 ?c4 ?c5 ?_)
      case c1 => exact cell_one_new _ _ _
      case c2 => intro u hu; simp at hu; subst hu; rfl
      case c3 => unfold maxLen; omega
      case c4 => omega
      case c5 => simp; omega
      intro v' w1 hown1 hgrow _
      have hb1 := (hb.alloc (by omega) (.cells #[.int .i64 ((s[k].toNat : Int) - 48)] 3)).grown hgrow (by simp; omega) (fun k hk => (hown'.lt k hk).1)
      have hown2 := Own.snoc (d := s[k].toNat - 48) hown1 rfl (by omega)
      clear hown' hgrow hb hown1
      cases t with
      | true =>
       go_wp2
       go_roundw
       case rel => exact ⟨k + 1, b + 1, true, O ++ [s[k].toNat - 48], by omega, by go_num, by go_num, by omega, rfl, by simp; omega, hown2, by unfold Hid; rw [HT.out, decScan_snoc, HS.out, HG.out]; unfold decStep; rw [if_neg HP.out]; simp, fun j hj => if h : j = k then by rw [h, HG.out]; exact HE.out else HN.out j (by omega), hb1⟩
       case measure => simp [intOf]; omega
      | false =>
       go_wp2
       go_roundw
       case rel => exact ⟨k + 1, b, false, O ++ [s[k].toNat - 48], by omega, by go_num, rfl, by omega, rfl, by simp; omega, hown2, by unfold Hid; rw [HT.out, decScan_snoc, HS.out, HG.out]; unfold decStep; rw [if_neg HP.out]; simp, fun j hj => if h : j = k then by rw [h, HG.out]; exact HE.out else HN.out j (by omega), hb1⟩
       case measure => simp [intOf]; omega
     ·exfalso
      have hm : s[k].toNat ∈ ahead (chs s) 101 := mem_ahead (chs s) 101 k (by rw [HL.out]; exact hlen) (fun j hj => HN.out j hj) (by rw [HG.out]; exact HE.out) _ HG.out.symm
      rcases HOK.out _ hm with h | h
      ·exact HP.out h
      ·simp [isDig] at h; omega
  ·have HA := hid (ahead_take (chs s) 101 k (by rw [HL.out]; exact hk) HN.out (fun h => by rw [HL.out] at h; omega))
   have HDG : Hid (Digs O) := by
    have h1 := decScan_digs (ahead (chs s) 101) HOK.out
    rw [HA.out, HS.out] at h1
    exact h1
   have hx := exponent_any s 101 wr hs
   rw [show ((101 : Nat) : Int) = 101 from rfl] at hx
   have hbd := expOf_bd (chs s) 101
   go_wp2_with fail
   refine hx.mono ?_
   rintro r w1 ⟨rfl, rfl⟩
   obtain ⟨E, hE⟩ : ∃ E, E = expOf (chs s) 101 := ⟨_, rfl⟩
   rw [← hE] at hbd ⊢
   have HEE := hid hE
   clear hE hx
   go_wp2_with fail
   refine (made_any _ O (E - b) _ hown.row HDG.out (by omega) (by omega)).mono ?_
   rintro r w2 ⟨hb2, v', L', e', rfl, hout⟩
   have hb3 := below_next hb hb2 (by omega)
   have hform := hown.form
   have x0 : w2.cell? ⟨w.heap.size, 0, none⟩ = some (.slice none 0 0) := (hb3.cell (p := ⟨w.heap.size, 0, none⟩) (by simp)).trans (by simp [go_sem])
   have x1 : w2.cell? ⟨w.heap.size, 1, none⟩ = some (.int .i64 0) := (hb3.cell (p := ⟨w.heap.size, 1, none⟩) (by simp)).trans (by simp [go_sem])
   have f0 : w2.frozen? ⟨w.heap.size, 0, none⟩ = false := (hb3.frozen (p := ⟨w.heap.size, 0, none⟩) (by simp)).trans (by simp [go_sem])
   have f1 : w2.frozen? ⟨w.heap.size, 1, none⟩ = false := (hb3.frozen (p := ⟨w.heap.size, 1, none⟩) (by simp)).trans (by simp [go_sem])
   have HB := hid (((Below.refl w.heap.size w).alloc (Nat.le_refl _) (.cells #[.slice none 0 0, .int .i64 0] 95)).trans (hb3.mono (B' := w.heap.size) (by omega)))
   obtain ⟨ao, cp, hv⟩ := hout.row.isSlice
   rw [hv] at hout
   subst hv
   have HF := hid hform
   clear hb hb2 hb3 hown hform
   go_wp2
   refine bodyPost_ret (v := .agg #[.slice ao L'.length cp, .int .i64 e']) (dec_results rfl _ _ w.heap.size _ _ rfl (two_cells x0 x1).1 (two_cells x0 x1).2) rfl ⟨below_two HB.out (Nat.le_refl _) _ _, _, L', e', rfl, ?_⟩
   rw [HA.out, HS.out, ← HEE.out]
   have h9 : Out w2 (.slice ao L'.length cp) L' e' 900 (E - b) (E - b + O.length) (fun g => w.heap.size + 1 ≤ g) (fun K => val K O (E - b)) :=
    hout.mono (by omega) (Int.le_refl _) (Int.le_refl _) (fun g hg => by
     rcases HF.out with ⟨_, h⟩ | ⟨g', cp', h, hg1, _⟩
     ·rw [h] at hg; simp [Value.ownBlock] at hg
     ·rw [h] at hg; simp [Value.ownBlock] at hg; omega) (fun _ _ => rfl)
   exact ((h9.setCell _ _ (by simp)).setCell _ _ (by simp)).mono (Nat.le_refl _) (Int.le_refl _) (Int.le_refl _) (fun g hg => by omega) (fun _ _ => rfl)

end Go.Proofs.YtbkdaoicnobllabGreatDoor
