import Derived.Test.YtbkdaoicnobllabGreatDoorG13
import Derived.Test.YtbkdaoicnobllabGreatDoorG16
import Derived.Test.YtbkdaoicnobllabGreatDoorG04

namespace Go.Proofs.YtbkdaoicnobllabGreatDoor
set_option maxRecDepth 100000
set_option maxHeartbeats 1000000
open Go.RowKit

theorem add_any (v1 v2 : Value) (L1 L2 : List Nat) (e1 e2 : Int) (w : World) (r1 : Row w v1 L1) (r2 : Row w v2 L2) (n1 : Norm L1) (n2 : Norm L2) (z1 : L1 = [] → e1 = 0) (z2 : L2 = [] → e2 = 0) (l1 : L1.length ≤ 200000) (l2 : L2.length ≤ 200000)
  (b1 : -200000 ≤ e1 ∧ e1 ≤ 200000) (b2 : -200000 ≤ e2 ∧ e2 ≤ 200000) :
  Calls Tryz.prog 75 #[.agg #[v1, .int .i64 e1], .agg #[v2, .int .i64 e2]] w fun r w' => Below w.heap.size w w' ∧
   ∃ v' L' e', r = .returned (.agg #[v', .int .i64 e']) ∧ Out w' v' L' e' (max (e1 + L1.length) (e2 + L2.length) + 1 - min e1 e2).toNat (min e1 e2) (max (e1 + L1.length) (e2 + L2.length) + 1) (fun g => v1.ownBlock = some g ∨ v2.ownBlock = some g ∨ w.heap.size ≤ g) (fun K => val K L1 e1 + val K L2 e2) := by
 obtain ⟨a1, c1, hv1⟩ := r1.isSlice
 obtain ⟨a2, c2, hv2⟩ := r2.isSlice
 subst hv1 hv2
 have HR : Hid (Row w (.slice a1 L1.length c1) L1 ∧ Row w (.slice a2 L2.length c2) L2 ∧ Norm L1 ∧ Norm L2 ∧ (L1 = [] → e1 = 0) ∧ (L2 = [] → e2 = 0)) := ⟨r1, r2, n1, n2, z1, z2⟩
 clear r1 r2 n1 n2 z1 z2
 by_cases hz1 : L1.length = 0
 ·have HZ : Hid (L1.length = 0) := hz1
  clear hz1
  go_enter Tryz.func75, Tryz.ntmps75
  go_wp2_with fail
  refine (zero_yes _ L1 e1 _ (HR.out.1.below box6_below (Nat.le_refl _)) HZ.out).mono ?_
  rintro r w3 ⟨rfl, hb3⟩
  have hb := box6_start hb3
  clear hb3
  obtain ⟨x1, x2, x3, x4, x5, x6, f5, f6, hs⟩ := box6 hb
  have HB : Hid (Below w.heap.size w w3) := box6_up hb
  clear hb
  go_wp2
  refine bodyPost_ret (v := .agg #[.slice a2 L2.length c2, .int .i64 e2]) (dec_results rfl _ _ (w.heap.size + 1 + 1) _ _ rfl (two_cells x5 x6).1 (two_cells x5 x6).2) rfl ⟨below_two HB.out (by omega) _ _, _, L2, e2, rfl, ?_⟩
  obtain ⟨r1, r2, n1, n2, z1, z2⟩ := HR.out
  have h1 := List.length_eq_zero_iff.1 HZ.out
  have hlt := r2.lt
  have h2 : Out w3 (.slice a2 L2.length c2) L2 e2 L2.length (min e1 e2) (max (e1 + L1.length) (e2 + L2.length) + 1) (fun g => g < w.heap.size ∧ (Value.slice a2 L2.length c2).ownBlock = some g) (fun K => val K L2 e2) :=
   ⟨r2.below HB.out (Nat.le_refl _), fun g hg => ⟨hlt g hg, hg⟩, n2, Nat.le_refl _, z2, fun _ => by omega, fun _ _ => rfl⟩
  refine ((h2.setCell _ _ (by rintro ⟨h, _⟩; simp at h; omega)).setCell _ _ (by rintro ⟨h, _⟩; simp at h; omega)).mono (by omega) (Int.le_refl _) (Int.le_refl _) (fun g hg => .inr (.inl hg.2)) (fun K _ => by rw [h1, val_nil, Nat.zero_add])
 ·by_cases hz2 : L2.length = 0
  ·have HZ : Hid (L2.length = 0) := hz2
   clear hz2
   go_enter Tryz.func75, Tryz.ntmps75
   go_wp2_with fail
   refine (zero_no _ L1 e1 _ (HR.out.1.below box6_below (Nat.le_refl _)) hz1).mono ?_
   rintro r w3 ⟨rfl, hb3⟩
   have hb := box6_start hb3
   clear hb3
   obtain ⟨x1, x2, x3, x4, x5, x6, f5, f6, hs⟩ := box6 hb
   go_wp2_with fail
   refine (zero_yes _ L2 e2 _ (HR.out.2.1.below (box6_up hb) (Nat.le_refl _)) HZ.out).mono ?_
   rintro r w4 ⟨rfl, hb4⟩
   have hb5 := below_next hb hb4 hs
   clear x1 x2 x3 x4 x5 x6 f5 f6 hs hb4 hb
   obtain ⟨x1, x2, x3, x4, x5, x6, f5, f6, hs⟩ := box6 hb5
   have HB : Hid (Below w.heap.size w w4) := box6_up hb5
   clear hb5
   go_wp2
   refine bodyPost_ret (v := .agg #[.slice a1 L1.length c1, .int .i64 e1]) (dec_results rfl _ _ (w.heap.size + 1 + 1) _ _ rfl (two_cells x5 x6).1 (two_cells x5 x6).2) rfl ⟨below_two HB.out (by omega) _ _, _, L1, e1, rfl, ?_⟩
   obtain ⟨r1, r2, n1, n2, z1, z2⟩ := HR.out
   have h1 := List.length_eq_zero_iff.1 HZ.out
   have hlt := r1.lt
   have h2 : Out w4 (.slice a1 L1.length c1) L1 e1 L1.length (min e1 e2) (max (e1 + L1.length) (e2 + L2.length) + 1) (fun g => g < w.heap.size ∧ (Value.slice a1 L1.length c1).ownBlock = some g) (fun K => val K L1 e1) :=
    ⟨r1.below HB.out (Nat.le_refl _), fun g hg => ⟨hlt g hg, hg⟩, n1, Nat.le_refl _, z1, fun _ => by omega, fun _ _ => rfl⟩
   refine ((h2.setCell _ _ (by rintro ⟨h, _⟩; simp at h; omega)).setCell _ _ (by rintro ⟨h, _⟩; simp at h; omega)).mono (by omega) (Int.le_refl _) (Int.le_refl _) (fun g hg => .inl hg.2) (fun K _ => by rw [h1, val_nil, Nat.add_zero])
  ·obtain ⟨i0, hi, hz0, hz1', hz2'⟩ := info_parts Tryz.info_int
   go_enter Tryz.func75, Tryz.ntmps75
   go_wp2_with fail
   refine (zero_no _ L1 e1 _ (HR.out.1.below box6_below (Nat.le_refl _)) hz1).mono ?_
   rintro r w3 ⟨rfl, hb3⟩
   have hb := box6_start hb3
   clear hb3
   obtain ⟨x1, x2, x3, x4, x5, x6, f5, f6, hs⟩ := box6 hb
   go_wp2_with fail
   refine (zero_no _ L2 e2 _ (HR.out.2.1.below (box6_up hb) (Nat.le_refl _)) hz2).mono ?_
   rintro r w4 ⟨rfl, hb4⟩
   have hb5 := below_next hb hb4 hs
   clear x1 x2 x3 x4 x5 x6 f5 f6 hs hb4 hb
   obtain ⟨x1, x2, x3, x4, x5, x6, f5, f6, hs⟩ := box6 hb5
   go_wp2_with fail
   refine (least_any e1 e2 w4).mono ?_
   rintro r w5 ⟨rfl, rfl⟩
   go_wp2_with fail
   refine (top_any _ L1 e1 _ (HR.out.1.below (box6_up hb5) (Nat.le_refl _)) (by omega) (by omega)).mono ?_
   rintro r w6 ⟨rfl, hb6⟩
   have hb7 := below_next hb5 hb6 hs
   clear x1 x2 x3 x4 x5 x6 f5 f6 hs hb6 hb5
   obtain ⟨x1, x2, x3, x4, x5, x6, f5, f6, hs⟩ := box6 hb7
   go_wp2_with fail
   refine (top_any _ L2 e2 _ (HR.out.2.1.below (box6_up hb7) (Nat.le_refl _)) (by omega) (by omega)).mono ?_
   rintro r w7 ⟨rfl, hb8⟩
   have hb9 := below_next hb7 hb8 hs
   clear x1 x2 x3 x4 x5 x6 f5 f6 hs hb8 hb7
   obtain ⟨x1, x2, x3, x4, x5, x6, f5, f6, hs⟩ := box6 hb9
   go_wp2_with fail
   refine (most_any _ _ w7).mono ?_
   rintro r w8 ⟨rfl, rfl⟩
   obtain ⟨low, hlow⟩ : ∃ low, low = min e1 e2 := ⟨_, rfl⟩
   obtain ⟨mx, hmx⟩ : ∃ mx, mx = max (e1 + (L1.length : Int) - 1) (e2 + (L2.length : Int) - 1) := ⟨_, rfl⟩
   rw [← hmx, ← hlow]
   have HLO : Hid (low = min e1 e2 ∧ mx = max (e1 + (L1.length : Int) - 1) (e2 + (L2.length : Int) - 1)) := ⟨hlow, hmx⟩
   have q1 : low ≤ e1 := by omega
   have q2 : low ≤ e2 := by omega
   have q3 : e1 + L1.length ≤ mx + 1 := by omega
   have q4 : e2 + L2.length ≤ mx + 1 := by omega
   have q5 : -200000 ≤ low ∧ mx ≤ 400000 := by omega
   clear hlow hmx
   obtain ⟨n, hn⟩ : ∃ n : Nat, mx + 1 - low + 1 = (n : Int) := ⟨(mx + 1 - low + 1).toNat, by omega⟩
   have HN : Hid (mx + 1 - low + 1 = (n : Int)) := hn
   have hn2 : (n : Int) ≤ mx + 1 - low + 1 := by omega
   have hn3 : mx + 1 - low + 1 ≤ (n : Int) := by omega
   clear hn
   clear x1 x2 x3 x4 x5 x6 f5 f6
   go_wp2_with (at_make; refine wpList_make_full _ rfl (.tmp 37) (.tmp 37) 69 rfl (w.heap.size + 3) 3 i0 (.int .i64 0) 1 Tryz.underlying69 hi hz0 hz1' .i64 .i64 _ _ n rfl rfl ?hL ?hC ?b2 ?b3 ?b4 ?_)
   case hL => exact HN.out
   case hC => exact HN.out
   case b2 => rw [hz2']; omega
   case b3 => unfold maxLen; omega
   case b4 => omega
   intro w9 hown0 hgrow
   have hb10 := hb9.grown hgrow hs (fun k hk => by cases hk)
   have hown : Own w9 (w.heap.size + 3) (.slice (some ⟨w8.heap.size, 0, none⟩) n n) (List.replicate n 0) := by
    unfold Own; rw [List.length_replicate, ← ints_replicate, ← toList_madeCells_one, ← Nat.mul_one n]
    simpa using hown0
   have hg8 := hs
   obtain ⟨g, hg⟩ : ∃ g, g = w8.heap.size := ⟨_, rfl⟩
   rw [← hg] at hown hg8 ⊢
   clear hg hown0 hgrow hb9 hs
   go_wp2
   go_loopw [10, 11] (fun c p wr => ∃ c' : Nat, ∃ P : Int, ∃ M : List Nat, c = .int .i64 c' ∧ c' ≤ 1 ∧ p = .int .i64 P ∧ low ≤ P ∧ P ≤ mx + 1 + 1 ∧ Hid (M.length = n) ∧ Digs M ∧ Own wr (w.heap.size + 3) (.slice (some ⟨g, 0, none⟩) n n) M ∧
     Hid (∀ j : Nat, (j : Int) ≤ mx + 1 - P → M.getD j 0 = 0) ∧ Hid (∀ K : Nat, -(K : Int) ≤ low → num M * 10 ^ (low + K).toNat + c' * 10 ^ (P + K).toNat = val K L1 e1 % 10 ^ (P + K).toNat + val K L2 e2 % 10 ^ (P + K).toNat) ∧
     Below (w.heap.size + 3) (((w.alloc (.cells #[.slice a1 L1.length c1, .int .i64 e1] 95)).alloc (.cells #[.slice a2 L2.length c2, .int .i64 e2] 95)).alloc (.cells #[.slice none 0 0, .int .i64 0] 95)) wr)
    (fun _ p _ => (mx + 2 - intOf p).toNat)
   case atStart =>
    refine ⟨0, low, List.replicate n 0, rfl, by omega, rfl, by omega, by omega, by simp [Hid], ?_, hown, ?_, ?_, hb10⟩
    ·intro d hd; rw [List.eq_of_mem_replicate hd]; omega
    ·intro j _; rw [List.getD_eq_getElem?_getD, List.getElem?_replicate]; split <;> rfl
    ·intro K hK
     rw [val_mod L1 K e1 low q1 hK, val_mod L2 K e2 low q2 hK, num_all_zero (List.replicate n 0) (fun j _ => by rw [List.getD_eq_getElem?_getD, List.getElem?_replicate]; split <;> rfl)]; simp
   case round =>
    obtain ⟨c, P, M, rfl, hc, rfl, hP1, hP2, HM, hdM, hown1, HZ, HV, hbr⟩ := hrel
    clear hown hb10
    by_cases hle : P ≤ mx + 1
    ·obtain ⟨j, hj⟩ : ∃ j : Nat, mx + 1 - P = (j : Int) := ⟨(mx + 1 - P).toNat, by omega⟩
     obtain ⟨x1, x2, x3, x4, x5, x6, f5, f6, hs⟩ := box6 hbr
     have HJ : Hid (mx + 1 - P = (j : Int)) := hj
     have hj2 : j < n := by omega
     clear hj
     have t1 := dig_le HR.out.2.2.1.digs e1 P
     have t2 := dig_le HR.out.2.2.2.1.digs e2 P
     have HST : Hid (∀ K : Nat, -(K : Int) ≤ low → num (M.set j ((c + dig L1 e1 P + dig L2 e2 P) % 10)) * 10 ^ (low + K).toNat + (c + dig L1 e1 P + dig L2 e2 P) / 10 * 10 ^ (P + 1 + K).toNat = val K L1 e1 % 10 ^ (P + 1 + K).toNat + val K L2 e2 % 10 ^ (P + 1 + K).toNat) :=
      fun K hK => add_step (high := mx + 1) HR.out.2.2.1.digs HR.out.2.2.2.1.digs (by omega) (by omega) hK hP1 (by rw [HM.out]; omega) j (by have := HJ.out; omega) (HZ.out j (by have := HJ.out; omega)) (HV.out K hK)
     go_wp2_with fail
     refine (at_any _ L1 e1 P _ (HR.out.1.below (box6_up hbr) (Nat.le_refl _)) (by omega) (by omega) (by omega)).mono ?_
     rintro r w11 ⟨rfl, hb11⟩
     have hb12 := below_next hbr hb11 hs
     have hown2 := hown1.below hb11 (Nat.le_refl _)
     clear x1 x2 x3 x4 x5 x6 f5 f6 hs hb11 hbr hown1
     obtain ⟨x1, x2, x3, x4, x5, x6, f5, f6, hs⟩ := box6 hb12
     go_wp2_with fail
     refine (at_any _ L2 e2 P _ (HR.out.2.1.below (box6_up hb12) (Nat.le_refl _)) (by omega) (by omega) (by omega)).mono ?_
     rintro r w12 ⟨rfl, hb13⟩
     have hb14 := below_next hb12 hb13 hs
     have hown3 := hown2.below hb13 (Nat.le_refl _)
     clear x1 x2 x3 x4 x5 x6 f5 f6 hs hb12 hb13 hown2
     generalize hd1 : dig L1 e1 P = d1 at *
     generalize hd2 : dig L2 e2 P = d2 at *
     clear hd1 hd2
     have cx := hown3.cell HM.out j hj2
     have fx := hown3.frozen HM.out j
     have HO : Hid (Own (w12.setCell ⟨g, j, none⟩ (.int .i64 ((c + d1 + d2) % 10 : Nat))) (w.heap.size + 3) (.slice (some ⟨g, 0, none⟩) n n) (M.set j ((c + d1 + d2) % 10))) := hown3.store HM.out j _
     have hb15 := hb14.setCell (p := ⟨g, j, none⟩) (by exact hg8) (.int .i64 ((c + d1 + d2) % 10 : Nat))
     have HB15 := hid hb15
     clear hb14 hown3 hb15
     have hjj : mx + 1 - P = (j : Int) := HJ.out
     go_wp2
     go_roundw
     case rel => exact ⟨(c + d1 + d2) / 10, P + 1, M.set j ((c + d1 + d2) % 10), by go_num, by omega, rfl, by omega, by omega, by unfold Hid; rw [List.length_set]; exact HM.out, hdM.set _ _ (by omega), HO.out, by
      intro i hi
      rw [getD_set _ _ _ _ (by rw [HM.out]; exact hj2), if_neg (by omega)]
      exact HZ.out i (by omega), HST.out, HB15.out⟩
     case measure => simp [intOf]; omega
    ·have HEQ : Hid (∀ K : Nat, -(K : Int) ≤ low → val K M low = val K L1 e1 + val K L2 e2) := fun K hK =>
      add_done (high := mx + 1) HR.out.2.2.1.digs HR.out.2.2.2.1.digs (by omega) (by omega) q3 q4 (by have := HV.out K hK; rw [show P = mx + 1 + 1 from by omega] at this; exact this)
     have hml : M.length ≤ 1000000 := by rw [HM.out]; omega
     go_wp2_with fail
     refine (made_any _ M low _ hown1.row hdM hml (by omega)).mono ?_
     rintro r w11 ⟨hb11, v', L', e', rfl, hout⟩
     have hs : w.heap.size + 3 ≤ wr.heap.size := (box6 hbr).2.2.2.2.2.2.2.2
     have hb12 := below_next hbr hb11 hs
     clear hb11 hbr hown1
     obtain ⟨x1, x2, x3, x4, x5, x6, f5, f6, hs⟩ := box6 hb12
     have HB := hid (box6_up hb12)
     obtain ⟨ao, cp, hv⟩ := hout.row.isSlice
     rw [hv] at hout
     subst hv
     clear hb12
     go_wp2
     refine bodyPost_ret (v := .agg #[.slice ao L'.length cp, .int .i64 e']) (dec_results rfl _ _ (w.heap.size + 1 + 1) _ _ rfl (two_cells x5 x6).1 (two_cells x5 x6).2) rfl ⟨below_two HB.out (by omega) _ _, _, L', e', rfl, ?_⟩
     have hm := HM.out
     have hlo := HLO.out
     have h9 : Out w11 (.slice ao L'.length cp) L' e' (max (e1 + L1.length) (e2 + L2.length) + 1 - min e1 e2).toNat (min e1 e2) (max (e1 + L1.length) (e2 + L2.length) + 1) (fun g => w.heap.size + 3 ≤ g) (fun K => val K L1 e1 + val K L2 e2) := by
      refine hout.mono (by omega) (by omega) (by omega) (fun g' hg' => ?_) (fun K hK => HEQ.out K (by omega))
      simp [Value.ownBlock] at hg'; omega
     exact ((h9.setCell _ _ (by simp)).setCell _ _ (by simp)).mono (Nat.le_refl _) (Int.le_refl _) (Int.le_refl _) (fun g' hg' => .inr (.inr (by omega))) (fun _ _ => rfl)

end Go.Proofs.YtbkdaoicnobllabGreatDoor

namespace Go.Proofs.YtbkdaoicnobllabGreatDoor
set_option maxRecDepth 100000
set_option maxHeartbeats 1000000
open Go.RowKit

theorem below_any (f : Int) (v : Value) (L : List Nat) (e : Int) (K : Nat) (w : World) (hf : 0 ≤ f ∧ f ≤ 2) (hr : Row w v L) (hn : Norm L) (hl : L.length ≤ 100000) (he : -100000 ≤ e ∧ e ≤ 100000) (hk : -(K : Int) ≤ e) (hK : 1100 ≤ K) (hx : val K L e < valA K f (infN f)) :
  Calls Tryz.prog 82 #[.int .i64 f, .agg #[v, .int .i64 e]] w fun r w' => Below w.heap.size w w' ∧
   ∃ a : Nat, r = .returned (.int .i64 a) ∧ a < infN f ∧ valA K f a ≤ val K L e ∧ val K L e < valA K f (a + 1) := by
 have hc : f = 0 ∨ f = 1 ∨ f = 2 := by omega
 rcases hc with rfl | rfl | rfl
 ·exact belowT.1 ⟨trivial⟩ v L e K w hr hn hl he hk hK hx
 ·exact belowT.2.1 ⟨trivial⟩ v L e K w hr hn hl he hk hK hx
 ·exact belowT.2.2 ⟨trivial⟩ v L e K w hr hn hl he hk hK hx

theorem infA_N (f : Int) (hf : 0 ≤ f ∧ f ≤ 2) : infA f = infN f := by
 have hc : f = 0 ∨ f = 1 ∨ f = 2 := by omega
 rcases hc with rfl | rfl | rfl <;> rfl
theorem kind_low (f : Int) (w : World) (hf : 0 ≤ f ∧ f ≤ 2) :
  Calls Tryz.prog 45 #[.int .i64 f] w fun e w' => ∃ p b ww : Int, e = .returned (.tuple #[.int .i64 p, .int .i64 (fLow f), .int .i64 b, .int .i64 ww]) ∧ w' = w := by
 have hc : f = 0 ∨ f = 1 ∨ f = 2 := by omega
 rcases hc with rfl | rfl | rfl
 ·exact (kind0 w).mono fun e w' h => ⟨_, _, _, h.1, h.2⟩
 ·exact (kind1 w).mono fun e w' h => ⟨_, _, _, h.1, h.2⟩
 ·exact (kind2 w).mono fun e w' h => ⟨_, _, _, h.1, h.2⟩

theorem rounded_any (f mode : Int) (neg : Bool) (v : Value) (L : List Nat) (e : Int) (K : Nat) (w : World) (hf : 0 ≤ f ∧ f ≤ 2) (hr : Row w v L) (hn : Norm L) (hl : L.length ≤ 50000) (he : -50000 ≤ e ∧ e ≤ 50000) (hk : -(K : Int) ≤ e) (hK : 1100 ≤ K) (hz : L = [] → e = 0) :
  Calls Tryz.prog 49 #[.int .i64 f, .int .i64 mode, .bool neg, .agg #[v, .int .i64 e]] w fun r w' => Below w.heap.size w w' ∧
   ∃ a fl : Int, r = .returned (.tuple #[.int .i64 a, .int .i64 fl]) ∧ RoundSpec K f mode neg (val K L e) a fl := by
 obtain ⟨ao, cap, hv⟩ := hr.isSlice
 subst hv
 by_cases hL : L.length = 0
 ·have h0 := List.length_eq_zero_iff.1 hL
  have HX : Hid (val K L e = 0) := by unfold Hid; rw [h0, val_nil]
  have hb0 := (Below.refl w.heap.size w).alloc (Nat.le_refl _) (.cells #[.slice ao L.length cap, .int .i64 e] 95)
  have HR := hid (And.intro (hr.below hb0 (Nat.le_refl _)) hL)
  have HB := hid hb0
  clear hr hn hL h0 hb0 hz
  go_enter Tryz.func49, Tryz.ntmps49
  go_wp2_with fail
  refine (zero_yes _ L e _ HR.out.1 HR.out.2).mono ?_
  rintro r w1 ⟨rfl, hb1⟩
  go_wp2
  go_ret2
  exact ⟨HB.out.trans (hb1.mono (by simp)), 0, 0, rfl, .inl ⟨HX.out, rfl, rfl⟩⟩
 ·have hX : 0 < val K L e := val_pos hn (by omega) K e
  have hb0 := (Below.refl w.heap.size w).alloc (Nat.le_refl _) (.cells #[.slice ao L.length cap, .int .i64 e] 95)
  have HR := hid (And.intro hn (And.intro hX hz))
  have rx := hr.below hb0 (Nat.le_refl _)
  have hB := hb0
  have hinf := infN_le f
  obtain ⟨ni, hni⟩ : ∃ ni, ni = infN f := ⟨_, rfl⟩
  have HI : Hid (ni = infN f) := hni
  rw [← hni] at hinf
  clear hr hn hb0 hX hz hni
  go_enter Tryz.func49, Tryz.ntmps49
  go_wp2_with fail
  refine (zero_no _ L e _ rx hL).mono ?_
  rintro r w1 ⟨rfl, hb1⟩
  have x0 := keep_cell hb1 (show (w.alloc (.cells #[.slice ao L.length cap, .int .i64 e] 95)).cell? ⟨w.heap.size, 0, none⟩ = some (.slice ao L.length cap) by simp [go_sem])
  have x1 := keep_cell hb1 (show (w.alloc (.cells #[.slice ao L.length cap, .int .i64 e] 95)).cell? ⟨w.heap.size, 1, none⟩ = some (.int .i64 e) by simp [go_sem])
  have rx := rx.below hb1 (Nat.le_refl _)
  have hB := hB.trans (hb1.mono hB.size)
  have hlt : w.heap.size < w1.heap.size := World.block_lt_of_cell? _ _ x0
  clear hb1
  go_wp2_with fail
  refine (infinity_any f _ hf).mono ?_
  rw [infA_N f hf, ← HI.out]
  rintro r w2 ⟨rfl, n2, rfl⟩
  have HD := below_drewN (Below.refl w1.heap.size w1) n2
  have x0 := keep_cell HD x0
  have x1 := keep_cell HD x1
  have rx := hid (rx.below HD (Nat.le_refl _))
  have hB := hB.trans (HD.mono hB.size)
  clear HD hlt
  generalize w1.drewN n2 = w2 at *
  have hlt : w.heap.size < w2.heap.size := World.block_lt_of_cell? _ _ x0
  go_wp2_with fail
  refine (kind_low f _ hf).mono ?_
  rintro r w3 ⟨p3, b3, q3, rfl, rfl⟩
  go_wp2_with fail
  refine (value_any f ni _ hf (by rw [infA_N f hf, ← HI.out]; omega)).mono ?_
  rintro r w4 ⟨hb4, v4, L4, e4, rfl, o4⟩
  obtain ⟨ao4, cp4, hv4⟩ := o4.row.isSlice
  rw [hv4] at o4
  subst hv4
  have l4 := o4.len
  have bd4 := o4.bounds 30000 (by omega) (by omega) (by omega)
  have ke4 : -(K : Int) ≤ e4 := by
   by_cases h0 : L4 = []
   ·rw [o4.nil h0]; omega
   ·have := (o4.ne h0).1; omega
  have vl4 := hid (o4.val K (by omega))
  have nm4 := hid o4.norm
  have zz4 := hid o4.nil
  have r4 := hid o4.row
  clear o4
  have x0 := keep_cell hb4 x0
  have x1 := keep_cell hb4 x1
  have rx := hid (rx.out.below hb4 (Nat.le_refl _))
  have hB := hB.trans (hb4.mono hB.size)
  clear hb4 hlt
  have hlt : w.heap.size < w4.heap.size := World.block_lt_of_cell? _ _ x0
  have hal := (Below.refl w4.heap.size w4).alloc (Nat.le_refl _) (.cells #[.slice ao4 L4.length cp4, .int .i64 e4] 95)
  have HRX := hid (rx.out.below hal (Nat.le_refl _))
  have HR4 := hid (r4.out.below hal (Nat.le_refl _))
  have HAL := hid hal
  clear hal
  go_wp2_with fail
  refine (cmp_any _ _ L L4 e e4 K _ HRX.out HR4.out HR.out.1 nm4.out (by omega) (by omega) (by omega) (by omega) hk ke4).mono ?_
  rintro r w5 ⟨hb5, rfl⟩
  rw [vl4.out]
  have hal := HAL.out.trans (hb5.mono (by simp))
  have x0 := keep_cell hal x0
  have x1 := keep_cell hal x1
  have rx := hid (rx.out.below hal (Nat.le_refl _))
  have hB := hB.trans (hal.mono hB.size)
  clear hal hb5 HAL HR4 HRX r4 hlt
  have hlt : w.heap.size < w5.heap.size := World.block_lt_of_cell? _ _ x0
  by_cases hge : valA K f ni ≤ val K L e
  ·have HGE := hid hge
   have hc : 0 ≤ cmpN (val K L e) (valA K f ni) := by unfold cmpN; rw [if_neg (by omega)]; split <;> omega
   generalize cmpN (val K L e) (valA K f ni) = c at *
   clear hge
   go_wp2_with fail
   refine (away_any mode 3 neg true _).mono ?_
   rintro r w6 ⟨rfl, rfl⟩
   cases haw : awayB mode neg 3 true with
   | true =>
    have HAW := hid haw
    clear haw x0 x1
    go_wp2
    go_ret2
    exact ⟨hB, _, _, rfl, .inr (.inl ⟨HR.out.2.1, by rw [← HI.out]; exact HGE.out, rfl, by rw [HAW.out, if_pos rfl, HI.out]⟩)⟩
   | false =>
    have HAW := hid haw
    clear haw x0 x1
    go_wp2
    go_ret2
    exact ⟨hB, _, _, rfl, .inr (.inl ⟨HR.out.2.1, by rw [← HI.out]; exact HGE.out, rfl, by rw [HAW.out, if_neg (by simp), HI.out]⟩)⟩
  ·have HGE := hid (Nat.lt_of_not_le hge)
   have hc : cmpN (val K L e) (valA K f ni) < 0 := by unfold cmpN; rw [if_pos (by omega)]; omega
   generalize cmpN (val K L e) (valA K f ni) = c at *
   clear hge
   go_wp2_with fail
   refine (below_any f _ L e K _ hf rx.out HR.out.1 (by omega) (by omega) hk hK (by rw [← HI.out]; exact HGE.out)).mono ?_
   rintro r w6 ⟨hb6, a, rfl, ha, hva, hva2⟩
   rw [← HI.out] at ha
   have HA := hid (And.intro hva hva2)
   clear hva hva2
   have x0 := keep_cell hb6 x0
   have x1 := keep_cell hb6 x1
   have rx := hid (rx.out.below hb6 (Nat.le_refl _))
   have hB := hB.trans (hb6.mono hB.size)
   clear hb6 hlt
   have hlt : w.heap.size < w6.heap.size := World.block_lt_of_cell? _ _ x0
   go_wp2_with fail
   refine (value_any f a _ hf (by rw [infA_N f hf, ← HI.out]; omega)).mono ?_
   rintro r w7 ⟨hb7, v7, L7, e7, rfl, o7⟩
   obtain ⟨ao7, cp7, hv7⟩ := o7.row.isSlice
   rw [hv7] at o7
   subst hv7
   have l7 := o7.len
   have bd7 := o7.bounds 30000 (by omega) (by omega) (by omega)
   have ke7 : -(K : Int) ≤ e7 := by
    by_cases h0 : L7 = []
    ·rw [o7.nil h0]; omega
    ·have := (o7.ne h0).1; omega
   have vl7 := hid (o7.val K (by omega))
   have nm7 := hid o7.norm
   have zz7 := hid o7.nil
   have r7 := hid o7.row
   clear o7
   have x0 := keep_cell hb7 x0
   have x1 := keep_cell hb7 x1
   have rx := hid (rx.out.below hb7 (Nat.le_refl _))
   have hB := hB.trans (hb7.mono hB.size)
   clear hb7 hlt
   have hlt : w.heap.size < w7.heap.size := World.block_lt_of_cell? _ _ x0
   have hal := (Below.refl w7.heap.size w7).alloc (Nat.le_refl _) (.cells #[.slice ao7 L7.length cp7, .int .i64 e7] 95)
   have HRX := hid (rx.out.below hal (Nat.le_refl _))
   have HR7 := hid (r7.out.below hal (Nat.le_refl _))
   have HAL := hid hal
   clear hal
   go_wp2_with fail
   refine (cmp_any _ _ L L7 e e7 K _ HRX.out HR7.out HR.out.1 nm7.out (by omega) (by omega) (by omega) (by omega) hk ke7).mono ?_
   rintro r w8 ⟨hb8, rfl⟩
   rw [vl7.out]
   have y0 := keep_cell hb8 (show (w7.alloc (.cells #[.slice ao7 L7.length cp7, .int .i64 e7] 95)).cell? ⟨w7.heap.size, 0, none⟩ = some (.slice ao7 L7.length cp7) by simp [go_sem])
   have y1 := keep_cell hb8 (show (w7.alloc (.cells #[.slice ao7 L7.length cp7, .int .i64 e7] 95)).cell? ⟨w7.heap.size, 1, none⟩ = some (.int .i64 e7) by simp [go_sem])
   have hal := HAL.out.trans (hb8.mono (by simp))
   have x0 := keep_cell hal x0
   have x1 := keep_cell hal x1
   have rx := hid (rx.out.below hal (Nat.le_refl _))
   have r7 := hid (r7.out.below hal (Nat.le_refl _))
   have hB := hB.trans (hal.mono hB.size)
   clear hal hb8 HAL HR7 HRX hlt
   obtain ⟨g7, hg7⟩ : ∃ g7, g7 = w7.heap.size := ⟨_, rfl⟩
   rw [← hg7] at y0 y1 ⊢
   clear hg7
   have hlt : w.heap.size < w8.heap.size := World.block_lt_of_cell? _ _ x0
   have hlt7 : g7 < w8.heap.size := World.block_lt_of_cell? _ _ y0
   by_cases heq : val K L e = valA K f a
   ·have HEQ := hid heq
    have hc2 : cmpN (val K L e) (valA K f a) = 0 := cmpN_eq heq
    rw [hc2]
    clear heq hc2 x0 x1 y0 y1
    go_wp2
    go_ret2
    exact ⟨hB, _, _, rfl, .inr (.inr ⟨HR.out.2.1, by rw [← HI.out]; exact HGE.out, a, by rw [← HI.out]; exact ha, HA.out.1, HA.out.2, .inl ⟨HEQ.out, rfl, rfl⟩⟩)⟩
   ·have HEQ := hid heq
    have hc2 : (cmpN (val K L e) (valA K f a) == 0) = false := by rw [beq_eq_false_iff_ne]; unfold cmpN; split <;> (try split) <;> omega
    generalize cmpN (val K L e) (valA K f a) = c2 at *
    clear heq
    go_wp2_with fail
    have hfl : -1022 ≤ fLow f ∧ fLow f ≤ -14 := by unfold fLow; split <;> (try split) <;> omega
    obtain ⟨lw, hlw⟩ : ∃ lw, lw = fLow f := ⟨_, rfl⟩
    rw [← hlw] at hfl ⊢
    have HLW := hid hlw
    clear hlw
    refine (two_any lw _ (by omega)).mono ?_
    rintro r w9 ⟨hb9, v9, L9, e9, rfl, o9⟩
    obtain ⟨ao9, cp9, hv9⟩ := o9.row.isSlice
    rw [hv9] at o9
    subst hv9
    have l9 := o9.len
    have bd9 := o9.bounds 30000 (by omega) (by omega) (by omega)
    have ke9 : -(K : Int) ≤ e9 := by
     by_cases h0 : L9 = []
     ·rw [o9.nil h0]; omega
     ·have := (o9.ne h0).1; omega
    have vl9 := hid (o9.val K (by omega))
    have nm9 := hid o9.norm
    have zz9 := hid o9.nil
    have r9 := hid o9.row
    clear o9
    have x0 := keep_cell hb9 x0
    have x1 := keep_cell hb9 x1
    have y0 := keep_cell hb9 y0
    have y1 := keep_cell hb9 y1
    have rx := hid (rx.out.below hb9 (Nat.le_refl _))
    have r7 := hid (r7.out.below hb9 (Nat.le_refl _))
    have hB := hB.trans (hb9.mono hB.size)
    clear hb9 hlt hlt7
    have hlt : w.heap.size < w9.heap.size := World.block_lt_of_cell? _ _ x0
    have hlt7 : g7 < w9.heap.size := World.block_lt_of_cell? _ _ y0
    have hal := (Below.refl w9.heap.size w9).alloc (Nat.le_refl _) (.cells #[.slice ao9 L9.length cp9, .int .i64 e9] 95)
    have HRX := hid (rx.out.below hal (Nat.le_refl _))
    have HR9 := hid (r9.out.below hal (Nat.le_refl _))
    have HAL := hid hal
    clear hal
    go_wp2_with fail
    refine (cmp_any _ _ L L9 e e9 K _ HRX.out HR9.out HR.out.1 nm9.out (by omega) (by omega) (by omega) (by omega) hk ke9).mono ?_
    rintro r w10 ⟨hb10, rfl⟩
    rw [vl9.out]
    have hal := HAL.out.trans (hb10.mono (by simp))
    have x0 := keep_cell hal x0
    have x1 := keep_cell hal x1
    have y0 := keep_cell hal y0
    have y1 := keep_cell hal y1
    have rx := hid (rx.out.below hal (Nat.le_refl _))
    have r7 := hid (r7.out.below hal (Nat.le_refl _))
    have hB := hB.trans (hal.mono hB.size)
    clear hal hb10 HAL HR9 HRX r9 hlt hlt7
    have hlt : w.heap.size < w10.heap.size := World.block_lt_of_cell? _ _ x0
    have hlt7 : g7 < w10.heap.size := World.block_lt_of_cell? _ _ y0
    by_cases hsub : val K L e < two K lw
    ·have HSUB := hid hsub
     have hc3 : cmpN (val K L e) (two K lw) < 0 := by unfold cmpN; rw [if_pos (by omega)]; omega
     generalize cmpN (val K L e) (two K lw) = c3 at *
     clear hsub
     go_wp2_with fail
     rw [show (a : Int) + 1 = ((a + 1 : Nat) : Int) from by omega]
     refine (value_any f (a + 1) _ hf (by rw [infA_N f hf, ← HI.out]; omega)).mono ?_
     rintro r w11 ⟨hb11, v11, L11, e11, rfl, o11⟩
     obtain ⟨ao11, cp11, hv11⟩ := o11.row.isSlice
     rw [hv11] at o11
     subst hv11
     have l11 := o11.len
     have bd11 := o11.bounds 30000 (by omega) (by omega) (by omega)
     have ke11 : -(K : Int) ≤ e11 := by
      by_cases h0 : L11 = []
      ·rw [o11.nil h0]; omega
      ·have := (o11.ne h0).1; omega
     have vl11 := hid (o11.val K (by omega))
     have nm11 := hid o11.norm
     have zz11 := hid o11.nil
     have r11 := hid o11.row
     clear o11
     have x0 := keep_cell hb11 x0
     have x1 := keep_cell hb11 x1
     have y0 := keep_cell hb11 y0
     have y1 := keep_cell hb11 y1
     have rx := hid (rx.out.below hb11 (Nat.le_refl _))
     have r7 := hid (r7.out.below hb11 (Nat.le_refl _))
     have hB := hB.trans (hb11.mono hB.size)
     clear hb11 hlt hlt7
     have hlt : w.heap.size < w11.heap.size := World.block_lt_of_cell? _ _ x0
     have hlt7 : g7 < w11.heap.size := World.block_lt_of_cell? _ _ y0
     have hal := (Below.refl w11.heap.size w11).alloc (Nat.le_refl _) (.cells #[.slice ao11 L11.length cp11, .int .i64 e11] 95)
     have HRX := hid (rx.out.below hal (Nat.le_refl _))
     have HAL := hid hal
     clear hal
     go_wp2_with fail
     refine (times_any _ L e 2 _ HRX.out HR.out.1.digs (by omega) (by omega) (by omega)).mono ?_
     rintro r w12 ⟨hb12, v12, L12, e12, rfl, o12⟩
     have z0 := keep_cell hb12 (show (w11.alloc (.cells #[.slice ao11 L11.length cp11, .int .i64 e11] 95)).cell? ⟨w11.heap.size, 0, none⟩ = some (.slice ao11 L11.length cp11) by simp [go_sem])
     have z1 := keep_cell hb12 (show (w11.alloc (.cells #[.slice ao11 L11.length cp11, .int .i64 e11] 95)).cell? ⟨w11.heap.size, 1, none⟩ = some (.int .i64 e11) by simp [go_sem])
     have hal := HAL.out.trans (hb12.mono (by simp))
     have y0 := keep_cell hal y0
     have y1 := keep_cell hal y1
     have r7 := hid (r7.out.below hal (Nat.le_refl _))
     have r11 := hid (r11.out.below hal (Nat.le_refl _))
     have hB := hB.trans (hal.mono hB.size)
     clear hal hb12 HAL HRX hlt hlt7 x0 x1
     obtain ⟨g11, hg11⟩ : ∃ g11, g11 = w11.heap.size := ⟨_, rfl⟩
     rw [← hg11] at z0 z1 ⊢
     clear hg11
     obtain ⟨ao12, cp12, hv12⟩ := o12.row.isSlice
     rw [hv12] at o12
     subst hv12
     have l12 := o12.len
     have bd12 := o12.bounds 110000 (by omega) (by omega) (by omega)
     have ke12 : -(K : Int) ≤ e12 := by
      by_cases h0 : L12 = []
      ·rw [o12.nil h0]; omega
      ·have := (o12.ne h0).1; omega
     have vl12 := hid (o12.val K (by omega))
     have nm12 := hid o12.norm
     have zz12 := hid o12.nil
     have r12 := hid o12.row
     clear o12
     have hlt7 : g7 < w12.heap.size := World.block_lt_of_cell? _ _ y0
     have hlt11 : g11 < w12.heap.size := World.block_lt_of_cell? _ _ z0
     have hal := (Below.refl w12.heap.size w12).alloc (Nat.le_refl _) (.cells #[.slice ao12 L12.length cp12, .int .i64 e12] 95)
     have HR7 := hid (r7.out.below hal (Nat.le_refl _))
     have HR11 := hid (r11.out.below hal (Nat.le_refl _))
     have HAL := hid hal
     clear hal
     go_wp2_with fail
     refine (add_any _ _ L7 L11 e7 e11 _ HR7.out HR11.out nm7.out nm11.out zz7.out zz11.out (by omega) (by omega) (by omega) (by omega)).mono ?_
     rintro r w13 ⟨hb13, v13, L13, e13, rfl, o13⟩
     have u0 := keep_cell hb13 (show (w12.alloc (.cells #[.slice ao12 L12.length cp12, .int .i64 e12] 95)).cell? ⟨w12.heap.size, 0, none⟩ = some (.slice ao12 L12.length cp12) by simp [go_sem])
     have u1 := keep_cell hb13 (show (w12.alloc (.cells #[.slice ao12 L12.length cp12, .int .i64 e12] 95)).cell? ⟨w12.heap.size, 1, none⟩ = some (.int .i64 e12) by simp [go_sem])
     have hal := HAL.out.trans (hb13.mono (by simp))
     have r12 := hid (r12.out.below hal (Nat.le_refl _))
     have hB := hB.trans (hal.mono hB.size)
     clear hal hb13 HAL HR7 HR11 hlt7 hlt11 y0 y1 z0 z1
     obtain ⟨g12, hg12⟩ : ∃ g12, g12 = w12.heap.size := ⟨_, rfl⟩
     rw [← hg12] at u0 u1 ⊢
     clear hg12
     obtain ⟨ao13, cp13, hv13⟩ := o13.row.isSlice
     rw [hv13] at o13
     subst hv13
     have l13 := o13.len
     have bd13 := o13.bounds 100000 (by omega) (by omega) (by omega)
     have ke13 : -(K : Int) ≤ e13 := by
      by_cases h0 : L13 = []
      ·rw [o13.nil h0]; omega
      ·have := (o13.ne h0).1; omega
     have vl13 := hid (o13.val K (by omega))
     have nm13 := hid o13.norm
     have zz13 := hid o13.nil
     have r13 := hid o13.row
     clear o13
     rw [vl7.out, vl11.out] at vl13
     have hlt12 : g12 < w13.heap.size := World.block_lt_of_cell? _ _ u0
     have hal := (Below.refl w13.heap.size w13).alloc (Nat.le_refl _) (.cells #[.slice ao13 L13.length cp13, .int .i64 e13] 95)
     have HR12 := hid (r12.out.below hal (Nat.le_refl _))
     have HR13 := hid (r13.out.below hal (Nat.le_refl _))
     have HAL := hid hal
     clear hal
     go_wp2_with fail
     refine (cmp_any _ _ L12 L13 e12 e13 K _ HR12.out HR13.out nm12.out nm13.out (by omega) (by omega) (by omega) (by omega) ke12 ke13).mono ?_
     rintro r w14 ⟨hb14, rfl⟩
     rw [vl12.out, vl13.out]
     have hal := HAL.out.trans (hb14.mono (by simp))
     have hB := hB.trans (hal.mono hB.size)
     clear hal hb14 HAL HR12 HR13 u0 u1 hlt12
     obtain ⟨c4, hc4⟩ : ∃ c4, c4 = cmpN (val K L e * 2) (valA K f a + valA K f (a + 1)) := ⟨_, rfl⟩
     have hc4b : -1 ≤ c4 ∧ c4 ≤ 1 := by rw [hc4]; unfold cmpN; split <;> (try split) <;> omega
     rw [← hc4]
     have HC4 := hid hc4
     clear hc4
     go_wp2_with fail
     refine (away_any mode _ neg _ _).mono ?_
     rintro r w15 ⟨rfl, rfl⟩
     rw [show (((a : Int) % 2 == 1)) = (a % 2 == 1) from by rw [Bool.eq_iff_iff]; simp; omega]
     cases haw : awayB mode neg (c4 + 2) (a % 2 == 1) with
     | true =>
      have HAW := hid haw
      clear haw
      by_cases hai : a + 1 = ni
      ·have hbi : ((a : Int) + 1 == (ni : Int)) = true := by rw [beq_iff_eq]; omega
       have HAI := hid hai
       clear hai
       go_wp2
       go_ret2
       refine ⟨hB, _, _, rfl, .inr (.inr ⟨HR.out.2.1, by rw [← HI.out]; exact HGE.out, a, by rw [← HI.out]; exact ha, HA.out.1, HA.out.2, .inr ⟨HEQ.out, ?_, ?_⟩⟩)⟩
       ·rw [← HC4.out, HAW.out, if_pos rfl]
       ·rw [← HLW.out, if_pos HSUB.out, ← HI.out, if_pos (by have := HAI.out; show (a : Int) + 1 = ni; omega)]; rfl
      ·have hbi : ((a : Int) + 1 == (ni : Int)) = false := by rw [beq_eq_false_iff_ne]; omega
       have HAI := hid hai
       clear hai
       go_wp2
       go_ret2
       refine ⟨hB, _, _, rfl, .inr (.inr ⟨HR.out.2.1, by rw [← HI.out]; exact HGE.out, a, by rw [← HI.out]; exact ha, HA.out.1, HA.out.2, .inr ⟨HEQ.out, ?_, ?_⟩⟩)⟩
       ·rw [← HC4.out, HAW.out, if_pos rfl]
       ·rw [← HLW.out, if_pos HSUB.out, ← HI.out, if_neg (by have := HAI.out; show ¬ (a : Int) + 1 = ni; omega)]; rfl
     | false =>
      have HAW := hid haw
      clear haw
      have hbi : ((a : Int) == (ni : Int)) = false := by rw [beq_eq_false_iff_ne]; omega
      go_wp2
      go_ret2
      refine ⟨hB, _, _, rfl, .inr (.inr ⟨HR.out.2.1, by rw [← HI.out]; exact HGE.out, a, by rw [← HI.out]; exact ha, HA.out.1, HA.out.2, .inr ⟨HEQ.out, ?_, ?_⟩⟩)⟩
      ·rw [← HC4.out, HAW.out, if_neg (by simp)]
      ·rw [← HLW.out, if_pos HSUB.out, ← HI.out, if_neg (by show ¬ (a : Int) = ni; omega)]; rfl
    ·have HSUB := hid hsub
     have hc3 : ¬ cmpN (val K L e) (two K lw) < 0 := by unfold cmpN; rw [if_neg (by omega)]; split <;> omega
     generalize cmpN (val K L e) (two K lw) = c3 at *
     clear hsub
     go_wp2_with fail
     rw [show (a : Int) + 1 = ((a + 1 : Nat) : Int) from by omega]
     refine (value_any f (a + 1) _ hf (by rw [infA_N f hf, ← HI.out]; omega)).mono ?_
     rintro r w11 ⟨hb11, v11, L11, e11, rfl, o11⟩
     obtain ⟨ao11, cp11, hv11⟩ := o11.row.isSlice
     rw [hv11] at o11
     subst hv11
     have l11 := o11.len
     have bd11 := o11.bounds 30000 (by omega) (by omega) (by omega)
     have ke11 : -(K : Int) ≤ e11 := by
      by_cases h0 : L11 = []
      ·rw [o11.nil h0]; omega
      ·have := (o11.ne h0).1; omega
     have vl11 := hid (o11.val K (by omega))
     have nm11 := hid o11.norm
     have zz11 := hid o11.nil
     have r11 := hid o11.row
     clear o11
     have x0 := keep_cell hb11 x0
     have x1 := keep_cell hb11 x1
     have y0 := keep_cell hb11 y0
     have y1 := keep_cell hb11 y1
     have rx := hid (rx.out.below hb11 (Nat.le_refl _))
     have r7 := hid (r7.out.below hb11 (Nat.le_refl _))
     have hB := hB.trans (hb11.mono hB.size)
     clear hb11 hlt hlt7
     have hlt : w.heap.size < w11.heap.size := World.block_lt_of_cell? _ _ x0
     have hlt7 : g7 < w11.heap.size := World.block_lt_of_cell? _ _ y0
     have hal := (Below.refl w11.heap.size w11).alloc (Nat.le_refl _) (.cells #[.slice ao11 L11.length cp11, .int .i64 e11] 95)
     have HRX := hid (rx.out.below hal (Nat.le_refl _))
     have HAL := hid hal
     clear hal
     go_wp2_with fail
     refine (times_any _ L e 2 _ HRX.out HR.out.1.digs (by omega) (by omega) (by omega)).mono ?_
     rintro r w12 ⟨hb12, v12, L12, e12, rfl, o12⟩
     have z0 := keep_cell hb12 (show (w11.alloc (.cells #[.slice ao11 L11.length cp11, .int .i64 e11] 95)).cell? ⟨w11.heap.size, 0, none⟩ = some (.slice ao11 L11.length cp11) by simp [go_sem])
     have z1 := keep_cell hb12 (show (w11.alloc (.cells #[.slice ao11 L11.length cp11, .int .i64 e11] 95)).cell? ⟨w11.heap.size, 1, none⟩ = some (.int .i64 e11) by simp [go_sem])
     have hal := HAL.out.trans (hb12.mono (by simp))
     have y0 := keep_cell hal y0
     have y1 := keep_cell hal y1
     have r7 := hid (r7.out.below hal (Nat.le_refl _))
     have r11 := hid (r11.out.below hal (Nat.le_refl _))
     have hB := hB.trans (hal.mono hB.size)
     clear hal hb12 HAL HRX hlt hlt7 x0 x1
     obtain ⟨g11, hg11⟩ : ∃ g11, g11 = w11.heap.size := ⟨_, rfl⟩
     rw [← hg11] at z0 z1 ⊢
     clear hg11
     obtain ⟨ao12, cp12, hv12⟩ := o12.row.isSlice
     rw [hv12] at o12
     subst hv12
     have l12 := o12.len
     have bd12 := o12.bounds 110000 (by omega) (by omega) (by omega)
     have ke12 : -(K : Int) ≤ e12 := by
      by_cases h0 : L12 = []
      ·rw [o12.nil h0]; omega
      ·have := (o12.ne h0).1; omega
     have vl12 := hid (o12.val K (by omega))
     have nm12 := hid o12.norm
     have zz12 := hid o12.nil
     have r12 := hid o12.row
     clear o12
     have hlt7 : g7 < w12.heap.size := World.block_lt_of_cell? _ _ y0
     have hlt11 : g11 < w12.heap.size := World.block_lt_of_cell? _ _ z0
     have hal := (Below.refl w12.heap.size w12).alloc (Nat.le_refl _) (.cells #[.slice ao12 L12.length cp12, .int .i64 e12] 95)
     have HR7 := hid (r7.out.below hal (Nat.le_refl _))
     have HR11 := hid (r11.out.below hal (Nat.le_refl _))
     have HAL := hid hal
     clear hal
     go_wp2_with fail
     refine (add_any _ _ L7 L11 e7 e11 _ HR7.out HR11.out nm7.out nm11.out zz7.out zz11.out (by omega) (by omega) (by omega) (by omega)).mono ?_
     rintro r w13 ⟨hb13, v13, L13, e13, rfl, o13⟩
     have u0 := keep_cell hb13 (show (w12.alloc (.cells #[.slice ao12 L12.length cp12, .int .i64 e12] 95)).cell? ⟨w12.heap.size, 0, none⟩ = some (.slice ao12 L12.length cp12) by simp [go_sem])
     have u1 := keep_cell hb13 (show (w12.alloc (.cells #[.slice ao12 L12.length cp12, .int .i64 e12] 95)).cell? ⟨w12.heap.size, 1, none⟩ = some (.int .i64 e12) by simp [go_sem])
     have hal := HAL.out.trans (hb13.mono (by simp))
     have r12 := hid (r12.out.below hal (Nat.le_refl _))
     have hB := hB.trans (hal.mono hB.size)
     clear hal hb13 HAL HR7 HR11 hlt7 hlt11 y0 y1 z0 z1
     obtain ⟨g12, hg12⟩ : ∃ g12, g12 = w12.heap.size := ⟨_, rfl⟩
     rw [← hg12] at u0 u1 ⊢
     clear hg12
     obtain ⟨ao13, cp13, hv13⟩ := o13.row.isSlice
     rw [hv13] at o13
     subst hv13
     have l13 := o13.len
     have bd13 := o13.bounds 100000 (by omega) (by omega) (by omega)
     have ke13 : -(K : Int) ≤ e13 := by
      by_cases h0 : L13 = []
      ·rw [o13.nil h0]; omega
      ·have := (o13.ne h0).1; omega
     have vl13 := hid (o13.val K (by omega))
     have nm13 := hid o13.norm
     have zz13 := hid o13.nil
     have r13 := hid o13.row
     clear o13
     rw [vl7.out, vl11.out] at vl13
     have hlt12 : g12 < w13.heap.size := World.block_lt_of_cell? _ _ u0
     have hal := (Below.refl w13.heap.size w13).alloc (Nat.le_refl _) (.cells #[.slice ao13 L13.length cp13, .int .i64 e13] 95)
     have HR12 := hid (r12.out.below hal (Nat.le_refl _))
     have HR13 := hid (r13.out.below hal (Nat.le_refl _))
     have HAL := hid hal
     clear hal
     go_wp2_with fail
     refine (cmp_any _ _ L12 L13 e12 e13 K _ HR12.out HR13.out nm12.out nm13.out (by omega) (by omega) (by omega) (by omega) ke12 ke13).mono ?_
     rintro r w14 ⟨hb14, rfl⟩
     rw [vl12.out, vl13.out]
     have hal := HAL.out.trans (hb14.mono (by simp))
     have hB := hB.trans (hal.mono hB.size)
     clear hal hb14 HAL HR12 HR13 u0 u1 hlt12
     obtain ⟨c4, hc4⟩ : ∃ c4, c4 = cmpN (val K L e * 2) (valA K f a + valA K f (a + 1)) := ⟨_, rfl⟩
     have hc4b : -1 ≤ c4 ∧ c4 ≤ 1 := by rw [hc4]; unfold cmpN; split <;> (try split) <;> omega
     rw [← hc4]
     have HC4 := hid hc4
     clear hc4
     go_wp2_with fail
     refine (away_any mode _ neg _ _).mono ?_
     rintro r w15 ⟨rfl, rfl⟩
     rw [show (((a : Int) % 2 == 1)) = (a % 2 == 1) from by rw [Bool.eq_iff_iff]; simp; omega]
     cases haw : awayB mode neg (c4 + 2) (a % 2 == 1) with
     | true =>
      have HAW := hid haw
      clear haw
      by_cases hai : a + 1 = ni
      ·have hbi : ((a : Int) + 1 == (ni : Int)) = true := by rw [beq_iff_eq]; omega
       have HAI := hid hai
       clear hai
       go_wp2
       go_ret2
       refine ⟨hB, _, _, rfl, .inr (.inr ⟨HR.out.2.1, by rw [← HI.out]; exact HGE.out, a, by rw [← HI.out]; exact ha, HA.out.1, HA.out.2, .inr ⟨HEQ.out, ?_, ?_⟩⟩)⟩
       ·rw [← HC4.out, HAW.out, if_pos rfl]
       ·rw [← HLW.out, if_neg HSUB.out, ← HI.out, if_pos (by have := HAI.out; show (a : Int) + 1 = ni; omega)]; rfl
      ·have hbi : ((a : Int) + 1 == (ni : Int)) = false := by rw [beq_eq_false_iff_ne]; omega
       have HAI := hid hai
       clear hai
       go_wp2
       go_ret2
       refine ⟨hB, _, _, rfl, .inr (.inr ⟨HR.out.2.1, by rw [← HI.out]; exact HGE.out, a, by rw [← HI.out]; exact ha, HA.out.1, HA.out.2, .inr ⟨HEQ.out, ?_, ?_⟩⟩)⟩
       ·rw [← HC4.out, HAW.out, if_pos rfl]
       ·rw [← HLW.out, if_neg HSUB.out, ← HI.out, if_neg (by have := HAI.out; show ¬ (a : Int) + 1 = ni; omega)]; rfl
     | false =>
      have HAW := hid haw
      clear haw
      have hbi : ((a : Int) == (ni : Int)) = false := by rw [beq_eq_false_iff_ne]; omega
      go_wp2
      go_ret2
      refine ⟨hB, _, _, rfl, .inr (.inr ⟨HR.out.2.1, by rw [← HI.out]; exact HGE.out, a, by rw [← HI.out]; exact ha, HA.out.1, HA.out.2, .inr ⟨HEQ.out, ?_, ?_⟩⟩)⟩
      ·rw [← HC4.out, HAW.out, if_neg (by simp)]
      ·rw [← HLW.out, if_neg HSUB.out, ← HI.out, if_neg (by show ¬ (a : Int) = ni; omega)]; rfl

end Go.Proofs.YtbkdaoicnobllabGreatDoor
