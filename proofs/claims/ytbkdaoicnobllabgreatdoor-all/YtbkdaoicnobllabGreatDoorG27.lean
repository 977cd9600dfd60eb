import Derived.Test.YtbkdaoicnobllabGreatDoorG26
import Derived.Test.YtbkdaoicnobllabGreatDoorG01
import Derived.Test.YtbkdaoicnobllabGreatDoorG13
import Derived.Test.YtbkdaoicnobllabGreatDoorG14
import Derived.Test.YtbkdaoicnobllabGreatDoorG17

namespace Go.Proofs.YtbkdaoicnobllabGreatDoor
set_option maxRecDepth 100000
set_option maxHeartbeats 1000000
open Go.RowKit

theorem dec_results2 {fn : Func} {p q : Tmp} (h : fn.results = #[.cell p 95, .tmp q]) (tmps : Array Value) (w : World) (B : Nat) (x y z : Value) (hp : tmps.getD p undef = .pointer (some ⟨B, 0, none⟩)) (hq : tmps.getD q undef = z)
  (c0 : w.cell? ⟨B, 0, none⟩ = some x) (c1 : w.cell? ⟨B, 1, none⟩ = some y) : (results fn tmps).run Tryz.prog w = .ok (.tuple #[.agg #[x, y], z]) w := by
 have hp' : tmps[p]?.getD undef = .pointer (some ⟨B, 0, none⟩) := by rw [← Array.getD_eq_getD_getElem?]; exact hp
 have hq' : tmps[q]?.getD undef = z := by rw [← Array.getD_eq_getD_getElem?]; exact hq
 simp [results, h, hp', hq', go_sem, c0, c1]
theorem cut_any (v : Value) (L : List Nat) (e p : Int) (w : World) (hr : Row w v L) (hn : Norm L) (hz : L = [] → e = 0) (hl : L.length ≤ 20000) (he : -20000 ≤ e ∧ e ≤ 20000) (hp : -20000 ≤ p ∧ p ≤ 20000) :
  Calls Tryz.prog 117 #[.agg #[v, .int .i64 e], .int .i64 p] w fun r w' => CutPost w w' v L e p r := by
 obtain ⟨ao, cap, hv⟩ := hr.isSlice
 subst hv
 have HR := hid (And.intro hr (And.intro hn hz))
 have HNE : Hid (L ≠ [] → min e p ≤ e ∧ e + L.length ≤ max (e + L.length) (p + 1)) := fun _ => by omega
 by_cases h0 : L.length = 0
 ·have hL := List.length_eq_zero_iff.1 h0
  have HLF : Hid (∀ K : Nat, -(K : Int) ≤ e → -(K : Int) ≤ p → (0 : Int) = leftN (val K L e) (10 ^ (p + K).toNat)) := fun K _ _ => by rw [hL, val_nil, leftN_zero]
  have HVV : Hid (∀ K : Nat, -(K : Int) ≤ min e p → val K L e = cutV L e p K) := fun K _ => by rw [hL, val_nil, cutV_nil]
  have HZC : Hid (∀ w' : World, Row w' (.slice ao L.length cap) L → Calls Tryz.prog 78 #[.agg #[.slice ao L.length cap, .int .i64 e]] w' fun r w2 => r = .returned (.bool true) ∧ Below w'.heap.size w' w2) := fun w' hw => by
   have := zero_any (.slice ao L.length cap) L e w' hw
   rw [show decide (L.length = 0) = true from by simp [h0]] at this; exact this
  clear hr hn hz hL h0
  go_enter Tryz.func117, Tryz.ntmps117
  go_wp2_with fail
  refine (HZC.out _ (HR.out.1.below box4_below (Nat.le_refl _))).mono ?_
  rintro r w1 ⟨rfl, hb1⟩
  have hb := box4_start hb1
  clear hb1
  obtain ⟨x1, x2, x3, x4, f1, f2, f3, f4, hs⟩ := box4 hb
  have HB := hid (box4_up hb)
  have HRW := hid (HR.out.1.below (box4_up hb) (Nat.le_refl _))
  have HBB := hid hb
  clear hb
  go_wp2
  refine bodyPost_ret (v := .tuple #[.agg #[.slice ao L.length cap, .int .i64 e], .int .i64 0]) (dec_results2 rfl _ _ (w.heap.size + 1) _ _ _ rfl rfl (two_cells x3 x4).1 (two_cells x3 x4).2) rfl ⟨below_two HB.out (by omega) _ _, _, L, _, _, rfl, HLF.out, ?_⟩
  have h9 : Out w1 (.slice ao L.length cap) L e L.length (min e p) (max (e + L.length) (p + 1)) (fun g => (Value.slice ao L.length cap).ownBlock = some g) (cutV L e p) := ⟨HRW.out, fun g hg => hg, HR.out.2.1, Nat.le_refl _, HR.out.2.2, HNE.out, HVV.out⟩
  have hlt := HR.out.1.lt
  exact ((h9.setCell _ _ (fun h => by have := hlt _ h; simp at this; omega)).setCell _ _ (fun h => by have := hlt _ h; simp at this; omega)).mono (Nat.le_refl _) (Int.le_refl _) (Int.le_refl _) (fun g hg => .inl hg) (fun _ _ => rfl)
 ·have HZC : Hid (∀ w' : World, Row w' (.slice ao L.length cap) L → Calls Tryz.prog 78 #[.agg #[.slice ao L.length cap, .int .i64 e]] w' fun r w2 => r = .returned (.bool false) ∧ Below w'.heap.size w' w2) := fun w' hw => by
   have := zero_any (.slice ao L.length cap) L e w' hw
   rw [show decide (L.length = 0) = false from by simp [h0]] at this; exact this
  have h0' : ¬ L.length = 0 := h0
  by_cases hpe : p ≤ e
  ·have HLF : Hid (∀ K : Nat, -(K : Int) ≤ e → -(K : Int) ≤ p → (0 : Int) = leftN (val K L e) (10 ^ (p + K).toNat)) := fun K _ k2 => by
    unfold leftN; rw [if_pos (val_mod L K e p hpe k2)]
   have HVV : Hid (∀ K : Nat, -(K : Int) ≤ min e p → val K L e = cutV L e p K) := fun K hK => (cutV_whole L e p K hpe (by omega)).symm
   clear hr hn hz h0
   go_enter Tryz.func117, Tryz.ntmps117
   go_wp2_with fail
   refine (HZC.out _ (HR.out.1.below box4_below (Nat.le_refl _))).mono ?_
   rintro r w1 ⟨rfl, hb1⟩
   have hb := box4_start hb1
   clear hb1
   obtain ⟨x1, x2, x3, x4, f1, f2, f3, f4, hs⟩ := box4 hb
   have HB := hid (box4_up hb)
   have HRW := hid (HR.out.1.below (box4_up hb) (Nat.le_refl _))
   have HBB := hid hb
   clear hb
   go_wp2
   refine bodyPost_ret (v := .tuple #[.agg #[.slice ao L.length cap, .int .i64 e], .int .i64 0]) (dec_results2 rfl _ _ (w.heap.size + 1) _ _ _ rfl rfl (two_cells x3 x4).1 (two_cells x3 x4).2) rfl ⟨below_two HB.out (by omega) _ _, _, L, _, _, rfl, HLF.out, ?_⟩
   have h9 : Out w1 (.slice ao L.length cap) L e L.length (min e p) (max (e + L.length) (p + 1)) (fun g => (Value.slice ao L.length cap).ownBlock = some g) (cutV L e p) := ⟨HRW.out, fun g hg => hg, HR.out.2.1, Nat.le_refl _, HR.out.2.2, HNE.out, HVV.out⟩
   have hlt := HR.out.1.lt
   exact ((h9.setCell _ _ (fun h => by have := hlt _ h; simp at this; omega)).setCell _ _ (fun h => by have := hlt _ h; simp at this; omega)).mono (Nat.le_refl _) (Int.le_refl _) (Int.le_refl _) (fun g hg => .inl hg) (fun _ _ => rfl)
  ·by_cases hk0 : (L.length : Int) - (p - e) < 0
   ·have HLF : Hid (∀ K : Nat, -(K : Int) ≤ e → -(K : Int) ≤ p → (1 : Int) = leftN (val K L e) (10 ^ (p + K).toNat)) := fun K k1 _ => (cut_high hn.digs K e p k1 (by omega) (hn.headed.pos (by omega))).2.symm
    have HVZ : Hid (∀ K : Nat, -(K : Int) ≤ min e p → 0 = cutV L e p K) := fun K hK => by
     unfold cutV; rw [(cut_high hn.digs K e p (by omega) (by omega) (hn.headed.pos (by omega))).1]; simp
    clear hr hn hz h0
    go_enter Tryz.func117, Tryz.ntmps117
    go_wp2_with fail
    refine (HZC.out _ (HR.out.1.below box4_below (Nat.le_refl _))).mono ?_
    rintro r w1 ⟨rfl, hb1⟩
    have hb := box4_start hb1
    clear hb1
    obtain ⟨x1, x2, x3, x4, f1, f2, f3, f4, hs⟩ := box4 hb
    have HB := hid (box4_up hb)
    have HRW := hid (HR.out.1.below (box4_up hb) (Nat.le_refl _))
    have HBB := hid hb
    clear hb
    go_wp2
    refine bodyPost_ret (v := .tuple #[.agg #[.slice none 0 0, .int .i64 0], .int .i64 1]) (dec_results2 rfl _ _ (w.heap.size + 1) _ _ _ rfl rfl (two_cells x3 x4).1 (two_cells x3 x4).2) rfl ⟨below_two HB.out (by omega) _ _, _, [], _, _, rfl, HLF.out, ?_⟩
    have h9 : Out w1 (.slice none 0 0) [] 0 L.length (min e p) (max (e + L.length) (p + 1)) (fun _ => False) (cutV L e p) := ⟨Row.nil _, fun g hg => by simp [Value.ownBlock] at hg, norm_nil, by simp, fun _ => rfl, fun h => absurd rfl h, fun K hK => by rw [val_nil]; exact HVZ.out K hK⟩
    exact ((h9.setCell _ _ (fun h => h)).setCell _ _ (fun h => h)).mono (Nat.le_refl _) (Int.le_refl _) (Int.le_refl _) (fun g hg => hg.elim) (fun _ _ => rfl)
   ·obtain ⟨k, hk⟩ : ∃ k : Nat, (L.length : Int) - (p - e) = k := ⟨((L.length : Int) - (p - e)).toNat, by omega⟩
    rcases hr.form with ⟨h1, _⟩ | ⟨b, off, cap', hv, hc1, hc2, hbw⟩
    ·rw [h1] at h0; simp at h0
    ·simp only [Value.slice.injEq] at hv
     obtain ⟨rfl, _, rfl⟩ := hv
     have hkl : k < L.length := by omega
     obtain ⟨x, hx⟩ : ∃ x, x = L.getD k 0 := ⟨_, rfl⟩
     have hx9 : x ≤ 9 := by rw [hx]; exact hn.digs.getD k
     have hcell : w.cell? ⟨b, off + k, none⟩ = some (.int .i64 x) := by
      rcases hr with ⟨h1, _⟩ | ⟨b', off', cap', hv, _, _, _, h4⟩
      ·rw [h1] at h0; simp at h0
      ·simp only [Value.slice.injEq, Option.some.injEq, Addr.mk.injEq, and_true, true_and] at hv
       obtain ⟨⟨rfl, rfl⟩, rfl⟩ := hv
       rw [hx]; exact h4 k hkl
     have HBC : Hid (∀ w' : World, Below w.heap.size w w' → w'.cell? ⟨b, off + k, none⟩ = some (.int .i64 x)) := fun w' hb => keep_cell' hb hcell
     have HTK : Hid (∀ w' : World, Below w.heap.size w w' → Row w' (.slice (some ⟨b, off, none⟩) k cap) (L.take k)) := fun w' hb => by
      have h5 := hr.below hb (Nat.le_refl _)
      rcases h5 with ⟨h1, _⟩ | ⟨b', off', cap', hv, h6, h7, h8, h4⟩
      ·rw [h1] at h0; simp at h0
      ·simp only [Value.slice.injEq, Option.some.injEq, Addr.mk.injEq, and_true, true_and] at hv
       obtain ⟨⟨rfl, rfl⟩, rfl⟩ := hv
       have hlt : (L.take k).length = k := by rw [List.length_take]; omega
       refine .inr ⟨b, off, cap, by rw [hlt], by omega, h7, h8, fun j hj => ?_⟩
       rw [h4 j (by omega), List.getD_eq_getElem?_getD, List.getD_eq_getElem?_getD, List.getElem?_take_of_lt (by omega)]
     have HVT : Hid (∀ K : Nat, -(K : Int) ≤ e → -(K : Int) ≤ p → val K (L.take k) p = cutV L e p K) := fun K k1 _ => take_cut hn.digs K e p k1 k (by omega) hkl
     have HLL : Hid (∀ K : Nat, -(K : Int) ≤ e → leftN (val K L e) (10 ^ (p + K).toNat) = if 5 < x ∨ (x = 5 ∧ k + 1 < L.length) then 3 else if x = 5 then 2 else 1) := fun K k1 => by rw [hx]; exact norm_cut hn K e p k1 k (by omega) hkl
     unfold maxLen at hc2
     clear hr hn hz h0 hx hcell
     rcases (by omega : x < 5 ∨ (x = 5 ∧ k + 1 < L.length) ∨ (x = 5 ∧ ¬ k + 1 < L.length) ∨ 5 < x) with q | ⟨q, q2⟩ | ⟨q, q2⟩ | q
     ·have HLF : Hid (∀ K : Nat, -(K : Int) ≤ e → -(K : Int) ≤ p → (1 : Int) = leftN (val K L e) (10 ^ (p + K).toNat)) := fun K k1 _ => by rw [HLL.out K k1, if_neg (by omega), if_neg (by omega)]
      have t1 : decide (5 < x) = false := by simp; omega
      have t2 : ((x : Int) == 5) = false := by rw [beq_eq_false_iff_ne]; omega
      go_enter Tryz.func117, Tryz.ntmps117
      go_wp2_with fail
      refine (HZC.out _ (HR.out.1.below box4_below (Nat.le_refl _))).mono ?_
      rintro r w1 ⟨rfl, hb1⟩
      have hb := box4_start hb1
      clear hb1
      obtain ⟨x1, x2, x3, x4, f1, f2, f3, f4, hs⟩ := box4 hb
      have HB := hid (box4_up hb)
      have HRW := hid (HR.out.1.below (box4_up hb) (Nat.le_refl _))
      have HBB := hid hb
      clear hb
      have HM := hid (made_any (.slice (some ⟨b, off, none⟩) k cap) (L.take k) p w1 (HTK.out w1 (box4_up HBB.out)) (HR.out.2.1.digs.take k) (by rw [List.length_take]; omega) (by omega))
      have c2 := (HBC.out w1 (box4_up HBB.out))
      go_wp2_with fail
      refine HM.out.mono ?_
      rintro r w2 ⟨hb2, v', L', e', rfl, hout⟩
      have hb3 := below_next HBB.out hb2 hs
      obtain ⟨x1', x2', x3', x4', f1', f2', f3', f4', hs'⟩ := box4 hb3
      have HB3 := hid (box4_up hb3)
      have HOU := hid hout
      obtain ⟨ao', cp', hv'⟩ := hout.row.isSlice
      subst hv'
      clear hb2 hb3 hout x1 x2 x3 x4 f1 f2 f3 f4 c2 HM
      go_wp2
      refine bodyPost_ret (v := .tuple #[.agg #[.slice ao' L'.length cp', .int .i64 e'], .int .i64 1]) (dec_results2 rfl _ _ (w.heap.size + 1) _ _ _ rfl rfl (two_cells x3' x4').1 (two_cells x3' x4').2) rfl ⟨below_two HB3.out (by omega) _ _, _, L', _, _, rfl, HLF.out, ?_⟩
      have h8 := HOU.out
      have h9 : Out w2 (.slice ao' L'.length cp') L' e' L.length (min e p) (max (e + L.length) (p + 1)) (fun g => g = b) (cutV L e p) := h8.mono (by rw [List.length_take]; omega) (by omega) (by rw [List.length_take]; omega) (fun g hg => by simp [Value.ownBlock] at hg; omega) (fun K hK => HVT.out K (by omega) (by omega))
      exact ((h9.setCell _ _ (by simp; omega)).setCell _ _ (by simp; omega)).mono (Nat.le_refl _) (Int.le_refl _) (Int.le_refl _) (fun g hg => .inl (by rw [hg]; rfl)) (fun _ _ => rfl)
     ·have HLF : Hid (∀ K : Nat, -(K : Int) ≤ e → -(K : Int) ≤ p → (3 : Int) = leftN (val K L e) (10 ^ (p + K).toNat)) := fun K k1 _ => by rw [HLL.out K k1, if_pos (.inr ⟨q, q2⟩)]
      subst q
      have t3 : (k : Int) + 1 < L.length := by omega
      go_enter Tryz.func117, Tryz.ntmps117
      go_wp2_with fail
      refine (HZC.out _ (HR.out.1.below box4_below (Nat.le_refl _))).mono ?_
      rintro r w1 ⟨rfl, hb1⟩
      have hb := box4_start hb1
      clear hb1
      obtain ⟨x1, x2, x3, x4, f1, f2, f3, f4, hs⟩ := box4 hb
      have HB := hid (box4_up hb)
      have HRW := hid (HR.out.1.below (box4_up hb) (Nat.le_refl _))
      have HBB := hid hb
      clear hb
      have HM := hid (made_any (.slice (some ⟨b, off, none⟩) k cap) (L.take k) p w1 (HTK.out w1 (box4_up HBB.out)) (HR.out.2.1.digs.take k) (by rw [List.length_take]; omega) (by omega))
      have c2 := (HBC.out w1 (box4_up HBB.out))
      go_wp2_with fail
      refine HM.out.mono ?_
      rintro r w2 ⟨hb2, v', L', e', rfl, hout⟩
      have hb3 := below_next HBB.out hb2 hs
      obtain ⟨x1', x2', x3', x4', f1', f2', f3', f4', hs'⟩ := box4 hb3
      have HB3 := hid (box4_up hb3)
      have HOU := hid hout
      obtain ⟨ao', cp', hv'⟩ := hout.row.isSlice
      subst hv'
      clear hb2 hb3 hout x1 x2 x3 x4 f1 f2 f3 f4 c2 HM
      go_wp2
      refine bodyPost_ret (v := .tuple #[.agg #[.slice ao' L'.length cp', .int .i64 e'], .int .i64 3]) (dec_results2 rfl _ _ (w.heap.size + 1) _ _ _ rfl rfl (two_cells x3' x4').1 (two_cells x3' x4').2) rfl ⟨below_two HB3.out (by omega) _ _, _, L', _, _, rfl, HLF.out, ?_⟩
      have h8 := HOU.out
      have h9 : Out w2 (.slice ao' L'.length cp') L' e' L.length (min e p) (max (e + L.length) (p + 1)) (fun g => g = b) (cutV L e p) := h8.mono (by rw [List.length_take]; omega) (by omega) (by rw [List.length_take]; omega) (fun g hg => by simp [Value.ownBlock] at hg; omega) (fun K hK => HVT.out K (by omega) (by omega))
      exact ((h9.setCell _ _ (by simp; omega)).setCell _ _ (by simp; omega)).mono (Nat.le_refl _) (Int.le_refl _) (Int.le_refl _) (fun g hg => .inl (by rw [hg]; rfl)) (fun _ _ => rfl)
     ·have HLF : Hid (∀ K : Nat, -(K : Int) ≤ e → -(K : Int) ≤ p → (2 : Int) = leftN (val K L e) (10 ^ (p + K).toNat)) := fun K k1 _ => by rw [HLL.out K k1, if_neg (by omega), if_pos q]
      subst q
      have t3 : ¬ (k : Int) + 1 < L.length := by omega
      go_enter Tryz.func117, Tryz.ntmps117
      go_wp2_with fail
      refine (HZC.out _ (HR.out.1.below box4_below (Nat.le_refl _))).mono ?_
      rintro r w1 ⟨rfl, hb1⟩
      have hb := box4_start hb1
      clear hb1
      obtain ⟨x1, x2, x3, x4, f1, f2, f3, f4, hs⟩ := box4 hb
      have HB := hid (box4_up hb)
      have HRW := hid (HR.out.1.below (box4_up hb) (Nat.le_refl _))
      have HBB := hid hb
      clear hb
      have HM := hid (made_any (.slice (some ⟨b, off, none⟩) k cap) (L.take k) p w1 (HTK.out w1 (box4_up HBB.out)) (HR.out.2.1.digs.take k) (by rw [List.length_take]; omega) (by omega))
      have c2 := (HBC.out w1 (box4_up HBB.out))
      go_wp2_with fail
      refine HM.out.mono ?_
      rintro r w2 ⟨hb2, v', L', e', rfl, hout⟩
      have hb3 := below_next HBB.out hb2 hs
      obtain ⟨x1', x2', x3', x4', f1', f2', f3', f4', hs'⟩ := box4 hb3
      have HB3 := hid (box4_up hb3)
      have HOU := hid hout
      obtain ⟨ao', cp', hv'⟩ := hout.row.isSlice
      subst hv'
      clear hb2 hb3 hout x1 x2 x3 x4 f1 f2 f3 f4 c2 HM
      go_wp2
      refine bodyPost_ret (v := .tuple #[.agg #[.slice ao' L'.length cp', .int .i64 e'], .int .i64 2]) (dec_results2 rfl _ _ (w.heap.size + 1) _ _ _ rfl rfl (two_cells x3' x4').1 (two_cells x3' x4').2) rfl ⟨below_two HB3.out (by omega) _ _, _, L', _, _, rfl, HLF.out, ?_⟩
      have h8 := HOU.out
      have h9 : Out w2 (.slice ao' L'.length cp') L' e' L.length (min e p) (max (e + L.length) (p + 1)) (fun g => g = b) (cutV L e p) := h8.mono (by rw [List.length_take]; omega) (by omega) (by rw [List.length_take]; omega) (fun g hg => by simp [Value.ownBlock] at hg; omega) (fun K hK => HVT.out K (by omega) (by omega))
      exact ((h9.setCell _ _ (by simp; omega)).setCell _ _ (by simp; omega)).mono (Nat.le_refl _) (Int.le_refl _) (Int.le_refl _) (fun g hg => .inl (by rw [hg]; rfl)) (fun _ _ => rfl)
     ·have HLF : Hid (∀ K : Nat, -(K : Int) ≤ e → -(K : Int) ≤ p → (3 : Int) = leftN (val K L e) (10 ^ (p + K).toNat)) := fun K k1 _ => by rw [HLL.out K k1, if_pos (.inl q)]
      have t1 : decide (5 < x) = true := by simp; omega
      go_enter Tryz.func117, Tryz.ntmps117
      go_wp2_with fail
      refine (HZC.out _ (HR.out.1.below box4_below (Nat.le_refl _))).mono ?_
      rintro r w1 ⟨rfl, hb1⟩
      have hb := box4_start hb1
      clear hb1
      obtain ⟨x1, x2, x3, x4, f1, f2, f3, f4, hs⟩ := box4 hb
      have HB := hid (box4_up hb)
      have HRW := hid (HR.out.1.below (box4_up hb) (Nat.le_refl _))
      have HBB := hid hb
      clear hb
      have HM := hid (made_any (.slice (some ⟨b, off, none⟩) k cap) (L.take k) p w1 (HTK.out w1 (box4_up HBB.out)) (HR.out.2.1.digs.take k) (by rw [List.length_take]; omega) (by omega))
      have c2 := (HBC.out w1 (box4_up HBB.out))
      go_wp2_with fail
      refine HM.out.mono ?_
      rintro r w2 ⟨hb2, v', L', e', rfl, hout⟩
      have hb3 := below_next HBB.out hb2 hs
      obtain ⟨x1', x2', x3', x4', f1', f2', f3', f4', hs'⟩ := box4 hb3
      have HB3 := hid (box4_up hb3)
      have HOU := hid hout
      obtain ⟨ao', cp', hv'⟩ := hout.row.isSlice
      subst hv'
      clear hb2 hb3 hout x1 x2 x3 x4 f1 f2 f3 f4 c2 HM
      go_wp2
      refine bodyPost_ret (v := .tuple #[.agg #[.slice ao' L'.length cp', .int .i64 e'], .int .i64 3]) (dec_results2 rfl _ _ (w.heap.size + 1) _ _ _ rfl rfl (two_cells x3' x4').1 (two_cells x3' x4').2) rfl ⟨below_two HB3.out (by omega) _ _, _, L', _, _, rfl, HLF.out, ?_⟩
      have h8 := HOU.out
      have h9 : Out w2 (.slice ao' L'.length cp') L' e' L.length (min e p) (max (e + L.length) (p + 1)) (fun g => g = b) (cutV L e p) := h8.mono (by rw [List.length_take]; omega) (by omega) (by rw [List.length_take]; omega) (fun g hg => by simp [Value.ownBlock] at hg; omega) (fun K hK => HVT.out K (by omega) (by omega))
      exact ((h9.setCell _ _ (by simp; omega)).setCell _ _ (by simp; omega)).mono (Nat.le_refl _) (Int.le_refl _) (Int.le_refl _) (fun g hg => .inl (by rw [hg]; rfl)) (fun _ _ => rfl)
end Go.Proofs.YtbkdaoicnobllabGreatDoor

namespace Go.Proofs.YtbkdaoicnobllabGreatDoor
set_option maxRecDepth 100000
set_option maxHeartbeats 1000000
open Go.RowKit

def rndV (mode : Int) (neg : Bool) (L : List Nat) (e p : Int) (K : Nat) : Nat := rndN (awayB mode neg) (val K L e) (10 ^ (p + K).toNat) * 10 ^ (p + K).toNat
theorem rndV_stay {mode : Int} {neg : Bool} {L : List Nat} {e p : Int} {K : Nat} (h : leftN (val K L e) (10 ^ (p + K).toNat) = 0 ∨ awayB mode neg (leftN (val K L e) (10 ^ (p + K).toNat)) (val K L e / 10 ^ (p + K).toNat % 2 == 1) = false) : cutV L e p K = rndV mode neg L e p K := by
 unfold cutV rndV rndN
 rw [if_neg]
 rintro ⟨a, b⟩
 rcases h with h | h
 ·exact a h
 ·rw [h] at b; cases b
theorem rndV_up {mode : Int} {neg : Bool} {L : List Nat} {e p : Int} {K : Nat} (h0 : leftN (val K L e) (10 ^ (p + K).toNat) ≠ 0) (h : awayB mode neg (leftN (val K L e) (10 ^ (p + K).toNat)) (val K L e / 10 ^ (p + K).toNat % 2 == 1) = true) : cutV L e p K + 10 ^ (p + K).toNat = rndV mode neg L e p K := by
 unfold cutV rndV rndN
 rw [if_pos ⟨h0, h⟩, Nat.add_mul, Nat.one_mul]
theorem cut_par {L L1 : List Nat} {e e1 p : Int} {K : Nat} (hd : Digs L1) (k1 : -(K : Int) ≤ e1) (k2 : -(K : Int) ≤ p) (h : val K L1 e1 = cutV L e p K) : dig L1 e1 p % 2 = val K L e / 10 ^ (p + K).toNat % 2 := by
 rw [← dig_val hd K e1 p k1 k2, h]
 unfold cutV
 rw [Nat.mul_div_cancel _ (Nat.pow_pos (by omega))]; omega
theorem to_any (v : Value) (L : List Nat) (e p mode : Int) (neg : Bool) (w : World) (hr : Row w v L) (hn : Norm L) (hz : L = [] → e = 0) (hl : L.length ≤ 20000) (he : -20000 ≤ e ∧ e ≤ 20000) (hp : -20000 ≤ p ∧ p ≤ 20000) :
  Calls Tryz.prog 85 #[.agg #[v, .int .i64 e], .int .i64 p, .int .i64 mode, .bool neg] w fun r w' => Below w.heap.size w w' ∧
   ∃ v' L' e', r = .returned (.agg #[v', .int .i64 e']) ∧ Out w' v' L' e' 100000 (min (min e p) 0) (max (max (e + L.length) (p + 1)) 0 + 1) (fun g => v.ownBlock = some g ∨ w.heap.size ≤ g) (rndV mode neg L e p) := by
 obtain ⟨ao0, cap0, hv⟩ := hr.isSlice
 subst hv
 have HR := hid (And.intro hr (And.intro hn hz))
 have HVL := hid hr.lt
 clear hr hn hz
 go_enter Tryz.func85, Tryz.ntmps85
 go_wp2_with fail
 refine (cut_any (.slice ao0 L.length cap0) L e p ((w.alloc (.cells #[.slice ao0 L.length cap0, .int .i64 e] 95)).alloc (.cells #[.slice none 0 0, .int .i64 0] 95)) (HR.out.1.below box4_below (Nat.le_refl _)) HR.out.2.1 HR.out.2.2 (by omega) (by omega) (by omega)).mono ?_
 rintro r w1 ⟨hb1, v1, L1, e1, left, rfl, hlf, hout⟩
 have hbx := box4_start hb1
 obtain ⟨ao, cp, hv1⟩ := hout.row.isSlice
 subst hv1
 obtain ⟨x1, x2, x3, x4, f1, f2, f3, f4, hs⟩ := box4 hbx
 have hbl : Below w1.heap.size w1 (w1.alloc (.cells #[.slice ao L1.length cp, .int .i64 e1] 95)) := (Below.refl _ _).alloc (Nat.le_refl _) _
 have l0 : (w1.alloc (.cells #[.slice ao L1.length cp, .int .i64 e1] 95)).cell? ⟨w1.heap.size, 0, none⟩ = some (.slice ao L1.length cp) := by simp [go_sem]
 have l1 : (w1.alloc (.cells #[.slice ao L1.length cp, .int .i64 e1] 95)).cell? ⟨w1.heap.size, 1, none⟩ = some (.int .i64 e1) := by simp [go_sem]
 have hbw : Below (w.heap.size + 2) ((w.alloc (.cells #[.slice ao0 L.length cap0, .int .i64 e] 95)).alloc (.cells #[.slice none 0 0, .int .i64 0] 95)) (w1.alloc (.cells #[.slice ao L1.length cp, .int .i64 e1] 95)) := below_next hbx hbl hs
 have HLF := hid hlf
 have HOU := hid (hout.below hbl (Nat.le_refl _))
 have hws : w1.heap.size + 1 = (w1.alloc (.cells #[.slice ao L1.length cp, .int .i64 e1] 95)).heap.size := by simp
 have hbd := hout.bounds 40001 (by omega) (by omega) (by omega)
 have hll := hout.len
 obtain ⟨W, hW⟩ : ∃ W, W = (w1.alloc (.cells #[.slice ao L1.length cp, .int .i64 e1] 95)) := ⟨_, rfl⟩
 rw [← hW] at l0 l1 hbw hws HOU hbl
 have HWW := hid hW
 obtain ⟨y1, y2, y3, y4, g1, g2, g3, g4, hs2⟩ := box4 hbw
 have HBW := hid hbw
 clear hb1 hbx hout hlf x1 x2 x3 x4 f1 f2 f3 f4 hbl hbw hW
 have HK : Hid (left = leftN (val 40001 L e) (10 ^ (p + (40001 : Nat)).toNat)) := HLF.out 40001 (by omega) (by omega)
 have hl0 : 0 ≤ left := by rw [HK.out]; exact (leftN_range _ _).1
 have hl3 : left ≤ 3 := by rw [HK.out]; exact (leftN_range _ _).2
 have hno : ∀ b : Nat, w.heap.size ≤ b → b ≤ w.heap.size + 1 → ¬ ((Value.slice ao0 L.length cap0).ownBlock = some b ∨ w.heap.size + 2 ≤ b) := fun b q1 q2 h => by
  rcases h with h | h
  ·have := HVL.out b h; omega
  ·omega
 have HNO := hid hno
 have HOW : Hid (Out W (.slice ao L1.length cp) L1 e1 L.length (min e p) (max (e + L.length) (p + 1)) (fun g => (Value.slice ao0 L.length cap0).ownBlock = some g ∨ w.heap.size + 2 ≤ g) (cutV L e p)) := HOU.out.mono (Nat.le_refl _) (Int.le_refl _) (Int.le_refl _) (fun g hg => by
  rcases hg with h | h
  ·exact .inl h
  ·exact .inr (by simp at h; omega)) (fun _ _ => rfl)
 clear hno HOU
 by_cases h0 : left = 0
 ·subst h0
  have HV : Hid (∀ K : Nat, -(K : Int) ≤ min e p → cutV L e p K = rndV mode neg L e p K) := fun K hK => rndV_stay (.inl (HLF.out K (by omega) (by omega)).symm)
  go_wp2_with (rw [← HWW.out])
  go_wp2
  refine bodyPost_ret (v := .agg #[.slice ao L1.length cp, .int .i64 e1]) (dec_results rfl _ _ (w.heap.size + 1) _ _ rfl (two_cells y3 y4).1 (two_cells y3 y4).2) rfl ⟨below_two (box4_up HBW.out) (by omega) _ _, _, L1, e1, rfl, ?_⟩
  exact ((HOW.out.setCell _ _ (HNO.out _ (by simp) (by simp))).setCell _ _ (HNO.out _ (by simp) (by simp))).mono (by omega) (by omega) (by omega) (fun g hg => by
   rcases hg with h | h
   ·exact .inl h
   ·exact .inr (by omega)) (fun K hK => HV.out K (by omega))
 ·have t0 : (left == 0) = false := by rw [beq_eq_false_iff_ne]; exact h0
  obtain ⟨od, hod⟩ : ∃ od, od = dig L1 e1 p := ⟨_, rfl⟩
  have hod9 : od ≤ 9 := by rw [hod]; exact dig_le HOW.out.norm.digs e1 p
  have HAT := hid (at_any (.slice ao L1.length cp) L1 e1 p W HOW.out.row (by omega) (by omega) (by omega))
  rw [← hod] at HAT
  have HOD : Hid (∀ K : Nat, -(K : Int) ≤ min e p → od % 2 = val K L e / 10 ^ (p + K).toNat % 2) := fun K hK => by
   rw [hod]
   by_cases hnil : L1 = []
   ·have h1 := HOW.out.val K hK
    rw [hnil, val_nil] at h1
    rw [hnil, show dig [] e1 p = 0 from by unfold dig; split <;> simp]
    unfold cutV at h1
    have hp0 : 0 < 10 ^ (p + K).toNat := Nat.pow_pos (by omega)
    rcases Nat.mul_eq_zero.1 h1.symm with h | h
    ·rw [h]
    ·omega
   ·have := HOW.out.ne hnil
    exact cut_par HOW.out.norm.digs (by omega) (by omega) (HOW.out.val K hK)
  have H0 := hid h0
  clear hod h0
  obtain ⟨bo, hbo⟩ : ∃ bo, bo = (od % 2 == 1) := ⟨_, rfl⟩
  obtain ⟨on, hon⟩ : ∃ on, on = awayB mode neg left bo := ⟨_, rfl⟩
  have HAW : Hid (∀ w : World, Calls Tryz.prog 81 #[.int .i64 mode, .bool neg, .int .i64 left, .bool bo] w fun e w' => e = .returned (.bool on) ∧ w' = w) := fun w => by rw [hon]; exact away_any mode left neg bo w
  have HON : Hid (∀ K : Nat, -(K : Int) ≤ min e p → awayB mode neg (leftN (val K L e) (10 ^ (p + K).toNat)) (val K L e / 10 ^ (p + K).toNat % 2 == 1) = on) := fun K hK => by
   rw [← HLF.out K (by omega) (by omega), ← HOD.out K hK, hon, hbo]
  have hbo2 : (bo = true ∧ (od : Int) % 2 = 1) ∨ (bo = false ∧ (od : Int) % 2 = 0) := by
   rcases (by omega : od % 2 = 1 ∨ od % 2 = 0) with h | h
   ·exact .inl ⟨by rw [hbo, h]; rfl, by omega⟩
   ·exact .inr ⟨by rw [hbo, h]; rfl, by omega⟩
  clear hon hbo HOD
  rcases hbo2 with ⟨rfl, hoi⟩ | ⟨rfl, hoi⟩
  all_goals (
   go_wp2_with (rw [← HWW.out])
   go_wp2_with fail
   refine HAT.out.mono ?_
   rintro r w2 ⟨rfl, hb2⟩
   have hbz := below_next HBW.out hb2 hs2
   obtain ⟨z1, z2, z3, z4, k1, k2, k3, k4, hs3⟩ := box4 hbz
   have m0 := keep_cell' hb2 l0
   have m1 := keep_cell' hb2 l1
   have HBZ := hid hbz
   have HO2 := hid (HOW.out.below hb2 (Nat.le_refl _))
   have hw2 : W.heap.size ≤ w2.heap.size := hb2.size
   clear hb2 hbz y1 y2 y3 y4 g1 g2 g3 g4 l0 l1 hs2
   go_wp2_with fail
   refine (HAW.out _).mono ?_
   rintro r w3 ⟨rfl, rfl⟩
   cases on
   ·have HV : Hid (∀ K : Nat, -(K : Int) ≤ min e p → cutV L e p K = rndV mode neg L e p K) := fun K hK => rndV_stay (.inr (HON.out K hK))
    go_wp2
    refine bodyPost_ret (v := .agg #[.slice ao L1.length cp, .int .i64 e1]) (dec_results rfl _ _ (w.heap.size + 1) _ _ rfl (two_cells z3 z4).1 (two_cells z3 z4).2) rfl ⟨below_two (box4_up HBZ.out) (by omega) _ _, _, L1, e1, rfl, ?_⟩
    exact ((HO2.out.setCell _ _ (HNO.out _ (by simp) (by simp))).setCell _ _ (HNO.out _ (by simp) (by simp))).mono (by omega) (by omega) (by omega) (fun g hg => by
     rcases hg with h | h
     ·exact .inl h
     ·exact .inr (by omega)) (fun K hK => HV.out K (by omega))
   ·have HV : Hid (∀ K : Nat, -(K : Int) ≤ min e p → cutV L e p K + 10 ^ (p + K).toNat = rndV mode neg L e p K) := fun K hK => rndV_up (by rw [← HLF.out K (by omega) (by omega)]; exact H0.out) (HON.out K hK)
    go_wp2_with fail
    refine (one_any p w3).mono ?_
    rintro r w4 ⟨hb4, v4, L4, e4, rfl, hout4⟩
    obtain ⟨ao4, cp4, hv4⟩ := hout4.row.isSlice
    subst hv4
    have hb5 : Below w3.heap.size w3 (w4.alloc (.cells #[.slice ao4 L4.length cp4, .int .i64 e4] 95)) := hb4.alloc hb4.size _
    have n0 : (w4.alloc (.cells #[.slice ao4 L4.length cp4, .int .i64 e4] 95)).cell? ⟨w4.heap.size, 0, none⟩ = some (.slice ao4 L4.length cp4) := by simp [go_sem]
    have n1 : (w4.alloc (.cells #[.slice ao4 L4.length cp4, .int .i64 e4] 95)).cell? ⟨w4.heap.size, 1, none⟩ = some (.int .i64 e4) := by simp [go_sem]
    have HO4 := hid (hout4.below ((Below.refl w4.heap.size w4).alloc (Nat.le_refl _) (.cells #[.slice ao4 L4.length cp4, .int .i64 e4] 95)) (Nat.le_refl _))
    have hl4 := hout4.len
    have hb4d := hout4.bounds 20001 (by omega) (by omega) (by omega)
    have hs4 := hb4.size
    obtain ⟨W5, hW5⟩ : ∃ W5, W5 = w4.alloc (.cells #[.slice ao4 L4.length cp4, .int .i64 e4] 95) := ⟨_, rfl⟩
    rw [← hW5] at hb5 n0 n1 HO4
    have HW5 := hid hW5
    have hbz5 := below_next HBZ.out hb5 hs3
    obtain ⟨q1, q2, q3, q4, _, _, _, _, hs5⟩ := box4 hbz5
    have p0 := keep_cell' hb5 m0
    have p1 := keep_cell' hb5 m1
    have HO5 := hid (HO2.out.below hb5 (Nat.le_refl _))
    have HBZ5 := hid hbz5
    have HAD := hid (add_any (.slice ao L1.length cp) (.slice ao4 L4.length cp4) L1 L4 e1 e4 W5 HO5.out.row HO4.out.row HO5.out.norm HO4.out.norm HO5.out.nil HO4.out.nil (by omega) (by omega) (by omega) (by omega))
    clear hb4 hout4 hb5 hbz5 z1 z2 z3 z4 k1 k2 k3 k4 m0 m1 hW5
    go_wp2_with (rw [← HW5.out])
    go_wp2_with fail
    refine HAD.out.mono ?_
    rintro r w6 ⟨hb6, v6, L6, e6, rfl, hout6⟩
    obtain ⟨ao6, cp6, hv6⟩ := hout6.row.isSlice
    subst hv6
    have hbz6 := below_next HBZ5.out hb6 hs5
    obtain ⟨u1, u2, u3', u4, _, _, g6, g7, hs6⟩ := box4 hbz6
    have HBZ6 := hid hbz6
    have HO6 := hid hout6
    have hs56 : W5.heap.size ≤ w6.heap.size := hb6.size
    clear hb6 hout6 hbz6 p0 p1 q1 q2 q3 q4 n0 n1 HAD
    go_wp2
    refine bodyPost_ret (v := .agg #[.slice ao6 L6.length cp6, .int .i64 e6]) (dec_results rfl _ _ (w.heap.size + 1) _ _ rfl (two_cells u3' u4).1 (two_cells u3' u4).2) rfl ⟨below_two (box4_up HBZ6.out) (by omega) _ _, _, L6, e6, rfl, ?_⟩
    have hne1 := HO5.out.ne
    have hne4 := HO4.out.ne
    have hnil1 := HO5.out.nil
    have h4ne : L4 ≠ [] := by
     intro h
     have h1 := HO4.out.val 40001 (by omega)
     rw [h, val_nil] at h1
     have : 0 < 10 ^ (p + (40001 : Nat)).toNat := Nat.pow_pos (by omega)
     omega
    have hne4' := hne4 h4ne
    have hll1 := HO5.out.len
    have h9 : Out w6 (.slice ao6 L6.length cp6) L6 e6 100000 (min (min e p) 0) (max (max (e + L.length) (p + 1)) 0 + 1) (fun g => (Value.slice ao0 L.length cap0).ownBlock = some g ∨ w.heap.size + 2 ≤ g) (rndV mode neg L e p) := by
     have hb1 : (min (min e p) 0 ≤ min e1 e4) ∧ (max (e1 + (L1.length : Int)) (e4 + L4.length) + 1 ≤ max (max (e + L.length) (p + 1)) 0 + 1) := by
      by_cases h1n : L1 = []
      ·have h2 := hnil1 h1n
       rw [h1n, h2]; simp only [List.length_nil]; omega
      ·have hne1' := hne1 h1n
       omega
     refine HO6.out.mono (by omega) hb1.1 hb1.2 (fun g hg => ?_) (fun K hK => ?_)
     ·rcases hg with h | h | h
      ·exact HO5.out.own g h
      ·have h5 : w3.heap.size ≤ g := HO4.out.own g h
       exact .inr (by omega)
      ·exact .inr (by omega)
     ·rw [HO5.out.val K (by omega), HO4.out.val K (by omega)]; exact HV.out K (by omega)
    exact ((h9.setCell _ _ (HNO.out _ (by simp) (by simp))).setCell _ _ (HNO.out _ (by simp) (by simp))).mono (Nat.le_refl _) (Int.le_refl _) (Int.le_refl _) (fun g hg => by
     rcases hg with h | h
     ·exact .inl h
     ·exact .inr (by omega)) (fun _ _ => rfl))
end Go.Proofs.YtbkdaoicnobllabGreatDoor

namespace Go.Proofs.YtbkdaoicnobllabGreatDoor
set_option maxRecDepth 100000
set_option maxHeartbeats 1000000
open Go.RowKit

theorem rtextFix (f A : Int) (a : Nat) (ng : Bool) (prec mode P LO : Int) (hA : A = (a : Int)) (hf : 0 ≤ f ∧ f ≤ 2) (ha : (a : Int) < infA f) (h1 : 0 ≤ prec) (h2 : prec ≤ 800) (w : World) :
  Calls Tryz.prog 52 #[.int .i64 f, .int .i64 A, .bool ng, .int .i64 3, .int .i64 prec, .int .i64 mode, .int .i64 P, .int .i64 LO] w fun r w' => TextPost w w' r (FixQ (awayB mode ng) (valA 3000 f a) prec.toNat) := by
 have HV := hid (fun w => value_any f a w hf (by omega))
 rw [← hA] at HV
 obtain ⟨N, hN⟩ : ∃ N : Int, -prec = N := ⟨_, rfl⟩
 have HVT := hid (fun (L : List Nat) (e : Int) (a1 : Headed L) (a2 : 0 < L.length) (a3 : -(3000 : Int) ≤ e) (a4 : val 3000 L e = valA 3000 f a) => valA_top hf ha a1 a2 a3 a4)
 have HPR : Hid (((prec.toNat : Nat) : Int) = prec) := by unfold Hid; omega
 clear hA hf ha
 go_enter Tryz.func52, Tryz.ntmps52
 go_wp2_with fail
 refine (HV.out _).mono ?_
 rintro r w1 ⟨hb1, v', L, e, rfl, hout⟩
 obtain ⟨ao, cp, hv⟩ := hout.row.isSlice
 subst hv
 have HVAL : Hid (val 3000 L e = valA 3000 f a) := hout.val 3000 (by omega)
 have hbd : -1100 ≤ e ∧ e + L.length ≤ 400 := by
  by_cases hL : L = []
  ·rw [hout.nil hL, hL]; simp
  ·have q := (hout.ne hL).1
   exact ⟨q, HVT.out L e hout.norm.headed (List.length_pos_iff.2 hL) (by omega) HVAL.out⟩
 obtain ⟨he1, he2⟩ := hbd
 have HB1 : Hid (Below w.heap.size w (w1.alloc (.cells #[.slice ao L.length cp, .int .i64 e] 95))) := hb1.alloc hb1.size _
 have HROW : Hid (Row (w1.alloc (.cells #[.slice ao L.length cp, .int .i64 e] 95)) (.slice ao L.length cp) L) := hout.row.below ((Below.refl _ _).alloc (Nat.le_refl _) _) (Nat.le_refl _)
 have HNZ := hid (And.intro hout.norm hout.nil)
 have hLn := hout.len
 clear hb1 hout HV HVT
 go_wp2_with fail
 refine (to_any (.slice ao L.length cp) L e N mode ng _ HROW.out HNZ.out.1 HNZ.out.2 (by omega) (by omega) (by omega)).mono ?_
 rintro r w2 ⟨hb2, v2, L2, e2, rfl, hout2⟩
 obtain ⟨ao2, cp2, hv2⟩ := hout2.row.isSlice
 subst hv2
 have HB2 : Hid (Below w.heap.size w (w2.alloc (.cells #[.slice ao2 L2.length cp2, .int .i64 e2] 95))) := (HB1.out.trans (hb2.mono HB1.out.size)).alloc (HB1.out.trans (hb2.mono HB1.out.size)).size _
 have hbd2 : -1100 ≤ e2 ∧ e2 + L2.length ≤ 402 := by
  by_cases hL : L2 = []
  ·rw [hout2.nil hL, hL]; simp
  ·have q := hout2.ne hL
   omega
 obtain ⟨hg1, hg2⟩ := hbd2
 have HR2 : Hid (Row (w2.alloc (.cells #[.slice ao2 L2.length cp2, .int .i64 e2] 95)) (.slice ao2 L2.length cp2) L2) := hout2.row.below ((Below.refl _ _).alloc (Nat.le_refl _) _) (Nat.le_refl _)
 have HQ : Hid (FixQ (awayB mode ng) (valA 3000 f a) prec.toNat (fixT L2 e2 (highN L2 e2) (cntN e2 prec)) ∧ (fixT L2 e2 (highN L2 e2) (cntN e2 prec)).length ≤ 5000) := by
  have hc : cntN e2 prec = prec.toNat := by unfold cntN; rw [if_neg (by omega)]
  rw [hc]
  refine ⟨fix_ref (by omega) hout2.norm hout2.nil (fun _ => by omega) ?_, ?_⟩
  ·have q := hout2.val 3000 (by omega)
   unfold rndV at q
   rw [HVAL.out, show N = -((prec.toNat : Nat) : Int) from by rw [HPR.out]; omega] at q
   exact q
  ·have q := fixT_length L2 e2 (highN L2 e2) prec.toNat
   have q2 := highN_le L2 e2 402 (by omega)
   omega
 have HD2 := hid hout2.norm.digs
 have hLn2 := hout2.len
 clear hb2 hout2 HROW HNZ HVAL
 go_wp2_with fail
 refine (plain_any (.slice ao2 L2.length cp2) L2 e2 prec _ HR2.out HD2.out hLn2 (by omega) (by omega) (by omega)).mono ?_
 rintro r w3 ⟨rfl, hb3⟩
 have HB3 : Hid (Below w.heap.size w w3) := HB2.out.trans (hb3.mono HB2.out.size)
 clear hb3
 go_wp2
 go_ret
 exact ⟨_, rfl, HQ.out.1, HQ.out.2, HB3.out⟩
theorem nil_of_zero {L : List Nat} {e : Int} (hn : Norm L) (h : val 3000 L e = 0) : L = [] := by
 by_cases hL : L = []
 ·exact hL
 ·unfold val at h
  have := Nat.mul_pos (hn.headed.pos (List.length_pos_iff.2 hL)) (Nat.pow_pos (n := (e + (3000 : Nat)).toNat) (show 0 < 10 by omega))
  omega
theorem rtextExp (f A : Int) (a : Nat) (ng : Bool) (prec mode P LO : Int) (hA : A = (a : Int)) (hf : 0 ≤ f ∧ f ≤ 2) (ha : (a : Int) < infA f) (h1 : 0 ≤ prec) (h2 : prec ≤ 800) (w : World) :
  Calls Tryz.prog 52 #[.int .i64 f, .int .i64 A, .bool ng, .int .i64 2, .int .i64 prec, .int .i64 mode, .int .i64 P, .int .i64 LO] w fun r w' => TextPost w w' r (ExpQ (awayB mode ng) (valA 3000 f a) prec.toNat) := by
 have HV := hid (fun w => value_any f a w hf (by omega))
 rw [← hA] at HV
 obtain ⟨N, hN⟩ : ∃ N : Int, -prec = N := ⟨_, rfl⟩
 have HVT := hid (fun (L : List Nat) (e : Int) (a1 : Headed L) (a2 : 0 < L.length) (a3 : -(3000 : Int) ≤ e) (a4 : val 3000 L e = valA 3000 f a) => valA_top hf ha a1 a2 a3 a4)
 have HPR : Hid (((prec.toNat : Nat) : Int) = prec) := by unfold Hid; omega
 by_cases h0 : a = 0
 ·have hA0 : A = 0 := by omega
  subst hA0
  have HZ : Hid (valA 3000 f a = 0) := by unfold Hid; rw [h0]; exact valA_none 3000 f
  clear hA hf ha h0
  go_enter Tryz.func52, Tryz.ntmps52
  go_wp2_with fail
  refine (HV.out _).mono ?_
  rintro r w1 ⟨hb1, v', L, e, rfl, hout⟩
  obtain ⟨ao, cp, hv⟩ := hout.row.isSlice
  subst hv
  have HVAL : Hid (val 3000 L e = valA 3000 f a) := hout.val 3000 (by omega)
  have hbd : -1100 ≤ e ∧ e + L.length ≤ 400 := by
   by_cases hL : L = []
   ·rw [hout.nil hL, hL]; simp
   ·have q := (hout.ne hL).1
    exact ⟨q, HVT.out L e hout.norm.headed (List.length_pos_iff.2 hL) (by omega) HVAL.out⟩
  obtain ⟨he1, he2⟩ := hbd
  have HB1 : Hid (Below w.heap.size w (w1.alloc (.cells #[.slice ao L.length cp, .int .i64 e] 95))) := hb1.alloc hb1.size _
  have HROW : Hid (Row (w1.alloc (.cells #[.slice ao L.length cp, .int .i64 e] 95)) (.slice ao L.length cp) L) := hout.row.below ((Below.refl _ _).alloc (Nat.le_refl _) _) (Nat.le_refl _)
  have HNZ := hid (And.intro hout.norm hout.nil)
  have hLn := hout.len
  have hnil := nil_of_zero hout.norm (HVAL.out.trans HZ.out)
  subst hnil
  have he0 := hout.nil rfl
  subst he0
  have HQ : Hid (ExpQ (awayB mode ng) (valA 3000 f a) prec.toNat (fixT [] 0 (highN [] 0) (cntN 0 prec) ++ [101, 48]) ∧ (fixT [] 0 (highN [] 0) (cntN 0 prec)).length ≤ 900) := by
   have hc : cntN 0 prec = prec.toNat := by unfold cntN; rw [if_neg (by omega)]
   have hh : highN [] 0 = 0 := by unfold highN; rw [if_pos rfl]
   rw [hc, hh]
   refine ⟨.inl ⟨HZ.out, rfl⟩, ?_⟩
   have q := fixT_length [] 0 0 prec.toNat
   omega
  obtain ⟨TT, hTT⟩ : ∃ TT, TT = fixT [] 0 (highN [] 0) (cntN 0 prec) := ⟨_, rfl⟩
  have HPL : Hid (∀ w, Row w (.slice ao 0 cp) [] → Calls Tryz.prog 86 #[.agg #[.slice ao 0 cp, .int .i64 0], .int .i64 prec] w fun r w' => r = .returned (.string (str TT)) ∧ Below w.heap.size w w') := fun w hr => by
   rw [hTT]; exact plain_any (.slice ao 0 cp) [] 0 prec w hr (fun d hd => by simp at hd) (by simp) (by omega) (by simp) (by omega)
  rw [← hTT] at HQ
  have r1 : ∀ W : World, (Op.stringOp .add (str TT) ⟨#[101, 48]⟩).run Tryz.prog W = .ok (.string (str TT ++ ⟨#[101, 48]⟩)) W := fun W => run_string_add_sum W _ _ (by have q := HQ.out.2; rw [str_size]; have : (⟨#[101, 48]⟩ : ByteArray).size = 2 := rfl; omega)
  have HSS : Hid (str TT ++ ⟨#[101, 48]⟩ = str (TT ++ [101, 48])) := by unfold Hid; rw [← str_append]; rfl
  clear hb1 hout HV HVT hTT HNZ hLn HVAL he1 he2
  go_wp2_with fail
  refine (HPL.out _ HROW.out).mono ?_
  rintro r w2 ⟨rfl, hb2⟩
  have HB2 : Hid (Below w.heap.size w w2) := HB1.out.trans (hb2.mono HB1.out.size)
  clear hb2 HPL HROW
  go_wp2
  go_ret
  exact ⟨TT ++ [101, 48], ret_str HSS.out, HQ.out.1, by have := HQ.out.2; rw [List.length_append]; simp; omega, HB2.out⟩
 ·have hA0 : (A == 0) = false := by rw [beq_eq_false_iff_ne]; omega
  have hA1 : ¬ A = 0 := by omega
  have HNE : Hid (valA 3000 f a ≠ 0) := Nat.ne_of_gt (valA_some 3000 f a (by omega))
  clear hA hf ha h0
  go_enter Tryz.func52, Tryz.ntmps52
  go_wp2_with fail
  refine (HV.out _).mono ?_
  rintro r w1 ⟨hb1, v', L, e, rfl, hout⟩
  obtain ⟨ao, cp, hv⟩ := hout.row.isSlice
  subst hv
  have HVAL : Hid (val 3000 L e = valA 3000 f a) := hout.val 3000 (by omega)
  have hbd : -1100 ≤ e ∧ e + L.length ≤ 400 := by
   by_cases hL : L = []
   ·rw [hout.nil hL, hL]; simp
   ·have q := (hout.ne hL).1
    exact ⟨q, HVT.out L e hout.norm.headed (List.length_pos_iff.2 hL) (by omega) HVAL.out⟩
  obtain ⟨he1, he2⟩ := hbd
  have HB1 : Hid (Below w.heap.size w (w1.alloc (.cells #[.slice ao L.length cp, .int .i64 e] 95))) := hb1.alloc hb1.size _
  have HROW : Hid (Row (w1.alloc (.cells #[.slice ao L.length cp, .int .i64 e] 95)) (.slice ao L.length cp) L) := hout.row.below ((Below.refl _ _).alloc (Nat.le_refl _) _) (Nat.le_refl _)
  have HNZ := hid (And.intro hout.norm hout.nil)
  have hLn := hout.len
  have HLP : Hid (0 < L.length) := by
   unfold Hid; apply Nat.pos_of_ne_zero; intro h0
   rw [List.length_eq_zero_iff.1 h0] at HVAL
   exact HNE.out (by rw [← HVAL.out]; simp [val, num_nil])
  obtain ⟨F, hF⟩ : ∃ F : Int, F = e + L.length - 1 := ⟨_, rfl⟩
  obtain ⟨PP, hP⟩ : ∃ PP : Int, F - prec = PP := ⟨_, rfl⟩
  have hF1 : -1101 ≤ F := by omega
  have hF2 : F ≤ 400 := by omega
  have HTP : Hid (∀ w, Row w (.slice ao L.length cp) L → Calls Tryz.prog 84 #[.agg #[.slice ao L.length cp, .int .i64 e]] w fun r w' => r = .returned (.int .i64 F) ∧ Below w.heap.size w w') := fun w hr => by
   rw [hF]; exact top_any (.slice ao L.length cp) L e w hr (by omega) (by omega)
  have HF := hid hF
  clear hb1 hout HV HVT hF
  go_wp2_with fail
  obtain ⟨W1, hW1⟩ : ∃ W1, W1 = w1.alloc (.cells #[.slice ao L.length cp, .int .i64 e] 95) := ⟨_, rfl⟩
  have c0 : W1.cell? ⟨w1.heap.size, 0, none⟩ = some (.slice ao L.length cp) := by rw [hW1]; simp [go_sem]
  have c1 : W1.cell? ⟨w1.heap.size, 1, none⟩ = some (.int .i64 e) := by rw [hW1]; simp [go_sem]
  have hws : w1.heap.size < W1.heap.size := by rw [hW1]; simp
  rw [← hW1] at HB1 HROW ⊢
  clear hW1
  refine (HTP.out _ HROW.out).mono ?_
  rintro r w2 ⟨rfl, hb2⟩
  have d0 := keep_cell' hb2 c0
  have d1 := keep_cell' hb2 c1
  have hws2 : w1.heap.size < w2.heap.size := by have := hb2.size; omega
  have HB2 : Hid (Below w.heap.size w w2) := HB1.out.trans (hb2.mono HB1.out.size)
  have HROW2 : Hid (Row w2 (.slice ao L.length cp) L) := HROW.out.below hb2 (Nat.le_refl _)
  clear hb2 c0 c1 hws HROW HTP
  go_wp2_with fail
  refine (to_any (.slice ao L.length cp) L e PP mode ng _ HROW2.out HNZ.out.1 HNZ.out.2 (by omega) (by omega) (by omega)).mono ?_
  rintro r w3 ⟨hb3, v2, L2, e2, rfl, hout2⟩
  obtain ⟨ao2, cp2, hv2⟩ := hout2.row.isSlice
  subst hv2
  have HB3 : Hid (Below w.heap.size w (w3.alloc (.cells #[.slice ao2 L2.length cp2, .int .i64 e2] 95))) := (HB2.out.trans (hb3.mono HB2.out.size)).alloc (HB2.out.trans (hb3.mono HB2.out.size)).size _
  have hbd2 : -2000 ≤ e2 ∧ e2 + L2.length ≤ 402 := by
   by_cases hL : L2 = []
   ·rw [hout2.nil hL, hL]; simp
   ·have q := hout2.ne hL
    omega
  obtain ⟨hg1, hg2⟩ := hbd2
  have HR2 : Hid (Row (w3.alloc (.cells #[.slice ao2 L2.length cp2, .int .i64 e2] 95)) (.slice ao2 L2.length cp2) L2) := hout2.row.below ((Below.refl _ _).alloc (Nat.le_refl _) _) (Nat.le_refl _)
  have hex : 0 < L2.length ∧ ExpQ (awayB mode ng) (valA 3000 f a) prec.toNat (sciT L2 e2 (e2 + L2.length - 1) prec.toNat ++ (101 :: Lib.itoa (e2 + L2.length - 1))) := by
   refine exp_ref HNZ.out.1 HLP.out he1 (by omega) HVAL.out hout2.norm (fun _ => by omega) ?_
   have q := hout2.val 3000 (by omega)
   unfold rndV at q
   rw [HVAL.out, ← hP, HF.out] at q
   rw [HPR.out]
   exact q
  have HQ : Hid (ExpQ (awayB mode ng) (valA 3000 f a) prec.toNat (sciT L2 e2 (e2 + L2.length - 1) (cntS L2 prec) ++ (101 :: Lib.itoa (e2 + L2.length - 1))) ∧ (sciT L2 e2 (e2 + L2.length - 1) (cntS L2 prec) ++ (101 :: Lib.itoa (e2 + L2.length - 1))).length ≤ 5000) := by
   have hc : cntS L2 prec = prec.toNat := by unfold cntS; rw [if_neg (by omega)]
   rw [hc]
   refine ⟨hex.2, ?_⟩
   have q := sciT_length L2 e2 (e2 + L2.length - 1) prec.toNat
   have q2 := Lib.itoa_length_le (e2 + L2.length - 1) (by omega) (by omega)
   rw [List.length_append, List.length_cons]
   omega
  have HL2 := hid hex.1
  have HD2 := hid hout2.norm.digs
  clear hb3 hout2 HROW2 HNZ HVAL hex d0 d1 hws2
  go_wp2_with fail
  refine (scientific_any (.slice ao2 L2.length cp2) L2 e2 prec _ HR2.out HD2.out HL2.out (by omega) (by omega) (by omega) (by omega)).mono ?_
  rintro r w4 ⟨rfl, hb4⟩
  have HB4 : Hid (Below w.heap.size w w4) := HB3.out.trans (hb4.mono HB3.out.size)
  clear hb4
  go_wp2
  go_ret
  exact ⟨_, rfl, HQ.out.1, HQ.out.2, HB4.out⟩
end Go.Proofs.YtbkdaoicnobllabGreatDoor
