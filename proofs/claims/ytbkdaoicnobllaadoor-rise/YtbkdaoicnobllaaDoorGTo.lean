import Derived.Test.YtbkdaoicnobllaaDoorGRefF
import Derived.Test.YtbkdaoicnobllaaDoorGRefA
import Derived.Test.YtbkdaoicnobllaaDoorGMath
import Derived.Test.YtbkdaoicnobllaaDoorGMem

namespace Go.Proofs.YtbkdaoicnobllaaDoor
open Go.RowKit

/-- What stands at 10^p and above. -/
def cutV (L : List Nat) (e p : Int) (K : Nat) : Nat := val K L e / 10 ^ (p + K).toNat * 10 ^ (p + K).toNat
theorem cutV_whole (L : List Nat) (e p : Int) (K : Nat) (h : p ≤ e) (hk : -(K : Int) ≤ p) : cutV L e p K = val K L e := by
  unfold cutV
  have := val_mod L K e p h hk
  have h2 := Nat.div_add_mod (val K L e) (10 ^ (p + K).toNat)
  rw [this, Nat.add_zero, Nat.mul_comm] at h2; exact h2
theorem cutV_nil (e p : Int) (K : Nat) : cutV [] e p K = 0 := by unfold cutV; rw [val_nil]; simp
theorem leftN_zero (P : Nat) : leftN 0 P = 0 := by unfold leftN; simp
/-- What a cut hands back. -/
def CutPost (w w' : World) (v : Value) (L : List Nat) (e p : Int) (r : Ending) : Prop :=
  Below w.heap.size w w' ∧ ∃ v' L' e' left, r = .returned (.tuple #[.agg #[v', .int .i64 e'], .int .i64 left]) ∧
    (∀ K : Nat, -(K : Int) ≤ e → -(K : Int) ≤ p → left = leftN (val K L e) (10 ^ (p + K).toNat)) ∧
    Out w' v' L' e' L.length (min e p) (max (e + L.length) (p + 1)) (fun g => v.ownBlock = some g ∨ w.heap.size ≤ g) (cutV L e p)
theorem norm_drop_pos {L : List Nat} (h : Norm L) (k : Nat) (hk : k + 1 < L.length) : num (L.drop (k + 1)) ≠ 0 := by
  intro h0
  have h1 := h.last (by omega)
  apply h1
  exact (num_zero_iff _).1 h0 _ (by
    rw [List.mem_iff_getElem]
    exact ⟨L.length - 1 - (k + 1), by simp; omega, by simp; congr 1; omega⟩)
theorem norm_cut {L : List Nat} (h : Norm L) (K : Nat) (e p : Int) (he : -(K : Int) ≤ e) (k : Nat) (hk : (k : Int) = L.length + e - p) (hkl : k < L.length) :
    leftN (val K L e) (10 ^ (p + K).toNat) = if 5 < L.getD k 0 ∨ (L.getD k 0 = 5 ∧ k + 1 < L.length) then 3 else if L.getD k 0 = 5 then 2 else 1 := by
  rw [(cut_mid h.digs K e p he k hk hkl).2]
  by_cases hl : k + 1 < L.length
  · have := norm_drop_pos h k hl
    simp only [this, and_false, hl, and_true, if_false]
    by_cases h5 : L.getD k 0 < 5
    · rw [if_pos h5, if_neg (by omega), if_neg (by omega)]
    · rw [if_neg h5, if_pos (by omega)]
  · have hlast : L.getD k 0 ≠ 0 := by
      have := h.last (by omega)
      rw [List.getD_eq_getElem?_getD, List.getElem?_eq_getElem hkl]
      have e1 : k = L.length - 1 := by omega
      subst e1
      simpa using this
    have hz : num (L.drop (k + 1)) = 0 := by rw [List.drop_of_length_le (by omega)]; rfl
    simp only [hz, and_true, hl, and_false, or_false]
    rw [if_neg hlast]
    by_cases h5 : L.getD k 0 < 5
    · rw [if_pos h5, if_neg (by omega), if_neg (by omega)]
    · rw [if_neg h5]
      by_cases h6 : L.getD k 0 = 5
      · rw [if_pos h6, if_neg (by omega), if_pos h6]
      · rw [if_neg h6, if_pos (by omega)]
theorem take_cut {L : List Nat} (h : Digs L) (K : Nat) (e p : Int) (he : -(K : Int) ≤ e) (k : Nat) (hk : (k : Int) = L.length + e - p) (hkl : k < L.length) : val K (L.take k) p = cutV L e p K := by
  unfold cutV
  rw [(cut_mid h K e p he k hk hkl).1]; rfl
end Go.Proofs.YtbkdaoicnobllaaDoor

namespace Go.Proofs.YtbkdaoicnobllaaDoor
open Go.RowKit

theorem dec_results2 {fn : Func} {p q : Tmp} (h : fn.results = #[.cell p 60, .tmp q]) (tmps : Array Value) (w : World) (B : Nat) (x y z : Value) (hp : tmps.getD p undef = .pointer (some ⟨B, 0, none⟩)) (hq : tmps.getD q undef = z)
    (c0 : w.cell? ⟨B, 0, none⟩ = some x) (c1 : w.cell? ⟨B, 1, none⟩ = some y) : (results fn tmps).run Tryd.prog w = .ok (.tuple #[.agg #[x, y], z]) w := by
  have hp' : tmps[p]?.getD undef = .pointer (some ⟨B, 0, none⟩) := by rw [← Array.getD_eq_getD_getElem?]; exact hp
  have hq' : tmps[q]?.getD undef = z := by rw [← Array.getD_eq_getD_getElem?]; exact hq
  simp [results, h, hp', hq', go_sem, c0, c1]
set_option maxRecDepth 100000 in
set_option maxHeartbeats 1000000 in
theorem cut_any (v : Value) (L : List Nat) (e p : Int) (w : World) (hr : Row w v L) (hn : Norm L) (hz : L = [] → e = 0) (hl : L.length ≤ 20000) (he : -20000 ≤ e ∧ e ≤ 20000) (hp : -20000 ≤ p ∧ p ≤ 20000) :
    Calls Tryd.prog 43 #[.agg #[v, .int .i64 e], .int .i64 p] w fun r w' => CutPost w w' v L e p r := by
  obtain ⟨ao, cap, hv⟩ := hr.isSlice
  subst hv
  have HR := hid (And.intro hr (And.intro hn hz))
  have HNE : Hid (L ≠ [] → min e p ≤ e ∧ e + L.length ≤ max (e + L.length) (p + 1)) := fun _ => by omega
  by_cases h0 : L.length = 0
  · have hL := List.length_eq_zero_iff.1 h0
    have HLF : Hid (∀ K : Nat, -(K : Int) ≤ e → -(K : Int) ≤ p → (0 : Int) = leftN (val K L e) (10 ^ (p + K).toNat)) := fun K _ _ => by rw [hL, val_nil, leftN_zero]
    have HVV : Hid (∀ K : Nat, -(K : Int) ≤ min e p → val K L e = cutV L e p K) := fun K _ => by rw [hL, val_nil, cutV_nil]
    have HZC : Hid (∀ w' : World, Row w' (.slice ao L.length cap) L → Calls Tryd.prog 48 #[.agg #[.slice ao L.length cap, .int .i64 e]] w' fun r w2 => r = .returned (.bool true) ∧ Below w'.heap.size w' w2) := fun w' hw => by
      have := zero_any (.slice ao L.length cap) L e w' hw
      rw [show decide (L.length = 0) = true from by simp [h0]] at this; exact this
    clear hr hn hz hL h0
    go_enter Tryd.func43, Tryd.ntmps43
    go_wp2_with fail
    refine (HZC.out _ (HR.out.1.below box4_below (Nat.le_refl _))).mono ?_
    rintro r w1 ⟨rfl, hb1⟩
    have hb := box4_start hb1
    clear hb1
    obtain ⟨x1, x2, x3, x4, f1, f2, f3, f4, hs⟩ := box4 hb
    have HB := hid (box4_up hb)
    have HRW := hid (HR.out.1.below (box4_up hb) (Nat.le_refl _))
    have HBB := hid hb
    clear hb
    go_wp2
    refine bodyPost_ret (v := .tuple #[.agg #[.slice ao L.length cap, .int .i64 e], .int .i64 0]) (dec_results2 rfl _ _ (w.heap.size + 1) _ _ _ rfl rfl (two_cells x3 x4).1 (two_cells x3 x4).2) rfl ⟨below_two HB.out (by omega) _ _, _, L, _, _, rfl, HLF.out, ?_⟩
    have h9 : Out w1 (.slice ao L.length cap) L e L.length (min e p) (max (e + L.length) (p + 1)) (fun g => (Value.slice ao L.length cap).ownBlock = some g) (cutV L e p) := ⟨HRW.out, fun g hg => hg, HR.out.2.1, Nat.le_refl _, HR.out.2.2, HNE.out, HVV.out⟩
    have hlt := HR.out.1.lt
    exact ((h9.setCell _ _ (fun h => by have := hlt _ h; simp at this; omega)).setCell _ _ (fun h => by have := hlt _ h; simp at this; omega)).mono (Nat.le_refl _) (Int.le_refl _) (Int.le_refl _) (fun g hg => .inl hg) (fun _ _ => rfl)
  · have HZC : Hid (∀ w' : World, Row w' (.slice ao L.length cap) L → Calls Tryd.prog 48 #[.agg #[.slice ao L.length cap, .int .i64 e]] w' fun r w2 => r = .returned (.bool false) ∧ Below w'.heap.size w' w2) := fun w' hw => by
      have := zero_any (.slice ao L.length cap) L e w' hw
      rw [show decide (L.length = 0) = false from by simp [h0]] at this; exact this
    have h0' : ¬ L.length = 0 := h0
    by_cases hpe : p ≤ e
    · have HLF : Hid (∀ K : Nat, -(K : Int) ≤ e → -(K : Int) ≤ p → (0 : Int) = leftN (val K L e) (10 ^ (p + K).toNat)) := fun K _ k2 => by
        unfold leftN; rw [if_pos (val_mod L K e p hpe k2)]
      have HVV : Hid (∀ K : Nat, -(K : Int) ≤ min e p → val K L e = cutV L e p K) := fun K hK => (cutV_whole L e p K hpe (by omega)).symm
      clear hr hn hz h0
      go_enter Tryd.func43, Tryd.ntmps43
      go_wp2_with fail
      refine (HZC.out _ (HR.out.1.below box4_below (Nat.le_refl _))).mono ?_
      rintro r w1 ⟨rfl, hb1⟩
      have hb := box4_start hb1
      clear hb1
      obtain ⟨x1, x2, x3, x4, f1, f2, f3, f4, hs⟩ := box4 hb
      have HB := hid (box4_up hb)
      have HRW := hid (HR.out.1.below (box4_up hb) (Nat.le_refl _))
      have HBB := hid hb
      clear hb
      go_wp2
      refine bodyPost_ret (v := .tuple #[.agg #[.slice ao L.length cap, .int .i64 e], .int .i64 0]) (dec_results2 rfl _ _ (w.heap.size + 1) _ _ _ rfl rfl (two_cells x3 x4).1 (two_cells x3 x4).2) rfl ⟨below_two HB.out (by omega) _ _, _, L, _, _, rfl, HLF.out, ?_⟩
      have h9 : Out w1 (.slice ao L.length cap) L e L.length (min e p) (max (e + L.length) (p + 1)) (fun g => (Value.slice ao L.length cap).ownBlock = some g) (cutV L e p) := ⟨HRW.out, fun g hg => hg, HR.out.2.1, Nat.le_refl _, HR.out.2.2, HNE.out, HVV.out⟩
      have hlt := HR.out.1.lt
      exact ((h9.setCell _ _ (fun h => by have := hlt _ h; simp at this; omega)).setCell _ _ (fun h => by have := hlt _ h; simp at this; omega)).mono (Nat.le_refl _) (Int.le_refl _) (Int.le_refl _) (fun g hg => .inl hg) (fun _ _ => rfl)
    · by_cases hk0 : (L.length : Int) - (p - e) < 0
      · have HLF : Hid (∀ K : Nat, -(K : Int) ≤ e → -(K : Int) ≤ p → (1 : Int) = leftN (val K L e) (10 ^ (p + K).toNat)) := fun K k1 _ => (cut_high hn.digs K e p k1 (by omega) (hn.headed.pos (by omega))).2.symm
        have HVZ : Hid (∀ K : Nat, -(K : Int) ≤ min e p → 0 = cutV L e p K) := fun K hK => by
          unfold cutV; rw [(cut_high hn.digs K e p (by omega) (by omega) (hn.headed.pos (by omega))).1]; simp
        clear hr hn hz h0
        go_enter Tryd.func43, Tryd.ntmps43
        go_wp2_with fail
        refine (HZC.out _ (HR.out.1.below box4_below (Nat.le_refl _))).mono ?_
        rintro r w1 ⟨rfl, hb1⟩
        have hb := box4_start hb1
        clear hb1
        obtain ⟨x1, x2, x3, x4, f1, f2, f3, f4, hs⟩ := box4 hb
        have HB := hid (box4_up hb)
        have HRW := hid (HR.out.1.below (box4_up hb) (Nat.le_refl _))
        have HBB := hid hb
        clear hb
        go_wp2
        refine bodyPost_ret (v := .tuple #[.agg #[.slice none 0 0, .int .i64 0], .int .i64 1]) (dec_results2 rfl _ _ (w.heap.size + 1) _ _ _ rfl rfl (two_cells x3 x4).1 (two_cells x3 x4).2) rfl ⟨below_two HB.out (by omega) _ _, _, [], _, _, rfl, HLF.out, ?_⟩
        have h9 : Out w1 (.slice none 0 0) [] 0 L.length (min e p) (max (e + L.length) (p + 1)) (fun _ => False) (cutV L e p) := ⟨Row.nil _, fun g hg => by simp [Value.ownBlock] at hg, norm_nil, by simp, fun _ => rfl, fun h => absurd rfl h, fun K hK => by rw [val_nil]; exact HVZ.out K hK⟩
        exact ((h9.setCell _ _ (fun h => h)).setCell _ _ (fun h => h)).mono (Nat.le_refl _) (Int.le_refl _) (Int.le_refl _) (fun g hg => hg.elim) (fun _ _ => rfl)
      · obtain ⟨k, hk⟩ : ∃ k : Nat, (L.length : Int) - (p - e) = k := ⟨((L.length : Int) - (p - e)).toNat, by omega⟩
        rcases hr.form with ⟨h1, _⟩ | ⟨b, off, cap', hv, hc1, hc2, hbw⟩
        · rw [h1] at h0; simp at h0
        · simp only [Value.slice.injEq] at hv
          obtain ⟨rfl, _, rfl⟩ := hv
          have hkl : k < L.length := by omega
          obtain ⟨x, hx⟩ : ∃ x, x = L.getD k 0 := ⟨_, rfl⟩
          have hx9 : x ≤ 9 := by rw [hx]; exact hn.digs.getD k
          have hcell : w.cell? ⟨b, off + k, none⟩ = some (.int .i64 x) := by
            rcases hr with ⟨h1, _⟩ | ⟨b', off', cap', hv, _, _, _, h4⟩
            · rw [h1] at h0; simp at h0
            · simp only [Value.slice.injEq, Option.some.injEq, Addr.mk.injEq, and_true, true_and] at hv
              obtain ⟨⟨rfl, rfl⟩, rfl⟩ := hv
              rw [hx]; exact h4 k hkl
          have HBC : Hid (∀ w' : World, Below w.heap.size w w' → w'.cell? ⟨b, off + k, none⟩ = some (.int .i64 x)) := fun w' hb => keep_cell' hb hcell
          have HTK : Hid (∀ w' : World, Below w.heap.size w w' → Row w' (.slice (some ⟨b, off, none⟩) k cap) (L.take k)) := fun w' hb => by
            have h5 := hr.below hb (Nat.le_refl _)
            rcases h5 with ⟨h1, _⟩ | ⟨b', off', cap', hv, h6, h7, h8, h4⟩
            · rw [h1] at h0; simp at h0
            · simp only [Value.slice.injEq, Option.some.injEq, Addr.mk.injEq, and_true, true_and] at hv
              obtain ⟨⟨rfl, rfl⟩, rfl⟩ := hv
              have hlt : (L.take k).length = k := by rw [List.length_take]; omega
              refine .inr ⟨b, off, cap, by rw [hlt], by omega, h7, h8, fun j hj => ?_⟩
              rw [h4 j (by omega), List.getD_eq_getElem?_getD, List.getD_eq_getElem?_getD, List.getElem?_take_of_lt (by omega)]
          have HVT : Hid (∀ K : Nat, -(K : Int) ≤ e → -(K : Int) ≤ p → val K (L.take k) p = cutV L e p K) := fun K k1 _ => take_cut hn.digs K e p k1 k (by omega) hkl
          have HLL : Hid (∀ K : Nat, -(K : Int) ≤ e → leftN (val K L e) (10 ^ (p + K).toNat) = if 5 < x ∨ (x = 5 ∧ k + 1 < L.length) then 3 else if x = 5 then 2 else 1) := fun K k1 => by rw [hx]; exact norm_cut hn K e p k1 k (by omega) hkl
          unfold maxLen at hc2
          clear hr hn hz h0 hx hcell
          rcases (by omega : x < 5 ∨ (x = 5 ∧ k + 1 < L.length) ∨ (x = 5 ∧ ¬ k + 1 < L.length) ∨ 5 < x) with q | ⟨q, q2⟩ | ⟨q, q2⟩ | q
          · have HLF : Hid (∀ K : Nat, -(K : Int) ≤ e → -(K : Int) ≤ p → (1 : Int) = leftN (val K L e) (10 ^ (p + K).toNat)) := fun K k1 _ => by rw [HLL.out K k1, if_neg (by omega), if_neg (by omega)]
            have t1 : decide (5 < x) = false := by simp; omega
            have t2 : ((x : Int) == 5) = false := by rw [beq_eq_false_iff_ne]; omega
            go_enter Tryd.func43, Tryd.ntmps43
            go_wp2_with fail
            refine (HZC.out _ (HR.out.1.below box4_below (Nat.le_refl _))).mono ?_
            rintro r w1 ⟨rfl, hb1⟩
            have hb := box4_start hb1
            clear hb1
            obtain ⟨x1, x2, x3, x4, f1, f2, f3, f4, hs⟩ := box4 hb
            have HB := hid (box4_up hb)
            have HRW := hid (HR.out.1.below (box4_up hb) (Nat.le_refl _))
            have HBB := hid hb
            clear hb
            have HM := hid (made_any (.slice (some ⟨b, off, none⟩) k cap) (L.take k) p w1 (HTK.out w1 (box4_up HBB.out)) (HR.out.2.1.digs.take k) (by rw [List.length_take]; omega) (by omega))
            have c2 := (HBC.out w1 (box4_up HBB.out))
            go_wp2_with fail
            refine HM.out.mono ?_
            rintro r w2 ⟨hb2, v', L', e', rfl, hout⟩
            have hb3 := below_next HBB.out hb2 hs
            obtain ⟨x1', x2', x3', x4', f1', f2', f3', f4', hs'⟩ := box4 hb3
            have HB3 := hid (box4_up hb3)
            have HOU := hid hout
            obtain ⟨ao', cp', hv'⟩ := hout.row.isSlice
            subst hv'
            clear hb2 hb3 hout x1 x2 x3 x4 f1 f2 f3 f4 c2 HM
            go_wp2
            refine bodyPost_ret (v := .tuple #[.agg #[.slice ao' L'.length cp', .int .i64 e'], .int .i64 1]) (dec_results2 rfl _ _ (w.heap.size + 1) _ _ _ rfl rfl (two_cells x3' x4').1 (two_cells x3' x4').2) rfl ⟨below_two HB3.out (by omega) _ _, _, L', _, _, rfl, HLF.out, ?_⟩
            have h8 := HOU.out
            have h9 : Out w2 (.slice ao' L'.length cp') L' e' L.length (min e p) (max (e + L.length) (p + 1)) (fun g => g = b) (cutV L e p) := h8.mono (by rw [List.length_take]; omega) (by omega) (by rw [List.length_take]; omega) (fun g hg => by simp [Value.ownBlock] at hg; omega) (fun K hK => HVT.out K (by omega) (by omega))
            exact ((h9.setCell _ _ (by simp; omega)).setCell _ _ (by simp; omega)).mono (Nat.le_refl _) (Int.le_refl _) (Int.le_refl _) (fun g hg => .inl (by rw [hg]; rfl)) (fun _ _ => rfl)
          · have HLF : Hid (∀ K : Nat, -(K : Int) ≤ e → -(K : Int) ≤ p → (3 : Int) = leftN (val K L e) (10 ^ (p + K).toNat)) := fun K k1 _ => by rw [HLL.out K k1, if_pos (.inr ⟨q, q2⟩)]
            subst q
            have t3 : (k : Int) + 1 < L.length := by omega
            go_enter Tryd.func43, Tryd.ntmps43
            go_wp2_with fail
            refine (HZC.out _ (HR.out.1.below box4_below (Nat.le_refl _))).mono ?_
            rintro r w1 ⟨rfl, hb1⟩
            have hb := box4_start hb1
            clear hb1
            obtain ⟨x1, x2, x3, x4, f1, f2, f3, f4, hs⟩ := box4 hb
            have HB := hid (box4_up hb)
            have HRW := hid (HR.out.1.below (box4_up hb) (Nat.le_refl _))
            have HBB := hid hb
            clear hb
            have HM := hid (made_any (.slice (some ⟨b, off, none⟩) k cap) (L.take k) p w1 (HTK.out w1 (box4_up HBB.out)) (HR.out.2.1.digs.take k) (by rw [List.length_take]; omega) (by omega))
            have c2 := (HBC.out w1 (box4_up HBB.out))
            go_wp2_with fail
            refine HM.out.mono ?_
            rintro r w2 ⟨hb2, v', L', e', rfl, hout⟩
            have hb3 := below_next HBB.out hb2 hs
            obtain ⟨x1', x2', x3', x4', f1', f2', f3', f4', hs'⟩ := box4 hb3
            have HB3 := hid (box4_up hb3)
            have HOU := hid hout
            obtain ⟨ao', cp', hv'⟩ := hout.row.isSlice
            subst hv'
            clear hb2 hb3 hout x1 x2 x3 x4 f1 f2 f3 f4 c2 HM
            go_wp2
            refine bodyPost_ret (v := .tuple #[.agg #[.slice ao' L'.length cp', .int .i64 e'], .int .i64 3]) (dec_results2 rfl _ _ (w.heap.size + 1) _ _ _ rfl rfl (two_cells x3' x4').1 (two_cells x3' x4').2) rfl ⟨below_two HB3.out (by omega) _ _, _, L', _, _, rfl, HLF.out, ?_⟩
            have h8 := HOU.out
            have h9 : Out w2 (.slice ao' L'.length cp') L' e' L.length (min e p) (max (e + L.length) (p + 1)) (fun g => g = b) (cutV L e p) := h8.mono (by rw [List.length_take]; omega) (by omega) (by rw [List.length_take]; omega) (fun g hg => by simp [Value.ownBlock] at hg; omega) (fun K hK => HVT.out K (by omega) (by omega))
            exact ((h9.setCell _ _ (by simp; omega)).setCell _ _ (by simp; omega)).mono (Nat.le_refl _) (Int.le_refl _) (Int.le_refl _) (fun g hg => .inl (by rw [hg]; rfl)) (fun _ _ => rfl)
          · have HLF : Hid (∀ K : Nat, -(K : Int) ≤ e → -(K : Int) ≤ p → (2 : Int) = leftN (val K L e) (10 ^ (p + K).toNat)) := fun K k1 _ => by rw [HLL.out K k1, if_neg (by omega), if_pos q]
            subst q
            have t3 : ¬ (k : Int) + 1 < L.length := by omega
            go_enter Tryd.func43, Tryd.ntmps43
            go_wp2_with fail
            refine (HZC.out _ (HR.out.1.below box4_below (Nat.le_refl _))).mono ?_
            rintro r w1 ⟨rfl, hb1⟩
            have hb := box4_start hb1
            clear hb1
            obtain ⟨x1, x2, x3, x4, f1, f2, f3, f4, hs⟩ := box4 hb
            have HB := hid (box4_up hb)
            have HRW := hid (HR.out.1.below (box4_up hb) (Nat.le_refl _))
            have HBB := hid hb
            clear hb
            have HM := hid (made_any (.slice (some ⟨b, off, none⟩) k cap) (L.take k) p w1 (HTK.out w1 (box4_up HBB.out)) (HR.out.2.1.digs.take k) (by rw [List.length_take]; omega) (by omega))
            have c2 := (HBC.out w1 (box4_up HBB.out))
            go_wp2_with fail
            refine HM.out.mono ?_
            rintro r w2 ⟨hb2, v', L', e', rfl, hout⟩
            have hb3 := below_next HBB.out hb2 hs
            obtain ⟨x1', x2', x3', x4', f1', f2', f3', f4', hs'⟩ := box4 hb3
            have HB3 := hid (box4_up hb3)
            have HOU := hid hout
            obtain ⟨ao', cp', hv'⟩ := hout.row.isSlice
            subst hv'
            clear hb2 hb3 hout x1 x2 x3 x4 f1 f2 f3 f4 c2 HM
            go_wp2
            refine bodyPost_ret (v := .tuple #[.agg #[.slice ao' L'.length cp', .int .i64 e'], .int .i64 2]) (dec_results2 rfl _ _ (w.heap.size + 1) _ _ _ rfl rfl (two_cells x3' x4').1 (two_cells x3' x4').2) rfl ⟨below_two HB3.out (by omega) _ _, _, L', _, _, rfl, HLF.out, ?_⟩
            have h8 := HOU.out
            have h9 : Out w2 (.slice ao' L'.length cp') L' e' L.length (min e p) (max (e + L.length) (p + 1)) (fun g => g = b) (cutV L e p) := h8.mono (by rw [List.length_take]; omega) (by omega) (by rw [List.length_take]; omega) (fun g hg => by simp [Value.ownBlock] at hg; omega) (fun K hK => HVT.out K (by omega) (by omega))
            exact ((h9.setCell _ _ (by simp; omega)).setCell _ _ (by simp; omega)).mono (Nat.le_refl _) (Int.le_refl _) (Int.le_refl _) (fun g hg => .inl (by rw [hg]; rfl)) (fun _ _ => rfl)
          · have HLF : Hid (∀ K : Nat, -(K : Int) ≤ e → -(K : Int) ≤ p → (3 : Int) = leftN (val K L e) (10 ^ (p + K).toNat)) := fun K k1 _ => by rw [HLL.out K k1, if_pos (.inl q)]
            have t1 : decide (5 < x) = true := by simp; omega
            go_enter Tryd.func43, Tryd.ntmps43
            go_wp2_with fail
            refine (HZC.out _ (HR.out.1.below box4_below (Nat.le_refl _))).mono ?_
            rintro r w1 ⟨rfl, hb1⟩
            have hb := box4_start hb1
            clear hb1
            obtain ⟨x1, x2, x3, x4, f1, f2, f3, f4, hs⟩ := box4 hb
            have HB := hid (box4_up hb)
            have HRW := hid (HR.out.1.below (box4_up hb) (Nat.le_refl _))
            have HBB := hid hb
            clear hb
            have HM := hid (made_any (.slice (some ⟨b, off, none⟩) k cap) (L.take k) p w1 (HTK.out w1 (box4_up HBB.out)) (HR.out.2.1.digs.take k) (by rw [List.length_take]; omega) (by omega))
            have c2 := (HBC.out w1 (box4_up HBB.out))
            go_wp2_with fail
            refine HM.out.mono ?_
            rintro r w2 ⟨hb2, v', L', e', rfl, hout⟩
            have hb3 := below_next HBB.out hb2 hs
            obtain ⟨x1', x2', x3', x4', f1', f2', f3', f4', hs'⟩ := box4 hb3
            have HB3 := hid (box4_up hb3)
            have HOU := hid hout
            obtain ⟨ao', cp', hv'⟩ := hout.row.isSlice
            subst hv'
            clear hb2 hb3 hout x1 x2 x3 x4 f1 f2 f3 f4 c2 HM
            go_wp2
            refine bodyPost_ret (v := .tuple #[.agg #[.slice ao' L'.length cp', .int .i64 e'], .int .i64 3]) (dec_results2 rfl _ _ (w.heap.size + 1) _ _ _ rfl rfl (two_cells x3' x4').1 (two_cells x3' x4').2) rfl ⟨below_two HB3.out (by omega) _ _, _, L', _, _, rfl, HLF.out, ?_⟩
            have h8 := HOU.out
            have h9 : Out w2 (.slice ao' L'.length cp') L' e' L.length (min e p) (max (e + L.length) (p + 1)) (fun g => g = b) (cutV L e p) := h8.mono (by rw [List.length_take]; omega) (by omega) (by rw [List.length_take]; omega) (fun g hg => by simp [Value.ownBlock] at hg; omega) (fun K hK => HVT.out K (by omega) (by omega))
            exact ((h9.setCell _ _ (by simp; omega)).setCell _ _ (by simp; omega)).mono (Nat.le_refl _) (Int.le_refl _) (Int.le_refl _) (fun g hg => .inl (by rw [hg]; rfl)) (fun _ _ => rfl)
end Go.Proofs.YtbkdaoicnobllaaDoor

namespace Go.Proofs.YtbkdaoicnobllaaDoor
open Go.RowKit

/-- A number rounded in steps of 10^p. -/
def rndV (mode : Int) (neg : Bool) (L : List Nat) (e p : Int) (K : Nat) : Nat := rndN (awayB mode neg) (val K L e) (10 ^ (p + K).toNat) * 10 ^ (p + K).toNat
theorem rndV_stay {mode : Int} {neg : Bool} {L : List Nat} {e p : Int} {K : Nat} (h : leftN (val K L e) (10 ^ (p + K).toNat) = 0 ∨ awayB mode neg (leftN (val K L e) (10 ^ (p + K).toNat)) (val K L e / 10 ^ (p + K).toNat % 2 == 1) = false) : cutV L e p K = rndV mode neg L e p K := by
  unfold cutV rndV rndN
  rw [if_neg]
  rintro ⟨a, b⟩
  rcases h with h | h
  · exact a h
  · rw [h] at b; cases b
theorem rndV_up {mode : Int} {neg : Bool} {L : List Nat} {e p : Int} {K : Nat} (h0 : leftN (val K L e) (10 ^ (p + K).toNat) ≠ 0) (h : awayB mode neg (leftN (val K L e) (10 ^ (p + K).toNat)) (val K L e / 10 ^ (p + K).toNat % 2 == 1) = true) : cutV L e p K + 10 ^ (p + K).toNat = rndV mode neg L e p K := by
  unfold cutV rndV rndN
  rw [if_pos ⟨h0, h⟩, Nat.add_mul, Nat.one_mul]
theorem cut_par {L L1 : List Nat} {e e1 p : Int} {K : Nat} (hd : Digs L1) (k1 : -(K : Int) ≤ e1) (k2 : -(K : Int) ≤ p) (h : val K L1 e1 = cutV L e p K) : dig L1 e1 p % 2 = val K L e / 10 ^ (p + K).toNat % 2 := by
  rw [← dig_val hd K e1 p k1 k2, h]
  unfold cutV
  rw [Nat.mul_div_cancel _ (Nat.pow_pos (by omega))]; omega
set_option maxRecDepth 100000 in
set_option maxHeartbeats 1000000 in
theorem to_any (v : Value) (L : List Nat) (e p mode : Int) (neg : Bool) (w : World) (hr : Row w v L) (hn : Norm L) (hz : L = [] → e = 0) (hl : L.length ≤ 20000) (he : -20000 ≤ e ∧ e ≤ 20000) (hp : -20000 ≤ p ∧ p ≤ 20000) :
    Calls Tryd.prog 30 #[.agg #[v, .int .i64 e], .int .i64 p, .int .i64 mode, .bool neg] w fun r w' => Below w.heap.size w w' ∧
      ∃ v' L' e', r = .returned (.agg #[v', .int .i64 e']) ∧ Out w' v' L' e' 100000 (min (min e p) 0) (max (max (e + L.length) (p + 1)) 0 + 1) (fun g => v.ownBlock = some g ∨ w.heap.size ≤ g) (rndV mode neg L e p) := by
  obtain ⟨ao0, cap0, hv⟩ := hr.isSlice
  subst hv
  have HR := hid (And.intro hr (And.intro hn hz))
  have HVL := hid hr.lt
  clear hr hn hz
  go_enter Tryd.func30, Tryd.ntmps30
  go_wp2_with fail
  refine (cut_any (.slice ao0 L.length cap0) L e p ((w.alloc (.cells #[.slice ao0 L.length cap0, .int .i64 e] 60)).alloc (.cells #[.slice none 0 0, .int .i64 0] 60)) (HR.out.1.below box4_below (Nat.le_refl _)) HR.out.2.1 HR.out.2.2 (by omega) (by omega) (by omega)).mono ?_
  rintro r w1 ⟨hb1, v1, L1, e1, left, rfl, hlf, hout⟩
  have hbx := box4_start hb1
  obtain ⟨ao, cp, hv1⟩ := hout.row.isSlice
  subst hv1
  obtain ⟨x1, x2, x3, x4, f1, f2, f3, f4, hs⟩ := box4 hbx
  have hbl : Below w1.heap.size w1 (w1.alloc (.cells #[.slice ao L1.length cp, .int .i64 e1] 60)) := (Below.refl _ _).alloc (Nat.le_refl _) _
  have l0 : (w1.alloc (.cells #[.slice ao L1.length cp, .int .i64 e1] 60)).cell? ⟨w1.heap.size, 0, none⟩ = some (.slice ao L1.length cp) := by simp [go_sem]
  have l1 : (w1.alloc (.cells #[.slice ao L1.length cp, .int .i64 e1] 60)).cell? ⟨w1.heap.size, 1, none⟩ = some (.int .i64 e1) := by simp [go_sem]
  have hbw : Below (w.heap.size + 2) ((w.alloc (.cells #[.slice ao0 L.length cap0, .int .i64 e] 60)).alloc (.cells #[.slice none 0 0, .int .i64 0] 60)) (w1.alloc (.cells #[.slice ao L1.length cp, .int .i64 e1] 60)) := below_next hbx hbl hs
  have HLF := hid hlf
  have HOU := hid (hout.below hbl (Nat.le_refl _))
  have hws : w1.heap.size + 1 = (w1.alloc (.cells #[.slice ao L1.length cp, .int .i64 e1] 60)).heap.size := by simp
  have hbd := hout.bounds 40001 (by omega) (by omega) (by omega)
  have hll := hout.len
  obtain ⟨W, hW⟩ : ∃ W, W = (w1.alloc (.cells #[.slice ao L1.length cp, .int .i64 e1] 60)) := ⟨_, rfl⟩
  rw [← hW] at l0 l1 hbw hws HOU hbl
  have HWW := hid hW
  obtain ⟨y1, y2, y3, y4, g1, g2, g3, g4, hs2⟩ := box4 hbw
  have HBW := hid hbw
  clear hb1 hbx hout hlf x1 x2 x3 x4 f1 f2 f3 f4 hbl hbw hW
  have HK : Hid (left = leftN (val 40001 L e) (10 ^ (p + (40001 : Nat)).toNat)) := HLF.out 40001 (by omega) (by omega)
  have hl0 : 0 ≤ left := by rw [HK.out]; exact (leftN_range _ _).1
  have hl3 : left ≤ 3 := by rw [HK.out]; exact (leftN_range _ _).2
  have hno : ∀ b : Nat, w.heap.size ≤ b → b ≤ w.heap.size + 1 → ¬ ((Value.slice ao0 L.length cap0).ownBlock = some b ∨ w.heap.size + 2 ≤ b) := fun b q1 q2 h => by
    rcases h with h | h
    · have := HVL.out b h; omega
    · omega
  have HNO := hid hno
  have HOW : Hid (Out W (.slice ao L1.length cp) L1 e1 L.length (min e p) (max (e + L.length) (p + 1)) (fun g => (Value.slice ao0 L.length cap0).ownBlock = some g ∨ w.heap.size + 2 ≤ g) (cutV L e p)) := HOU.out.mono (Nat.le_refl _) (Int.le_refl _) (Int.le_refl _) (fun g hg => by
    rcases hg with h | h
    · exact .inl h
    · exact .inr (by simp at h; omega)) (fun _ _ => rfl)
  clear hno HOU
  by_cases h0 : left = 0
  · subst h0
    have HV : Hid (∀ K : Nat, -(K : Int) ≤ min e p → cutV L e p K = rndV mode neg L e p K) := fun K hK => rndV_stay (.inl (HLF.out K (by omega) (by omega)).symm)
    go_wp2_with (rw [← HWW.out])
    go_wp2
    refine bodyPost_ret (v := .agg #[.slice ao L1.length cp, .int .i64 e1]) (dec_results rfl _ _ (w.heap.size + 1) _ _ rfl (two_cells y3 y4).1 (two_cells y3 y4).2) rfl ⟨below_two (box4_up HBW.out) (by omega) _ _, _, L1, e1, rfl, ?_⟩
    exact ((HOW.out.setCell _ _ (HNO.out _ (by simp) (by simp))).setCell _ _ (HNO.out _ (by simp) (by simp))).mono (by omega) (by omega) (by omega) (fun g hg => by
      rcases hg with h | h
      · exact .inl h
      · exact .inr (by omega)) (fun K hK => HV.out K (by omega))
  · have t0 : (left == 0) = false := by rw [beq_eq_false_iff_ne]; exact h0
    obtain ⟨od, hod⟩ : ∃ od, od = dig L1 e1 p := ⟨_, rfl⟩
    have hod9 : od ≤ 9 := by rw [hod]; exact dig_le HOW.out.norm.digs e1 p
    have HAT := hid (at_any (.slice ao L1.length cp) L1 e1 p W HOW.out.row (by omega) (by omega) (by omega))
    rw [← hod] at HAT
    have HOD : Hid (∀ K : Nat, -(K : Int) ≤ min e p → od % 2 = val K L e / 10 ^ (p + K).toNat % 2) := fun K hK => by
      rw [hod]
      by_cases hnil : L1 = []
      · have h1 := HOW.out.val K hK
        rw [hnil, val_nil] at h1
        rw [hnil, show dig [] e1 p = 0 from by unfold dig; split <;> simp]
        unfold cutV at h1
        have hp0 : 0 < 10 ^ (p + K).toNat := Nat.pow_pos (by omega)
        rcases Nat.mul_eq_zero.1 h1.symm with h | h
        · rw [h]
        · omega
      · have := HOW.out.ne hnil
        exact cut_par HOW.out.norm.digs (by omega) (by omega) (HOW.out.val K hK)
    have H0 := hid h0
    clear hod h0
    obtain ⟨bo, hbo⟩ : ∃ bo, bo = (od % 2 == 1) := ⟨_, rfl⟩
    obtain ⟨on, hon⟩ : ∃ on, on = awayB mode neg left bo := ⟨_, rfl⟩
    have HAW : Hid (∀ w : World, Calls Tryd.prog 45 #[.int .i64 mode, .bool neg, .int .i64 left, .bool bo] w fun e w' => e = .returned (.bool on) ∧ w' = w) := fun w => by rw [hon]; exact away_any mode left neg bo w
    have HON : Hid (∀ K : Nat, -(K : Int) ≤ min e p → awayB mode neg (leftN (val K L e) (10 ^ (p + K).toNat)) (val K L e / 10 ^ (p + K).toNat % 2 == 1) = on) := fun K hK => by
      rw [← HLF.out K (by omega) (by omega), ← HOD.out K hK, hon, hbo]
    have hbo2 : (bo = true ∧ (od : Int) % 2 = 1) ∨ (bo = false ∧ (od : Int) % 2 = 0) := by
      rcases (by omega : od % 2 = 1 ∨ od % 2 = 0) with h | h
      · exact .inl ⟨by rw [hbo, h]; rfl, by omega⟩
      · exact .inr ⟨by rw [hbo, h]; rfl, by omega⟩
    clear hon hbo HOD
    rcases hbo2 with ⟨rfl, hoi⟩ | ⟨rfl, hoi⟩
    all_goals (
      go_wp2_with (rw [← HWW.out])
      go_wp2_with fail
      refine HAT.out.mono ?_
      rintro r w2 ⟨rfl, hb2⟩
      have hbz := below_next HBW.out hb2 hs2
      obtain ⟨z1, z2, z3, z4, k1, k2, k3, k4, hs3⟩ := box4 hbz
      have m0 := keep_cell' hb2 l0
      have m1 := keep_cell' hb2 l1
      have HBZ := hid hbz
      have HO2 := hid (HOW.out.below hb2 (Nat.le_refl _))
      have hw2 : W.heap.size ≤ w2.heap.size := hb2.size
      clear hb2 hbz y1 y2 y3 y4 g1 g2 g3 g4 l0 l1 hs2
      go_wp2_with fail
      refine (HAW.out _).mono ?_
      rintro r w3 ⟨rfl, rfl⟩
      cases on
      · have HV : Hid (∀ K : Nat, -(K : Int) ≤ min e p → cutV L e p K = rndV mode neg L e p K) := fun K hK => rndV_stay (.inr (HON.out K hK))
        go_wp2
        refine bodyPost_ret (v := .agg #[.slice ao L1.length cp, .int .i64 e1]) (dec_results rfl _ _ (w.heap.size + 1) _ _ rfl (two_cells z3 z4).1 (two_cells z3 z4).2) rfl ⟨below_two (box4_up HBZ.out) (by omega) _ _, _, L1, e1, rfl, ?_⟩
        exact ((HO2.out.setCell _ _ (HNO.out _ (by simp) (by simp))).setCell _ _ (HNO.out _ (by simp) (by simp))).mono (by omega) (by omega) (by omega) (fun g hg => by
          rcases hg with h | h
          · exact .inl h
          · exact .inr (by omega)) (fun K hK => HV.out K (by omega))
      · have HV : Hid (∀ K : Nat, -(K : Int) ≤ min e p → cutV L e p K + 10 ^ (p + K).toNat = rndV mode neg L e p K) := fun K hK => rndV_up (by rw [← HLF.out K (by omega) (by omega)]; exact H0.out) (HON.out K hK)
        go_wp2_with fail
        refine (one_any p w3).mono ?_
        rintro r w4 ⟨hb4, v4, L4, e4, rfl, hout4⟩
        obtain ⟨ao4, cp4, hv4⟩ := hout4.row.isSlice
        subst hv4
        have hb5 : Below w3.heap.size w3 (w4.alloc (.cells #[.slice ao4 L4.length cp4, .int .i64 e4] 60)) := hb4.alloc hb4.size _
        have n0 : (w4.alloc (.cells #[.slice ao4 L4.length cp4, .int .i64 e4] 60)).cell? ⟨w4.heap.size, 0, none⟩ = some (.slice ao4 L4.length cp4) := by simp [go_sem]
        have n1 : (w4.alloc (.cells #[.slice ao4 L4.length cp4, .int .i64 e4] 60)).cell? ⟨w4.heap.size, 1, none⟩ = some (.int .i64 e4) := by simp [go_sem]
        have HO4 := hid (hout4.below ((Below.refl w4.heap.size w4).alloc (Nat.le_refl _) (.cells #[.slice ao4 L4.length cp4, .int .i64 e4] 60)) (Nat.le_refl _))
        have hl4 := hout4.len
        have hb4d := hout4.bounds 20001 (by omega) (by omega) (by omega)
        have hs4 := hb4.size
        obtain ⟨W5, hW5⟩ : ∃ W5, W5 = w4.alloc (.cells #[.slice ao4 L4.length cp4, .int .i64 e4] 60) := ⟨_, rfl⟩
        rw [← hW5] at hb5 n0 n1 HO4
        have HW5 := hid hW5
        have hbz5 := below_next HBZ.out hb5 hs3
        obtain ⟨q1, q2, q3, q4, _, _, _, _, hs5⟩ := box4 hbz5
        have p0 := keep_cell' hb5 m0
        have p1 := keep_cell' hb5 m1
        have HO5 := hid (HO2.out.below hb5 (Nat.le_refl _))
        have HBZ5 := hid hbz5
        have HAD := hid (add_any (.slice ao L1.length cp) (.slice ao4 L4.length cp4) L1 L4 e1 e4 W5 HO5.out.row HO4.out.row HO5.out.norm HO4.out.norm HO5.out.nil HO4.out.nil (by omega) (by omega) (by omega) (by omega))
        clear hb4 hout4 hb5 hbz5 z1 z2 z3 z4 k1 k2 k3 k4 m0 m1 hW5
        go_wp2_with (rw [← HW5.out])
        go_wp2_with fail
        refine HAD.out.mono ?_
        rintro r w6 ⟨hb6, v6, L6, e6, rfl, hout6⟩
        obtain ⟨ao6, cp6, hv6⟩ := hout6.row.isSlice
        subst hv6
        have hbz6 := below_next HBZ5.out hb6 hs5
        obtain ⟨u1, u2, u3', u4, _, _, g6, g7, hs6⟩ := box4 hbz6
        have HBZ6 := hid hbz6
        have HO6 := hid hout6
        have hs56 : W5.heap.size ≤ w6.heap.size := hb6.size
        clear hb6 hout6 hbz6 p0 p1 q1 q2 q3 q4 n0 n1 HAD
        go_wp2
        refine bodyPost_ret (v := .agg #[.slice ao6 L6.length cp6, .int .i64 e6]) (dec_results rfl _ _ (w.heap.size + 1) _ _ rfl (two_cells u3' u4).1 (two_cells u3' u4).2) rfl ⟨below_two (box4_up HBZ6.out) (by omega) _ _, _, L6, e6, rfl, ?_⟩
        have hne1 := HO5.out.ne
        have hne4 := HO4.out.ne
        have hnil1 := HO5.out.nil
        have h4ne : L4 ≠ [] := by
          intro h
          have h1 := HO4.out.val 40001 (by omega)
          rw [h, val_nil] at h1
          have : 0 < 10 ^ (p + (40001 : Nat)).toNat := Nat.pow_pos (by omega)
          omega
        have hne4' := hne4 h4ne
        have hll1 := HO5.out.len
        have h9 : Out w6 (.slice ao6 L6.length cp6) L6 e6 100000 (min (min e p) 0) (max (max (e + L.length) (p + 1)) 0 + 1) (fun g => (Value.slice ao0 L.length cap0).ownBlock = some g ∨ w.heap.size + 2 ≤ g) (rndV mode neg L e p) := by
          have hb1 : (min (min e p) 0 ≤ min e1 e4) ∧ (max (e1 + (L1.length : Int)) (e4 + L4.length) + 1 ≤ max (max (e + L.length) (p + 1)) 0 + 1) := by
            by_cases h1n : L1 = []
            · have h2 := hnil1 h1n
              rw [h1n, h2]; simp only [List.length_nil]; omega
            · have hne1' := hne1 h1n
              omega
          refine HO6.out.mono (by omega) hb1.1 hb1.2 (fun g hg => ?_) (fun K hK => ?_)
          · rcases hg with h | h | h
            · exact HO5.out.own g h
            · have h5 : w3.heap.size ≤ g := HO4.out.own g h
              exact .inr (by omega)
            · exact .inr (by omega)
          · rw [HO5.out.val K (by omega), HO4.out.val K (by omega)]; exact HV.out K (by omega)
        exact ((h9.setCell _ _ (HNO.out _ (by simp) (by simp))).setCell _ _ (HNO.out _ (by simp) (by simp))).mono (Nat.le_refl _) (Int.le_refl _) (Int.le_refl _) (fun g hg => by
          rcases hg with h | h
          · exact .inl h
          · exact .inr (by omega)) (fun _ _ => rfl))
end Go.Proofs.YtbkdaoicnobllaaDoor
