import Derived.Test.YtbkdaoicnobllabGreatDoorG28

namespace Go.Proofs.YtbkdaoicnobllabGreatDoor
open Go.RowKit

def SpanPost (w w' : World) (r : Ending) (q a : Nat) (E : Int) : Prop :=
  r = .returned (.agg #[.int .i64 (lowS q a : Nat), .int .i64 (4 * mA q a : Nat), .int .i64 (4 * mA q a + 2 : Nat), .int .i64 (E + (xA q a : Nat) - 2), .bool (decide (a % 2 = 0))]) ∧ Below w.heap.size w w'
theorem span_results {fn : Func} {p : Tmp} (h : fn.results = #[.cell p 125]) (tmps : Array Value) (w : World) (B : Nat) (x0 x1 x2 x3 x4 : Value) (hp : tmps.getD p undef = .pointer (some ⟨B, 0, none⟩))
    (c0 : w.cell? ⟨B, 0, none⟩ = some x0) (c1 : w.cell? ⟨B, 1, none⟩ = some x1) (c2 : w.cell? ⟨B, 2, none⟩ = some x2) (c3 : w.cell? ⟨B, 3, none⟩ = some x3) (c4 : w.cell? ⟨B, 4, none⟩ = some x4) : (results fn tmps).run Tryz.prog w = .ok (.agg #[x0, x1, x2, x3, x4]) w := by
  have hp' : tmps[p]?.getD undef = .pointer (some ⟨B, 0, none⟩) := by rw [← Array.getD_eq_getD_getElem?]; exact hp
  simp [results, h, hp', go_sem, c0, c1, c2, c3, c4]
/-- Five cells of a box, set anew. -/
def set5 (w : World) (B : Nat) (x0 x1 x2 x3 x4 : Value) : World := ((((w.setCell ⟨B, 0, none⟩ x0).setCell ⟨B, 1, none⟩ x1).setCell ⟨B, 2, none⟩ x2).setCell ⟨B, 3, none⟩ x3).setCell ⟨B, 4, none⟩ x4
theorem set_at {w : World} {a : Addr} {x y : Value} (h : w.cell? a = some y) : (w.setCell a x).cell? a = some x := World.cell?_setCell_same' _ _ _ (by rw [h]; rfl)
theorem set_off {w : World} {a b : Addr} {x y : Value} (h : w.cell? b = some y) (hn : a ≠ b) : (w.setCell a x).cell? b = some y := by rw [World.cell?_setCell_other _ _ _ _ (by first | exact hn | exact hn.symm)]; exact h
theorem set5_cells {w : World} {B : Nat} {x0 x1 x2 x3 x4 y0 y1 y2 y3 y4 : Value} (c0 : w.cell? ⟨B, 0, none⟩ = some y0) (c1 : w.cell? ⟨B, 1, none⟩ = some y1) (c2 : w.cell? ⟨B, 2, none⟩ = some y2) (c3 : w.cell? ⟨B, 3, none⟩ = some y3) (c4 : w.cell? ⟨B, 4, none⟩ = some y4) :
    (set5 w B x0 x1 x2 x3 x4).cell? ⟨B, 0, none⟩ = some x0 ∧ (set5 w B x0 x1 x2 x3 x4).cell? ⟨B, 1, none⟩ = some x1 ∧ (set5 w B x0 x1 x2 x3 x4).cell? ⟨B, 2, none⟩ = some x2 ∧ (set5 w B x0 x1 x2 x3 x4).cell? ⟨B, 3, none⟩ = some x3 ∧ (set5 w B x0 x1 x2 x3 x4).cell? ⟨B, 4, none⟩ = some x4 := by
  unfold set5
  refine ⟨?_, ?_, ?_, ?_, ?_⟩
  · exact set_off (set_off (set_off (set_off (set_at c0) (by simp)) (by simp)) (by simp)) (by simp)
  · exact set_off (set_off (set_off (set_at (set_off c1 (by simp))) (by simp)) (by simp)) (by simp)
  · exact set_off (set_off (set_at (set_off (set_off c2 (by simp)) (by simp))) (by simp)) (by simp)
  · exact set_off (set_at (set_off (set_off (set_off c3 (by simp)) (by simp)) (by simp))) (by simp)
  · exact set_at (set_off (set_off (set_off (set_off c4 (by simp)) (by simp)) (by simp)) (by simp))
theorem set5_below {w0 w : World} {S B : Nat} {x0 x1 x2 x3 x4 : Value} (h : Below S w0 w) (hB : S ≤ B) : Below S w0 (set5 w B x0 x1 x2 x3 x4) :=
  (((((h.setCell hB _).setCell hB _).setCell hB _).setCell hB _).setCell hB _)
theorem span_post {w w' : World} {r : Ending} {q a : Nat} {E : Int} {x0 x1 x2 x3 : Int} {b : Bool} (hr : r = .returned (.agg #[.int .i64 x0, .int .i64 x1, .int .i64 x2, .int .i64 x3, .bool b])) (h0 : x0 = (lowS q a : Nat)) (h1 : x1 = (4 * mA q a : Nat)) (h2 : x2 = (4 * mA q a + 2 : Nat)) (h3 : x3 = E + (xA q a : Nat) - 2) (h4 : b = decide (a % 2 = 0)) (hb : Below w.heap.size w w') : SpanPost w w' r q a E := by
  subst h0 h1 h2 h3 h4; exact ⟨hr, hb⟩
set_option maxRecDepth 100000 in
set_option maxHeartbeats 1000000 in
theorem span0 (a : Nat) (h0 : 0 < a) (ha : (a : Int) < 31744) (w : World) :
    Calls Tryz.prog 91 #[lay0, .int .i64 a] w fun r w' => SpanPost w w' r 10 a (-24) := by
  have HNB := hid (fun w => number0 a ha w)
  have hxa : ((xA 10 a : Nat) : Int) ≤ 2100 := by
    unfold xA; rw [show (2 : Nat) ^ 10 = 1024 from by decide]; omega
  have hm1 := mA_lt 10 a
  rw [show (2 : Nat) ^ 10 = 1024 from by decide] at hm1
  have hm0 := mA_pos 10 a h0
  have HLS : Hid (lowS 10 a = if mA 10 a = 1024 ∧ 1024 < a then 4 * mA 10 a - 1 else 4 * mA 10 a - 2) := by
    unfold Hid lowS; rw [show (2 : Nat) ^ 10 = 1024 from by decide]
  obtain ⟨m, hm⟩ : ∃ m, m = mA 10 a := ⟨_, rfl⟩
  obtain ⟨k, hk⟩ : ∃ k : Nat, k = xA 10 a := ⟨_, rfl⟩
  obtain ⟨A, hA⟩ : ∃ A : Int, A = (a : Int) := ⟨_, rfl⟩
  have HMK := hid (And.intro hm (And.intro hk hA))
  rw [← hm, ← hk, ← hA] at HNB
  rw [← hm] at hm1 hm0 HLS
  rw [← hk] at hxa
  obtain ⟨M, hM⟩ : ∃ M : Int, M = (m : Int) := ⟨_, rfl⟩
  rw [← hM] at HNB
  have HMM := hid hM
  have hM1 : M < 2 * 1024 := by omega
  have hM0 : 0 < M := by omega
  have hA1 : 0 < A := by omega
  have hA2 : A < 31744 := by omega
  have HFIN : Hid (∀ (low : Int) (bb : Bool) (w' : World), low = (lowS 10 a : Nat) → bb = decide (a % 2 = 0) → Below w.heap.size w w' → SpanPost w w' (.returned (.agg #[.int .i64 low, .int .i64 (4 * M), .int .i64 (4 * M + 2), .int .i64 (-24 + k - 2), .bool bb])) 10 a (-24)) := fun low bb w' hlow hbb hb =>
    span_post rfl hlow (by rw [HMM.out, ← HMK.out.1]; omega) (by rw [HMM.out, ← HMK.out.1]; omega) (by rw [← HMK.out.2.1]) hbb hb
  have HEV : Hid ((A % 2 == 0) = decide (a % 2 = 0)) := by
    unfold Hid; rw [Bool.eq_iff_iff]; simp; omega
  rw [← hA]
  obtain ⟨t, ht⟩ : ∃ t, t = decide (a % 2 = 0) := ⟨_, rfl⟩
  have HTT := hid ht
  have hev : (A % 2 == 0) = t := by rw [ht]; exact HEV.out
  have hbd : (M == 1024 && decide (1024 < A)) = decide (mA 10 a = 1024 ∧ 1024 < a) := by
    rw [← hm, Bool.eq_iff_iff]; simp; omega
  clear ha hm hk hA hM hm1 hm0 h0 ht HEV
  unfold lay0 at *
  have tm : A.tmod 2 = A % 2 := Int.tmod_eq_emod_of_nonneg (by omega)
  by_cases hbo : M = 1024 ∧ 1024 < A
  · obtain ⟨hb1, hb2⟩ := hbo
    have HLOW : Hid (4 * M - 2 + 1 = (lowS 10 a : Nat)) := by
      unfold Hid; rw [HLS.out, if_pos (by have := HMM.out; have := HMK.out.2.2; omega)]; have := HMM.out; omega
    have hq1 : (M == 1024) = true := by rw [hb1]; rfl
    clear hbd HLS hb1
    go_enter Tryz.func91, Tryz.ntmps91
    go_wp2_with fail
    have d0 : ((w.alloc (.cells #[.int .i64 10, .int .i64 15, .int .i64 1024, .int .i64 31744, .int .i64 32768] 63)).alloc (.cells #[.int .i64 0, .int .i64 0, .int .i64 0, .int .i64 0, .bool false] 125)).cell? ⟨w.heap.size, 0, none⟩ = some (Value.int .i64 10) := by simp [go_sem]
    have d1 : ((w.alloc (.cells #[.int .i64 10, .int .i64 15, .int .i64 1024, .int .i64 31744, .int .i64 32768] 63)).alloc (.cells #[.int .i64 0, .int .i64 0, .int .i64 0, .int .i64 0, .bool false] 125)).cell? ⟨w.heap.size, 1, none⟩ = some (Value.int .i64 15) := by simp [go_sem]
    have d2 : ((w.alloc (.cells #[.int .i64 10, .int .i64 15, .int .i64 1024, .int .i64 31744, .int .i64 32768] 63)).alloc (.cells #[.int .i64 0, .int .i64 0, .int .i64 0, .int .i64 0, .bool false] 125)).cell? ⟨w.heap.size, 2, none⟩ = some (Value.int .i64 1024) := by simp [go_sem]
    have d3 : ((w.alloc (.cells #[.int .i64 10, .int .i64 15, .int .i64 1024, .int .i64 31744, .int .i64 32768] 63)).alloc (.cells #[.int .i64 0, .int .i64 0, .int .i64 0, .int .i64 0, .bool false] 125)).cell? ⟨w.heap.size, 3, none⟩ = some (Value.int .i64 31744) := by simp [go_sem]
    have d4 : ((w.alloc (.cells #[.int .i64 10, .int .i64 15, .int .i64 1024, .int .i64 31744, .int .i64 32768] 63)).alloc (.cells #[.int .i64 0, .int .i64 0, .int .i64 0, .int .i64 0, .bool false] 125)).cell? ⟨w.heap.size, 4, none⟩ = some (Value.int .i64 32768) := by simp [go_sem]
    have c0 : ((w.alloc (.cells #[.int .i64 10, .int .i64 15, .int .i64 1024, .int .i64 31744, .int .i64 32768] 63)).alloc (.cells #[.int .i64 0, .int .i64 0, .int .i64 0, .int .i64 0, .bool false] 125)).cell? ⟨w.heap.size + 1, 0, none⟩ = some (Value.int .i64 0) := by simp [go_sem]
    have c1 : ((w.alloc (.cells #[.int .i64 10, .int .i64 15, .int .i64 1024, .int .i64 31744, .int .i64 32768] 63)).alloc (.cells #[.int .i64 0, .int .i64 0, .int .i64 0, .int .i64 0, .bool false] 125)).cell? ⟨w.heap.size + 1, 1, none⟩ = some (Value.int .i64 0) := by simp [go_sem]
    have c2 : ((w.alloc (.cells #[.int .i64 10, .int .i64 15, .int .i64 1024, .int .i64 31744, .int .i64 32768] 63)).alloc (.cells #[.int .i64 0, .int .i64 0, .int .i64 0, .int .i64 0, .bool false] 125)).cell? ⟨w.heap.size + 1, 2, none⟩ = some (Value.int .i64 0) := by simp [go_sem]
    have c3 : ((w.alloc (.cells #[.int .i64 10, .int .i64 15, .int .i64 1024, .int .i64 31744, .int .i64 32768] 63)).alloc (.cells #[.int .i64 0, .int .i64 0, .int .i64 0, .int .i64 0, .bool false] 125)).cell? ⟨w.heap.size + 1, 3, none⟩ = some (Value.int .i64 0) := by simp [go_sem]
    have c4 : ((w.alloc (.cells #[.int .i64 10, .int .i64 15, .int .i64 1024, .int .i64 31744, .int .i64 32768] 63)).alloc (.cells #[.int .i64 0, .int .i64 0, .int .i64 0, .int .i64 0, .bool false] 125)).cell? ⟨w.heap.size + 1, 4, none⟩ = some (Value.bool false) := by simp [go_sem]
    have fz0 : ((w.alloc (.cells #[.int .i64 10, .int .i64 15, .int .i64 1024, .int .i64 31744, .int .i64 32768] 63)).alloc (.cells #[.int .i64 0, .int .i64 0, .int .i64 0, .int .i64 0, .bool false] 125)).frozen? ⟨w.heap.size + 1, 0, none⟩ = false := by simp [go_sem]
    have fz1 : ((w.alloc (.cells #[.int .i64 10, .int .i64 15, .int .i64 1024, .int .i64 31744, .int .i64 32768] 63)).alloc (.cells #[.int .i64 0, .int .i64 0, .int .i64 0, .int .i64 0, .bool false] 125)).frozen? ⟨w.heap.size + 1, 1, none⟩ = false := by simp [go_sem]
    have fz2 : ((w.alloc (.cells #[.int .i64 10, .int .i64 15, .int .i64 1024, .int .i64 31744, .int .i64 32768] 63)).alloc (.cells #[.int .i64 0, .int .i64 0, .int .i64 0, .int .i64 0, .bool false] 125)).frozen? ⟨w.heap.size + 1, 2, none⟩ = false := by simp [go_sem]
    have fz3 : ((w.alloc (.cells #[.int .i64 10, .int .i64 15, .int .i64 1024, .int .i64 31744, .int .i64 32768] 63)).alloc (.cells #[.int .i64 0, .int .i64 0, .int .i64 0, .int .i64 0, .bool false] 125)).frozen? ⟨w.heap.size + 1, 3, none⟩ = false := by simp [go_sem]
    have fz4 : ((w.alloc (.cells #[.int .i64 10, .int .i64 15, .int .i64 1024, .int .i64 31744, .int .i64 32768] 63)).alloc (.cells #[.int .i64 0, .int .i64 0, .int .i64 0, .int .i64 0, .bool false] 125)).frozen? ⟨w.heap.size + 1, 4, none⟩ = false := by simp [go_sem]
    have HB : Hid (Below w.heap.size w ((w.alloc (.cells #[.int .i64 10, .int .i64 15, .int .i64 1024, .int .i64 31744, .int .i64 32768] 63)).alloc (.cells #[.int .i64 0, .int .i64 0, .int .i64 0, .int .i64 0, .bool false] 125))) := ((Below.refl _ _).alloc (Nat.le_refl _) _).alloc (by simp) _
    have hw : w.heap.size + 1 < ((w.alloc (.cells #[.int .i64 10, .int .i64 15, .int .i64 1024, .int .i64 31744, .int .i64 32768] 63)).alloc (.cells #[.int .i64 0, .int .i64 0, .int .i64 0, .int .i64 0, .bool false] 125)).heap.size := by simp
    generalize ((w.alloc (.cells #[.int .i64 10, .int .i64 15, .int .i64 1024, .int .i64 31744, .int .i64 32768] 63)).alloc (.cells #[.int .i64 0, .int .i64 0, .int .i64 0, .int .i64 0, .bool false] 125)) = W at *
    refine (HNB.out W).mono ?_
    rintro r w1 ⟨rfl, hbb⟩
    have HB1 : Hid (Below w.heap.size w w1) := HB.out.trans (hbb.mono (by omega))
    have e2 := keep_cell' hbb d2
    have gz0 := (hbb.frozen (p := ⟨w.heap.size + 1, 0, none⟩) (by show w.heap.size + 1 < _; omega)).trans fz0
    have gz1 := (hbb.frozen (p := ⟨w.heap.size + 1, 1, none⟩) (by show w.heap.size + 1 < _; omega)).trans fz1
    have gz2 := (hbb.frozen (p := ⟨w.heap.size + 1, 2, none⟩) (by show w.heap.size + 1 < _; omega)).trans fz2
    have gz3 := (hbb.frozen (p := ⟨w.heap.size + 1, 3, none⟩) (by show w.heap.size + 1 < _; omega)).trans fz3
    have gz4 := (hbb.frozen (p := ⟨w.heap.size + 1, 4, none⟩) (by show w.heap.size + 1 < _; omega)).trans fz4
    have f0 := keep_cell' hbb c0
    have f1 := keep_cell' hbb c1
    have f2 := keep_cell' hbb c2
    have f3 := keep_cell' hbb c3
    have f4 := keep_cell' hbb c4
    have hw1 : w.heap.size + 1 < w1.heap.size := by have := hbb.size; omega
    have hw2 : w.heap.size < w1.heap.size := by omega
    clear fz0 fz1 fz2 fz3 fz4 hbb d0 d1 d2 d3 d4 c0 c1 c2 c3 c4 hw HB HNB
    go_wp2
    exact bodyPost_ret (v := .agg #[.int .i64 (4 * M - 2 + 1), .int .i64 (4 * M), .int .i64 (4 * M + 2), .int .i64 (-24 + k - 2), .bool t])
      (span_results rfl _ ((set5 w1 (w.heap.size + 1) _ _ _ _ _).alloc _) (w.heap.size + 1) _ _ _ _ _ rfl (keep_cell' ((Below.refl _ _).alloc (Nat.le_refl _) _) (set5_cells f0 f1 f2 f3 f4).1) (keep_cell' ((Below.refl _ _).alloc (Nat.le_refl _) _) (set5_cells f0 f1 f2 f3 f4).2.1) (keep_cell' ((Below.refl _ _).alloc (Nat.le_refl _) _) (set5_cells f0 f1 f2 f3 f4).2.2.1) (keep_cell' ((Below.refl _ _).alloc (Nat.le_refl _) _) (set5_cells f0 f1 f2 f3 f4).2.2.2.1) (keep_cell' ((Below.refl _ _).alloc (Nat.le_refl _) _) (set5_cells f0 f1 f2 f3 f4).2.2.2.2)) rfl
      (HFIN.out _ _ _ HLOW.out HTT.out ((set5_below HB1.out (by omega)).alloc (set5_below HB1.out (by omega)).size _))
  · have HLOW : Hid (4 * M - 2 = (lowS 10 a : Nat)) := by
      unfold Hid; rw [HLS.out, if_neg (by have := HMM.out; have := HMK.out.2.2; omega)]; have := HMM.out; omega
    by_cases hMN : M = 1024
    · have hq1 : (M == 1024) = true := by rw [hMN]; rfl
      have hq2 : ¬ 1024 < A := by omega
      clear hbd HLS hMN hbo
      go_enter Tryz.func91, Tryz.ntmps91
      go_wp2_with fail
      have d0 : ((w.alloc (.cells #[.int .i64 10, .int .i64 15, .int .i64 1024, .int .i64 31744, .int .i64 32768] 63)).alloc (.cells #[.int .i64 0, .int .i64 0, .int .i64 0, .int .i64 0, .bool false] 125)).cell? ⟨w.heap.size, 0, none⟩ = some (Value.int .i64 10) := by simp [go_sem]
      have d1 : ((w.alloc (.cells #[.int .i64 10, .int .i64 15, .int .i64 1024, .int .i64 31744, .int .i64 32768] 63)).alloc (.cells #[.int .i64 0, .int .i64 0, .int .i64 0, .int .i64 0, .bool false] 125)).cell? ⟨w.heap.size, 1, none⟩ = some (Value.int .i64 15) := by simp [go_sem]
      have d2 : ((w.alloc (.cells #[.int .i64 10, .int .i64 15, .int .i64 1024, .int .i64 31744, .int .i64 32768] 63)).alloc (.cells #[.int .i64 0, .int .i64 0, .int .i64 0, .int .i64 0, .bool false] 125)).cell? ⟨w.heap.size, 2, none⟩ = some (Value.int .i64 1024) := by simp [go_sem]
      have d3 : ((w.alloc (.cells #[.int .i64 10, .int .i64 15, .int .i64 1024, .int .i64 31744, .int .i64 32768] 63)).alloc (.cells #[.int .i64 0, .int .i64 0, .int .i64 0, .int .i64 0, .bool false] 125)).cell? ⟨w.heap.size, 3, none⟩ = some (Value.int .i64 31744) := by simp [go_sem]
      have d4 : ((w.alloc (.cells #[.int .i64 10, .int .i64 15, .int .i64 1024, .int .i64 31744, .int .i64 32768] 63)).alloc (.cells #[.int .i64 0, .int .i64 0, .int .i64 0, .int .i64 0, .bool false] 125)).cell? ⟨w.heap.size, 4, none⟩ = some (Value.int .i64 32768) := by simp [go_sem]
      have c0 : ((w.alloc (.cells #[.int .i64 10, .int .i64 15, .int .i64 1024, .int .i64 31744, .int .i64 32768] 63)).alloc (.cells #[.int .i64 0, .int .i64 0, .int .i64 0, .int .i64 0, .bool false] 125)).cell? ⟨w.heap.size + 1, 0, none⟩ = some (Value.int .i64 0) := by simp [go_sem]
      have c1 : ((w.alloc (.cells #[.int .i64 10, .int .i64 15, .int .i64 1024, .int .i64 31744, .int .i64 32768] 63)).alloc (.cells #[.int .i64 0, .int .i64 0, .int .i64 0, .int .i64 0, .bool false] 125)).cell? ⟨w.heap.size + 1, 1, none⟩ = some (Value.int .i64 0) := by simp [go_sem]
      have c2 : ((w.alloc (.cells #[.int .i64 10, .int .i64 15, .int .i64 1024, .int .i64 31744, .int .i64 32768] 63)).alloc (.cells #[.int .i64 0, .int .i64 0, .int .i64 0, .int .i64 0, .bool false] 125)).cell? ⟨w.heap.size + 1, 2, none⟩ = some (Value.int .i64 0) := by simp [go_sem]
      have c3 : ((w.alloc (.cells #[.int .i64 10, .int .i64 15, .int .i64 1024, .int .i64 31744, .int .i64 32768] 63)).alloc (.cells #[.int .i64 0, .int .i64 0, .int .i64 0, .int .i64 0, .bool false] 125)).cell? ⟨w.heap.size + 1, 3, none⟩ = some (Value.int .i64 0) := by simp [go_sem]
      have c4 : ((w.alloc (.cells #[.int .i64 10, .int .i64 15, .int .i64 1024, .int .i64 31744, .int .i64 32768] 63)).alloc (.cells #[.int .i64 0, .int .i64 0, .int .i64 0, .int .i64 0, .bool false] 125)).cell? ⟨w.heap.size + 1, 4, none⟩ = some (Value.bool false) := by simp [go_sem]
      have fz0 : ((w.alloc (.cells #[.int .i64 10, .int .i64 15, .int .i64 1024, .int .i64 31744, .int .i64 32768] 63)).alloc (.cells #[.int .i64 0, .int .i64 0, .int .i64 0, .int .i64 0, .bool false] 125)).frozen? ⟨w.heap.size + 1, 0, none⟩ = false := by simp [go_sem]
      have fz1 : ((w.alloc (.cells #[.int .i64 10, .int .i64 15, .int .i64 1024, .int .i64 31744, .int .i64 32768] 63)).alloc (.cells #[.int .i64 0, .int .i64 0, .int .i64 0, .int .i64 0, .bool false] 125)).frozen? ⟨w.heap.size + 1, 1, none⟩ = false := by simp [go_sem]
      have fz2 : ((w.alloc (.cells #[.int .i64 10, .int .i64 15, .int .i64 1024, .int .i64 31744, .int .i64 32768] 63)).alloc (.cells #[.int .i64 0, .int .i64 0, .int .i64 0, .int .i64 0, .bool false] 125)).frozen? ⟨w.heap.size + 1, 2, none⟩ = false := by simp [go_sem]
      have fz3 : ((w.alloc (.cells #[.int .i64 10, .int .i64 15, .int .i64 1024, .int .i64 31744, .int .i64 32768] 63)).alloc (.cells #[.int .i64 0, .int .i64 0, .int .i64 0, .int .i64 0, .bool false] 125)).frozen? ⟨w.heap.size + 1, 3, none⟩ = false := by simp [go_sem]
      have fz4 : ((w.alloc (.cells #[.int .i64 10, .int .i64 15, .int .i64 1024, .int .i64 31744, .int .i64 32768] 63)).alloc (.cells #[.int .i64 0, .int .i64 0, .int .i64 0, .int .i64 0, .bool false] 125)).frozen? ⟨w.heap.size + 1, 4, none⟩ = false := by simp [go_sem]
      have HB : Hid (Below w.heap.size w ((w.alloc (.cells #[.int .i64 10, .int .i64 15, .int .i64 1024, .int .i64 31744, .int .i64 32768] 63)).alloc (.cells #[.int .i64 0, .int .i64 0, .int .i64 0, .int .i64 0, .bool false] 125))) := ((Below.refl _ _).alloc (Nat.le_refl _) _).alloc (by simp) _
      have hw : w.heap.size + 1 < ((w.alloc (.cells #[.int .i64 10, .int .i64 15, .int .i64 1024, .int .i64 31744, .int .i64 32768] 63)).alloc (.cells #[.int .i64 0, .int .i64 0, .int .i64 0, .int .i64 0, .bool false] 125)).heap.size := by simp
      generalize ((w.alloc (.cells #[.int .i64 10, .int .i64 15, .int .i64 1024, .int .i64 31744, .int .i64 32768] 63)).alloc (.cells #[.int .i64 0, .int .i64 0, .int .i64 0, .int .i64 0, .bool false] 125)) = W at *
      refine (HNB.out W).mono ?_
      rintro r w1 ⟨rfl, hbb⟩
      have HB1 : Hid (Below w.heap.size w w1) := HB.out.trans (hbb.mono (by omega))
      have e2 := keep_cell' hbb d2
      have gz0 := (hbb.frozen (p := ⟨w.heap.size + 1, 0, none⟩) (by show w.heap.size + 1 < _; omega)).trans fz0
      have gz1 := (hbb.frozen (p := ⟨w.heap.size + 1, 1, none⟩) (by show w.heap.size + 1 < _; omega)).trans fz1
      have gz2 := (hbb.frozen (p := ⟨w.heap.size + 1, 2, none⟩) (by show w.heap.size + 1 < _; omega)).trans fz2
      have gz3 := (hbb.frozen (p := ⟨w.heap.size + 1, 3, none⟩) (by show w.heap.size + 1 < _; omega)).trans fz3
      have gz4 := (hbb.frozen (p := ⟨w.heap.size + 1, 4, none⟩) (by show w.heap.size + 1 < _; omega)).trans fz4
      have f0 := keep_cell' hbb c0
      have f1 := keep_cell' hbb c1
      have f2 := keep_cell' hbb c2
      have f3 := keep_cell' hbb c3
      have f4 := keep_cell' hbb c4
      have hw1 : w.heap.size + 1 < w1.heap.size := by have := hbb.size; omega
      have hw2 : w.heap.size < w1.heap.size := by omega
      clear fz0 fz1 fz2 fz3 fz4 hbb d0 d1 d2 d3 d4 c0 c1 c2 c3 c4 hw HB HNB
      go_wp2
      exact bodyPost_ret (v := .agg #[.int .i64 (4 * M - 2), .int .i64 (4 * M), .int .i64 (4 * M + 2), .int .i64 (-24 + k - 2), .bool t])
        (span_results rfl _ ((set5 w1 (w.heap.size + 1) _ _ _ _ _).alloc _) (w.heap.size + 1) _ _ _ _ _ rfl (keep_cell' ((Below.refl _ _).alloc (Nat.le_refl _) _) (set5_cells f0 f1 f2 f3 f4).1) (keep_cell' ((Below.refl _ _).alloc (Nat.le_refl _) _) (set5_cells f0 f1 f2 f3 f4).2.1) (keep_cell' ((Below.refl _ _).alloc (Nat.le_refl _) _) (set5_cells f0 f1 f2 f3 f4).2.2.1) (keep_cell' ((Below.refl _ _).alloc (Nat.le_refl _) _) (set5_cells f0 f1 f2 f3 f4).2.2.2.1) (keep_cell' ((Below.refl _ _).alloc (Nat.le_refl _) _) (set5_cells f0 f1 f2 f3 f4).2.2.2.2)) rfl
        (HFIN.out _ _ _ HLOW.out HTT.out ((set5_below HB1.out (by omega)).alloc (set5_below HB1.out (by omega)).size _))
    · have hq1 : (M == 1024) = false := by rw [beq_eq_false_iff_ne]; exact hMN
      clear hbd HLS hMN hbo
      go_enter Tryz.func91, Tryz.ntmps91
      go_wp2_with fail
      have d0 : ((w.alloc (.cells #[.int .i64 10, .int .i64 15, .int .i64 1024, .int .i64 31744, .int .i64 32768] 63)).alloc (.cells #[.int .i64 0, .int .i64 0, .int .i64 0, .int .i64 0, .bool false] 125)).cell? ⟨w.heap.size, 0, none⟩ = some (Value.int .i64 10) := by simp [go_sem]
      have d1 : ((w.alloc (.cells #[.int .i64 10, .int .i64 15, .int .i64 1024, .int .i64 31744, .int .i64 32768] 63)).alloc (.cells #[.int .i64 0, .int .i64 0, .int .i64 0, .int .i64 0, .bool false] 125)).cell? ⟨w.heap.size, 1, none⟩ = some (Value.int .i64 15) := by simp [go_sem]
      have d2 : ((w.alloc (.cells #[.int .i64 10, .int .i64 15, .int .i64 1024, .int .i64 31744, .int .i64 32768] 63)).alloc (.cells #[.int .i64 0, .int .i64 0, .int .i64 0, .int .i64 0, .bool false] 125)).cell? ⟨w.heap.size, 2, none⟩ = some (Value.int .i64 1024) := by simp [go_sem]
      have d3 : ((w.alloc (.cells #[.int .i64 10, .int .i64 15, .int .i64 1024, .int .i64 31744, .int .i64 32768] 63)).alloc (.cells #[.int .i64 0, .int .i64 0, .int .i64 0, .int .i64 0, .bool false] 125)).cell? ⟨w.heap.size, 3, none⟩ = some (Value.int .i64 31744) := by simp [go_sem]
      have d4 : ((w.alloc (.cells #[.int .i64 10, .int .i64 15, .int .i64 1024, .int .i64 31744, .int .i64 32768] 63)).alloc (.cells #[.int .i64 0, .int .i64 0, .int .i64 0, .int .i64 0, .bool false] 125)).cell? ⟨w.heap.size, 4, none⟩ = some (Value.int .i64 32768) := by simp [go_sem]
      have c0 : ((w.alloc (.cells #[.int .i64 10, .int .i64 15, .int .i64 1024, .int .i64 31744, .int .i64 32768] 63)).alloc (.cells #[.int .i64 0, .int .i64 0, .int .i64 0, .int .i64 0, .bool false] 125)).cell? ⟨w.heap.size + 1, 0, none⟩ = some (Value.int .i64 0) := by simp [go_sem]
      have c1 : ((w.alloc (.cells #[.int .i64 10, .int .i64 15, .int .i64 1024, .int .i64 31744, .int .i64 32768] 63)).alloc (.cells #[.int .i64 0, .int .i64 0, .int .i64 0, .int .i64 0, .bool false] 125)).cell? ⟨w.heap.size + 1, 1, none⟩ = some (Value.int .i64 0) := by simp [go_sem]
      have c2 : ((w.alloc (.cells #[.int .i64 10, .int .i64 15, .int .i64 1024, .int .i64 31744, .int .i64 32768] 63)).alloc (.cells #[.int .i64 0, .int .i64 0, .int .i64 0, .int .i64 0, .bool false] 125)).cell? ⟨w.heap.size + 1, 2, none⟩ = some (Value.int .i64 0) := by simp [go_sem]
      have c3 : ((w.alloc (.cells #[.int .i64 10, .int .i64 15, .int .i64 1024, .int .i64 31744, .int .i64 32768] 63)).alloc (.cells #[.int .i64 0, .int .i64 0, .int .i64 0, .int .i64 0, .bool false] 125)).cell? ⟨w.heap.size + 1, 3, none⟩ = some (Value.int .i64 0) := by simp [go_sem]
      have c4 : ((w.alloc (.cells #[.int .i64 10, .int .i64 15, .int .i64 1024, .int .i64 31744, .int .i64 32768] 63)).alloc (.cells #[.int .i64 0, .int .i64 0, .int .i64 0, .int .i64 0, .bool false] 125)).cell? ⟨w.heap.size + 1, 4, none⟩ = some (Value.bool false) := by simp [go_sem]
      have fz0 : ((w.alloc (.cells #[.int .i64 10, .int .i64 15, .int .i64 1024, .int .i64 31744, .int .i64 32768] 63)).alloc (.cells #[.int .i64 0, .int .i64 0, .int .i64 0, .int .i64 0, .bool false] 125)).frozen? ⟨w.heap.size + 1, 0, none⟩ = false := by simp [go_sem]
      have fz1 : ((w.alloc (.cells #[.int .i64 10, .int .i64 15, .int .i64 1024, .int .i64 31744, .int .i64 32768] 63)).alloc (.cells #[.int .i64 0, .int .i64 0, .int .i64 0, .int .i64 0, .bool false] 125)).frozen? ⟨w.heap.size + 1, 1, none⟩ = false := by simp [go_sem]
      have fz2 : ((w.alloc (.cells #[.int .i64 10, .int .i64 15, .int .i64 1024, .int .i64 31744, .int .i64 32768] 63)).alloc (.cells #[.int .i64 0, .int .i64 0, .int .i64 0, .int .i64 0, .bool false] 125)).frozen? ⟨w.heap.size + 1, 2, none⟩ = false := by simp [go_sem]
      have fz3 : ((w.alloc (.cells #[.int .i64 10, .int .i64 15, .int .i64 1024, .int .i64 31744, .int .i64 32768] 63)).alloc (.cells #[.int .i64 0, .int .i64 0, .int .i64 0, .int .i64 0, .bool false] 125)).frozen? ⟨w.heap.size + 1, 3, none⟩ = false := by simp [go_sem]
      have fz4 : ((w.alloc (.cells #[.int .i64 10, .int .i64 15, .int .i64 1024, .int .i64 31744, .int .i64 32768] 63)).alloc (.cells #[.int .i64 0, .int .i64 0, .int .i64 0, .int .i64 0, .bool false] 125)).frozen? ⟨w.heap.size + 1, 4, none⟩ = false := by simp [go_sem]
      have HB : Hid (Below w.heap.size w ((w.alloc (.cells #[.int .i64 10, .int .i64 15, .int .i64 1024, .int .i64 31744, .int .i64 32768] 63)).alloc (.cells #[.int .i64 0, .int .i64 0, .int .i64 0, .int .i64 0, .bool false] 125))) := ((Below.refl _ _).alloc (Nat.le_refl _) _).alloc (by simp) _
      have hw : w.heap.size + 1 < ((w.alloc (.cells #[.int .i64 10, .int .i64 15, .int .i64 1024, .int .i64 31744, .int .i64 32768] 63)).alloc (.cells #[.int .i64 0, .int .i64 0, .int .i64 0, .int .i64 0, .bool false] 125)).heap.size := by simp
      generalize ((w.alloc (.cells #[.int .i64 10, .int .i64 15, .int .i64 1024, .int .i64 31744, .int .i64 32768] 63)).alloc (.cells #[.int .i64 0, .int .i64 0, .int .i64 0, .int .i64 0, .bool false] 125)) = W at *
      refine (HNB.out W).mono ?_
      rintro r w1 ⟨rfl, hbb⟩
      have HB1 : Hid (Below w.heap.size w w1) := HB.out.trans (hbb.mono (by omega))
      have e2 := keep_cell' hbb d2
      have gz0 := (hbb.frozen (p := ⟨w.heap.size + 1, 0, none⟩) (by show w.heap.size + 1 < _; omega)).trans fz0
      have gz1 := (hbb.frozen (p := ⟨w.heap.size + 1, 1, none⟩) (by show w.heap.size + 1 < _; omega)).trans fz1
      have gz2 := (hbb.frozen (p := ⟨w.heap.size + 1, 2, none⟩) (by show w.heap.size + 1 < _; omega)).trans fz2
      have gz3 := (hbb.frozen (p := ⟨w.heap.size + 1, 3, none⟩) (by show w.heap.size + 1 < _; omega)).trans fz3
      have gz4 := (hbb.frozen (p := ⟨w.heap.size + 1, 4, none⟩) (by show w.heap.size + 1 < _; omega)).trans fz4
      have f0 := keep_cell' hbb c0
      have f1 := keep_cell' hbb c1
      have f2 := keep_cell' hbb c2
      have f3 := keep_cell' hbb c3
      have f4 := keep_cell' hbb c4
      have hw1 : w.heap.size + 1 < w1.heap.size := by have := hbb.size; omega
      have hw2 : w.heap.size < w1.heap.size := by omega
      clear fz0 fz1 fz2 fz3 fz4 hbb d0 d1 d2 d3 d4 c0 c1 c2 c3 c4 hw HB HNB
      go_wp2
      exact bodyPost_ret (v := .agg #[.int .i64 (4 * M - 2), .int .i64 (4 * M), .int .i64 (4 * M + 2), .int .i64 (-24 + k - 2), .bool t])
        (span_results rfl _ ((set5 w1 (w.heap.size + 1) _ _ _ _ _).alloc _) (w.heap.size + 1) _ _ _ _ _ rfl (keep_cell' ((Below.refl _ _).alloc (Nat.le_refl _) _) (set5_cells f0 f1 f2 f3 f4).1) (keep_cell' ((Below.refl _ _).alloc (Nat.le_refl _) _) (set5_cells f0 f1 f2 f3 f4).2.1) (keep_cell' ((Below.refl _ _).alloc (Nat.le_refl _) _) (set5_cells f0 f1 f2 f3 f4).2.2.1) (keep_cell' ((Below.refl _ _).alloc (Nat.le_refl _) _) (set5_cells f0 f1 f2 f3 f4).2.2.2.1) (keep_cell' ((Below.refl _ _).alloc (Nat.le_refl _) _) (set5_cells f0 f1 f2 f3 f4).2.2.2.2)) rfl
        (HFIN.out _ _ _ HLOW.out HTT.out ((set5_below HB1.out (by omega)).alloc (set5_below HB1.out (by omega)).size _))
set_option maxRecDepth 100000 in
set_option maxHeartbeats 1000000 in
theorem span1 (a : Nat) (h0 : 0 < a) (ha : (a : Int) < 2139095040) (w : World) :
    Calls Tryz.prog 91 #[lay1, .int .i64 a] w fun r w' => SpanPost w w' r 23 a (-149) := by
  have HNB := hid (fun w => number1 a ha w)
  have hxa : ((xA 23 a : Nat) : Int) ≤ 2100 := by
    unfold xA; rw [show (2 : Nat) ^ 23 = 8388608 from by decide]; omega
  have hm1 := mA_lt 23 a
  rw [show (2 : Nat) ^ 23 = 8388608 from by decide] at hm1
  have hm0 := mA_pos 23 a h0
  have HLS : Hid (lowS 23 a = if mA 23 a = 8388608 ∧ 8388608 < a then 4 * mA 23 a - 1 else 4 * mA 23 a - 2) := by
    unfold Hid lowS; rw [show (2 : Nat) ^ 23 = 8388608 from by decide]
  obtain ⟨m, hm⟩ : ∃ m, m = mA 23 a := ⟨_, rfl⟩
  obtain ⟨k, hk⟩ : ∃ k : Nat, k = xA 23 a := ⟨_, rfl⟩
  obtain ⟨A, hA⟩ : ∃ A : Int, A = (a : Int) := ⟨_, rfl⟩
  have HMK := hid (And.intro hm (And.intro hk hA))
  rw [← hm, ← hk, ← hA] at HNB
  rw [← hm] at hm1 hm0 HLS
  rw [← hk] at hxa
  obtain ⟨M, hM⟩ : ∃ M : Int, M = (m : Int) := ⟨_, rfl⟩
  rw [← hM] at HNB
  have HMM := hid hM
  have hM1 : M < 2 * 8388608 := by omega
  have hM0 : 0 < M := by omega
  have hA1 : 0 < A := by omega
  have hA2 : A < 2139095040 := by omega
  have HFIN : Hid (∀ (low : Int) (bb : Bool) (w' : World), low = (lowS 23 a : Nat) → bb = decide (a % 2 = 0) → Below w.heap.size w w' → SpanPost w w' (.returned (.agg #[.int .i64 low, .int .i64 (4 * M), .int .i64 (4 * M + 2), .int .i64 (-149 + k - 2), .bool bb])) 23 a (-149)) := fun low bb w' hlow hbb hb =>
    span_post rfl hlow (by rw [HMM.out, ← HMK.out.1]; omega) (by rw [HMM.out, ← HMK.out.1]; omega) (by rw [← HMK.out.2.1]) hbb hb
  have HEV : Hid ((A % 2 == 0) = decide (a % 2 = 0)) := by
    unfold Hid; rw [Bool.eq_iff_iff]; simp; omega
  rw [← hA]
  obtain ⟨t, ht⟩ : ∃ t, t = decide (a % 2 = 0) := ⟨_, rfl⟩
  have HTT := hid ht
  have hev : (A % 2 == 0) = t := by rw [ht]; exact HEV.out
  have hbd : (M == 8388608 && decide (8388608 < A)) = decide (mA 23 a = 8388608 ∧ 8388608 < a) := by
    rw [← hm, Bool.eq_iff_iff]; simp; omega
  clear ha hm hk hA hM hm1 hm0 h0 ht HEV
  unfold lay1 at *
  have tm : A.tmod 2 = A % 2 := Int.tmod_eq_emod_of_nonneg (by omega)
  by_cases hbo : M = 8388608 ∧ 8388608 < A
  · obtain ⟨hb1, hb2⟩ := hbo
    have HLOW : Hid (4 * M - 2 + 1 = (lowS 23 a : Nat)) := by
      unfold Hid; rw [HLS.out, if_pos (by have := HMM.out; have := HMK.out.2.2; omega)]; have := HMM.out; omega
    have hq1 : (M == 8388608) = true := by rw [hb1]; rfl
    clear hbd HLS hb1
    go_enter Tryz.func91, Tryz.ntmps91
    go_wp2_with fail
    have d0 : ((w.alloc (.cells #[.int .i64 23, .int .i64 127, .int .i64 8388608, .int .i64 2139095040, .int .i64 2147483648] 63)).alloc (.cells #[.int .i64 0, .int .i64 0, .int .i64 0, .int .i64 0, .bool false] 125)).cell? ⟨w.heap.size, 0, none⟩ = some (Value.int .i64 23) := by simp [go_sem]
    have d1 : ((w.alloc (.cells #[.int .i64 23, .int .i64 127, .int .i64 8388608, .int .i64 2139095040, .int .i64 2147483648] 63)).alloc (.cells #[.int .i64 0, .int .i64 0, .int .i64 0, .int .i64 0, .bool false] 125)).cell? ⟨w.heap.size, 1, none⟩ = some (Value.int .i64 127) := by simp [go_sem]
    have d2 : ((w.alloc (.cells #[.int .i64 23, .int .i64 127, .int .i64 8388608, .int .i64 2139095040, .int .i64 2147483648] 63)).alloc (.cells #[.int .i64 0, .int .i64 0, .int .i64 0, .int .i64 0, .bool false] 125)).cell? ⟨w.heap.size, 2, none⟩ = some (Value.int .i64 8388608) := by simp [go_sem]
    have d3 : ((w.alloc (.cells #[.int .i64 23, .int .i64 127, .int .i64 8388608, .int .i64 2139095040, .int .i64 2147483648] 63)).alloc (.cells #[.int .i64 0, .int .i64 0, .int .i64 0, .int .i64 0, .bool false] 125)).cell? ⟨w.heap.size, 3, none⟩ = some (Value.int .i64 2139095040) := by simp [go_sem]
    have d4 : ((w.alloc (.cells #[.int .i64 23, .int .i64 127, .int .i64 8388608, .int .i64 2139095040, .int .i64 2147483648] 63)).alloc (.cells #[.int .i64 0, .int .i64 0, .int .i64 0, .int .i64 0, .bool false] 125)).cell? ⟨w.heap.size, 4, none⟩ = some (Value.int .i64 2147483648) := by simp [go_sem]
    have c0 : ((w.alloc (.cells #[.int .i64 23, .int .i64 127, .int .i64 8388608, .int .i64 2139095040, .int .i64 2147483648] 63)).alloc (.cells #[.int .i64 0, .int .i64 0, .int .i64 0, .int .i64 0, .bool false] 125)).cell? ⟨w.heap.size + 1, 0, none⟩ = some (Value.int .i64 0) := by simp [go_sem]
    have c1 : ((w.alloc (.cells #[.int .i64 23, .int .i64 127, .int .i64 8388608, .int .i64 2139095040, .int .i64 2147483648] 63)).alloc (.cells #[.int .i64 0, .int .i64 0, .int .i64 0, .int .i64 0, .bool false] 125)).cell? ⟨w.heap.size + 1, 1, none⟩ = some (Value.int .i64 0) := by simp [go_sem]
    have c2 : ((w.alloc (.cells #[.int .i64 23, .int .i64 127, .int .i64 8388608, .int .i64 2139095040, .int .i64 2147483648] 63)).alloc (.cells #[.int .i64 0, .int .i64 0, .int .i64 0, .int .i64 0, .bool false] 125)).cell? ⟨w.heap.size + 1, 2, none⟩ = some (Value.int .i64 0) := by simp [go_sem]
    have c3 : ((w.alloc (.cells #[.int .i64 23, .int .i64 127, .int .i64 8388608, .int .i64 2139095040, .int .i64 2147483648] 63)).alloc (.cells #[.int .i64 0, .int .i64 0, .int .i64 0, .int .i64 0, .bool false] 125)).cell? ⟨w.heap.size + 1, 3, none⟩ = some (Value.int .i64 0) := by simp [go_sem]
    have c4 : ((w.alloc (.cells #[.int .i64 23, .int .i64 127, .int .i64 8388608, .int .i64 2139095040, .int .i64 2147483648] 63)).alloc (.cells #[.int .i64 0, .int .i64 0, .int .i64 0, .int .i64 0, .bool false] 125)).cell? ⟨w.heap.size + 1, 4, none⟩ = some (Value.bool false) := by simp [go_sem]
    have fz0 : ((w.alloc (.cells #[.int .i64 23, .int .i64 127, .int .i64 8388608, .int .i64 2139095040, .int .i64 2147483648] 63)).alloc (.cells #[.int .i64 0, .int .i64 0, .int .i64 0, .int .i64 0, .bool false] 125)).frozen? ⟨w.heap.size + 1, 0, none⟩ = false := by simp [go_sem]
    have fz1 : ((w.alloc (.cells #[.int .i64 23, .int .i64 127, .int .i64 8388608, .int .i64 2139095040, .int .i64 2147483648] 63)).alloc (.cells #[.int .i64 0, .int .i64 0, .int .i64 0, .int .i64 0, .bool false] 125)).frozen? ⟨w.heap.size + 1, 1, none⟩ = false := by simp [go_sem]
    have fz2 : ((w.alloc (.cells #[.int .i64 23, .int .i64 127, .int .i64 8388608, .int .i64 2139095040, .int .i64 2147483648] 63)).alloc (.cells #[.int .i64 0, .int .i64 0, .int .i64 0, .int .i64 0, .bool false] 125)).frozen? ⟨w.heap.size + 1, 2, none⟩ = false := by simp [go_sem]
    have fz3 : ((w.alloc (.cells #[.int .i64 23, .int .i64 127, .int .i64 8388608, .int .i64 2139095040, .int .i64 2147483648] 63)).alloc (.cells #[.int .i64 0, .int .i64 0, .int .i64 0, .int .i64 0, .bool false] 125)).frozen? ⟨w.heap.size + 1, 3, none⟩ = false := by simp [go_sem]
    have fz4 : ((w.alloc (.cells #[.int .i64 23, .int .i64 127, .int .i64 8388608, .int .i64 2139095040, .int .i64 2147483648] 63)).alloc (.cells #[.int .i64 0, .int .i64 0, .int .i64 0, .int .i64 0, .bool false] 125)).frozen? ⟨w.heap.size + 1, 4, none⟩ = false := by simp [go_sem]
    have HB : Hid (Below w.heap.size w ((w.alloc (.cells #[.int .i64 23, .int .i64 127, .int .i64 8388608, .int .i64 2139095040, .int .i64 2147483648] 63)).alloc (.cells #[.int .i64 0, .int .i64 0, .int .i64 0, .int .i64 0, .bool false] 125))) := ((Below.refl _ _).alloc (Nat.le_refl _) _).alloc (by simp) _
    have hw : w.heap.size + 1 < ((w.alloc (.cells #[.int .i64 23, .int .i64 127, .int .i64 8388608, .int .i64 2139095040, .int .i64 2147483648] 63)).alloc (.cells #[.int .i64 0, .int .i64 0, .int .i64 0, .int .i64 0, .bool false] 125)).heap.size := by simp
    generalize ((w.alloc (.cells #[.int .i64 23, .int .i64 127, .int .i64 8388608, .int .i64 2139095040, .int .i64 2147483648] 63)).alloc (.cells #[.int .i64 0, .int .i64 0, .int .i64 0, .int .i64 0, .bool false] 125)) = W at *
    refine (HNB.out W).mono ?_
    rintro r w1 ⟨rfl, hbb⟩
    have HB1 : Hid (Below w.heap.size w w1) := HB.out.trans (hbb.mono (by omega))
    have e2 := keep_cell' hbb d2
    have gz0 := (hbb.frozen (p := ⟨w.heap.size + 1, 0, none⟩) (by show w.heap.size + 1 < _; omega)).trans fz0
    have gz1 := (hbb.frozen (p := ⟨w.heap.size + 1, 1, none⟩) (by show w.heap.size + 1 < _; omega)).trans fz1
    have gz2 := (hbb.frozen (p := ⟨w.heap.size + 1, 2, none⟩) (by show w.heap.size + 1 < _; omega)).trans fz2
    have gz3 := (hbb.frozen (p := ⟨w.heap.size + 1, 3, none⟩) (by show w.heap.size + 1 < _; omega)).trans fz3
    have gz4 := (hbb.frozen (p := ⟨w.heap.size + 1, 4, none⟩) (by show w.heap.size + 1 < _; omega)).trans fz4
    have f0 := keep_cell' hbb c0
    have f1 := keep_cell' hbb c1
    have f2 := keep_cell' hbb c2
    have f3 := keep_cell' hbb c3
    have f4 := keep_cell' hbb c4
    have hw1 : w.heap.size + 1 < w1.heap.size := by have := hbb.size; omega
    have hw2 : w.heap.size < w1.heap.size := by omega
    clear fz0 fz1 fz2 fz3 fz4 hbb d0 d1 d2 d3 d4 c0 c1 c2 c3 c4 hw HB HNB
    go_wp2
    exact bodyPost_ret (v := .agg #[.int .i64 (4 * M - 2 + 1), .int .i64 (4 * M), .int .i64 (4 * M + 2), .int .i64 (-149 + k - 2), .bool t])
      (span_results rfl _ ((set5 w1 (w.heap.size + 1) _ _ _ _ _).alloc _) (w.heap.size + 1) _ _ _ _ _ rfl (keep_cell' ((Below.refl _ _).alloc (Nat.le_refl _) _) (set5_cells f0 f1 f2 f3 f4).1) (keep_cell' ((Below.refl _ _).alloc (Nat.le_refl _) _) (set5_cells f0 f1 f2 f3 f4).2.1) (keep_cell' ((Below.refl _ _).alloc (Nat.le_refl _) _) (set5_cells f0 f1 f2 f3 f4).2.2.1) (keep_cell' ((Below.refl _ _).alloc (Nat.le_refl _) _) (set5_cells f0 f1 f2 f3 f4).2.2.2.1) (keep_cell' ((Below.refl _ _).alloc (Nat.le_refl _) _) (set5_cells f0 f1 f2 f3 f4).2.2.2.2)) rfl
      (HFIN.out _ _ _ HLOW.out HTT.out ((set5_below HB1.out (by omega)).alloc (set5_below HB1.out (by omega)).size _))
  · have HLOW : Hid (4 * M - 2 = (lowS 23 a : Nat)) := by
      unfold Hid; rw [HLS.out, if_neg (by have := HMM.out; have := HMK.out.2.2; omega)]; have := HMM.out; omega
    by_cases hMN : M = 8388608
    · have hq1 : (M == 8388608) = true := by rw [hMN]; rfl
      have hq2 : ¬ 8388608 < A := by omega
      clear hbd HLS hMN hbo
      go_enter Tryz.func91, Tryz.ntmps91
      go_wp2_with fail
      have d0 : ((w.alloc (.cells #[.int .i64 23, .int .i64 127, .int .i64 8388608, .int .i64 2139095040, .int .i64 2147483648] 63)).alloc (.cells #[.int .i64 0, .int .i64 0, .int .i64 0, .int .i64 0, .bool false] 125)).cell? ⟨w.heap.size, 0, none⟩ = some (Value.int .i64 23) := by simp [go_sem]
      have d1 : ((w.alloc (.cells #[.int .i64 23, .int .i64 127, .int .i64 8388608, .int .i64 2139095040, .int .i64 2147483648] 63)).alloc (.cells #[.int .i64 0, .int .i64 0, .int .i64 0, .int .i64 0, .bool false] 125)).cell? ⟨w.heap.size, 1, none⟩ = some (Value.int .i64 127) := by simp [go_sem]
      have d2 : ((w.alloc (.cells #[.int .i64 23, .int .i64 127, .int .i64 8388608, .int .i64 2139095040, .int .i64 2147483648] 63)).alloc (.cells #[.int .i64 0, .int .i64 0, .int .i64 0, .int .i64 0, .bool false] 125)).cell? ⟨w.heap.size, 2, none⟩ = some (Value.int .i64 8388608) := by simp [go_sem]
      have d3 : ((w.alloc (.cells #[.int .i64 23, .int .i64 127, .int .i64 8388608, .int .i64 2139095040, .int .i64 2147483648] 63)).alloc (.cells #[.int .i64 0, .int .i64 0, .int .i64 0, .int .i64 0, .bool false] 125)).cell? ⟨w.heap.size, 3, none⟩ = some (Value.int .i64 2139095040) := by simp [go_sem]
      have d4 : ((w.alloc (.cells #[.int .i64 23, .int .i64 127, .int .i64 8388608, .int .i64 2139095040, .int .i64 2147483648] 63)).alloc (.cells #[.int .i64 0, .int .i64 0, .int .i64 0, .int .i64 0, .bool false] 125)).cell? ⟨w.heap.size, 4, none⟩ = some (Value.int .i64 2147483648) := by simp [go_sem]
      have c0 : ((w.alloc (.cells #[.int .i64 23, .int .i64 127, .int .i64 8388608, .int .i64 2139095040, .int .i64 2147483648] 63)).alloc (.cells #[.int .i64 0, .int .i64 0, .int .i64 0, .int .i64 0, .bool false] 125)).cell? ⟨w.heap.size + 1, 0, none⟩ = some (Value.int .i64 0) := by simp [go_sem]
      have c1 : ((w.alloc (.cells #[.int .i64 23, .int .i64 127, .int .i64 8388608, .int .i64 2139095040, .int .i64 2147483648] 63)).alloc (.cells #[.int .i64 0, .int .i64 0, .int .i64 0, .int .i64 0, .bool false] 125)).cell? ⟨w.heap.size + 1, 1, none⟩ = some (Value.int .i64 0) := by simp [go_sem]
      have c2 : ((w.alloc (.cells #[.int .i64 23, .int .i64 127, .int .i64 8388608, .int .i64 2139095040, .int .i64 2147483648] 63)).alloc (.cells #[.int .i64 0, .int .i64 0, .int .i64 0, .int .i64 0, .bool false] 125)).cell? ⟨w.heap.size + 1, 2, none⟩ = some (Value.int .i64 0) := by simp [go_sem]
      have c3 : ((w.alloc (.cells #[.int .i64 23, .int .i64 127, .int .i64 8388608, .int .i64 2139095040, .int .i64 2147483648] 63)).alloc (.cells #[.int .i64 0, .int .i64 0, .int .i64 0, .int .i64 0, .bool false] 125)).cell? ⟨w.heap.size + 1, 3, none⟩ = some (Value.int .i64 0) := by simp [go_sem]
      have c4 : ((w.alloc (.cells #[.int .i64 23, .int .i64 127, .int .i64 8388608, .int .i64 2139095040, .int .i64 2147483648] 63)).alloc (.cells #[.int .i64 0, .int .i64 0, .int .i64 0, .int .i64 0, .bool false] 125)).cell? ⟨w.heap.size + 1, 4, none⟩ = some (Value.bool false) := by simp [go_sem]
      have fz0 : ((w.alloc (.cells #[.int .i64 23, .int .i64 127, .int .i64 8388608, .int .i64 2139095040, .int .i64 2147483648] 63)).alloc (.cells #[.int .i64 0, .int .i64 0, .int .i64 0, .int .i64 0, .bool false] 125)).frozen? ⟨w.heap.size + 1, 0, none⟩ = false := by simp [go_sem]
      have fz1 : ((w.alloc (.cells #[.int .i64 23, .int .i64 127, .int .i64 8388608, .int .i64 2139095040, .int .i64 2147483648] 63)).alloc (.cells #[.int .i64 0, .int .i64 0, .int .i64 0, .int .i64 0, .bool false] 125)).frozen? ⟨w.heap.size + 1, 1, none⟩ = false := by simp [go_sem]
      have fz2 : ((w.alloc (.cells #[.int .i64 23, .int .i64 127, .int .i64 8388608, .int .i64 2139095040, .int .i64 2147483648] 63)).alloc (.cells #[.int .i64 0, .int .i64 0, .int .i64 0, .int .i64 0, .bool false] 125)).frozen? ⟨w.heap.size + 1, 2, none⟩ = false := by simp [go_sem]
      have fz3 : ((w.alloc (.cells #[.int .i64 23, .int .i64 127, .int .i64 8388608, .int .i64 2139095040, .int .i64 2147483648] 63)).alloc (.cells #[.int .i64 0, .int .i64 0, .int .i64 0, .int .i64 0, .bool false] 125)).frozen? ⟨w.heap.size + 1, 3, none⟩ = false := by simp [go_sem]
      have fz4 : ((w.alloc (.cells #[.int .i64 23, .int .i64 127, .int .i64 8388608, .int .i64 2139095040, .int .i64 2147483648] 63)).alloc (.cells #[.int .i64 0, .int .i64 0, .int .i64 0, .int .i64 0, .bool false] 125)).frozen? ⟨w.heap.size + 1, 4, none⟩ = false := by simp [go_sem]
      have HB : Hid (Below w.heap.size w ((w.alloc (.cells #[.int .i64 23, .int .i64 127, .int .i64 8388608, .int .i64 2139095040, .int .i64 2147483648] 63)).alloc (.cells #[.int .i64 0, .int .i64 0, .int .i64 0, .int .i64 0, .bool false] 125))) := ((Below.refl _ _).alloc (Nat.le_refl _) _).alloc (by simp) _
      have hw : w.heap.size + 1 < ((w.alloc (.cells #[.int .i64 23, .int .i64 127, .int .i64 8388608, .int .i64 2139095040, .int .i64 2147483648] 63)).alloc (.cells #[.int .i64 0, .int .i64 0, .int .i64 0, .int .i64 0, .bool false] 125)).heap.size := by simp
      generalize ((w.alloc (.cells #[.int .i64 23, .int .i64 127, .int .i64 8388608, .int .i64 2139095040, .int .i64 2147483648] 63)).alloc (.cells #[.int .i64 0, .int .i64 0, .int .i64 0, .int .i64 0, .bool false] 125)) = W at *
      refine (HNB.out W).mono ?_
      rintro r w1 ⟨rfl, hbb⟩
      have HB1 : Hid (Below w.heap.size w w1) := HB.out.trans (hbb.mono (by omega))
      have e2 := keep_cell' hbb d2
      have gz0 := (hbb.frozen (p := ⟨w.heap.size + 1, 0, none⟩) (by show w.heap.size + 1 < _; omega)).trans fz0
      have gz1 := (hbb.frozen (p := ⟨w.heap.size + 1, 1, none⟩) (by show w.heap.size + 1 < _; omega)).trans fz1
      have gz2 := (hbb.frozen (p := ⟨w.heap.size + 1, 2, none⟩) (by show w.heap.size + 1 < _; omega)).trans fz2
      have gz3 := (hbb.frozen (p := ⟨w.heap.size + 1, 3, none⟩) (by show w.heap.size + 1 < _; omega)).trans fz3
      have gz4 := (hbb.frozen (p := ⟨w.heap.size + 1, 4, none⟩) (by show w.heap.size + 1 < _; omega)).trans fz4
      have f0 := keep_cell' hbb c0
      have f1 := keep_cell' hbb c1
      have f2 := keep_cell' hbb c2
      have f3 := keep_cell' hbb c3
      have f4 := keep_cell' hbb c4
      have hw1 : w.heap.size + 1 < w1.heap.size := by have := hbb.size; omega
      have hw2 : w.heap.size < w1.heap.size := by omega
      clear fz0 fz1 fz2 fz3 fz4 hbb d0 d1 d2 d3 d4 c0 c1 c2 c3 c4 hw HB HNB
      go_wp2
      exact bodyPost_ret (v := .agg #[.int .i64 (4 * M - 2), .int .i64 (4 * M), .int .i64 (4 * M + 2), .int .i64 (-149 + k - 2), .bool t])
        (span_results rfl _ ((set5 w1 (w.heap.size + 1) _ _ _ _ _).alloc _) (w.heap.size + 1) _ _ _ _ _ rfl (keep_cell' ((Below.refl _ _).alloc (Nat.le_refl _) _) (set5_cells f0 f1 f2 f3 f4).1) (keep_cell' ((Below.refl _ _).alloc (Nat.le_refl _) _) (set5_cells f0 f1 f2 f3 f4).2.1) (keep_cell' ((Below.refl _ _).alloc (Nat.le_refl _) _) (set5_cells f0 f1 f2 f3 f4).2.2.1) (keep_cell' ((Below.refl _ _).alloc (Nat.le_refl _) _) (set5_cells f0 f1 f2 f3 f4).2.2.2.1) (keep_cell' ((Below.refl _ _).alloc (Nat.le_refl _) _) (set5_cells f0 f1 f2 f3 f4).2.2.2.2)) rfl
        (HFIN.out _ _ _ HLOW.out HTT.out ((set5_below HB1.out (by omega)).alloc (set5_below HB1.out (by omega)).size _))
    · have hq1 : (M == 8388608) = false := by rw [beq_eq_false_iff_ne]; exact hMN
      clear hbd HLS hMN hbo
      go_enter Tryz.func91, Tryz.ntmps91
      go_wp2_with fail
      have d0 : ((w.alloc (.cells #[.int .i64 23, .int .i64 127, .int .i64 8388608, .int .i64 2139095040, .int .i64 2147483648] 63)).alloc (.cells #[.int .i64 0, .int .i64 0, .int .i64 0, .int .i64 0, .bool false] 125)).cell? ⟨w.heap.size, 0, none⟩ = some (Value.int .i64 23) := by simp [go_sem]
      have d1 : ((w.alloc (.cells #[.int .i64 23, .int .i64 127, .int .i64 8388608, .int .i64 2139095040, .int .i64 2147483648] 63)).alloc (.cells #[.int .i64 0, .int .i64 0, .int .i64 0, .int .i64 0, .bool false] 125)).cell? ⟨w.heap.size, 1, none⟩ = some (Value.int .i64 127) := by simp [go_sem]
      have d2 : ((w.alloc (.cells #[.int .i64 23, .int .i64 127, .int .i64 8388608, .int .i64 2139095040, .int .i64 2147483648] 63)).alloc (.cells #[.int .i64 0, .int .i64 0, .int .i64 0, .int .i64 0, .bool false] 125)).cell? ⟨w.heap.size, 2, none⟩ = some (Value.int .i64 8388608) := by simp [go_sem]
      have d3 : ((w.alloc (.cells #[.int .i64 23, .int .i64 127, .int .i64 8388608, .int .i64 2139095040, .int .i64 2147483648] 63)).alloc (.cells #[.int .i64 0, .int .i64 0, .int .i64 0, .int .i64 0, .bool false] 125)).cell? ⟨w.heap.size, 3, none⟩ = some (Value.int .i64 2139095040) := by simp [go_sem]
      have d4 : ((w.alloc (.cells #[.int .i64 23, .int .i64 127, .int .i64 8388608, .int .i64 2139095040, .int .i64 2147483648] 63)).alloc (.cells #[.int .i64 0, .int .i64 0, .int .i64 0, .int .i64 0, .bool false] 125)).cell? ⟨w.heap.size, 4, none⟩ = some (Value.int .i64 2147483648) := by simp [go_sem]
      have c0 : ((w.alloc (.cells #[.int .i64 23, .int .i64 127, .int .i64 8388608, .int .i64 2139095040, .int .i64 2147483648] 63)).alloc (.cells #[.int .i64 0, .int .i64 0, .int .i64 0, .int .i64 0, .bool false] 125)).cell? ⟨w.heap.size + 1, 0, none⟩ = some (Value.int .i64 0) := by simp [go_sem]
      have c1 : ((w.alloc (.cells #[.int .i64 23, .int .i64 127, .int .i64 8388608, .int .i64 2139095040, .int .i64 2147483648] 63)).alloc (.cells #[.int .i64 0, .int .i64 0, .int .i64 0, .int .i64 0, .bool false] 125)).cell? ⟨w.heap.size + 1, 1, none⟩ = some (Value.int .i64 0) := by simp [go_sem]
      have c2 : ((w.alloc (.cells #[.int .i64 23, .int .i64 127, .int .i64 8388608, .int .i64 2139095040, .int .i64 2147483648] 63)).alloc (.cells #[.int .i64 0, .int .i64 0, .int .i64 0, .int .i64 0, .bool false] 125)).cell? ⟨w.heap.size + 1, 2, none⟩ = some (Value.int .i64 0) := by simp [go_sem]
      have c3 : ((w.alloc (.cells #[.int .i64 23, .int .i64 127, .int .i64 8388608, .int .i64 2139095040, .int .i64 2147483648] 63)).alloc (.cells #[.int .i64 0, .int .i64 0, .int .i64 0, .int .i64 0, .bool false] 125)).cell? ⟨w.heap.size + 1, 3, none⟩ = some (Value.int .i64 0) := by simp [go_sem]
      have c4 : ((w.alloc (.cells #[.int .i64 23, .int .i64 127, .int .i64 8388608, .int .i64 2139095040, .int .i64 2147483648] 63)).alloc (.cells #[.int .i64 0, .int .i64 0, .int .i64 0, .int .i64 0, .bool false] 125)).cell? ⟨w.heap.size + 1, 4, none⟩ = some (Value.bool false) := by simp [go_sem]
      have fz0 : ((w.alloc (.cells #[.int .i64 23, .int .i64 127, .int .i64 8388608, .int .i64 2139095040, .int .i64 2147483648] 63)).alloc (.cells #[.int .i64 0, .int .i64 0, .int .i64 0, .int .i64 0, .bool false] 125)).frozen? ⟨w.heap.size + 1, 0, none⟩ = false := by simp [go_sem]
      have fz1 : ((w.alloc (.cells #[.int .i64 23, .int .i64 127, .int .i64 8388608, .int .i64 2139095040, .int .i64 2147483648] 63)).alloc (.cells #[.int .i64 0, .int .i64 0, .int .i64 0, .int .i64 0, .bool false] 125)).frozen? ⟨w.heap.size + 1, 1, none⟩ = false := by simp [go_sem]
      have fz2 : ((w.alloc (.cells #[.int .i64 23, .int .i64 127, .int .i64 8388608, .int .i64 2139095040, .int .i64 2147483648] 63)).alloc (.cells #[.int .i64 0, .int .i64 0, .int .i64 0, .int .i64 0, .bool false] 125)).frozen? ⟨w.heap.size + 1, 2, none⟩ = false := by simp [go_sem]
      have fz3 : ((w.alloc (.cells #[.int .i64 23, .int .i64 127, .int .i64 8388608, .int .i64 2139095040, .int .i64 2147483648] 63)).alloc (.cells #[.int .i64 0, .int .i64 0, .int .i64 0, .int .i64 0, .bool false] 125)).frozen? ⟨w.heap.size + 1, 3, none⟩ = false := by simp [go_sem]
      have fz4 : ((w.alloc (.cells #[.int .i64 23, .int .i64 127, .int .i64 8388608, .int .i64 2139095040, .int .i64 2147483648] 63)).alloc (.cells #[.int .i64 0, .int .i64 0, .int .i64 0, .int .i64 0, .bool false] 125)).frozen? ⟨w.heap.size + 1, 4, none⟩ = false := by simp [go_sem]
      have HB : Hid (Below w.heap.size w ((w.alloc (.cells #[.int .i64 23, .int .i64 127, .int .i64 8388608, .int .i64 2139095040, .int .i64 2147483648] 63)).alloc (.cells #[.int .i64 0, .int .i64 0, .int .i64 0, .int .i64 0, .bool false] 125))) := ((Below.refl _ _).alloc (Nat.le_refl _) _).alloc (by simp) _
      have hw : w.heap.size + 1 < ((w.alloc (.cells #[.int .i64 23, .int .i64 127, .int .i64 8388608, .int .i64 2139095040, .int .i64 2147483648] 63)).alloc (.cells #[.int .i64 0, .int .i64 0, .int .i64 0, .int .i64 0, .bool false] 125)).heap.size := by simp
      generalize ((w.alloc (.cells #[.int .i64 23, .int .i64 127, .int .i64 8388608, .int .i64 2139095040, .int .i64 2147483648] 63)).alloc (.cells #[.int .i64 0, .int .i64 0, .int .i64 0, .int .i64 0, .bool false] 125)) = W at *
      refine (HNB.out W).mono ?_
      rintro r w1 ⟨rfl, hbb⟩
      have HB1 : Hid (Below w.heap.size w w1) := HB.out.trans (hbb.mono (by omega))
      have e2 := keep_cell' hbb d2
      have gz0 := (hbb.frozen (p := ⟨w.heap.size + 1, 0, none⟩) (by show w.heap.size + 1 < _; omega)).trans fz0
      have gz1 := (hbb.frozen (p := ⟨w.heap.size + 1, 1, none⟩) (by show w.heap.size + 1 < _; omega)).trans fz1
      have gz2 := (hbb.frozen (p := ⟨w.heap.size + 1, 2, none⟩) (by show w.heap.size + 1 < _; omega)).trans fz2
      have gz3 := (hbb.frozen (p := ⟨w.heap.size + 1, 3, none⟩) (by show w.heap.size + 1 < _; omega)).trans fz3
      have gz4 := (hbb.frozen (p := ⟨w.heap.size + 1, 4, none⟩) (by show w.heap.size + 1 < _; omega)).trans fz4
      have f0 := keep_cell' hbb c0
      have f1 := keep_cell' hbb c1
      have f2 := keep_cell' hbb c2
      have f3 := keep_cell' hbb c3
      have f4 := keep_cell' hbb c4
      have hw1 : w.heap.size + 1 < w1.heap.size := by have := hbb.size; omega
      have hw2 : w.heap.size < w1.heap.size := by omega
      clear fz0 fz1 fz2 fz3 fz4 hbb d0 d1 d2 d3 d4 c0 c1 c2 c3 c4 hw HB HNB
      go_wp2
      exact bodyPost_ret (v := .agg #[.int .i64 (4 * M - 2), .int .i64 (4 * M), .int .i64 (4 * M + 2), .int .i64 (-149 + k - 2), .bool t])
        (span_results rfl _ ((set5 w1 (w.heap.size + 1) _ _ _ _ _).alloc _) (w.heap.size + 1) _ _ _ _ _ rfl (keep_cell' ((Below.refl _ _).alloc (Nat.le_refl _) _) (set5_cells f0 f1 f2 f3 f4).1) (keep_cell' ((Below.refl _ _).alloc (Nat.le_refl _) _) (set5_cells f0 f1 f2 f3 f4).2.1) (keep_cell' ((Below.refl _ _).alloc (Nat.le_refl _) _) (set5_cells f0 f1 f2 f3 f4).2.2.1) (keep_cell' ((Below.refl _ _).alloc (Nat.le_refl _) _) (set5_cells f0 f1 f2 f3 f4).2.2.2.1) (keep_cell' ((Below.refl _ _).alloc (Nat.le_refl _) _) (set5_cells f0 f1 f2 f3 f4).2.2.2.2)) rfl
        (HFIN.out _ _ _ HLOW.out HTT.out ((set5_below HB1.out (by omega)).alloc (set5_below HB1.out (by omega)).size _))
set_option maxRecDepth 100000 in
set_option maxHeartbeats 1000000 in
theorem span2 (a : Nat) (h0 : 0 < a) (ha : (a : Int) < 9218868437227405312) (w : World) :
    Calls Tryz.prog 91 #[lay2, .int .i64 a] w fun r w' => SpanPost w w' r 52 a (-1074) := by
  have HNB := hid (fun w => number2 a ha w)
  have hxa : ((xA 52 a : Nat) : Int) ≤ 2100 := by
    unfold xA; rw [show (2 : Nat) ^ 52 = 4503599627370496 from by decide]; omega
  have hm1 := mA_lt 52 a
  rw [show (2 : Nat) ^ 52 = 4503599627370496 from by decide] at hm1
  have hm0 := mA_pos 52 a h0
  have HLS : Hid (lowS 52 a = if mA 52 a = 4503599627370496 ∧ 4503599627370496 < a then 4 * mA 52 a - 1 else 4 * mA 52 a - 2) := by
    unfold Hid lowS; rw [show (2 : Nat) ^ 52 = 4503599627370496 from by decide]
  obtain ⟨m, hm⟩ : ∃ m, m = mA 52 a := ⟨_, rfl⟩
  obtain ⟨k, hk⟩ : ∃ k : Nat, k = xA 52 a := ⟨_, rfl⟩
  obtain ⟨A, hA⟩ : ∃ A : Int, A = (a : Int) := ⟨_, rfl⟩
  have HMK := hid (And.intro hm (And.intro hk hA))
  rw [← hm, ← hk, ← hA] at HNB
  rw [← hm] at hm1 hm0 HLS
  rw [← hk] at hxa
  obtain ⟨M, hM⟩ : ∃ M : Int, M = (m : Int) := ⟨_, rfl⟩
  rw [← hM] at HNB
  have HMM := hid hM
  have hM1 : M < 2 * 4503599627370496 := by omega
  have hM0 : 0 < M := by omega
  have hA1 : 0 < A := by omega
  have hA2 : A < 9218868437227405312 := by omega
  have HFIN : Hid (∀ (low : Int) (bb : Bool) (w' : World), low = (lowS 52 a : Nat) → bb = decide (a % 2 = 0) → Below w.heap.size w w' → SpanPost w w' (.returned (.agg #[.int .i64 low, .int .i64 (4 * M), .int .i64 (4 * M + 2), .int .i64 (-1074 + k - 2), .bool bb])) 52 a (-1074)) := fun low bb w' hlow hbb hb =>
    span_post rfl hlow (by rw [HMM.out, ← HMK.out.1]; omega) (by rw [HMM.out, ← HMK.out.1]; omega) (by rw [← HMK.out.2.1]) hbb hb
  have HEV : Hid ((A % 2 == 0) = decide (a % 2 = 0)) := by
    unfold Hid; rw [Bool.eq_iff_iff]; simp; omega
  rw [← hA]
  obtain ⟨t, ht⟩ : ∃ t, t = decide (a % 2 = 0) := ⟨_, rfl⟩
  have HTT := hid ht
  have hev : (A % 2 == 0) = t := by rw [ht]; exact HEV.out
  have hbd : (M == 4503599627370496 && decide (4503599627370496 < A)) = decide (mA 52 a = 4503599627370496 ∧ 4503599627370496 < a) := by
    rw [← hm, Bool.eq_iff_iff]; simp; omega
  clear ha hm hk hA hM hm1 hm0 h0 ht HEV
  unfold lay2 at *
  have tm : A.tmod 2 = A % 2 := Int.tmod_eq_emod_of_nonneg (by omega)
  by_cases hbo : M = 4503599627370496 ∧ 4503599627370496 < A
  · obtain ⟨hb1, hb2⟩ := hbo
    have HLOW : Hid (4 * M - 2 + 1 = (lowS 52 a : Nat)) := by
      unfold Hid; rw [HLS.out, if_pos (by have := HMM.out; have := HMK.out.2.2; omega)]; have := HMM.out; omega
    have hq1 : (M == 4503599627370496) = true := by rw [hb1]; rfl
    clear hbd HLS hb1
    go_enter Tryz.func91, Tryz.ntmps91
    go_wp2_with fail
    have d0 : ((w.alloc (.cells #[.int .i64 52, .int .i64 1023, .int .i64 4503599627370496, .int .i64 9218868437227405312, .int .i64 (-9223372036854775808)] 63)).alloc (.cells #[.int .i64 0, .int .i64 0, .int .i64 0, .int .i64 0, .bool false] 125)).cell? ⟨w.heap.size, 0, none⟩ = some (Value.int .i64 52) := by simp [go_sem]
    have d1 : ((w.alloc (.cells #[.int .i64 52, .int .i64 1023, .int .i64 4503599627370496, .int .i64 9218868437227405312, .int .i64 (-9223372036854775808)] 63)).alloc (.cells #[.int .i64 0, .int .i64 0, .int .i64 0, .int .i64 0, .bool false] 125)).cell? ⟨w.heap.size, 1, none⟩ = some (Value.int .i64 1023) := by simp [go_sem]
    have d2 : ((w.alloc (.cells #[.int .i64 52, .int .i64 1023, .int .i64 4503599627370496, .int .i64 9218868437227405312, .int .i64 (-9223372036854775808)] 63)).alloc (.cells #[.int .i64 0, .int .i64 0, .int .i64 0, .int .i64 0, .bool false] 125)).cell? ⟨w.heap.size, 2, none⟩ = some (Value.int .i64 4503599627370496) := by simp [go_sem]
    have d3 : ((w.alloc (.cells #[.int .i64 52, .int .i64 1023, .int .i64 4503599627370496, .int .i64 9218868437227405312, .int .i64 (-9223372036854775808)] 63)).alloc (.cells #[.int .i64 0, .int .i64 0, .int .i64 0, .int .i64 0, .bool false] 125)).cell? ⟨w.heap.size, 3, none⟩ = some (Value.int .i64 9218868437227405312) := by simp [go_sem]
    have d4 : ((w.alloc (.cells #[.int .i64 52, .int .i64 1023, .int .i64 4503599627370496, .int .i64 9218868437227405312, .int .i64 (-9223372036854775808)] 63)).alloc (.cells #[.int .i64 0, .int .i64 0, .int .i64 0, .int .i64 0, .bool false] 125)).cell? ⟨w.heap.size, 4, none⟩ = some (Value.int .i64 (-9223372036854775808)) := by simp [go_sem]
    have c0 : ((w.alloc (.cells #[.int .i64 52, .int .i64 1023, .int .i64 4503599627370496, .int .i64 9218868437227405312, .int .i64 (-9223372036854775808)] 63)).alloc (.cells #[.int .i64 0, .int .i64 0, .int .i64 0, .int .i64 0, .bool false] 125)).cell? ⟨w.heap.size + 1, 0, none⟩ = some (Value.int .i64 0) := by simp [go_sem]
    have c1 : ((w.alloc (.cells #[.int .i64 52, .int .i64 1023, .int .i64 4503599627370496, .int .i64 9218868437227405312, .int .i64 (-9223372036854775808)] 63)).alloc (.cells #[.int .i64 0, .int .i64 0, .int .i64 0, .int .i64 0, .bool false] 125)).cell? ⟨w.heap.size + 1, 1, none⟩ = some (Value.int .i64 0) := by simp [go_sem]
    have c2 : ((w.alloc (.cells #[.int .i64 52, .int .i64 1023, .int .i64 4503599627370496, .int .i64 9218868437227405312, .int .i64 (-9223372036854775808)] 63)).alloc (.cells #[.int .i64 0, .int .i64 0, .int .i64 0, .int .i64 0, .bool false] 125)).cell? ⟨w.heap.size + 1, 2, none⟩ = some (Value.int .i64 0) := by simp [go_sem]
    have c3 : ((w.alloc (.cells #[.int .i64 52, .int .i64 1023, .int .i64 4503599627370496, .int .i64 9218868437227405312, .int .i64 (-9223372036854775808)] 63)).alloc (.cells #[.int .i64 0, .int .i64 0, .int .i64 0, .int .i64 0, .bool false] 125)).cell? ⟨w.heap.size + 1, 3, none⟩ = some (Value.int .i64 0) := by simp [go_sem]
    have c4 : ((w.alloc (.cells #[.int .i64 52, .int .i64 1023, .int .i64 4503599627370496, .int .i64 9218868437227405312, .int .i64 (-9223372036854775808)] 63)).alloc (.cells #[.int .i64 0, .int .i64 0, .int .i64 0, .int .i64 0, .bool false] 125)).cell? ⟨w.heap.size + 1, 4, none⟩ = some (Value.bool false) := by simp [go_sem]
    have fz0 : ((w.alloc (.cells #[.int .i64 52, .int .i64 1023, .int .i64 4503599627370496, .int .i64 9218868437227405312, .int .i64 (-9223372036854775808)] 63)).alloc (.cells #[.int .i64 0, .int .i64 0, .int .i64 0, .int .i64 0, .bool false] 125)).frozen? ⟨w.heap.size + 1, 0, none⟩ = false := by simp [go_sem]
    have fz1 : ((w.alloc (.cells #[.int .i64 52, .int .i64 1023, .int .i64 4503599627370496, .int .i64 9218868437227405312, .int .i64 (-9223372036854775808)] 63)).alloc (.cells #[.int .i64 0, .int .i64 0, .int .i64 0, .int .i64 0, .bool false] 125)).frozen? ⟨w.heap.size + 1, 1, none⟩ = false := by simp [go_sem]
    have fz2 : ((w.alloc (.cells #[.int .i64 52, .int .i64 1023, .int .i64 4503599627370496, .int .i64 9218868437227405312, .int .i64 (-9223372036854775808)] 63)).alloc (.cells #[.int .i64 0, .int .i64 0, .int .i64 0, .int .i64 0, .bool false] 125)).frozen? ⟨w.heap.size + 1, 2, none⟩ = false := by simp [go_sem]
    have fz3 : ((w.alloc (.cells #[.int .i64 52, .int .i64 1023, .int .i64 4503599627370496, .int .i64 9218868437227405312, .int .i64 (-9223372036854775808)] 63)).alloc (.cells #[.int .i64 0, .int .i64 0, .int .i64 0, .int .i64 0, .bool false] 125)).frozen? ⟨w.heap.size + 1, 3, none⟩ = false := by simp [go_sem]
    have fz4 : ((w.alloc (.cells #[.int .i64 52, .int .i64 1023, .int .i64 4503599627370496, .int .i64 9218868437227405312, .int .i64 (-9223372036854775808)] 63)).alloc (.cells #[.int .i64 0, .int .i64 0, .int .i64 0, .int .i64 0, .bool false] 125)).frozen? ⟨w.heap.size + 1, 4, none⟩ = false := by simp [go_sem]
    have HB : Hid (Below w.heap.size w ((w.alloc (.cells #[.int .i64 52, .int .i64 1023, .int .i64 4503599627370496, .int .i64 9218868437227405312, .int .i64 (-9223372036854775808)] 63)).alloc (.cells #[.int .i64 0, .int .i64 0, .int .i64 0, .int .i64 0, .bool false] 125))) := ((Below.refl _ _).alloc (Nat.le_refl _) _).alloc (by simp) _
    have hw : w.heap.size + 1 < ((w.alloc (.cells #[.int .i64 52, .int .i64 1023, .int .i64 4503599627370496, .int .i64 9218868437227405312, .int .i64 (-9223372036854775808)] 63)).alloc (.cells #[.int .i64 0, .int .i64 0, .int .i64 0, .int .i64 0, .bool false] 125)).heap.size := by simp
    generalize ((w.alloc (.cells #[.int .i64 52, .int .i64 1023, .int .i64 4503599627370496, .int .i64 9218868437227405312, .int .i64 (-9223372036854775808)] 63)).alloc (.cells #[.int .i64 0, .int .i64 0, .int .i64 0, .int .i64 0, .bool false] 125)) = W at *
    refine (HNB.out W).mono ?_
    rintro r w1 ⟨rfl, hbb⟩
    have HB1 : Hid (Below w.heap.size w w1) := HB.out.trans (hbb.mono (by omega))
    have e2 := keep_cell' hbb d2
    have gz0 := (hbb.frozen (p := ⟨w.heap.size + 1, 0, none⟩) (by show w.heap.size + 1 < _; omega)).trans fz0
    have gz1 := (hbb.frozen (p := ⟨w.heap.size + 1, 1, none⟩) (by show w.heap.size + 1 < _; omega)).trans fz1
    have gz2 := (hbb.frozen (p := ⟨w.heap.size + 1, 2, none⟩) (by show w.heap.size + 1 < _; omega)).trans fz2
    have gz3 := (hbb.frozen (p := ⟨w.heap.size + 1, 3, none⟩) (by show w.heap.size + 1 < _; omega)).trans fz3
    have gz4 := (hbb.frozen (p := ⟨w.heap.size + 1, 4, none⟩) (by show w.heap.size + 1 < _; omega)).trans fz4
    have f0 := keep_cell' hbb c0
    have f1 := keep_cell' hbb c1
    have f2 := keep_cell' hbb c2
    have f3 := keep_cell' hbb c3
    have f4 := keep_cell' hbb c4
    have hw1 : w.heap.size + 1 < w1.heap.size := by have := hbb.size; omega
    have hw2 : w.heap.size < w1.heap.size := by omega
    clear fz0 fz1 fz2 fz3 fz4 hbb d0 d1 d2 d3 d4 c0 c1 c2 c3 c4 hw HB HNB
    go_wp2
    exact bodyPost_ret (v := .agg #[.int .i64 (4 * M - 2 + 1), .int .i64 (4 * M), .int .i64 (4 * M + 2), .int .i64 (-1074 + k - 2), .bool t])
      (span_results rfl _ ((set5 w1 (w.heap.size + 1) _ _ _ _ _).alloc _) (w.heap.size + 1) _ _ _ _ _ rfl (keep_cell' ((Below.refl _ _).alloc (Nat.le_refl _) _) (set5_cells f0 f1 f2 f3 f4).1) (keep_cell' ((Below.refl _ _).alloc (Nat.le_refl _) _) (set5_cells f0 f1 f2 f3 f4).2.1) (keep_cell' ((Below.refl _ _).alloc (Nat.le_refl _) _) (set5_cells f0 f1 f2 f3 f4).2.2.1) (keep_cell' ((Below.refl _ _).alloc (Nat.le_refl _) _) (set5_cells f0 f1 f2 f3 f4).2.2.2.1) (keep_cell' ((Below.refl _ _).alloc (Nat.le_refl _) _) (set5_cells f0 f1 f2 f3 f4).2.2.2.2)) rfl
      (HFIN.out _ _ _ HLOW.out HTT.out ((set5_below HB1.out (by omega)).alloc (set5_below HB1.out (by omega)).size _))
  · have HLOW : Hid (4 * M - 2 = (lowS 52 a : Nat)) := by
      unfold Hid; rw [HLS.out, if_neg (by have := HMM.out; have := HMK.out.2.2; omega)]; have := HMM.out; omega
    by_cases hMN : M = 4503599627370496
    · have hq1 : (M == 4503599627370496) = true := by rw [hMN]; rfl
      have hq2 : ¬ 4503599627370496 < A := by omega
      clear hbd HLS hMN hbo
      go_enter Tryz.func91, Tryz.ntmps91
      go_wp2_with fail
      have d0 : ((w.alloc (.cells #[.int .i64 52, .int .i64 1023, .int .i64 4503599627370496, .int .i64 9218868437227405312, .int .i64 (-9223372036854775808)] 63)).alloc (.cells #[.int .i64 0, .int .i64 0, .int .i64 0, .int .i64 0, .bool false] 125)).cell? ⟨w.heap.size, 0, none⟩ = some (Value.int .i64 52) := by simp [go_sem]
      have d1 : ((w.alloc (.cells #[.int .i64 52, .int .i64 1023, .int .i64 4503599627370496, .int .i64 9218868437227405312, .int .i64 (-9223372036854775808)] 63)).alloc (.cells #[.int .i64 0, .int .i64 0, .int .i64 0, .int .i64 0, .bool false] 125)).cell? ⟨w.heap.size, 1, none⟩ = some (Value.int .i64 1023) := by simp [go_sem]
      have d2 : ((w.alloc (.cells #[.int .i64 52, .int .i64 1023, .int .i64 4503599627370496, .int .i64 9218868437227405312, .int .i64 (-9223372036854775808)] 63)).alloc (.cells #[.int .i64 0, .int .i64 0, .int .i64 0, .int .i64 0, .bool false] 125)).cell? ⟨w.heap.size, 2, none⟩ = some (Value.int .i64 4503599627370496) := by simp [go_sem]
      have d3 : ((w.alloc (.cells #[.int .i64 52, .int .i64 1023, .int .i64 4503599627370496, .int .i64 9218868437227405312, .int .i64 (-9223372036854775808)] 63)).alloc (.cells #[.int .i64 0, .int .i64 0, .int .i64 0, .int .i64 0, .bool false] 125)).cell? ⟨w.heap.size, 3, none⟩ = some (Value.int .i64 9218868437227405312) := by simp [go_sem]
      have d4 : ((w.alloc (.cells #[.int .i64 52, .int .i64 1023, .int .i64 4503599627370496, .int .i64 9218868437227405312, .int .i64 (-9223372036854775808)] 63)).alloc (.cells #[.int .i64 0, .int .i64 0, .int .i64 0, .int .i64 0, .bool false] 125)).cell? ⟨w.heap.size, 4, none⟩ = some (Value.int .i64 (-9223372036854775808)) := by simp [go_sem]
      have c0 : ((w.alloc (.cells #[.int .i64 52, .int .i64 1023, .int .i64 4503599627370496, .int .i64 9218868437227405312, .int .i64 (-9223372036854775808)] 63)).alloc (.cells #[.int .i64 0, .int .i64 0, .int .i64 0, .int .i64 0, .bool false] 125)).cell? ⟨w.heap.size + 1, 0, none⟩ = some (Value.int .i64 0) := by simp [go_sem]
      have c1 : ((w.alloc (.cells #[.int .i64 52, .int .i64 1023, .int .i64 4503599627370496, .int .i64 9218868437227405312, .int .i64 (-9223372036854775808)] 63)).alloc (.cells #[.int .i64 0, .int .i64 0, .int .i64 0, .int .i64 0, .bool false] 125)).cell? ⟨w.heap.size + 1, 1, none⟩ = some (Value.int .i64 0) := by simp [go_sem]
      have c2 : ((w.alloc (.cells #[.int .i64 52, .int .i64 1023, .int .i64 4503599627370496, .int .i64 9218868437227405312, .int .i64 (-9223372036854775808)] 63)).alloc (.cells #[.int .i64 0, .int .i64 0, .int .i64 0, .int .i64 0, .bool false] 125)).cell? ⟨w.heap.size + 1, 2, none⟩ = some (Value.int .i64 0) := by simp [go_sem]
      have c3 : ((w.alloc (.cells #[.int .i64 52, .int .i64 1023, .int .i64 4503599627370496, .int .i64 9218868437227405312, .int .i64 (-9223372036854775808)] 63)).alloc (.cells #[.int .i64 0, .int .i64 0, .int .i64 0, .int .i64 0, .bool false] 125)).cell? ⟨w.heap.size + 1, 3, none⟩ = some (Value.int .i64 0) := by simp [go_sem]
      have c4 : ((w.alloc (.cells #[.int .i64 52, .int .i64 1023, .int .i64 4503599627370496, .int .i64 9218868437227405312, .int .i64 (-9223372036854775808)] 63)).alloc (.cells #[.int .i64 0, .int .i64 0, .int .i64 0, .int .i64 0, .bool false] 125)).cell? ⟨w.heap.size + 1, 4, none⟩ = some (Value.bool false) := by simp [go_sem]
      have fz0 : ((w.alloc (.cells #[.int .i64 52, .int .i64 1023, .int .i64 4503599627370496, .int .i64 9218868437227405312, .int .i64 (-9223372036854775808)] 63)).alloc (.cells #[.int .i64 0, .int .i64 0, .int .i64 0, .int .i64 0, .bool false] 125)).frozen? ⟨w.heap.size + 1, 0, none⟩ = false := by simp [go_sem]
      have fz1 : ((w.alloc (.cells #[.int .i64 52, .int .i64 1023, .int .i64 4503599627370496, .int .i64 9218868437227405312, .int .i64 (-9223372036854775808)] 63)).alloc (.cells #[.int .i64 0, .int .i64 0, .int .i64 0, .int .i64 0, .bool false] 125)).frozen? ⟨w.heap.size + 1, 1, none⟩ = false := by simp [go_sem]
      have fz2 : ((w.alloc (.cells #[.int .i64 52, .int .i64 1023, .int .i64 4503599627370496, .int .i64 9218868437227405312, .int .i64 (-9223372036854775808)] 63)).alloc (.cells #[.int .i64 0, .int .i64 0, .int .i64 0, .int .i64 0, .bool false] 125)).frozen? ⟨w.heap.size + 1, 2, none⟩ = false := by simp [go_sem]
      have fz3 : ((w.alloc (.cells #[.int .i64 52, .int .i64 1023, .int .i64 4503599627370496, .int .i64 9218868437227405312, .int .i64 (-9223372036854775808)] 63)).alloc (.cells #[.int .i64 0, .int .i64 0, .int .i64 0, .int .i64 0, .bool false] 125)).frozen? ⟨w.heap.size + 1, 3, none⟩ = false := by simp [go_sem]
      have fz4 : ((w.alloc (.cells #[.int .i64 52, .int .i64 1023, .int .i64 4503599627370496, .int .i64 9218868437227405312, .int .i64 (-9223372036854775808)] 63)).alloc (.cells #[.int .i64 0, .int .i64 0, .int .i64 0, .int .i64 0, .bool false] 125)).frozen? ⟨w.heap.size + 1, 4, none⟩ = false := by simp [go_sem]
      have HB : Hid (Below w.heap.size w ((w.alloc (.cells #[.int .i64 52, .int .i64 1023, .int .i64 4503599627370496, .int .i64 9218868437227405312, .int .i64 (-9223372036854775808)] 63)).alloc (.cells #[.int .i64 0, .int .i64 0, .int .i64 0, .int .i64 0, .bool false] 125))) := ((Below.refl _ _).alloc (Nat.le_refl _) _).alloc (by simp) _
      have hw : w.heap.size + 1 < ((w.alloc (.cells #[.int .i64 52, .int .i64 1023, .int .i64 4503599627370496, .int .i64 9218868437227405312, .int .i64 (-9223372036854775808)] 63)).alloc (.cells #[.int .i64 0, .int .i64 0, .int .i64 0, .int .i64 0, .bool false] 125)).heap.size := by simp
      generalize ((w.alloc (.cells #[.int .i64 52, .int .i64 1023, .int .i64 4503599627370496, .int .i64 9218868437227405312, .int .i64 (-9223372036854775808)] 63)).alloc (.cells #[.int .i64 0, .int .i64 0, .int .i64 0, .int .i64 0, .bool false] 125)) = W at *
      refine (HNB.out W).mono ?_
      rintro r w1 ⟨rfl, hbb⟩
      have HB1 : Hid (Below w.heap.size w w1) := HB.out.trans (hbb.mono (by omega))
      have e2 := keep_cell' hbb d2
      have gz0 := (hbb.frozen (p := ⟨w.heap.size + 1, 0, none⟩) (by show w.heap.size + 1 < _; omega)).trans fz0
      have gz1 := (hbb.frozen (p := ⟨w.heap.size + 1, 1, none⟩) (by show w.heap.size + 1 < _; omega)).trans fz1
      have gz2 := (hbb.frozen (p := ⟨w.heap.size + 1, 2, none⟩) (by show w.heap.size + 1 < _; omega)).trans fz2
      have gz3 := (hbb.frozen (p := ⟨w.heap.size + 1, 3, none⟩) (by show w.heap.size + 1 < _; omega)).trans fz3
      have gz4 := (hbb.frozen (p := ⟨w.heap.size + 1, 4, none⟩) (by show w.heap.size + 1 < _; omega)).trans fz4
      have f0 := keep_cell' hbb c0
      have f1 := keep_cell' hbb c1
      have f2 := keep_cell' hbb c2
      have f3 := keep_cell' hbb c3
      have f4 := keep_cell' hbb c4
      have hw1 : w.heap.size + 1 < w1.heap.size := by have := hbb.size; omega
      have hw2 : w.heap.size < w1.heap.size := by omega
      clear fz0 fz1 fz2 fz3 fz4 hbb d0 d1 d2 d3 d4 c0 c1 c2 c3 c4 hw HB HNB
      go_wp2
      exact bodyPost_ret (v := .agg #[.int .i64 (4 * M - 2), .int .i64 (4 * M), .int .i64 (4 * M + 2), .int .i64 (-1074 + k - 2), .bool t])
        (span_results rfl _ ((set5 w1 (w.heap.size + 1) _ _ _ _ _).alloc _) (w.heap.size + 1) _ _ _ _ _ rfl (keep_cell' ((Below.refl _ _).alloc (Nat.le_refl _) _) (set5_cells f0 f1 f2 f3 f4).1) (keep_cell' ((Below.refl _ _).alloc (Nat.le_refl _) _) (set5_cells f0 f1 f2 f3 f4).2.1) (keep_cell' ((Below.refl _ _).alloc (Nat.le_refl _) _) (set5_cells f0 f1 f2 f3 f4).2.2.1) (keep_cell' ((Below.refl _ _).alloc (Nat.le_refl _) _) (set5_cells f0 f1 f2 f3 f4).2.2.2.1) (keep_cell' ((Below.refl _ _).alloc (Nat.le_refl _) _) (set5_cells f0 f1 f2 f3 f4).2.2.2.2)) rfl
        (HFIN.out _ _ _ HLOW.out HTT.out ((set5_below HB1.out (by omega)).alloc (set5_below HB1.out (by omega)).size _))
    · have hq1 : (M == 4503599627370496) = false := by rw [beq_eq_false_iff_ne]; exact hMN
      clear hbd HLS hMN hbo
      go_enter Tryz.func91, Tryz.ntmps91
      go_wp2_with fail
      have d0 : ((w.alloc (.cells #[.int .i64 52, .int .i64 1023, .int .i64 4503599627370496, .int .i64 9218868437227405312, .int .i64 (-9223372036854775808)] 63)).alloc (.cells #[.int .i64 0, .int .i64 0, .int .i64 0, .int .i64 0, .bool false] 125)).cell? ⟨w.heap.size, 0, none⟩ = some (Value.int .i64 52) := by simp [go_sem]
      have d1 : ((w.alloc (.cells #[.int .i64 52, .int .i64 1023, .int .i64 4503599627370496, .int .i64 9218868437227405312, .int .i64 (-9223372036854775808)] 63)).alloc (.cells #[.int .i64 0, .int .i64 0, .int .i64 0, .int .i64 0, .bool false] 125)).cell? ⟨w.heap.size, 1, none⟩ = some (Value.int .i64 1023) := by simp [go_sem]
      have d2 : ((w.alloc (.cells #[.int .i64 52, .int .i64 1023, .int .i64 4503599627370496, .int .i64 9218868437227405312, .int .i64 (-9223372036854775808)] 63)).alloc (.cells #[.int .i64 0, .int .i64 0, .int .i64 0, .int .i64 0, .bool false] 125)).cell? ⟨w.heap.size, 2, none⟩ = some (Value.int .i64 4503599627370496) := by simp [go_sem]
      have d3 : ((w.alloc (.cells #[.int .i64 52, .int .i64 1023, .int .i64 4503599627370496, .int .i64 9218868437227405312, .int .i64 (-9223372036854775808)] 63)).alloc (.cells #[.int .i64 0, .int .i64 0, .int .i64 0, .int .i64 0, .bool false] 125)).cell? ⟨w.heap.size, 3, none⟩ = some (Value.int .i64 9218868437227405312) := by simp [go_sem]
      have d4 : ((w.alloc (.cells #[.int .i64 52, .int .i64 1023, .int .i64 4503599627370496, .int .i64 9218868437227405312, .int .i64 (-9223372036854775808)] 63)).alloc (.cells #[.int .i64 0, .int .i64 0, .int .i64 0, .int .i64 0, .bool false] 125)).cell? ⟨w.heap.size, 4, none⟩ = some (Value.int .i64 (-9223372036854775808)) := by simp [go_sem]
      have c0 : ((w.alloc (.cells #[.int .i64 52, .int .i64 1023, .int .i64 4503599627370496, .int .i64 9218868437227405312, .int .i64 (-9223372036854775808)] 63)).alloc (.cells #[.int .i64 0, .int .i64 0, .int .i64 0, .int .i64 0, .bool false] 125)).cell? ⟨w.heap.size + 1, 0, none⟩ = some (Value.int .i64 0) := by simp [go_sem]
      have c1 : ((w.alloc (.cells #[.int .i64 52, .int .i64 1023, .int .i64 4503599627370496, .int .i64 9218868437227405312, .int .i64 (-9223372036854775808)] 63)).alloc (.cells #[.int .i64 0, .int .i64 0, .int .i64 0, .int .i64 0, .bool false] 125)).cell? ⟨w.heap.size + 1, 1, none⟩ = some (Value.int .i64 0) := by simp [go_sem]
      have c2 : ((w.alloc (.cells #[.int .i64 52, .int .i64 1023, .int .i64 4503599627370496, .int .i64 9218868437227405312, .int .i64 (-9223372036854775808)] 63)).alloc (.cells #[.int .i64 0, .int .i64 0, .int .i64 0, .int .i64 0, .bool false] 125)).cell? ⟨w.heap.size + 1, 2, none⟩ = some (Value.int .i64 0) := by simp [go_sem]
      have c3 : ((w.alloc (.cells #[.int .i64 52, .int .i64 1023, .int .i64 4503599627370496, .int .i64 9218868437227405312, .int .i64 (-9223372036854775808)] 63)).alloc (.cells #[.int .i64 0, .int .i64 0, .int .i64 0, .int .i64 0, .bool false] 125)).cell? ⟨w.heap.size + 1, 3, none⟩ = some (Value.int .i64 0) := by simp [go_sem]
      have c4 : ((w.alloc (.cells #[.int .i64 52, .int .i64 1023, .int .i64 4503599627370496, .int .i64 9218868437227405312, .int .i64 (-9223372036854775808)] 63)).alloc (.cells #[.int .i64 0, .int .i64 0, .int .i64 0, .int .i64 0, .bool false] 125)).cell? ⟨w.heap.size + 1, 4, none⟩ = some (Value.bool false) := by simp [go_sem]
      have fz0 : ((w.alloc (.cells #[.int .i64 52, .int .i64 1023, .int .i64 4503599627370496, .int .i64 9218868437227405312, .int .i64 (-9223372036854775808)] 63)).alloc (.cells #[.int .i64 0, .int .i64 0, .int .i64 0, .int .i64 0, .bool false] 125)).frozen? ⟨w.heap.size + 1, 0, none⟩ = false := by simp [go_sem]
      have fz1 : ((w.alloc (.cells #[.int .i64 52, .int .i64 1023, .int .i64 4503599627370496, .int .i64 9218868437227405312, .int .i64 (-9223372036854775808)] 63)).alloc (.cells #[.int .i64 0, .int .i64 0, .int .i64 0, .int .i64 0, .bool false] 125)).frozen? ⟨w.heap.size + 1, 1, none⟩ = false := by simp [go_sem]
      have fz2 : ((w.alloc (.cells #[.int .i64 52, .int .i64 1023, .int .i64 4503599627370496, .int .i64 9218868437227405312, .int .i64 (-9223372036854775808)] 63)).alloc (.cells #[.int .i64 0, .int .i64 0, .int .i64 0, .int .i64 0, .bool false] 125)).frozen? ⟨w.heap.size + 1, 2, none⟩ = false := by simp [go_sem]
      have fz3 : ((w.alloc (.cells #[.int .i64 52, .int .i64 1023, .int .i64 4503599627370496, .int .i64 9218868437227405312, .int .i64 (-9223372036854775808)] 63)).alloc (.cells #[.int .i64 0, .int .i64 0, .int .i64 0, .int .i64 0, .bool false] 125)).frozen? ⟨w.heap.size + 1, 3, none⟩ = false := by simp [go_sem]
      have fz4 : ((w.alloc (.cells #[.int .i64 52, .int .i64 1023, .int .i64 4503599627370496, .int .i64 9218868437227405312, .int .i64 (-9223372036854775808)] 63)).alloc (.cells #[.int .i64 0, .int .i64 0, .int .i64 0, .int .i64 0, .bool false] 125)).frozen? ⟨w.heap.size + 1, 4, none⟩ = false := by simp [go_sem]
      have HB : Hid (Below w.heap.size w ((w.alloc (.cells #[.int .i64 52, .int .i64 1023, .int .i64 4503599627370496, .int .i64 9218868437227405312, .int .i64 (-9223372036854775808)] 63)).alloc (.cells #[.int .i64 0, .int .i64 0, .int .i64 0, .int .i64 0, .bool false] 125))) := ((Below.refl _ _).alloc (Nat.le_refl _) _).alloc (by simp) _
      have hw : w.heap.size + 1 < ((w.alloc (.cells #[.int .i64 52, .int .i64 1023, .int .i64 4503599627370496, .int .i64 9218868437227405312, .int .i64 (-9223372036854775808)] 63)).alloc (.cells #[.int .i64 0, .int .i64 0, .int .i64 0, .int .i64 0, .bool false] 125)).heap.size := by simp
      generalize ((w.alloc (.cells #[.int .i64 52, .int .i64 1023, .int .i64 4503599627370496, .int .i64 9218868437227405312, .int .i64 (-9223372036854775808)] 63)).alloc (.cells #[.int .i64 0, .int .i64 0, .int .i64 0, .int .i64 0, .bool false] 125)) = W at *
      refine (HNB.out W).mono ?_
      rintro r w1 ⟨rfl, hbb⟩
      have HB1 : Hid (Below w.heap.size w w1) := HB.out.trans (hbb.mono (by omega))
      have e2 := keep_cell' hbb d2
      have gz0 := (hbb.frozen (p := ⟨w.heap.size + 1, 0, none⟩) (by show w.heap.size + 1 < _; omega)).trans fz0
      have gz1 := (hbb.frozen (p := ⟨w.heap.size + 1, 1, none⟩) (by show w.heap.size + 1 < _; omega)).trans fz1
      have gz2 := (hbb.frozen (p := ⟨w.heap.size + 1, 2, none⟩) (by show w.heap.size + 1 < _; omega)).trans fz2
      have gz3 := (hbb.frozen (p := ⟨w.heap.size + 1, 3, none⟩) (by show w.heap.size + 1 < _; omega)).trans fz3
      have gz4 := (hbb.frozen (p := ⟨w.heap.size + 1, 4, none⟩) (by show w.heap.size + 1 < _; omega)).trans fz4
      have f0 := keep_cell' hbb c0
      have f1 := keep_cell' hbb c1
      have f2 := keep_cell' hbb c2
      have f3 := keep_cell' hbb c3
      have f4 := keep_cell' hbb c4
      have hw1 : w.heap.size + 1 < w1.heap.size := by have := hbb.size; omega
      have hw2 : w.heap.size < w1.heap.size := by omega
      clear fz0 fz1 fz2 fz3 fz4 hbb d0 d1 d2 d3 d4 c0 c1 c2 c3 c4 hw HB HNB
      go_wp2
      exact bodyPost_ret (v := .agg #[.int .i64 (4 * M - 2), .int .i64 (4 * M), .int .i64 (4 * M + 2), .int .i64 (-1074 + k - 2), .bool t])
        (span_results rfl _ ((set5 w1 (w.heap.size + 1) _ _ _ _ _).alloc _) (w.heap.size + 1) _ _ _ _ _ rfl (keep_cell' ((Below.refl _ _).alloc (Nat.le_refl _) _) (set5_cells f0 f1 f2 f3 f4).1) (keep_cell' ((Below.refl _ _).alloc (Nat.le_refl _) _) (set5_cells f0 f1 f2 f3 f4).2.1) (keep_cell' ((Below.refl _ _).alloc (Nat.le_refl _) _) (set5_cells f0 f1 f2 f3 f4).2.2.1) (keep_cell' ((Below.refl _ _).alloc (Nat.le_refl _) _) (set5_cells f0 f1 f2 f3 f4).2.2.2.1) (keep_cell' ((Below.refl _ _).alloc (Nat.le_refl _) _) (set5_cells f0 f1 f2 f3 f4).2.2.2.2)) rfl
        (HFIN.out _ _ _ HLOW.out HTT.out ((set5_below HB1.out (by omega)).alloc (set5_below HB1.out (by omega)).size _))
end Go.Proofs.YtbkdaoicnobllabGreatDoor
