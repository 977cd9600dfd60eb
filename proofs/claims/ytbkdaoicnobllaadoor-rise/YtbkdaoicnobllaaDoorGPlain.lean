import Derived.Test.YtbkdaoicnobllaaDoorGText
import Derived.Test.YtbkdaoicnobllaaDoorGRefA
import Derived.Test.YtbkdaoicnobllaaDoorGMem
import Derived.Lib.ItoaLen
import Derived.Test.YtbkdaoicnobllaaDoorGMath

namespace Go.Proofs.YtbkdaoicnobllaaDoor
open Go.RowKit

theorem rowT_nil_iff (L : List Nat) (e hi : Int) (n : Nat) : rowT L e hi n = [] ↔ n = 0 := by
  constructor
  · intro h; have := rowT_length L e hi n; rw [h] at this; simpa using this.symm
  · rintro rfl; rfl
theorem fix_ptd (L : List Nat) (e : Int) (high cnt : Nat) : ptd (rowT L e high (high + 1)) (rowT L e (-1) cnt) = fixT L e high cnt := by
  unfold ptd fixT
  by_cases h : cnt = 0
  · rw [if_pos h, if_pos ((rowT_nil_iff _ _ _ _).2 h)]; simp
  · rw [if_neg h, if_neg (fun hh => h ((rowT_nil_iff _ _ _ _).1 hh))]
theorem sci_ptd (L : List Nat) (e top : Int) (cnt : Nat) : ptd (rowT L e top 1) (rowT L e (top - 1) cnt) = sciT L e top cnt := by
  unfold ptd sciT
  by_cases h : cnt = 0
  · rw [if_pos h, if_pos ((rowT_nil_iff _ _ _ _).2 h)]; simp
  · rw [if_neg h, if_neg (fun hh => h ((rowT_nil_iff _ _ _ _).1 hh))]
/-- From where on a number is written without a power of ten. -/
def highN (L : List Nat) (e : Int) : Nat := if L = [] then 0 else (max (e + L.length - 1) 0).toNat
/-- How many digits stand behind the point. -/
def cntN (e n : Int) : Nat := if n < 0 then (-(min e 0)).toNat else n.toNat
set_option maxRecDepth 100000 in
set_option maxHeartbeats 1000000 in
theorem plain_any (v : Value) (L : List Nat) (e n : Int) (w : World) (hr : Row w v L) (hd : Digs L) (hl : L.length ≤ 100000) (he : -15000 ≤ e ∧ e ≤ 15000) (ht : e + L.length ≤ 15000) (hn : -1 ≤ n ∧ n ≤ 2000) :
    Calls Tryd.prog 31 #[.agg #[v, .int .i64 e], .int .i64 n] w fun r w' => r = .returned (.string (str (fixT L e (highN L e) (cntN e n)))) ∧ Below w.heap.size w w' := by
  obtain ⟨ao, cap, hv⟩ := hr.isSlice
  subst hv
  have HR := hid (And.intro hr hd)
  have HRW : Hid (∀ w' : World, Below (w.heap.size + 1) (w.alloc (.cells #[.slice ao L.length cap, .int .i64 e] 60)) w' → Row w' (.slice ao L.length cap) L) := fun w' hb => HR.out.1.below (((Below.refl w.heap.size w).alloc (Nat.le_refl _) _).trans (hb.mono (by omega))) (Nat.le_refl _)
  have HUP : Hid (∀ w' : World, Below (w.heap.size + 1) (w.alloc (.cells #[.slice ao L.length cap, .int .i64 e] 60)) w' → Below w.heap.size w w') := fun w' hb => ((Below.refl w.heap.size w).alloc (Nat.le_refl _) _).trans (hb.mono (by omega))
  clear hr hd
  obtain ⟨H, hH⟩ : ∃ H : Int, H = (highN L e : Int) := ⟨_, rfl⟩
  have hH1 : 0 ≤ H ∧ H ≤ 20000 := by rw [hH]; unfold highN; split <;> omega
  by_cases h0 : L.length = 0
  · have HZC : Hid (∀ w' : World, Row w' (.slice ao L.length cap) L → Calls Tryd.prog 48 #[.agg #[.slice ao L.length cap, .int .i64 e]] w' fun r w2 => r = .returned (.bool true) ∧ Below w'.heap.size w' w2) := fun w' hw => by
      have := zero_any (.slice ao L.length cap) L e w' hw
      rw [show decide (L.length = 0) = true from by simp [h0]] at this; exact this
    have hH0 : H = 0 := by rw [hH]; unfold highN; rw [if_pos (List.length_eq_zero_iff.1 h0)]; rfl
    have HH := hid hH
    clear h0 hH
    have hHz : (highN L e : Int) = 0 := by rw [← HH.out]; exact hH0
    clear hH0 HH hH1
    by_cases hn0 : n < 0
    · have hx : True := trivial
      obtain ⟨A, hA⟩ : ∃ A, A = rowT L e (0) ((0 : Int) - 0 + 1).toNat := ⟨_, rfl⟩
      obtain ⟨B, hB⟩ : ∃ B, B = rowT L e (-1) (-1 - (min e 0) + 1).toNat := ⟨_, rfl⟩
      have HRA : Hid (∀ w' : World, Row w' (.slice ao L.length cap) L → Calls Tryd.prog 51 #[.agg #[.slice ao L.length cap, .int .i64 e], .int .i64 (0), .int .i64 0] w' fun r w2 => r = .returned (.string (str A)) ∧ Below w'.heap.size w' w2) := fun w' hw => by rw [hA]; exact row_any (.slice ao L.length cap) L e (0) 0 w' hw HR.out.2 (by omega) (by omega) (by omega) (by omega)
      have HRB : Hid (∀ w' : World, Row w' (.slice ao L.length cap) L → Calls Tryd.prog 51 #[.agg #[.slice ao L.length cap, .int .i64 e], .int .i64 (-1), .int .i64 (min e 0)] w' fun r w2 => r = .returned (.string (str B)) ∧ Below w'.heap.size w' w2) := fun w' hw => by rw [hB]; exact row_any (.slice ao L.length cap) L e (-1) (min e 0) w' hw HR.out.2 (by omega) (by omega) (by omega) (by omega)
      have HPT : Hid (∀ w' : World, Calls Tryd.prog 52 #[.string (str A), .string (str B)] w' fun r w2 => r = .returned (.string (str (ptd A B))) ∧ w2 = w') := fun w' => pointed_any A B (by rw [hA, rowT_length]; omega) (by rw [hB, rowT_length]; omega) w'
      have HFX : Hid (ptd A B = fixT L e (highN L e) (cntN e n)) := by
        unfold Hid cntN; rw [if_pos hn0, ← fix_ptd, hA, hB]
        congr 2 <;> omega
      clear hA hB
      go_enter Tryd.func31, Tryd.ntmps31
      go_wp2_with fail
      refine (HZC.out _ (HRW.out _ (Below.refl _ _))).mono ?_
      rintro r w0 ⟨rfl, hb0⟩
      have HBX : Hid (Below (w.heap.size + 1) (w.alloc (.cells #[.slice ao L.length cap, .int .i64 e] 60)) w0) := hb0.mono (by simp)
      have c0 : w0.cell? ⟨w.heap.size, 0, none⟩ = some (.slice ao L.length cap) := (HBX.out.cell (p := ⟨w.heap.size, 0, none⟩) (by simp)).trans (by simp [go_sem])
      have c1 : w0.cell? ⟨w.heap.size, 1, none⟩ = some (.int .i64 e) := (HBX.out.cell (p := ⟨w.heap.size, 1, none⟩) (by simp)).trans (by simp [go_sem])
      have HSZ : Hid (w.heap.size + 1 ≤ w0.heap.size) := by unfold Hid; have := HBX.out.size; simpa using this
      clear hb0
      go_wp2_with fail
      refine (least_any e 0 w0).mono ?_
      rintro r wl ⟨rfl, rfl⟩
      go_wp2_with fail
      refine (HRA.out wl (HRW.out wl HBX.out)).mono ?_
      rintro r w2 ⟨rfl, hb2⟩
      have hbx2 := below_next HBX.out hb2 HSZ.out
      have m0 := keep_cell' hb2 c0
      have m1 := keep_cell' hb2 c1
      have HBX2 := hid hbx2
      have HSZ2 : Hid (w.heap.size + 1 ≤ w2.heap.size) := by unfold Hid; have := hb2.size; have := HSZ.out; omega
      clear hb2 hbx2 c0 c1
      go_wp2_with fail
      refine (HRB.out w2 (HRW.out w2 HBX2.out)).mono ?_
      rintro r w3 ⟨rfl, hb3⟩
      have hbx3 := below_next HBX2.out hb3 HSZ2.out
      have HBX3 := hid (HUP.out w3 hbx3)
      clear hb3 hbx3 m0 m1
      go_wp2_with fail
      refine (HPT.out w3).mono ?_
      rintro r w4 ⟨rfl, rfl⟩
      go_wp2
      go_ret
      exact ⟨ret_str (by rw [HFX.out]), HBX3.out⟩
    · have hx : True := trivial
      obtain ⟨A, hA⟩ : ∃ A, A = rowT L e (0) ((0 : Int) - 0 + 1).toNat := ⟨_, rfl⟩
      obtain ⟨B, hB⟩ : ∃ B, B = rowT L e (-1) (-1 - (-n) + 1).toNat := ⟨_, rfl⟩
      have HRA : Hid (∀ w' : World, Row w' (.slice ao L.length cap) L → Calls Tryd.prog 51 #[.agg #[.slice ao L.length cap, .int .i64 e], .int .i64 (0), .int .i64 0] w' fun r w2 => r = .returned (.string (str A)) ∧ Below w'.heap.size w' w2) := fun w' hw => by rw [hA]; exact row_any (.slice ao L.length cap) L e (0) 0 w' hw HR.out.2 (by omega) (by omega) (by omega) (by omega)
      have HRB : Hid (∀ w' : World, Row w' (.slice ao L.length cap) L → Calls Tryd.prog 51 #[.agg #[.slice ao L.length cap, .int .i64 e], .int .i64 (-1), .int .i64 (-n)] w' fun r w2 => r = .returned (.string (str B)) ∧ Below w'.heap.size w' w2) := fun w' hw => by rw [hB]; exact row_any (.slice ao L.length cap) L e (-1) (-n) w' hw HR.out.2 (by omega) (by omega) (by omega) (by omega)
      have HPT : Hid (∀ w' : World, Calls Tryd.prog 52 #[.string (str A), .string (str B)] w' fun r w2 => r = .returned (.string (str (ptd A B))) ∧ w2 = w') := fun w' => pointed_any A B (by rw [hA, rowT_length]; omega) (by rw [hB, rowT_length]; omega) w'
      have HFX : Hid (ptd A B = fixT L e (highN L e) (cntN e n)) := by
        unfold Hid cntN; rw [if_neg hn0, ← fix_ptd, hA, hB]
        congr 2 <;> omega
      clear hA hB
      go_enter Tryd.func31, Tryd.ntmps31
      go_wp2_with fail
      refine (HZC.out _ (HRW.out _ (Below.refl _ _))).mono ?_
      rintro r w0 ⟨rfl, hb0⟩
      have HBX : Hid (Below (w.heap.size + 1) (w.alloc (.cells #[.slice ao L.length cap, .int .i64 e] 60)) w0) := hb0.mono (by simp)
      have c0 : w0.cell? ⟨w.heap.size, 0, none⟩ = some (.slice ao L.length cap) := (HBX.out.cell (p := ⟨w.heap.size, 0, none⟩) (by simp)).trans (by simp [go_sem])
      have c1 : w0.cell? ⟨w.heap.size, 1, none⟩ = some (.int .i64 e) := (HBX.out.cell (p := ⟨w.heap.size, 1, none⟩) (by simp)).trans (by simp [go_sem])
      have HSZ : Hid (w.heap.size + 1 ≤ w0.heap.size) := by unfold Hid; have := HBX.out.size; simpa using this
      clear hb0
      go_wp2_with fail
      refine (HRA.out w0 (HRW.out w0 HBX.out)).mono ?_
      rintro r w2 ⟨rfl, hb2⟩
      have hbx2 := below_next HBX.out hb2 HSZ.out
      have m0 := keep_cell' hb2 c0
      have m1 := keep_cell' hb2 c1
      have HBX2 := hid hbx2
      have HSZ2 : Hid (w.heap.size + 1 ≤ w2.heap.size) := by unfold Hid; have := hb2.size; have := HSZ.out; omega
      clear hb2 hbx2 c0 c1
      go_wp2_with fail
      refine (HRB.out w2 (HRW.out w2 HBX2.out)).mono ?_
      rintro r w3 ⟨rfl, hb3⟩
      have hbx3 := below_next HBX2.out hb3 HSZ2.out
      have HBX3 := hid (HUP.out w3 hbx3)
      clear hb3 hbx3 m0 m1
      go_wp2_with fail
      refine (HPT.out w3).mono ?_
      rintro r w4 ⟨rfl, rfl⟩
      go_wp2
      go_ret
      exact ⟨ret_str (by rw [HFX.out]), HBX3.out⟩
  · have HZC : Hid (∀ w' : World, Row w' (.slice ao L.length cap) L → Calls Tryd.prog 48 #[.agg #[.slice ao L.length cap, .int .i64 e]] w' fun r w2 => r = .returned (.bool false) ∧ Below w'.heap.size w' w2) := fun w' hw => by
      have := zero_any (.slice ao L.length cap) L e w' hw
      rw [show decide (L.length = 0) = false from by simp [h0]] at this; exact this
    have hHm : max (e + (L.length : Int) - 1) 0 = H := by rw [hH]; unfold highN; rw [if_neg (fun h => h0 (by rw [h]; rfl))]; omega
    have hHH : (highN L e : Int) = H := hH.symm
    clear h0 hH
    by_cases hn0 : n < 0
    · have hx : True := trivial
      obtain ⟨A, hA⟩ : ∃ A, A = rowT L e (H) ((H : Int) - 0 + 1).toNat := ⟨_, rfl⟩
      obtain ⟨B, hB⟩ : ∃ B, B = rowT L e (-1) (-1 - (min e 0) + 1).toNat := ⟨_, rfl⟩
      have HRA : Hid (∀ w' : World, Row w' (.slice ao L.length cap) L → Calls Tryd.prog 51 #[.agg #[.slice ao L.length cap, .int .i64 e], .int .i64 (H), .int .i64 0] w' fun r w2 => r = .returned (.string (str A)) ∧ Below w'.heap.size w' w2) := fun w' hw => by rw [hA]; exact row_any (.slice ao L.length cap) L e (H) 0 w' hw HR.out.2 (by omega) (by omega) (by omega) (by omega)
      have HRB : Hid (∀ w' : World, Row w' (.slice ao L.length cap) L → Calls Tryd.prog 51 #[.agg #[.slice ao L.length cap, .int .i64 e], .int .i64 (-1), .int .i64 (min e 0)] w' fun r w2 => r = .returned (.string (str B)) ∧ Below w'.heap.size w' w2) := fun w' hw => by rw [hB]; exact row_any (.slice ao L.length cap) L e (-1) (min e 0) w' hw HR.out.2 (by omega) (by omega) (by omega) (by omega)
      have HPT : Hid (∀ w' : World, Calls Tryd.prog 52 #[.string (str A), .string (str B)] w' fun r w2 => r = .returned (.string (str (ptd A B))) ∧ w2 = w') := fun w' => pointed_any A B (by rw [hA, rowT_length]; omega) (by rw [hB, rowT_length]; omega) w'
      have HFX : Hid (ptd A B = fixT L e (highN L e) (cntN e n)) := by
        unfold Hid cntN; rw [if_pos hn0, ← fix_ptd, hA, hB]
        congr 2 <;> omega
      clear hA hB
      go_enter Tryd.func31, Tryd.ntmps31
      go_wp2_with fail
      refine (HZC.out _ (HRW.out _ (Below.refl _ _))).mono ?_
      rintro r w0 ⟨rfl, hb0⟩
      have HBX : Hid (Below (w.heap.size + 1) (w.alloc (.cells #[.slice ao L.length cap, .int .i64 e] 60)) w0) := hb0.mono (by simp)
      have c0 : w0.cell? ⟨w.heap.size, 0, none⟩ = some (.slice ao L.length cap) := (HBX.out.cell (p := ⟨w.heap.size, 0, none⟩) (by simp)).trans (by simp [go_sem])
      have c1 : w0.cell? ⟨w.heap.size, 1, none⟩ = some (.int .i64 e) := (HBX.out.cell (p := ⟨w.heap.size, 1, none⟩) (by simp)).trans (by simp [go_sem])
      have HSZ : Hid (w.heap.size + 1 ≤ w0.heap.size) := by unfold Hid; have := HBX.out.size; simpa using this
      clear hb0
      go_wp2_with fail
      refine (top_any (.slice ao L.length cap) L e w0 (HRW.out w0 HBX.out) (by omega) (by omega)).mono ?_
      rintro r wt ⟨rfl, hbt⟩
      have HBT := hid (below_next HBX.out hbt HSZ.out)
      clear HBX HSZ c0 c1
      have HBX := HBT
      have c0 : wt.cell? ⟨w.heap.size, 0, none⟩ = some (.slice ao L.length cap) := (HBX.out.cell (p := ⟨w.heap.size, 0, none⟩) (by simp)).trans (by simp [go_sem])
      have c1 : wt.cell? ⟨w.heap.size, 1, none⟩ = some (.int .i64 e) := (HBX.out.cell (p := ⟨w.heap.size, 1, none⟩) (by simp)).trans (by simp [go_sem])
      have HSZ : Hid (w.heap.size + 1 ≤ wt.heap.size) := by unfold Hid; have := HBX.out.size; simpa using this
      clear hbt
      go_wp2_with fail
      refine (most_any (e + L.length - 1) 0 wt).mono ?_
      rintro r wm ⟨rfl, rfl⟩
      rw [hHm]
      go_wp2_with fail
      refine (least_any e 0 wm).mono ?_
      rintro r wl ⟨rfl, rfl⟩
      go_wp2_with fail
      refine (HRA.out wl (HRW.out wl HBX.out)).mono ?_
      rintro r w2 ⟨rfl, hb2⟩
      have hbx2 := below_next HBX.out hb2 HSZ.out
      have m0 := keep_cell' hb2 c0
      have m1 := keep_cell' hb2 c1
      have HBX2 := hid hbx2
      have HSZ2 : Hid (w.heap.size + 1 ≤ w2.heap.size) := by unfold Hid; have := hb2.size; have := HSZ.out; omega
      clear hb2 hbx2 c0 c1
      go_wp2_with fail
      refine (HRB.out w2 (HRW.out w2 HBX2.out)).mono ?_
      rintro r w3 ⟨rfl, hb3⟩
      have hbx3 := below_next HBX2.out hb3 HSZ2.out
      have HBX3 := hid (HUP.out w3 hbx3)
      clear hb3 hbx3 m0 m1
      go_wp2_with fail
      refine (HPT.out w3).mono ?_
      rintro r w4 ⟨rfl, rfl⟩
      go_wp2
      go_ret
      exact ⟨ret_str (by rw [HFX.out]), HBX3.out⟩
    · have hx : True := trivial
      obtain ⟨A, hA⟩ : ∃ A, A = rowT L e (H) ((H : Int) - 0 + 1).toNat := ⟨_, rfl⟩
      obtain ⟨B, hB⟩ : ∃ B, B = rowT L e (-1) (-1 - (-n) + 1).toNat := ⟨_, rfl⟩
      have HRA : Hid (∀ w' : World, Row w' (.slice ao L.length cap) L → Calls Tryd.prog 51 #[.agg #[.slice ao L.length cap, .int .i64 e], .int .i64 (H), .int .i64 0] w' fun r w2 => r = .returned (.string (str A)) ∧ Below w'.heap.size w' w2) := fun w' hw => by rw [hA]; exact row_any (.slice ao L.length cap) L e (H) 0 w' hw HR.out.2 (by omega) (by omega) (by omega) (by omega)
      have HRB : Hid (∀ w' : World, Row w' (.slice ao L.length cap) L → Calls Tryd.prog 51 #[.agg #[.slice ao L.length cap, .int .i64 e], .int .i64 (-1), .int .i64 (-n)] w' fun r w2 => r = .returned (.string (str B)) ∧ Below w'.heap.size w' w2) := fun w' hw => by rw [hB]; exact row_any (.slice ao L.length cap) L e (-1) (-n) w' hw HR.out.2 (by omega) (by omega) (by omega) (by omega)
      have HPT : Hid (∀ w' : World, Calls Tryd.prog 52 #[.string (str A), .string (str B)] w' fun r w2 => r = .returned (.string (str (ptd A B))) ∧ w2 = w') := fun w' => pointed_any A B (by rw [hA, rowT_length]; omega) (by rw [hB, rowT_length]; omega) w'
      have HFX : Hid (ptd A B = fixT L e (highN L e) (cntN e n)) := by
        unfold Hid cntN; rw [if_neg hn0, ← fix_ptd, hA, hB]
        congr 2 <;> omega
      clear hA hB
      go_enter Tryd.func31, Tryd.ntmps31
      go_wp2_with fail
      refine (HZC.out _ (HRW.out _ (Below.refl _ _))).mono ?_
      rintro r w0 ⟨rfl, hb0⟩
      have HBX : Hid (Below (w.heap.size + 1) (w.alloc (.cells #[.slice ao L.length cap, .int .i64 e] 60)) w0) := hb0.mono (by simp)
      have c0 : w0.cell? ⟨w.heap.size, 0, none⟩ = some (.slice ao L.length cap) := (HBX.out.cell (p := ⟨w.heap.size, 0, none⟩) (by simp)).trans (by simp [go_sem])
      have c1 : w0.cell? ⟨w.heap.size, 1, none⟩ = some (.int .i64 e) := (HBX.out.cell (p := ⟨w.heap.size, 1, none⟩) (by simp)).trans (by simp [go_sem])
      have HSZ : Hid (w.heap.size + 1 ≤ w0.heap.size) := by unfold Hid; have := HBX.out.size; simpa using this
      clear hb0
      go_wp2_with fail
      refine (top_any (.slice ao L.length cap) L e w0 (HRW.out w0 HBX.out) (by omega) (by omega)).mono ?_
      rintro r wt ⟨rfl, hbt⟩
      have HBT := hid (below_next HBX.out hbt HSZ.out)
      clear HBX HSZ c0 c1
      have HBX := HBT
      have c0 : wt.cell? ⟨w.heap.size, 0, none⟩ = some (.slice ao L.length cap) := (HBX.out.cell (p := ⟨w.heap.size, 0, none⟩) (by simp)).trans (by simp [go_sem])
      have c1 : wt.cell? ⟨w.heap.size, 1, none⟩ = some (.int .i64 e) := (HBX.out.cell (p := ⟨w.heap.size, 1, none⟩) (by simp)).trans (by simp [go_sem])
      have HSZ : Hid (w.heap.size + 1 ≤ wt.heap.size) := by unfold Hid; have := HBX.out.size; simpa using this
      clear hbt
      go_wp2_with fail
      refine (most_any (e + L.length - 1) 0 wt).mono ?_
      rintro r wm ⟨rfl, rfl⟩
      rw [hHm]
      go_wp2_with fail
      refine (HRA.out wm (HRW.out wm HBX.out)).mono ?_
      rintro r w2 ⟨rfl, hb2⟩
      have hbx2 := below_next HBX.out hb2 HSZ.out
      have m0 := keep_cell' hb2 c0
      have m1 := keep_cell' hb2 c1
      have HBX2 := hid hbx2
      have HSZ2 : Hid (w.heap.size + 1 ≤ w2.heap.size) := by unfold Hid; have := hb2.size; have := HSZ.out; omega
      clear hb2 hbx2 c0 c1
      go_wp2_with fail
      refine (HRB.out w2 (HRW.out w2 HBX2.out)).mono ?_
      rintro r w3 ⟨rfl, hb3⟩
      have hbx3 := below_next HBX2.out hb3 HSZ2.out
      have HBX3 := hid (HUP.out w3 hbx3)
      clear hb3 hbx3 m0 m1
      go_wp2_with fail
      refine (HPT.out w3).mono ?_
      rintro r w4 ⟨rfl, rfl⟩
      go_wp2
      go_ret
      exact ⟨ret_str (by rw [HFX.out]), HBX3.out⟩
end Go.Proofs.YtbkdaoicnobllaaDoor

namespace Go.Proofs.YtbkdaoicnobllaaDoor
open Go.RowKit

/-- How many digits stand behind the first. -/
def cntS (L : List Nat) (n : Int) : Nat := if n < 0 then L.length - 1 else n.toNat
set_option maxRecDepth 100000 in
set_option maxHeartbeats 1000000 in
theorem scientific_any (v : Value) (L : List Nat) (e n : Int) (w : World) (hr : Row w v L) (hd : Digs L) (h0 : 0 < L.length) (hl : L.length ≤ 15000) (he : -9000 ≤ e ∧ e ≤ 9000) (ht : e + L.length ≤ 9000) (hn : -1 ≤ n ∧ n ≤ 2000) :
    Calls Tryd.prog 34 #[.agg #[v, .int .i64 e], .int .i64 n] w fun r w' => r = .returned (.string (str (sciT L e (e + L.length - 1) (cntS L n) ++ (101 :: Lib.itoa (e + L.length - 1))))) ∧ Below w.heap.size w w' := by
  obtain ⟨ao, cap, hv⟩ := hr.isSlice
  subst hv
  have HR := hid (And.intro hr hd)
  have HRW : Hid (∀ w' : World, Below (w.heap.size + 1) (w.alloc (.cells #[.slice ao L.length cap, .int .i64 e] 60)) w' → Row w' (.slice ao L.length cap) L) := fun w' hb => HR.out.1.below (((Below.refl w.heap.size w).alloc (Nat.le_refl _) _).trans (hb.mono (by omega))) (Nat.le_refl _)
  have HUP : Hid (∀ w' : World, Below (w.heap.size + 1) (w.alloc (.cells #[.slice ao L.length cap, .int .i64 e] 60)) w' → Below w.heap.size w w') := fun w' hb => ((Below.refl w.heap.size w).alloc (Nat.le_refl _) _).trans (hb.mono (by omega))
  have HTP := hid (fun (w' : World) (hw : Row w' (.slice ao L.length cap) L) => top_any (.slice ao L.length cap) L e w' hw (by omega) (by omega))
  obtain ⟨P, hP⟩ : ∃ P, P = e + L.length - 1 := ⟨_, rfl⟩
  rw [← hP] at HTP ⊢
  have hP1 : -12000 ≤ P - n ∧ P ≤ 9000 := by omega
  have hP2 : -9000 ≤ P := by omega
  have hPP : e + (L.length : Int) - 1 = P := hP.symm
  clear hr hd hP
  by_cases hn0 : n < 0
  · have hx : True := trivial
    obtain ⟨A, hA⟩ : ∃ A, A = rowT L e P (P - P + 1).toNat := ⟨_, rfl⟩
    obtain ⟨B, hB⟩ : ∃ B, B = rowT L e (P - 1) ((P - 1) - (e) + 1).toNat := ⟨_, rfl⟩
    have HRA : Hid (∀ w' : World, Row w' (.slice ao L.length cap) L → Calls Tryd.prog 51 #[.agg #[.slice ao L.length cap, .int .i64 e], .int .i64 P, .int .i64 P] w' fun r w2 => r = .returned (.string (str A)) ∧ Below w'.heap.size w' w2) := fun w' hw => by rw [hA]; exact row_any (.slice ao L.length cap) L e P P w' hw HR.out.2 (by omega) (by omega) (by omega) (by omega)
    have HRB : Hid (∀ w' : World, Row w' (.slice ao L.length cap) L → Calls Tryd.prog 51 #[.agg #[.slice ao L.length cap, .int .i64 e], .int .i64 (P - 1), .int .i64 (e)] w' fun r w2 => r = .returned (.string (str B)) ∧ Below w'.heap.size w' w2) := fun w' hw => by rw [hB]; exact row_any (.slice ao L.length cap) L e (P - 1) (e) w' hw HR.out.2 (by omega) (by omega) (by omega) (by omega)
    have HPT : Hid (∀ w' : World, Calls Tryd.prog 52 #[.string (str A), .string (str B)] w' fun r w2 => r = .returned (.string (str (ptd A B))) ∧ w2 = w') := fun w' => pointed_any A B (by rw [hA, rowT_length]; omega) (by rw [hB, rowT_length]; omega) w'
    have HNU := hid (rnumber_any P (by omega) (by omega))
    obtain ⟨C, hC⟩ : ∃ C, C = ptd A B := ⟨_, rfl⟩
    have hCl : (str C).size ≤ 100000 := by
      rw [str_size, hC]; unfold ptd; split <;> simp [hA, hB, rowT_length] <;> omega
    have hIl : (str (Lib.itoa P)).size ≤ 100 := by rw [str_size]; have := Lib.itoa_length_le P (by omega) (by omega); omega
    have HFX : Hid (str C ++ ⟨#[101]⟩ ++ str (Lib.itoa P) = str (sciT L e P (cntS L n) ++ (101 :: Lib.itoa P))) := by
      unfold Hid
      rw [show sciT L e P (cntS L n) = C from by unfold cntS; rw [if_pos hn0, ← sci_ptd, hC, hA, hB]; congr 2 <;> omega]
      rw [show (101 :: Lib.itoa P : List UInt8) = [101] ++ Lib.itoa P from rfl, ← List.append_assoc, ← str_append, ← str_append]; rfl
    rw [← hC] at HPT
    clear hA hB hC
    go_enter Tryd.func34, Tryd.ntmps34
    go_wp2_with fail
    refine (HTP.out _ (HRW.out _ (Below.refl _ _))).mono ?_
    rintro r w1 ⟨rfl, hb0⟩
    have HBX : Hid (Below (w.heap.size + 1) (w.alloc (.cells #[.slice ao L.length cap, .int .i64 e] 60)) w1) := hb0.mono (by simp)
    have c0 : w1.cell? ⟨w.heap.size, 0, none⟩ = some (.slice ao L.length cap) := (HBX.out.cell (p := ⟨w.heap.size, 0, none⟩) (by simp)).trans (by simp [go_sem])
    have c1 : w1.cell? ⟨w.heap.size, 1, none⟩ = some (.int .i64 e) := (HBX.out.cell (p := ⟨w.heap.size, 1, none⟩) (by simp)).trans (by simp [go_sem])
    have HSZ : Hid (w.heap.size + 1 ≤ w1.heap.size) := by unfold Hid; have := HBX.out.size; simpa using this
    clear hb0
    go_wp2_with fail
    refine (HRA.out w1 (HRW.out w1 HBX.out)).mono ?_
    rintro r w2 ⟨rfl, hb2⟩
    have hbx2 := below_next HBX.out hb2 HSZ.out
    have m0 := keep_cell' hb2 c0
    have m1 := keep_cell' hb2 c1
    have HBX2 := hid hbx2
    have HSZ2 : Hid (w.heap.size + 1 ≤ w2.heap.size) := by unfold Hid; have := hb2.size; have := HSZ.out; omega
    clear hb2 hbx2 c0 c1
    go_wp2_with fail
    refine (HRB.out w2 (HRW.out w2 HBX2.out)).mono ?_
    rintro r w3 ⟨rfl, hb3⟩
    have hbx3 := below_next HBX2.out hb3 HSZ2.out
    have HBX3 := hid (HUP.out w3 hbx3)
    clear hb3 hbx3 m0 m1
    go_wp2_with fail
    refine (HPT.out w3).mono ?_
    rintro r w4 ⟨rfl, rfl⟩
    go_wp2_with fail
    refine (HNU.out w4).mono ?_
    rintro r w5 ⟨rfl, hb5⟩
    have HB5 : Hid (Below w.heap.size w w5) := HBX3.out.trans (hb5.mono HBX3.out.size)
    clear hb5
    go_wp2
    go_ret
    exact ⟨ret_str HFX.out, HB5.out⟩
  · have hx : True := trivial
    obtain ⟨A, hA⟩ : ∃ A, A = rowT L e P (P - P + 1).toNat := ⟨_, rfl⟩
    obtain ⟨B, hB⟩ : ∃ B, B = rowT L e (P - 1) ((P - 1) - (P - n) + 1).toNat := ⟨_, rfl⟩
    have HRA : Hid (∀ w' : World, Row w' (.slice ao L.length cap) L → Calls Tryd.prog 51 #[.agg #[.slice ao L.length cap, .int .i64 e], .int .i64 P, .int .i64 P] w' fun r w2 => r = .returned (.string (str A)) ∧ Below w'.heap.size w' w2) := fun w' hw => by rw [hA]; exact row_any (.slice ao L.length cap) L e P P w' hw HR.out.2 (by omega) (by omega) (by omega) (by omega)
    have HRB : Hid (∀ w' : World, Row w' (.slice ao L.length cap) L → Calls Tryd.prog 51 #[.agg #[.slice ao L.length cap, .int .i64 e], .int .i64 (P - 1), .int .i64 (P - n)] w' fun r w2 => r = .returned (.string (str B)) ∧ Below w'.heap.size w' w2) := fun w' hw => by rw [hB]; exact row_any (.slice ao L.length cap) L e (P - 1) (P - n) w' hw HR.out.2 (by omega) (by omega) (by omega) (by omega)
    have HPT : Hid (∀ w' : World, Calls Tryd.prog 52 #[.string (str A), .string (str B)] w' fun r w2 => r = .returned (.string (str (ptd A B))) ∧ w2 = w') := fun w' => pointed_any A B (by rw [hA, rowT_length]; omega) (by rw [hB, rowT_length]; omega) w'
    have HNU := hid (rnumber_any P (by omega) (by omega))
    obtain ⟨C, hC⟩ : ∃ C, C = ptd A B := ⟨_, rfl⟩
    have hCl : (str C).size ≤ 100000 := by
      rw [str_size, hC]; unfold ptd; split <;> simp [hA, hB, rowT_length] <;> omega
    have hIl : (str (Lib.itoa P)).size ≤ 100 := by rw [str_size]; have := Lib.itoa_length_le P (by omega) (by omega); omega
    have HFX : Hid (str C ++ ⟨#[101]⟩ ++ str (Lib.itoa P) = str (sciT L e P (cntS L n) ++ (101 :: Lib.itoa P))) := by
      unfold Hid
      rw [show sciT L e P (cntS L n) = C from by unfold cntS; rw [if_neg hn0, ← sci_ptd, hC, hA, hB]; congr 2 <;> omega]
      rw [show (101 :: Lib.itoa P : List UInt8) = [101] ++ Lib.itoa P from rfl, ← List.append_assoc, ← str_append, ← str_append]; rfl
    rw [← hC] at HPT
    clear hA hB hC
    go_enter Tryd.func34, Tryd.ntmps34
    go_wp2_with fail
    refine (HTP.out _ (HRW.out _ (Below.refl _ _))).mono ?_
    rintro r w1 ⟨rfl, hb0⟩
    have HBX : Hid (Below (w.heap.size + 1) (w.alloc (.cells #[.slice ao L.length cap, .int .i64 e] 60)) w1) := hb0.mono (by simp)
    have c0 : w1.cell? ⟨w.heap.size, 0, none⟩ = some (.slice ao L.length cap) := (HBX.out.cell (p := ⟨w.heap.size, 0, none⟩) (by simp)).trans (by simp [go_sem])
    have c1 : w1.cell? ⟨w.heap.size, 1, none⟩ = some (.int .i64 e) := (HBX.out.cell (p := ⟨w.heap.size, 1, none⟩) (by simp)).trans (by simp [go_sem])
    have HSZ : Hid (w.heap.size + 1 ≤ w1.heap.size) := by unfold Hid; have := HBX.out.size; simpa using this
    clear hb0
    go_wp2_with fail
    refine (HRA.out w1 (HRW.out w1 HBX.out)).mono ?_
    rintro r w2 ⟨rfl, hb2⟩
    have hbx2 := below_next HBX.out hb2 HSZ.out
    have m0 := keep_cell' hb2 c0
    have m1 := keep_cell' hb2 c1
    have HBX2 := hid hbx2
    have HSZ2 : Hid (w.heap.size + 1 ≤ w2.heap.size) := by unfold Hid; have := hb2.size; have := HSZ.out; omega
    clear hb2 hbx2 c0 c1
    go_wp2_with fail
    refine (HRB.out w2 (HRW.out w2 HBX2.out)).mono ?_
    rintro r w3 ⟨rfl, hb3⟩
    have hbx3 := below_next HBX2.out hb3 HSZ2.out
    have HBX3 := hid (HUP.out w3 hbx3)
    clear hb3 hbx3 m0 m1
    go_wp2_with fail
    refine (HPT.out w3).mono ?_
    rintro r w4 ⟨rfl, rfl⟩
    go_wp2_with fail
    refine (HNU.out w4).mono ?_
    rintro r w5 ⟨rfl, hb5⟩
    have HB5 : Hid (Below w.heap.size w w5) := HBX3.out.trans (hb5.mono HBX3.out.size)
    clear hb5
    go_wp2
    go_ret
    exact ⟨ret_str HFX.out, HB5.out⟩
end Go.Proofs.YtbkdaoicnobllaaDoor

/- Plain mathematics: the texts that a number rounded at a power of ten has. -/
namespace Go.Proofs.YtbkdaoicnobllaaDoor

/-- The text of V / 10^3000 with n digits behind the first, and a power of ten. -/
structure ExpR (aw : Int → Bool → Bool) (V n : Nat) (D : List Nat) (e : Int) (L : List Nat) (g : Int) (T : List UInt8) : Prop where
  digs : Digs D
  headed : Headed D
  pos : 0 < D.length
  lo : -(3000 : Int) ≤ e
  val : val 3000 D e = V
  digs' : Digs L
  headed' : Headed L
  pos' : 0 < L.length
  lo' : -(3000 : Int) ≤ g
  lon : -(3000 : Int) ≤ g + L.length - 1 - n
  val' : Go.Proofs.YtbkdaoicnobllaaDoor.val 3000 L g = rndN aw V (10 ^ (e + D.length - 1 - n + (3000 : Nat)).toNat) * 10 ^ (e + D.length - 1 - n + (3000 : Nat)).toNat
  text : T = sciT L g (g + L.length - 1) n ++ (101 :: Lib.itoa (g + L.length - 1))
def ExpQ (aw : Int → Bool → Bool) (V n : Nat) (T : List UInt8) : Prop := (V = 0 ∧ T = fixT [] 0 0 n ++ [101, 48]) ∨ ∃ D e L g, ExpR aw V n D e L g T
theorem ExpR.ne {aw : Int → Bool → Bool} {V n : Nat} {D L : List Nat} {e g : Int} {T : List UInt8} (h : ExpR aw V n D e L g T) : V ≠ 0 := by
  rw [← h.val]; unfold Go.Proofs.YtbkdaoicnobllaaDoor.val
  exact Nat.ne_of_gt (Nat.mul_pos (h.headed.pos h.pos) (Nat.pow_pos (by omega)))
theorem ExpQ.same {aw : Int → Bool → Bool} {V n : Nat} {T T' : List UInt8} (h : ExpQ aw V n T) (h' : ExpQ aw V n T') : T = T' := by
  rcases h with ⟨h0, rfl⟩ | ⟨D, e, L, g, h⟩
  · rcases h' with ⟨_, rfl⟩ | ⟨D, e, L, g, h⟩
    · rfl
    · exact absurd h0 h.ne
  · rcases h' with ⟨h0, _⟩ | ⟨D', e', L', g', h'⟩
    · exact absurd h0 h.ne
    · have ht := top_same h.digs h'.digs h.headed h'.headed h.pos h'.pos (K := 3000) h.lo h'.lo (h.val.trans h'.val.symm)
      have hv : val 3000 L g = val 3000 L' g' := by
        rw [h.val', h'.val', show e' + (D'.length : Int) - 1 - n + (3000 : Nat) = e + D.length - 1 - n + (3000 : Nat) from by omega]
      have ht' := top_same h.digs' h'.digs' h.headed' h'.headed' h.pos' h'.pos' h.lo' h'.lo' hv
      rw [h.text, h'.text, ← ht', sciT_same h.digs' h'.digs' h.lo' h'.lo' hv h.lon]
theorem exp_prog {aw : Int → Bool → Bool} {V n : Nat} {D R : List Nat} {e p : Int} (hd : Digs D) (hh : Headed D) (hl : 0 < D.length) (he : -1080 ≤ e) (hn : n ≤ 800) (hV : val 3000 D e = V) (hp : p = e + D.length - 1 - n) (hR : Rnd aw D e p R) :
    ExpQ aw V n (expB (R.take (n + 1)) (n + 1) ++ (101 :: Lib.itoa (p + R.length - 1))) := by
  obtain ⟨c1, c2, c3, c4⟩ := hR.cut hd (c := n + 1) (by omega) (by omega)
  have hge := hR.ge
  rw [show (D.length + e - p).toNat = n + 1 from by omega] at hge
  have hv := c4 3000 (by omega) (by omega)
  refine .inr ⟨D, e, R.take (n + 1), p + R.length - (n + 1 : Nat), ⟨hd, hh, hl, by omega, hV, c1, c2, by omega, by omega, by rw [c3]; omega, ?_, ?_⟩⟩
  · rw [hv]; unfold val
    rw [hR.nval 3000 (by omega) (by omega), hV, hp]
  · rw [expB_rows (R.take (n + 1)) (p + R.length - 1) n (by omega), c3]
    have e1 : p + (R.length : Int) - 1 - ((n + 1 : Nat) : Int) + 1 = p + R.length - (n + 1 : Nat) := by omega
    have e2 : p + (R.length : Int) - ((n + 1 : Nat) : Int) + ((n + 1 : Nat) : Int) - 1 = p + R.length - 1 := by omega
    rw [e1, e2]
theorem exp_zero (aw : Int → Bool → Bool) (n : Nat) : ExpQ aw 0 n (expB (List.replicate (n + 1) 0) (n + 1) ++ (101 :: Lib.itoa 0)) := by
  refine .inl ⟨rfl, ?_⟩
  have hz : ∀ e p, dig (List.replicate (n + 1) 0) e p = 0 := by
    intro e p
    by_cases h1 : p < e
    · exact dig_lo _ h1
    · by_cases h2 : e + (List.replicate (n + 1) 0).length ≤ p
      · exact dig_hi _ (by omega)
      · rw [dig_mid (List.replicate (n + 1) 0) (e := e) (p := p) (by omega) (by omega) ((List.replicate (n + 1) 0).length - 1 - (p - e).toNat) (by omega)]
        simp [List.getD_eq_getElem?_getD, List.getElem?_replicate]
        split <;> rfl
  have hz2 : ∀ e p, dig ([] : List Nat) e p = 0 := by
    intro e p
    by_cases h1 : p < e
    · exact dig_lo _ h1
    · exact dig_hi _ (by simp; omega)
  rw [expB_rows _ 0 n (by simp)]
  unfold sciT fixT
  rw [show Lib.itoa 0 = [48] from by decide +kernel]
  rw [rowT_congr (M := []) (g := 0) 1 (fun p _ _ => by rw [hz, hz2]), rowT_congr (M := []) (g := 0) n (fun p _ _ => by rw [hz, hz2])]
  simp
theorem exp_ref {aw : Int → Bool → Bool} {V n : Nat} {D L : List Nat} {e g : Int} (hd : Norm D) (hl : 0 < D.length) (he : -1100 ≤ e) (hn : n ≤ 800) (hV : val 3000 D e = V) (hd' : Norm L) (hg : L ≠ [] → -2000 ≤ g)
    (hv : val 3000 L g = rndN aw V (10 ^ (e + D.length - 1 - n + (3000 : Nat)).toNat) * 10 ^ (e + D.length - 1 - n + (3000 : Nat)).toNat) :
    0 < L.length ∧ ExpQ aw V n (sciT L g (g + L.length - 1) n ++ (101 :: Lib.itoa (g + L.length - 1))) := by
  have hpos : 0 < L.length := by
    apply Nat.pos_of_ne_zero; intro h0
    rw [List.length_eq_zero_iff.1 h0] at hv
    have h1 := rndN_ge aw V (10 ^ (e + D.length - 1 - n + (3000 : Nat)).toNat)
    have hP : 0 < 10 ^ (e + D.length - 1 - n + (3000 : Nat)).toNat := Nat.pow_pos (by omega)
    have h2 : 10 ^ (e + D.length - 1 - n + (3000 : Nat)).toNat ≤ V := by
      rw [← hV]; unfold val
      refine Nat.le_trans ?_ (Nat.mul_le_mul_right _ (hd.headed.lo hl))
      rw [← Nat.pow_add]
      exact Nat.pow_le_pow_right (by omega) (by omega)
    have h3 := Nat.div_pos h2 hP
    have h4 : 0 < rndN aw V (10 ^ (e + D.length - 1 - n + (3000 : Nat)).toNat) := by omega
    have h5 := Nat.mul_pos h4 hP
    rw [← hv] at h5
    simp [val, num_nil] at h5
  have hg' := hg (fun h => by rw [h] at hpos; simp at hpos)
  exact ⟨hpos, .inr ⟨D, e, L, g, ⟨hd.digs, hd.headed, hl, by omega, hV, hd'.digs, hd'.headed, hpos, by omega, by omega, hv, rfl⟩⟩⟩
/-- The text of V / 10^3000 with n digits behind the point. -/
def FixQ (aw : Int → Bool → Bool) (V n : Nat) (T : List UInt8) : Prop := ∃ (L : List Nat) (g : Int), Digs L ∧ Headed L ∧ -(3000 : Int) ≤ g ∧ n ≤ 3000 ∧ val 3000 L g = rndN aw V (10 ^ (-(n : Int) + (3000 : Nat)).toNat) * 10 ^ (-(n : Int) + (3000 : Nat)).toNat ∧ T = fixT L g (highN L g) n
theorem high_same {K : Nat} {L M : List Nat} {e g : Int} (h1 : Digs L) (h2 : Digs M) (d1 : Headed L) (d2 : Headed M) (k1 : -(K : Int) ≤ e) (k2 : -(K : Int) ≤ g) (h : val K L e = val K M g) : highN L e = highN M g := by
  have z : ∀ {L : List Nat} {e : Int}, Headed L → L ≠ [] → val K L e ≠ 0 := fun {L e} hh hl => by
    unfold val
    exact Nat.ne_of_gt (Nat.mul_pos (hh.pos (List.length_pos_iff.2 hl)) (Nat.pow_pos (by omega)))
  unfold highN
  by_cases a : L = []
  · by_cases b : M = []
    · rw [if_pos a, if_pos b]
    · have := z (e := g) d2 b
      rw [← h, a] at this
      simp [val, num_nil] at this
  · by_cases b : M = []
    · have := z (e := e) d1 a
      rw [h, b] at this
      simp [val, num_nil] at this
    · rw [if_neg a, if_neg b, top_same h1 h2 d1 d2 (List.length_pos_iff.2 a) (List.length_pos_iff.2 b) k1 k2 h]
theorem FixQ.same {aw : Int → Bool → Bool} {V n : Nat} {T T' : List UInt8} (h : FixQ aw V n T) (h' : FixQ aw V n T') : T = T' := by
  obtain ⟨L, g, a1, a2, a3, a4, a5, rfl⟩ := h
  obtain ⟨M, k, b1, b2, b3, b4, b5, rfl⟩ := h'
  have hv := a5.trans b5.symm
  rw [high_same a1 b1 a2 b2 a3 b3 hv, fixT_same a1 b1 a3 b3 hv a4]
theorem fix_prog {aw : Int → Bool → Bool} {V n : Nat} {D R : List Nat} {e : Int} (he : -1080 ≤ e) (hn : n ≤ 800) (hV : val 3000 D e = V) (hR : Rnd aw D e (-(n : Int)) R) :
    FixQ aw V n (fixT R (-(n : Int)) ((R.length : Int) - n - 1).toNat n) := by
  refine ⟨R, -(n : Int), hR.digs, hR.headed, by omega, by omega, ?_, ?_⟩
  · unfold val; rw [hR.nval 3000 (by omega) (by omega), hV]
  · unfold highN
    by_cases h : R = []
    · rw [if_pos h]; subst h; rw [show ((([] : List Nat).length : Int) - n - 1).toNat = 0 from by simp]
    · rw [if_neg h, show ((R.length : Int) - n - 1).toNat = (max (-(n : Int) + R.length - 1) 0).toNat from by omega]
theorem rndN_zero (aw : Int → Bool → Bool) (P : Nat) : rndN aw 0 P = 0 := by unfold rndN leftN; simp
theorem fix_zero (aw : Int → Bool → Bool) (n : Nat) (hn : n ≤ 800) : FixQ aw 0 n (fixT [] (-(n : Int)) ((0 : Int) - n - 1).toNat n) := by
  refine ⟨[], -(n : Int), fun d h => by simp at h, fun h => by simp at h, by omega, by omega, ?_, ?_⟩
  · rw [rndN_zero]; simp [val, num_nil]
  · unfold highN; rw [if_pos rfl, show ((0 : Int) - n - 1).toNat = 0 from by omega]
theorem fix_ref {aw : Int → Bool → Bool} {V n : Nat} {L : List Nat} {g : Int} (hn : n ≤ 800) (hd' : Norm L) (hg0 : L = [] → g = 0) (hg : L ≠ [] → -2000 ≤ g)
    (hv : val 3000 L g = rndN aw V (10 ^ (-(n : Int) + (3000 : Nat)).toNat) * 10 ^ (-(n : Int) + (3000 : Nat)).toNat) : FixQ aw V n (fixT L g (highN L g) n) :=
  ⟨L, g, hd'.digs, hd'.headed, (Decidable.em (L = [])).elim (fun h => by have := hg0 h; omega) (fun h => by have := hg h; omega), by omega, hv, rfl⟩
theorem sciT_length (L : List Nat) (e top : Int) (n : Nat) : (sciT L e top n).length ≤ n + 2 := by
  unfold sciT; split <;> simp [rowT_length] <;> omega
theorem fixT_length (L : List Nat) (e : Int) (h b : Nat) : (fixT L e h b).length ≤ h + b + 2 := by
  unfold fixT; split <;> simp [rowT_length] <;> omega
end Go.Proofs.YtbkdaoicnobllaaDoor
