import Derived.Test.YtbkdaoicnobllabGreatDoorG15
import Derived.Test.YtbkdaoicnobllabGreatDoorG07
import Derived.Test.YtbkdaoicnobllabGreatDoorG19
import Derived.Test.YtbkdaoicnobllabGreatDoorG08
import Derived.Test.YtbkdaoicnobllabGreatDoorG20
import Derived.Test.YtbkdaoicnobllabGreatDoorG21
import Derived.Test.YtbkdaoicnobllabGreatDoorG22
import Derived.Test.YtbkdaoicnobllabGreatDoorG23
import Derived.Test.YtbkdaoicnobllabGreatDoorG18
import Derived.Test.YtbkdaoicnobllabGreatDoorG24
import Derived.Test.YtbkdaoicnobllabGreatDoorG25
import Derived.Test.YtbkdaoicnobllabGreatDoorG13
import Derived.Test.YtbkdaoicnobllabGreatDoorG01
import Derived.Lib.ItoaLen
import Derived.Test.YtbkdaoicnobllabGreatDoorG14
import Derived.Test.YtbkdaoicnobllabGreatDoorG17

namespace Go.Proofs.YtbkdaoicnobllabGreatDoor
open Go.RowKit

theorem rhexF0 (x prec mode : Int) (h1 : -9223372036854775808 ≤ x) (h2 : x ≤ 9223372036854775807) (w : World) : Calls Tryz.prog 35 #[.int .i64 x, .int .i64 0, .int .i64 4, .int .i64 prec, .int .i64 mode] w fun r w' => FmtPost 0 x 4 prec mode w w' r (HexQ 0 (amtI 0 x).toNat) := by
 by_cases h : hasB 0 x = true ∧ allowB 4 prec mode = true
 ·obtain ⟨hh, ha⟩ := h
  obtain ⟨rfl, rfl⟩ := allow_short (by omega) ha
  exact rgood0 x 4 (-1) 0 _ (by unfold hasB sgnF at hh; simp at hh; omega) (by unfold hasB sgnF at hh; simp at hh; omega) (by omega) w (fun a hA hlt w => by
   have := rtextHex0 a (negI 0 x) (-1) 0 hlt w
   rw [show (amtI 0 x).toNat = a from by omega]; exact this)
 ·exact rbad0s x 4 prec mode _ (by omega) h w
theorem rhexF1 (x prec mode : Int) (h1 : -9223372036854775808 ≤ x) (h2 : x ≤ 9223372036854775807) (w : World) : Calls Tryz.prog 35 #[.int .i64 x, .int .i64 1, .int .i64 4, .int .i64 prec, .int .i64 mode] w fun r w' => FmtPost 1 x 4 prec mode w w' r (HexQ 1 (amtI 1 x).toNat) := by
 by_cases h : hasB 1 x = true ∧ allowB 4 prec mode = true
 ·obtain ⟨hh, ha⟩ := h
  obtain ⟨rfl, rfl⟩ := allow_short (by omega) ha
  exact rgood1 x 4 (-1) 0 _ (by unfold hasB sgnF at hh; simp at hh; omega) (by unfold hasB sgnF at hh; simp at hh; omega) (by omega) w (fun a hA hlt w => by
   have := rtextHex1 a (negI 1 x) (-1) 0 hlt w
   rw [show (amtI 1 x).toNat = a from by omega]; exact this)
 ·exact rbad1s x 4 prec mode _ (by omega) h w
theorem rhexF2 (x prec mode : Int) (h1 : -9223372036854775808 ≤ x) (h2 : x ≤ 9223372036854775807) (w : World) : Calls Tryz.prog 35 #[.int .i64 x, .int .i64 2, .int .i64 4, .int .i64 prec, .int .i64 mode] w fun r w' => FmtPost 2 x 4 prec mode w w' r (HexQ 2 (amtI 2 x).toNat) := by
 by_cases h : hasB 2 x = true ∧ allowB 4 prec mode = true
 ·obtain ⟨hh, ha⟩ := h
  obtain ⟨rfl, rfl⟩ := allow_short (by omega) ha
  exact rgood2 x 4 (-1) 0 _ h1 h2 (by omega) w (fun a hA hlt w => by
   have := rtextHex2 a (negI 2 x) (-1) 0 hlt w
   rw [show (amtI 2 x).toNat = a from by omega]; exact this)
 ·exact rbad2s x 4 prec mode _ (by omega) h w
theorem both_hex (cv : Value) (x f prec mode : Int) (h1 : -9223372036854775808 ≤ x) (h2 : x ≤ 9223372036854775807) (w : World) (ht : Tab w) :
  Calls Tryz.prog 25 #[cv, .int .i64 x, .int .i64 f, .int .i64 4, .int .i64 prec, .int .i64 mode] w fun r w' => BothPost w w' r := by
 by_cases hf : 0 ≤ f ∧ f ≤ 2
 ·rcases (by omega : f = 0 ∨ f = 1 ∨ f = 2) with rfl | rfl | rfl
  ·exact formatted_any cv x 0 4 prec mode _ _ (fun T T' a b => a.same b) w ht (fun w hw => phexF cv 0 x prec mode (by decide) h1 h2 w hw) (fun w => rhexF0 x prec mode h1 h2 w)
  ·exact formatted_any cv x 1 4 prec mode _ _ (fun T T' a b => a.same b) w ht (fun w hw => phexF cv 1 x prec mode (by decide) h1 h2 w hw) (fun w => rhexF1 x prec mode h1 h2 w)
  ·exact formatted_any cv x 2 4 prec mode _ _ (fun T T' a b => a.same b) w ht (fun w hw => phexF cv 2 x prec mode (by decide) h1 h2 w hw) (fun w => rhexF2 x prec mode h1 h2 w)
 ·exact formatted_none cv x f 4 prec mode hf w
end Go.Proofs.YtbkdaoicnobllabGreatDoor

namespace Go.Proofs.YtbkdaoicnobllabGreatDoor
set_option maxRecDepth 100000
set_option maxHeartbeats 1000000
open Go.RowKit

theorem rowT_nil_iff (L : List Nat) (e hi : Int) (n : Nat) : rowT L e hi n = [] ↔ n = 0 := by
 constructor
 ·intro h; have := rowT_length L e hi n; rw [h] at this; simpa using this.symm
 ·rintro rfl; rfl
theorem fix_ptd (L : List Nat) (e : Int) (high cnt : Nat) : ptd (rowT L e high (high + 1)) (rowT L e (-1) cnt) = fixT L e high cnt := by
 unfold ptd fixT
 by_cases h : cnt = 0
 ·rw [if_pos h, if_pos ((rowT_nil_iff _ _ _ _).2 h)]; simp
 ·rw [if_neg h, if_neg (fun hh => h ((rowT_nil_iff _ _ _ _).1 hh))]
theorem sci_ptd (L : List Nat) (e top : Int) (cnt : Nat) : ptd (rowT L e top 1) (rowT L e (top - 1) cnt) = sciT L e top cnt := by
 unfold ptd sciT
 by_cases h : cnt = 0
 ·rw [if_pos h, if_pos ((rowT_nil_iff _ _ _ _).2 h)]; simp
 ·rw [if_neg h, if_neg (fun hh => h ((rowT_nil_iff _ _ _ _).1 hh))]
def cntN (e n : Int) : Nat := if n < 0 then (-(min e 0)).toNat else n.toNat
theorem plain_any (v : Value) (L : List Nat) (e n : Int) (w : World) (hr : Row w v L) (hd : Digs L) (hl : L.length ≤ 100000) (he : -15000 ≤ e ∧ e ≤ 15000) (ht : e + L.length ≤ 15000) (hn : -1 ≤ n ∧ n ≤ 2000) :
  Calls Tryz.prog 86 #[.agg #[v, .int .i64 e], .int .i64 n] w fun r w' => r = .returned (.string (str (fixT L e (highN L e) (cntN e n)))) ∧ Below w.heap.size w w' := by
 obtain ⟨ao, cap, hv⟩ := hr.isSlice
 subst hv
 have HR := hid (And.intro hr hd)
 have HRW : Hid (∀ w' : World, Below (w.heap.size + 1) (w.alloc (.cells #[.slice ao L.length cap, .int .i64 e] 95)) w' → Row w' (.slice ao L.length cap) L) := fun w' hb => HR.out.1.below (((Below.refl w.heap.size w).alloc (Nat.le_refl _) _).trans (hb.mono (by omega))) (Nat.le_refl _)
 have HUP : Hid (∀ w' : World, Below (w.heap.size + 1) (w.alloc (.cells #[.slice ao L.length cap, .int .i64 e] 95)) w' → Below w.heap.size w w') := fun w' hb => ((Below.refl w.heap.size w).alloc (Nat.le_refl _) _).trans (hb.mono (by omega))
 clear hr hd
 obtain ⟨H, hH⟩ : ∃ H : Int, H = (highN L e : Int) := ⟨_, rfl⟩
 have hH1 : 0 ≤ H ∧ H ≤ 20000 := by rw [hH]; unfold highN; split <;> omega
 by_cases h0 : L.length = 0
 ·have HZC : Hid (∀ w' : World, Row w' (.slice ao L.length cap) L → Calls Tryz.prog 78 #[.agg #[.slice ao L.length cap, .int .i64 e]] w' fun r w2 => r = .returned (.bool true) ∧ Below w'.heap.size w' w2) := fun w' hw => by
   have := zero_any (.slice ao L.length cap) L e w' hw
   rw [show decide (L.length = 0) = true from by simp [h0]] at this; exact this
  have hH0 : H = 0 := by rw [hH]; unfold highN; rw [if_pos (List.length_eq_zero_iff.1 h0)]; rfl
  have HH := hid hH
  clear h0 hH
  have hHz : (highN L e : Int) = 0 := by rw [← HH.out]; exact hH0
  clear hH0 HH hH1
  by_cases hn0 : n < 0
  ·have hx : True := trivial
   obtain ⟨A, hA⟩ : ∃ A, A = rowT L e (0) ((0 : Int) - 0 + 1).toNat := ⟨_, rfl⟩
   obtain ⟨B, hB⟩ : ∃ B, B = rowT L e (-1) (-1 - (min e 0) + 1).toNat := ⟨_, rfl⟩
   have HRA : Hid (∀ w' : World, Row w' (.slice ao L.length cap) L → Calls Tryz.prog 118 #[.agg #[.slice ao L.length cap, .int .i64 e], .int .i64 (0), .int .i64 0] w' fun r w2 => r = .returned (.string (str A)) ∧ Below w'.heap.size w' w2) := fun w' hw => by rw [hA]; exact row_any (.slice ao L.length cap) L e (0) 0 w' hw HR.out.2 (by omega) (by omega) (by omega) (by omega)
   have HRB : Hid (∀ w' : World, Row w' (.slice ao L.length cap) L → Calls Tryz.prog 118 #[.agg #[.slice ao L.length cap, .int .i64 e], .int .i64 (-1), .int .i64 (min e 0)] w' fun r w2 => r = .returned (.string (str B)) ∧ Below w'.heap.size w' w2) := fun w' hw => by rw [hB]; exact row_any (.slice ao L.length cap) L e (-1) (min e 0) w' hw HR.out.2 (by omega) (by omega) (by omega) (by omega)
   have HPT : Hid (∀ w' : World, Calls Tryz.prog 119 #[.string (str A), .string (str B)] w' fun r w2 => r = .returned (.string (str (ptd A B))) ∧ w2 = w') := fun w' => pointed_any A B (by rw [hA, rowT_length]; omega) (by rw [hB, rowT_length]; omega) w'
   have HFX : Hid (ptd A B = fixT L e (highN L e) (cntN e n)) := by
    unfold Hid cntN; rw [if_pos hn0, ← fix_ptd, hA, hB]
    congr 2 <;> omega
   clear hA hB
   go_enter Tryz.func86, Tryz.ntmps86
   go_wp2_with fail
   refine (HZC.out _ (HRW.out _ (Below.refl _ _))).mono ?_
   rintro r w0 ⟨rfl, hb0⟩
   have HBX : Hid (Below (w.heap.size + 1) (w.alloc (.cells #[.slice ao L.length cap, .int .i64 e] 95)) w0) := hb0.mono (by simp)
   have c0 : w0.cell? ⟨w.heap.size, 0, none⟩ = some (.slice ao L.length cap) := (HBX.out.cell (p := ⟨w.heap.size, 0, none⟩) (by simp)).trans (by simp [go_sem])
   have c1 : w0.cell? ⟨w.heap.size, 1, none⟩ = some (.int .i64 e) := (HBX.out.cell (p := ⟨w.heap.size, 1, none⟩) (by simp)).trans (by simp [go_sem])
   have HSZ : Hid (w.heap.size + 1 ≤ w0.heap.size) := by unfold Hid; have := HBX.out.size; simpa using this
   clear hb0
   go_wp2_with fail
   refine (least_any e 0 w0).mono ?_
   rintro r wl ⟨rfl, rfl⟩
   go_wp2_with fail
   refine (HRA.out wl (HRW.out wl HBX.out)).mono ?_
   rintro r w2 ⟨rfl, hb2⟩
   have hbx2 := below_next HBX.out hb2 HSZ.out
   have m0 := keep_cell' hb2 c0
   have m1 := keep_cell' hb2 c1
   have HBX2 := hid hbx2
   have HSZ2 : Hid (w.heap.size + 1 ≤ w2.heap.size) := by unfold Hid; have := hb2.size; have := HSZ.out; omega
   clear hb2 hbx2 c0 c1
   go_wp2_with fail
   refine (HRB.out w2 (HRW.out w2 HBX2.out)).mono ?_
   rintro r w3 ⟨rfl, hb3⟩
   have hbx3 := below_next HBX2.out hb3 HSZ2.out
   have HBX3 := hid (HUP.out w3 hbx3)
   clear hb3 hbx3 m0 m1
   go_wp2_with fail
   refine (HPT.out w3).mono ?_
   rintro r w4 ⟨rfl, rfl⟩
   go_wp2
   go_ret
   exact ⟨ret_str (by rw [HFX.out]), HBX3.out⟩
  ·have hx : True := trivial
   obtain ⟨A, hA⟩ : ∃ A, A = rowT L e (0) ((0 : Int) - 0 + 1).toNat := ⟨_, rfl⟩
   obtain ⟨B, hB⟩ : ∃ B, B = rowT L e (-1) (-1 - (-n) + 1).toNat := ⟨_, rfl⟩
   have HRA : Hid (∀ w' : World, Row w' (.slice ao L.length cap) L → Calls Tryz.prog 118 #[.agg #[.slice ao L.length cap, .int .i64 e], .int .i64 (0), .int .i64 0] w' fun r w2 => r = .returned (.string (str A)) ∧ Below w'.heap.size w' w2) := fun w' hw => by rw [hA]; exact row_any (.slice ao L.length cap) L e (0) 0 w' hw HR.out.2 (by omega) (by omega) (by omega) (by omega)
   have HRB : Hid (∀ w' : World, Row w' (.slice ao L.length cap) L → Calls Tryz.prog 118 #[.agg #[.slice ao L.length cap, .int .i64 e], .int .i64 (-1), .int .i64 (-n)] w' fun r w2 => r = .returned (.string (str B)) ∧ Below w'.heap.size w' w2) := fun w' hw => by rw [hB]; exact row_any (.slice ao L.length cap) L e (-1) (-n) w' hw HR.out.2 (by omega) (by omega) (by omega) (by omega)
   have HPT : Hid (∀ w' : World, Calls Tryz.prog 119 #[.string (str A), .string (str B)] w' fun r w2 => r = .returned (.string (str (ptd A B))) ∧ w2 = w') := fun w' => pointed_any A B (by rw [hA, rowT_length]; omega) (by rw [hB, rowT_length]; omega) w'
   have HFX : Hid (ptd A B = fixT L e (highN L e) (cntN e n)) := by
    unfold Hid cntN; rw [if_neg hn0, ← fix_ptd, hA, hB]
    congr 2 <;> omega
   clear hA hB
   go_enter Tryz.func86, Tryz.ntmps86
   go_wp2_with fail
   refine (HZC.out _ (HRW.out _ (Below.refl _ _))).mono ?_
   rintro r w0 ⟨rfl, hb0⟩
   have HBX : Hid (Below (w.heap.size + 1) (w.alloc (.cells #[.slice ao L.length cap, .int .i64 e] 95)) w0) := hb0.mono (by simp)
   have c0 : w0.cell? ⟨w.heap.size, 0, none⟩ = some (.slice ao L.length cap) := (HBX.out.cell (p := ⟨w.heap.size, 0, none⟩) (by simp)).trans (by simp [go_sem])
   have c1 : w0.cell? ⟨w.heap.size, 1, none⟩ = some (.int .i64 e) := (HBX.out.cell (p := ⟨w.heap.size, 1, none⟩) (by simp)).trans (by simp [go_sem])
   have HSZ : Hid (w.heap.size + 1 ≤ w0.heap.size) := by unfold Hid; have := HBX.out.size; simpa using this
   clear hb0
   go_wp2_with fail
   refine (HRA.out w0 (HRW.out w0 HBX.out)).mono ?_
   rintro r w2 ⟨rfl, hb2⟩
   have hbx2 := below_next HBX.out hb2 HSZ.out
   have m0 := keep_cell' hb2 c0
   have m1 := keep_cell' hb2 c1
   have HBX2 := hid hbx2
   have HSZ2 : Hid (w.heap.size + 1 ≤ w2.heap.size) := by unfold Hid; have := hb2.size; have := HSZ.out; omega
   clear hb2 hbx2 c0 c1
   go_wp2_with fail
   refine (HRB.out w2 (HRW.out w2 HBX2.out)).mono ?_
   rintro r w3 ⟨rfl, hb3⟩
   have hbx3 := below_next HBX2.out hb3 HSZ2.out
   have HBX3 := hid (HUP.out w3 hbx3)
   clear hb3 hbx3 m0 m1
   go_wp2_with fail
   refine (HPT.out w3).mono ?_
   rintro r w4 ⟨rfl, rfl⟩
   go_wp2
   go_ret
   exact ⟨ret_str (by rw [HFX.out]), HBX3.out⟩
 ·have HZC : Hid (∀ w' : World, Row w' (.slice ao L.length cap) L → Calls Tryz.prog 78 #[.agg #[.slice ao L.length cap, .int .i64 e]] w' fun r w2 => r = .returned (.bool false) ∧ Below w'.heap.size w' w2) := fun w' hw => by
   have := zero_any (.slice ao L.length cap) L e w' hw
   rw [show decide (L.length = 0) = false from by simp [h0]] at this; exact this
  have hHm : max (e + (L.length : Int) - 1) 0 = H := by rw [hH]; unfold highN; rw [if_neg (fun h => h0 (by rw [h]; rfl))]; omega
  have hHH : (highN L e : Int) = H := hH.symm
  clear h0 hH
  by_cases hn0 : n < 0
  ·have hx : True := trivial
   obtain ⟨A, hA⟩ : ∃ A, A = rowT L e (H) ((H : Int) - 0 + 1).toNat := ⟨_, rfl⟩
   obtain ⟨B, hB⟩ : ∃ B, B = rowT L e (-1) (-1 - (min e 0) + 1).toNat := ⟨_, rfl⟩
   have HRA : Hid (∀ w' : World, Row w' (.slice ao L.length cap) L → Calls Tryz.prog 118 #[.agg #[.slice ao L.length cap, .int .i64 e], .int .i64 (H), .int .i64 0] w' fun r w2 => r = .returned (.string (str A)) ∧ Below w'.heap.size w' w2) := fun w' hw => by rw [hA]; exact row_any (.slice ao L.length cap) L e (H) 0 w' hw HR.out.2 (by omega) (by omega) (by omega) (by omega)
   have HRB : Hid (∀ w' : World, Row w' (.slice ao L.length cap) L → Calls Tryz.prog 118 #[.agg #[.slice ao L.length cap, .int .i64 e], .int .i64 (-1), .int .i64 (min e 0)] w' fun r w2 => r = .returned (.string (str B)) ∧ Below w'.heap.size w' w2) := fun w' hw => by rw [hB]; exact row_any (.slice ao L.length cap) L e (-1) (min e 0) w' hw HR.out.2 (by omega) (by omega) (by omega) (by omega)
   have HPT : Hid (∀ w' : World, Calls Tryz.prog 119 #[.string (str A), .string (str B)] w' fun r w2 => r = .returned (.string (str (ptd A B))) ∧ w2 = w') := fun w' => pointed_any A B (by rw [hA, rowT_length]; omega) (by rw [hB, rowT_length]; omega) w'
   have HFX : Hid (ptd A B = fixT L e (highN L e) (cntN e n)) := by
    unfold Hid cntN; rw [if_pos hn0, ← fix_ptd, hA, hB]
    congr 2 <;> omega
   clear hA hB
   go_enter Tryz.func86, Tryz.ntmps86
   go_wp2_with fail
   refine (HZC.out _ (HRW.out _ (Below.refl _ _))).mono ?_
   rintro r w0 ⟨rfl, hb0⟩
   have HBX : Hid (Below (w.heap.size + 1) (w.alloc (.cells #[.slice ao L.length cap, .int .i64 e] 95)) w0) := hb0.mono (by simp)
   have c0 : w0.cell? ⟨w.heap.size, 0, none⟩ = some (.slice ao L.length cap) := (HBX.out.cell (p := ⟨w.heap.size, 0, none⟩) (by simp)).trans (by simp [go_sem])
   have c1 : w0.cell? ⟨w.heap.size, 1, none⟩ = some (.int .i64 e) := (HBX.out.cell (p := ⟨w.heap.size, 1, none⟩) (by simp)).trans (by simp [go_sem])
   have HSZ : Hid (w.heap.size + 1 ≤ w0.heap.size) := by unfold Hid; have := HBX.out.size; simpa using this
   clear hb0
   go_wp2_with fail
   refine (top_any (.slice ao L.length cap) L e w0 (HRW.out w0 HBX.out) (by omega) (by omega)).mono ?_
   rintro r wt ⟨rfl, hbt⟩
   have HBT := hid (below_next HBX.out hbt HSZ.out)
   clear HBX HSZ c0 c1
   have HBX := HBT
   have c0 : wt.cell? ⟨w.heap.size, 0, none⟩ = some (.slice ao L.length cap) := (HBX.out.cell (p := ⟨w.heap.size, 0, none⟩) (by simp)).trans (by simp [go_sem])
   have c1 : wt.cell? ⟨w.heap.size, 1, none⟩ = some (.int .i64 e) := (HBX.out.cell (p := ⟨w.heap.size, 1, none⟩) (by simp)).trans (by simp [go_sem])
   have HSZ : Hid (w.heap.size + 1 ≤ wt.heap.size) := by unfold Hid; have := HBX.out.size; simpa using this
   clear hbt
   go_wp2_with fail
   refine (most_any (e + L.length - 1) 0 wt).mono ?_
   rintro r wm ⟨rfl, rfl⟩
   rw [hHm]
   go_wp2_with fail
   refine (least_any e 0 wm).mono ?_
   rintro r wl ⟨rfl, rfl⟩
   go_wp2_with fail
   refine (HRA.out wl (HRW.out wl HBX.out)).mono ?_
   rintro r w2 ⟨rfl, hb2⟩
   have hbx2 := below_next HBX.out hb2 HSZ.out
   have m0 := keep_cell' hb2 c0
   have m1 := keep_cell' hb2 c1
   have HBX2 := hid hbx2
   have HSZ2 : Hid (w.heap.size + 1 ≤ w2.heap.size) := by unfold Hid; have := hb2.size; have := HSZ.out; omega
   clear hb2 hbx2 c0 c1
   go_wp2_with fail
   refine (HRB.out w2 (HRW.out w2 HBX2.out)).mono ?_
   rintro r w3 ⟨rfl, hb3⟩
   have hbx3 := below_next HBX2.out hb3 HSZ2.out
   have HBX3 := hid (HUP.out w3 hbx3)
   clear hb3 hbx3 m0 m1
   go_wp2_with fail
   refine (HPT.out w3).mono ?_
   rintro r w4 ⟨rfl, rfl⟩
   go_wp2
   go_ret
   exact ⟨ret_str (by rw [HFX.out]), HBX3.out⟩
  ·have hx : True := trivial
   obtain ⟨A, hA⟩ : ∃ A, A = rowT L e (H) ((H : Int) - 0 + 1).toNat := ⟨_, rfl⟩
   obtain ⟨B, hB⟩ : ∃ B, B = rowT L e (-1) (-1 - (-n) + 1).toNat := ⟨_, rfl⟩
   have HRA : Hid (∀ w' : World, Row w' (.slice ao L.length cap) L → Calls Tryz.prog 118 #[.agg #[.slice ao L.length cap, .int .i64 e], .int .i64 (H), .int .i64 0] w' fun r w2 => r = .returned (.string (str A)) ∧ Below w'.heap.size w' w2) := fun w' hw => by rw [hA]; exact row_any (.slice ao L.length cap) L e (H) 0 w' hw HR.out.2 (by omega) (by omega) (by omega) (by omega)
   have HRB : Hid (∀ w' : World, Row w' (.slice ao L.length cap) L → Calls Tryz.prog 118 #[.agg #[.slice ao L.length cap, .int .i64 e], .int .i64 (-1), .int .i64 (-n)] w' fun r w2 => r = .returned (.string (str B)) ∧ Below w'.heap.size w' w2) := fun w' hw => by rw [hB]; exact row_any (.slice ao L.length cap) L e (-1) (-n) w' hw HR.out.2 (by omega) (by omega) (by omega) (by omega)
   have HPT : Hid (∀ w' : World, Calls Tryz.prog 119 #[.string (str A), .string (str B)] w' fun r w2 => r = .returned (.string (str (ptd A B))) ∧ w2 = w') := fun w' => pointed_any A B (by rw [hA, rowT_length]; omega) (by rw [hB, rowT_length]; omega) w'
   have HFX : Hid (ptd A B = fixT L e (highN L e) (cntN e n)) := by
    unfold Hid cntN; rw [if_neg hn0, ← fix_ptd, hA, hB]
    congr 2 <;> omega
   clear hA hB
   go_enter Tryz.func86, Tryz.ntmps86
   go_wp2_with fail
   refine (HZC.out _ (HRW.out _ (Below.refl _ _))).mono ?_
   rintro r w0 ⟨rfl, hb0⟩
   have HBX : Hid (Below (w.heap.size + 1) (w.alloc (.cells #[.slice ao L.length cap, .int .i64 e] 95)) w0) := hb0.mono (by simp)
   have c0 : w0.cell? ⟨w.heap.size, 0, none⟩ = some (.slice ao L.length cap) := (HBX.out.cell (p := ⟨w.heap.size, 0, none⟩) (by simp)).trans (by simp [go_sem])
   have c1 : w0.cell? ⟨w.heap.size, 1, none⟩ = some (.int .i64 e) := (HBX.out.cell (p := ⟨w.heap.size, 1, none⟩) (by simp)).trans (by simp [go_sem])
   have HSZ : Hid (w.heap.size + 1 ≤ w0.heap.size) := by unfold Hid; have := HBX.out.size; simpa using this
   clear hb0
   go_wp2_with fail
   refine (top_any (.slice ao L.length cap) L e w0 (HRW.out w0 HBX.out) (by omega) (by omega)).mono ?_
   rintro r wt ⟨rfl, hbt⟩
   have HBT := hid (below_next HBX.out hbt HSZ.out)
   clear HBX HSZ c0 c1
   have HBX := HBT
   have c0 : wt.cell? ⟨w.heap.size, 0, none⟩ = some (.slice ao L.length cap) := (HBX.out.cell (p := ⟨w.heap.size, 0, none⟩) (by simp)).trans (by simp [go_sem])
   have c1 : wt.cell? ⟨w.heap.size, 1, none⟩ = some (.int .i64 e) := (HBX.out.cell (p := ⟨w.heap.size, 1, none⟩) (by simp)).trans (by simp [go_sem])
   have HSZ : Hid (w.heap.size + 1 ≤ wt.heap.size) := by unfold Hid; have := HBX.out.size; simpa using this
   clear hbt
   go_wp2_with fail
   refine (most_any (e + L.length - 1) 0 wt).mono ?_
   rintro r wm ⟨rfl, rfl⟩
   rw [hHm]
   go_wp2_with fail
   refine (HRA.out wm (HRW.out wm HBX.out)).mono ?_
   rintro r w2 ⟨rfl, hb2⟩
   have hbx2 := below_next HBX.out hb2 HSZ.out
   have m0 := keep_cell' hb2 c0
   have m1 := keep_cell' hb2 c1
   have HBX2 := hid hbx2
   have HSZ2 : Hid (w.heap.size + 1 ≤ w2.heap.size) := by unfold Hid; have := hb2.size; have := HSZ.out; omega
   clear hb2 hbx2 c0 c1
   go_wp2_with fail
   refine (HRB.out w2 (HRW.out w2 HBX2.out)).mono ?_
   rintro r w3 ⟨rfl, hb3⟩
   have hbx3 := below_next HBX2.out hb3 HSZ2.out
   have HBX3 := hid (HUP.out w3 hbx3)
   clear hb3 hbx3 m0 m1
   go_wp2_with fail
   refine (HPT.out w3).mono ?_
   rintro r w4 ⟨rfl, rfl⟩
   go_wp2
   go_ret
   exact ⟨ret_str (by rw [HFX.out]), HBX3.out⟩
end Go.Proofs.YtbkdaoicnobllabGreatDoor

namespace Go.Proofs.YtbkdaoicnobllabGreatDoor
set_option maxRecDepth 100000
set_option maxHeartbeats 1000000
open Go.RowKit

def cntS (L : List Nat) (n : Int) : Nat := if n < 0 then L.length - 1 else n.toNat
theorem scientific_any (v : Value) (L : List Nat) (e n : Int) (w : World) (hr : Row w v L) (hd : Digs L) (h0 : 0 < L.length) (hl : L.length ≤ 15000) (he : -9000 ≤ e ∧ e ≤ 9000) (ht : e + L.length ≤ 9000) (hn : -1 ≤ n ∧ n ≤ 2000) :
  Calls Tryz.prog 88 #[.agg #[v, .int .i64 e], .int .i64 n] w fun r w' => r = .returned (.string (str (sciT L e (e + L.length - 1) (cntS L n) ++ (101 :: Lib.itoa (e + L.length - 1))))) ∧ Below w.heap.size w w' := by
 obtain ⟨ao, cap, hv⟩ := hr.isSlice
 subst hv
 have HR := hid (And.intro hr hd)
 have HRW : Hid (∀ w' : World, Below (w.heap.size + 1) (w.alloc (.cells #[.slice ao L.length cap, .int .i64 e] 95)) w' → Row w' (.slice ao L.length cap) L) := fun w' hb => HR.out.1.below (((Below.refl w.heap.size w).alloc (Nat.le_refl _) _).trans (hb.mono (by omega))) (Nat.le_refl _)
 have HUP : Hid (∀ w' : World, Below (w.heap.size + 1) (w.alloc (.cells #[.slice ao L.length cap, .int .i64 e] 95)) w' → Below w.heap.size w w') := fun w' hb => ((Below.refl w.heap.size w).alloc (Nat.le_refl _) _).trans (hb.mono (by omega))
 have HTP := hid (fun (w' : World) (hw : Row w' (.slice ao L.length cap) L) => top_any (.slice ao L.length cap) L e w' hw (by omega) (by omega))
 obtain ⟨P, hP⟩ : ∃ P, P = e + L.length - 1 := ⟨_, rfl⟩
 rw [← hP] at HTP ⊢
 have hP1 : -12000 ≤ P - n ∧ P ≤ 9000 := by omega
 have hP2 : -9000 ≤ P := by omega
 have hPP : e + (L.length : Int) - 1 = P := hP.symm
 clear hr hd hP
 by_cases hn0 : n < 0
 ·have hx : True := trivial
  obtain ⟨A, hA⟩ : ∃ A, A = rowT L e P (P - P + 1).toNat := ⟨_, rfl⟩
  obtain ⟨B, hB⟩ : ∃ B, B = rowT L e (P - 1) ((P - 1) - (e) + 1).toNat := ⟨_, rfl⟩
  have HRA : Hid (∀ w' : World, Row w' (.slice ao L.length cap) L → Calls Tryz.prog 118 #[.agg #[.slice ao L.length cap, .int .i64 e], .int .i64 P, .int .i64 P] w' fun r w2 => r = .returned (.string (str A)) ∧ Below w'.heap.size w' w2) := fun w' hw => by rw [hA]; exact row_any (.slice ao L.length cap) L e P P w' hw HR.out.2 (by omega) (by omega) (by omega) (by omega)
  have HRB : Hid (∀ w' : World, Row w' (.slice ao L.length cap) L → Calls Tryz.prog 118 #[.agg #[.slice ao L.length cap, .int .i64 e], .int .i64 (P - 1), .int .i64 (e)] w' fun r w2 => r = .returned (.string (str B)) ∧ Below w'.heap.size w' w2) := fun w' hw => by rw [hB]; exact row_any (.slice ao L.length cap) L e (P - 1) (e) w' hw HR.out.2 (by omega) (by omega) (by omega) (by omega)
  have HPT : Hid (∀ w' : World, Calls Tryz.prog 119 #[.string (str A), .string (str B)] w' fun r w2 => r = .returned (.string (str (ptd A B))) ∧ w2 = w') := fun w' => pointed_any A B (by rw [hA, rowT_length]; omega) (by rw [hB, rowT_length]; omega) w'
  have HNU := hid (rnumber_any P (by omega) (by omega))
  obtain ⟨C, hC⟩ : ∃ C, C = ptd A B := ⟨_, rfl⟩
  have hCl : (str C).size ≤ 100000 := by
   rw [str_size, hC]; unfold ptd; split <;> simp [hA, hB, rowT_length] <;> omega
  have hIl : (str (Lib.itoa P)).size ≤ 100 := by rw [str_size]; have := Lib.itoa_length_le P (by omega) (by omega); omega
  have HFX : Hid (str C ++ ⟨#[101]⟩ ++ str (Lib.itoa P) = str (sciT L e P (cntS L n) ++ (101 :: Lib.itoa P))) := by
   unfold Hid
   rw [show sciT L e P (cntS L n) = C from by unfold cntS; rw [if_pos hn0, ← sci_ptd, hC, hA, hB]; congr 2 <;> omega]
   rw [show (101 :: Lib.itoa P : List UInt8) = [101] ++ Lib.itoa P from rfl, ← List.append_assoc, ← str_append, ← str_append]; rfl
  rw [← hC] at HPT
  clear hA hB hC
  go_enter Tryz.func88, Tryz.ntmps88
  go_wp2_with fail
  refine (HTP.out _ (HRW.out _ (Below.refl _ _))).mono ?_
  rintro r w1 ⟨rfl, hb0⟩
  have HBX : Hid (Below (w.heap.size + 1) (w.alloc (.cells #[.slice ao L.length cap, .int .i64 e] 95)) w1) := hb0.mono (by simp)
  have c0 : w1.cell? ⟨w.heap.size, 0, none⟩ = some (.slice ao L.length cap) := (HBX.out.cell (p := ⟨w.heap.size, 0, none⟩) (by simp)).trans (by simp [go_sem])
  have c1 : w1.cell? ⟨w.heap.size, 1, none⟩ = some (.int .i64 e) := (HBX.out.cell (p := ⟨w.heap.size, 1, none⟩) (by simp)).trans (by simp [go_sem])
  have HSZ : Hid (w.heap.size + 1 ≤ w1.heap.size) := by unfold Hid; have := HBX.out.size; simpa using this
  clear hb0
  go_wp2_with fail
  refine (HRA.out w1 (HRW.out w1 HBX.out)).mono ?_
  rintro r w2 ⟨rfl, hb2⟩
  have hbx2 := below_next HBX.out hb2 HSZ.out
  have m0 := keep_cell' hb2 c0
  have m1 := keep_cell' hb2 c1
  have HBX2 := hid hbx2
  have HSZ2 : Hid (w.heap.size + 1 ≤ w2.heap.size) := by unfold Hid; have := hb2.size; have := HSZ.out; omega
  clear hb2 hbx2 c0 c1
  go_wp2_with fail
  refine (HRB.out w2 (HRW.out w2 HBX2.out)).mono ?_
  rintro r w3 ⟨rfl, hb3⟩
  have hbx3 := below_next HBX2.out hb3 HSZ2.out
  have HBX3 := hid (HUP.out w3 hbx3)
  clear hb3 hbx3 m0 m1
  go_wp2_with fail
  refine (HPT.out w3).mono ?_
  rintro r w4 ⟨rfl, rfl⟩
  go_wp2_with fail
  refine (HNU.out w4).mono ?_
  rintro r w5 ⟨rfl, hb5⟩
  have HB5 : Hid (Below w.heap.size w w5) := HBX3.out.trans (hb5.mono HBX3.out.size)
  clear hb5
  go_wp2
  go_ret
  exact ⟨ret_str HFX.out, HB5.out⟩
 ·have hx : True := trivial
  obtain ⟨A, hA⟩ : ∃ A, A = rowT L e P (P - P + 1).toNat := ⟨_, rfl⟩
  obtain ⟨B, hB⟩ : ∃ B, B = rowT L e (P - 1) ((P - 1) - (P - n) + 1).toNat := ⟨_, rfl⟩
  have HRA : Hid (∀ w' : World, Row w' (.slice ao L.length cap) L → Calls Tryz.prog 118 #[.agg #[.slice ao L.length cap, .int .i64 e], .int .i64 P, .int .i64 P] w' fun r w2 => r = .returned (.string (str A)) ∧ Below w'.heap.size w' w2) := fun w' hw => by rw [hA]; exact row_any (.slice ao L.length cap) L e P P w' hw HR.out.2 (by omega) (by omega) (by omega) (by omega)
  have HRB : Hid (∀ w' : World, Row w' (.slice ao L.length cap) L → Calls Tryz.prog 118 #[.agg #[.slice ao L.length cap, .int .i64 e], .int .i64 (P - 1), .int .i64 (P - n)] w' fun r w2 => r = .returned (.string (str B)) ∧ Below w'.heap.size w' w2) := fun w' hw => by rw [hB]; exact row_any (.slice ao L.length cap) L e (P - 1) (P - n) w' hw HR.out.2 (by omega) (by omega) (by omega) (by omega)
  have HPT : Hid (∀ w' : World, Calls Tryz.prog 119 #[.string (str A), .string (str B)] w' fun r w2 => r = .returned (.string (str (ptd A B))) ∧ w2 = w') := fun w' => pointed_any A B (by rw [hA, rowT_length]; omega) (by rw [hB, rowT_length]; omega) w'
  have HNU := hid (rnumber_any P (by omega) (by omega))
  obtain ⟨C, hC⟩ : ∃ C, C = ptd A B := ⟨_, rfl⟩
  have hCl : (str C).size ≤ 100000 := by
   rw [str_size, hC]; unfold ptd; split <;> simp [hA, hB, rowT_length] <;> omega
  have hIl : (str (Lib.itoa P)).size ≤ 100 := by rw [str_size]; have := Lib.itoa_length_le P (by omega) (by omega); omega
  have HFX : Hid (str C ++ ⟨#[101]⟩ ++ str (Lib.itoa P) = str (sciT L e P (cntS L n) ++ (101 :: Lib.itoa P))) := by
   unfold Hid
   rw [show sciT L e P (cntS L n) = C from by unfold cntS; rw [if_neg hn0, ← sci_ptd, hC, hA, hB]; congr 2 <;> omega]
   rw [show (101 :: Lib.itoa P : List UInt8) = [101] ++ Lib.itoa P from rfl, ← List.append_assoc, ← str_append, ← str_append]; rfl
  rw [← hC] at HPT
  clear hA hB hC
  go_enter Tryz.func88, Tryz.ntmps88
  go_wp2_with fail
  refine (HTP.out _ (HRW.out _ (Below.refl _ _))).mono ?_
  rintro r w1 ⟨rfl, hb0⟩
  have HBX : Hid (Below (w.heap.size + 1) (w.alloc (.cells #[.slice ao L.length cap, .int .i64 e] 95)) w1) := hb0.mono (by simp)
  have c0 : w1.cell? ⟨w.heap.size, 0, none⟩ = some (.slice ao L.length cap) := (HBX.out.cell (p := ⟨w.heap.size, 0, none⟩) (by simp)).trans (by simp [go_sem])
  have c1 : w1.cell? ⟨w.heap.size, 1, none⟩ = some (.int .i64 e) := (HBX.out.cell (p := ⟨w.heap.size, 1, none⟩) (by simp)).trans (by simp [go_sem])
  have HSZ : Hid (w.heap.size + 1 ≤ w1.heap.size) := by unfold Hid; have := HBX.out.size; simpa using this
  clear hb0
  go_wp2_with fail
  refine (HRA.out w1 (HRW.out w1 HBX.out)).mono ?_
  rintro r w2 ⟨rfl, hb2⟩
  have hbx2 := below_next HBX.out hb2 HSZ.out
  have m0 := keep_cell' hb2 c0
  have m1 := keep_cell' hb2 c1
  have HBX2 := hid hbx2
  have HSZ2 : Hid (w.heap.size + 1 ≤ w2.heap.size) := by unfold Hid; have := hb2.size; have := HSZ.out; omega
  clear hb2 hbx2 c0 c1
  go_wp2_with fail
  refine (HRB.out w2 (HRW.out w2 HBX2.out)).mono ?_
  rintro r w3 ⟨rfl, hb3⟩
  have hbx3 := below_next HBX2.out hb3 HSZ2.out
  have HBX3 := hid (HUP.out w3 hbx3)
  clear hb3 hbx3 m0 m1
  go_wp2_with fail
  refine (HPT.out w3).mono ?_
  rintro r w4 ⟨rfl, rfl⟩
  go_wp2_with fail
  refine (HNU.out w4).mono ?_
  rintro r w5 ⟨rfl, hb5⟩
  have HB5 : Hid (Below w.heap.size w w5) := HBX3.out.trans (hb5.mono HBX3.out.size)
  clear hb5
  go_wp2
  go_ret
  exact ⟨ret_str HFX.out, HB5.out⟩
end Go.Proofs.YtbkdaoicnobllabGreatDoor

namespace Go.Proofs.YtbkdaoicnobllabGreatDoor
open Go.RowKit

theorem valA_top {f : Int} {a : Nat} {L : List Nat} {e : Int} (hf : 0 ≤ f ∧ f ≤ 2) (ha : (a : Int) < infA f) (hh : Headed L) (hl : 0 < L.length) (he : -(3000 : Int) ≤ e) (hv : val 3000 L e = valA 3000 f a) : e + L.length ≤ 400 := by
 rcases (by omega : f = 0 ∨ f = 1 ∨ f = 2) with rfl | rfl | rfl
 ·have hai : (a : Int) < 31744 := ha
  have h1 := mA_lt 10 a
  rw [show (2 : Nat) ^ 10 = 1024 from by decide] at h1
  have h2 : (-24 : Int) + (xA 10 a : Nat) ≤ 1080 := by
   unfold xA; rw [show (2 : Nat) ^ 10 = 1024 from by decide]; omega
  exact small_top hh hl he (show val 3000 L e = two 3000 (-24 + (xA 10 a : Nat)) * mA 10 a from hv) (by omega) (by omega) (by omega)
 ·have hai : (a : Int) < 2139095040 := ha
  have h1 := mA_lt 23 a
  rw [show (2 : Nat) ^ 23 = 8388608 from by decide] at h1
  have h2 : (-149 : Int) + (xA 23 a : Nat) ≤ 1080 := by
   unfold xA; rw [show (2 : Nat) ^ 23 = 8388608 from by decide]; omega
  exact small_top hh hl he (show val 3000 L e = two 3000 (-149 + (xA 23 a : Nat)) * mA 23 a from hv) (by omega) (by omega) (by omega)
 ·have hai : (a : Int) < 9218868437227405312 := ha
  have h1 := mA_lt 52 a
  rw [show (2 : Nat) ^ 52 = 4503599627370496 from by decide] at h1
  have h2 : (-1074 : Int) + (xA 52 a : Nat) ≤ 1080 := by
   unfold xA; rw [show (2 : Nat) ^ 52 = 4503599627370496 from by decide]; omega
  exact small_top hh hl he (show val 3000 L e = two 3000 (-1074 + (xA 52 a : Nat)) * mA 52 a from hv) (by omega) (by omega) (by omega)
theorem valA_none (K : Nat) (f : Int) : valA K f 0 = 0 := by unfold valA mA; simp
theorem valA_some (K : Nat) (f : Int) (a : Nat) (h : 0 < a) : 0 < valA K f a := Nat.mul_pos (two_pos _ _) (mA_pos _ _ h)
theorem highN_le (L : List Nat) (e : Int) (c : Nat) (h : e + L.length ≤ c) : highN L e ≤ c := by
 unfold highN; split <;> omega
end Go.Proofs.YtbkdaoicnobllabGreatDoor

namespace Go.Proofs.YtbkdaoicnobllabGreatDoor
open Go.RowKit

def cutV (L : List Nat) (e p : Int) (K : Nat) : Nat := val K L e / 10 ^ (p + K).toNat * 10 ^ (p + K).toNat
theorem cutV_whole (L : List Nat) (e p : Int) (K : Nat) (h : p ≤ e) (hk : -(K : Int) ≤ p) : cutV L e p K = val K L e := by
 unfold cutV
 have := val_mod L K e p h hk
 have h2 := Nat.div_add_mod (val K L e) (10 ^ (p + K).toNat)
 rw [this, Nat.add_zero, Nat.mul_comm] at h2; exact h2
theorem cutV_nil (e p : Int) (K : Nat) : cutV [] e p K = 0 := by unfold cutV; rw [val_nil]; simp
theorem leftN_zero (P : Nat) : leftN 0 P = 0 := by unfold leftN; simp
def CutPost (w w' : World) (v : Value) (L : List Nat) (e p : Int) (r : Ending) : Prop :=
 Below w.heap.size w w' ∧ ∃ v' L' e' left, r = .returned (.tuple #[.agg #[v', .int .i64 e'], .int .i64 left]) ∧
  (∀ K : Nat, -(K : Int) ≤ e → -(K : Int) ≤ p → left = leftN (val K L e) (10 ^ (p + K).toNat)) ∧
  Out w' v' L' e' L.length (min e p) (max (e + L.length) (p + 1)) (fun g => v.ownBlock = some g ∨ w.heap.size ≤ g) (cutV L e p)
theorem norm_drop_pos {L : List Nat} (h : Norm L) (k : Nat) (hk : k + 1 < L.length) : num (L.drop (k + 1)) ≠ 0 := by
 intro h0
 have h1 := h.last (by omega)
 apply h1
 exact (num_zero_iff _).1 h0 _ (by
  rw [List.mem_iff_getElem]
  exact ⟨L.length - 1 - (k + 1), by simp; omega, by simp; congr 1; omega⟩)
theorem norm_cut {L : List Nat} (h : Norm L) (K : Nat) (e p : Int) (he : -(K : Int) ≤ e) (k : Nat) (hk : (k : Int) = L.length + e - p) (hkl : k < L.length) :
  leftN (val K L e) (10 ^ (p + K).toNat) = if 5 < L.getD k 0 ∨ (L.getD k 0 = 5 ∧ k + 1 < L.length) then 3 else if L.getD k 0 = 5 then 2 else 1 := by
 rw [(cut_mid h.digs K e p he k hk hkl).2]
 by_cases hl : k + 1 < L.length
 ·have := norm_drop_pos h k hl
  simp only [this, and_false, hl, and_true, if_false]
  by_cases h5 : L.getD k 0 < 5
  ·rw [if_pos h5, if_neg (by omega), if_neg (by omega)]
  ·rw [if_neg h5, if_pos (by omega)]
 ·have hlast : L.getD k 0 ≠ 0 := by
   have := h.last (by omega)
   rw [List.getD_eq_getElem?_getD, List.getElem?_eq_getElem hkl]
   have e1 : k = L.length - 1 := by omega
   subst e1
   simpa using this
  have hz : num (L.drop (k + 1)) = 0 := by rw [List.drop_of_length_le (by omega)]; rfl
  simp only [hz, and_true, hl, and_false, or_false]
  rw [if_neg hlast]
  by_cases h5 : L.getD k 0 < 5
  ·rw [if_pos h5, if_neg (by omega), if_neg (by omega)]
  ·rw [if_neg h5]
   by_cases h6 : L.getD k 0 = 5
   ·rw [if_pos h6, if_neg (by omega), if_pos h6]
   ·rw [if_neg h6, if_pos (by omega)]
theorem take_cut {L : List Nat} (h : Digs L) (K : Nat) (e p : Int) (he : -(K : Int) ≤ e) (k : Nat) (hk : (k : Int) = L.length + e - p) (hkl : k < L.length) : val K (L.take k) p = cutV L e p K := by
 unfold cutV
 rw [(cut_mid h K e p he k hk hkl).1]; rfl
end Go.Proofs.YtbkdaoicnobllabGreatDoor
