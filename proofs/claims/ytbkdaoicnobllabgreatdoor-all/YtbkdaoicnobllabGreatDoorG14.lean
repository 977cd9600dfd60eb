import Derived.Test.YtbkdaoicnobllabGreatDoorG13
import Derived.Test.YtbkdaoicnobllabGreatDoorG00
import Derived.Deep.QuietTactic
import Derived.BigQuiet
import Derived.Test.YtbkdaoicnobllabGreatDoorG08
import Derived.Test.YtbkdaoicnobllabGreatDoorG07
import Derived.Test.YtbkdaoicnobllabGreatDoorG11

namespace Go.Proofs.YtbkdaoicnobllabGreatDoor
open Go.RowKit

theorem kind0 (w : World) :
  Calls Tryz.prog 45 #[.int .i64 0] w fun e w' => e = .returned (.tuple #[.int .i64 11, .int .i64 (-14), .int .i64 15, .int .i64 16]) ∧ w' = w := by
 go_enter Tryz.func45, Tryz.ntmps45
 go_wp2
 refine bodyPost_ret (v := .tuple #[.int .i64 11, .int .i64 (-14), .int .i64 15, .int .i64 16]) (by simp [results, Tryz.results45, go_sem]) rfl ⟨rfl, rfl⟩
theorem kind1 (w : World) :
  Calls Tryz.prog 45 #[.int .i64 1] w fun e w' => e = .returned (.tuple #[.int .i64 24, .int .i64 (-126), .int .i64 127, .int .i64 32]) ∧ w' = w := by
 go_enter Tryz.func45, Tryz.ntmps45
 go_wp2
 refine bodyPost_ret (v := .tuple #[.int .i64 24, .int .i64 (-126), .int .i64 127, .int .i64 32]) (by simp [results, Tryz.results45, go_sem]) rfl ⟨rfl, rfl⟩
theorem kind2 (w : World) :
  Calls Tryz.prog 45 #[.int .i64 2] w fun e w' => e = .returned (.tuple #[.int .i64 53, .int .i64 (-1022), .int .i64 1023, .int .i64 64]) ∧ w' = w := by
 go_enter Tryz.func45, Tryz.ntmps45
 go_wp2
 refine bodyPost_ret (v := .tuple #[.int .i64 53, .int .i64 (-1022), .int .i64 1023, .int .i64 64]) (by simp [results, Tryz.results45, go_sem]) rfl ⟨rfl, rfl⟩

theorem infinity_any (f : Int) (w : World) (hf : 0 ≤ f ∧ f ≤ 2) :
  Calls Tryz.prog 46 #[.int .i64 f] w fun e w' => e = .returned (.int .i64 (infA f)) ∧ ∃ n, w' = w.drewN n := by
 have hc : f = 0 ∨ f = 1 ∨ f = 2 := by omega
 rcases hc with rfl | rfl | rfl
 ·go_enter Tryz.func46, Tryz.ntmps46
  go_wp2_with fail
  refine (kind0 _).mono ?_
  rintro e w' ⟨rfl, rfl⟩
  go_wp2
  go_quiet (fail)
  go_wp2
  go_ret
  refine ⟨ret_int ?_, _, rfl⟩
  decide
 ·go_enter Tryz.func46, Tryz.ntmps46
  go_wp2_with fail
  refine (kind1 _).mono ?_
  rintro e w' ⟨rfl, rfl⟩
  go_wp2
  go_quiet (fail)
  go_wp2
  go_ret
  refine ⟨ret_int ?_, _, rfl⟩
  decide
 ·go_enter Tryz.func46, Tryz.ntmps46
  go_wp2_with fail
  refine (kind2 _).mono ?_
  rintro e w' ⟨rfl, rfl⟩
  go_wp2
  go_quiet (fail)
  go_wp2
  go_ret
  refine ⟨ret_int ?_, _, rfl⟩
  unfold wrap64
  decide

theorem away_any (mode half : Int) (neg odd : Bool) (w : World) :
  Calls Tryz.prog 81 #[.int .i64 mode, .bool neg, .int .i64 half, .bool odd] w fun e w' => e = .returned (.bool (awayB mode neg half odd)) ∧ w' = w := by
 by_cases h0 : mode = 0
 ·subst h0
  by_cases h3 : half = 3
  ·subst h3
   go_enter Tryz.func81, Tryz.ntmps81
   go_wp2
   go_ret
   exact ⟨rfl, rfl⟩
  ·have b3 : (half == 3) = false := by simpa using h3
   by_cases h2 : half = 2
   ·subst h2
    go_enter Tryz.func81, Tryz.ntmps81
    go_wp2
    go_ret
    exact ⟨by cases odd <;> rfl, rfl⟩
   ·have b2 : (half == 2) = false := by simpa using h2
    go_enter Tryz.func81, Tryz.ntmps81
    go_wp2
    go_ret
    exact ⟨by simp [awayB, b2, b3], rfl⟩
 ·have b0 : (mode == 0) = false := by simpa using h0
  by_cases h1 : mode = 1
  ·subst h1
   by_cases h2 : 2 ≤ half
   all_goals
    go_enter Tryz.func81, Tryz.ntmps81
    go_wp2
    go_ret
    exact ⟨by simp [awayB, h2], rfl⟩
  ·have b1 : (mode == 1) = false := by simpa using h1
   by_cases h3 : mode = 3
   ·subst h3
    go_enter Tryz.func81, Tryz.ntmps81
    go_wp2
    go_ret
    exact ⟨by simp [awayB], rfl⟩
   ·have b3 : (mode == 3) = false := by simpa using h3
    by_cases h4 : mode = 4
    ·subst h4
     go_enter Tryz.func81, Tryz.ntmps81
     go_wp2
     go_ret
     exact ⟨by simp [awayB], rfl⟩
    ·have b4 : (mode == 4) = false := by simpa using h4
     go_enter Tryz.func81, Tryz.ntmps81
     go_wp2
     go_ret
     exact ⟨by simp [awayB, h0, h1, h3, h4], rfl⟩

theorem row_one {w : World} {b : Nat} (h : b < w.heap.size) (c : w.cell? ⟨b, 0, none⟩ = some (.int .i64 1)) : Row w (.slice (some ⟨b, 0, none⟩) 1 1) [1] :=
 .inr ⟨b, 0, 1, rfl, by simp, by unfold maxLen; omega, h, fun j hj => by
  have : j = 0 := by simp at hj; omega
  subst this; simpa using c⟩
theorem norm_one : Norm [1] := ⟨Digs.cons (by omega) Digs.nil, fun _ => by simp, fun _ => by simp⟩
theorem val_one (K : Nat) (p : Int) : val K [1] p = 10 ^ (p + K).toNat := by simp [val, num_cons, num_nil]

theorem one_any (p : Int) (w : World) :
  Calls Tryz.prog 72 #[.int .i64 p] w fun r w' => Below w.heap.size w w' ∧
   ∃ v' L' e', r = .returned (.agg #[v', .int .i64 e']) ∧ Out w' v' L' e' 1 p (p + 1) (fun g => w.heap.size ≤ g) (fun K => 10 ^ (p + K).toNat) := by
 go_enter Tryz.func72, Tryz.ntmps72
 go_wp2
 refine bodyPost_ret (v := .agg #[.slice (some ⟨w.heap.size + 1, 0, none⟩) 1 1, .int .i64 p]) (dec_results rfl _ _ w.heap.size _ _ rfl (by simp [go_sem]) (by simp [go_sem])) rfl ⟨box4_below, _, [1], p, rfl, ?_⟩
 exact ⟨row_one (by simp) (by simp [go_sem]), fun g hg => by simp [Value.ownBlock] at hg; omega, norm_one, by simp, fun h => by simp at h, fun _ => by simp, fun K _ => val_one K p⟩

theorem whole_any (n : Nat) (w : World) (hn : n ≤ 36028797018963968) :
  Calls Tryz.prog 74 #[.int .i64 n] w fun r w' => Below w.heap.size w w' ∧
   ∃ v' L' e', r = .returned (.agg #[v', .int .i64 e']) ∧ Out w' v' L' e' 18 0 18 (fun g => w.heap.size ≤ g) (fun K => 10 ^ K * n) := by
 go_enter Tryz.func74, Tryz.ntmps74
 go_wp2_with fail
 refine (times_any _ [1] 0 n _ (row_one (by simp) (by simp [go_sem])) norm_one.digs (by simp) (by omega) hn).mono ?_
 rintro r w1 ⟨hb0, v', L', e', rfl, hout⟩
 have c0 : w1.cell? ⟨w.heap.size, 0, none⟩ = some (.slice none 0 0) := (hb0.cell (p := ⟨w.heap.size, 0, none⟩) (by simp; omega)).trans (by simp [go_sem])
 have c1 : w1.cell? ⟨w.heap.size, 1, none⟩ = some (.int .i64 0) := (hb0.cell (p := ⟨w.heap.size, 1, none⟩) (by simp; omega)).trans (by simp [go_sem])
 have f0 : w1.frozen? ⟨w.heap.size, 0, none⟩ = false := (hb0.frozen (p := ⟨w.heap.size, 0, none⟩) (by simp; omega)).trans (by simp [go_sem])
 have f1 : w1.frozen? ⟨w.heap.size, 1, none⟩ = false := (hb0.frozen (p := ⟨w.heap.size, 1, none⟩) (by simp; omega)).trans (by simp [go_sem])
 have HB := hid (box4_below.trans (hb0.mono (B' := w.heap.size) (by simp; omega)))
 obtain ⟨ao, cp, hv⟩ := hout.row.isSlice
 rw [hv] at hout
 subst hv
 clear hb0
 go_wp2
 refine bodyPost_ret (v := .agg #[.slice ao L'.length cp, .int .i64 e']) (dec_results rfl _ _ w.heap.size _ _ rfl (two_cells c0 c1).1 (two_cells c0 c1).2) rfl ⟨below_two HB.out (Nat.le_refl _) _ _, _, L', e', rfl, ?_⟩
 have h9 : Out w1 (.slice ao L'.length cp) L' e' 18 0 18 (fun g => w.heap.size + 2 ≤ g) (fun K => 10 ^ K * n) :=
  hout.mono (by simp) (by simp) (by simp) (fun g hg => by simpa using hg) (fun K hK => by rw [val_one]; simp)
 exact ((h9.setCell _ _ (by simp)).setCell _ _ (by simp)).mono (Nat.le_refl _) (Int.le_refl _) (Int.le_refl _) (fun g hg => by omega) (fun _ _ => rfl)

end Go.Proofs.YtbkdaoicnobllabGreatDoor

namespace Go.Proofs.YtbkdaoicnobllabGreatDoor
set_option maxRecDepth 100000
set_option maxHeartbeats 1000000
open Go.RowKit

theorem two_step (n : Nat) {K : Nat} {L L' : List Nat} {ex e' t : Int} (h1 : val K L' e' = val K L ex * 5 ^ n) (h2 : val K L ex = two K t) (ht : t ≤ 0) (hk : -(K : Int) ≤ t - n) (he : -(K : Int) ≤ e' - n) : val K L' (e' - n) = two K (t - n) := by
 have hp : 0 < 10 ^ n := Nat.pow_pos (by omega)
 apply Nat.eq_of_mul_eq_mul_right hp
 rw [val_down K n L' e' he, two_down K n t ht hk, h1, h2]

structure TwoSt (w wr : World) (e0 e : Int) (ao : Option Addr) (cap : Nat) (L : List Nat) (ex : Int) (k : Nat) : Prop where
 below : Below w.heap.size w wr
 size : w.heap.size + 3 ≤ wr.heap.size
 r0 : wr.cell? ⟨w.heap.size, 0, none⟩ = some (.slice none 0 0)
 r1 : wr.cell? ⟨w.heap.size, 1, none⟩ = some (.int .i64 0)
 rf0 : wr.frozen? ⟨w.heap.size, 0, none⟩ = false
 rf1 : wr.frozen? ⟨w.heap.size, 1, none⟩ = false
 x0 : wr.cell? ⟨w.heap.size + 1 + 1, 0, none⟩ = some (.slice ao L.length cap)
 x1 : wr.cell? ⟨w.heap.size + 1 + 1, 1, none⟩ = some (.int .i64 ex)
 xf0 : wr.frozen? ⟨w.heap.size + 1 + 1, 0, none⟩ = false
 xf1 : wr.frozen? ⟨w.heap.size + 1 + 1, 1, none⟩ = false
 row : Row wr (.slice ao L.length cap) L
 own : ∀ g, (Value.slice ao L.length cap).ownBlock = some g → g = w.heap.size + 1 ∨ w.heap.size + 3 ≤ g
 norm : Norm L
 len : L.length ≤ 1 + 17 * k
 ne : L ≠ []
 lo : min (e0 - e) 0 ≤ ex
 hi : ex + L.length ≤ 1 + 17 * k
 vl : ∀ K : Nat, -(K : Int) ≤ min (e0 - e) 0 → val K L ex = two K (e0 - e)
 kk : k ≤ (e0 - e).natAbs

theorem frozen_set (w : World) (a : Addr) (u : Value) (b : Addr) : (w.setCell a u).frozen? b = w.frozen? b := by simp [go_sem]

theorem setCell_twice (w : World) (a : Addr) (x y : Value) : (w.setCell a x).setCell a y = w.setCell a y := by
 unfold World.setCell
 simp only
 congr 1
 apply Array.ext_getElem?
 intro i
 simp only [Array.getElem?_modify]
 split
 ·rename_i h
  subst h
  cases h2 : w.heap[a.block]? with
  | none => rfl
  | some o =>
   cases o with
   | cells c t f =>
    simp only [Option.map_some]
    split
    ·rfl
    ·congr 2
     apply Array.ext_getElem?
     intro j
     simp only [Array.getElem?_setIfInBounds]
     split <;> simp_all
   | _ => rfl
 ·rfl

theorem TwoSt.step {w wr w1 : World} {e0 e : Int} {ao ao' : Option Addr} {cap cap' : Nat} {L L' : List Nat} {ex e' : Int} {k m : Nat} (h : TwoSt w wr e0 e ao cap L ex k) (hb : Below wr.heap.size wr w1)
  (ho : Out w1 (.slice ao' L'.length cap') L' e' (L.length + 17) ex (ex + L.length + 17) (fun g => wr.heap.size ≤ g) (fun K => val K L ex * m)) (hm : 0 < m) (x : Int) (t : Int) (hx : ex ≤ e' → min (e0 - t) 0 ≤ x) (hx2 : x ≤ e') (hmin : min (e0 - t) 0 ≤ min (e0 - e) 0) (habs : (e0 - e).natAbs + 1 ≤ (e0 - t).natAbs)
  (hv : ∀ K : Nat, -(K : Int) ≤ min (e0 - t) 0 → ex ≤ e' → val K L' e' = val K L ex * m → val K L ex = two K (e0 - e) → val K L' x = two K (e0 - t)) :
  TwoSt w ((w1.setCell ⟨w.heap.size + 1 + 1, 0, none⟩ (.slice ao' L'.length cap')).setCell ⟨w.heap.size + 1 + 1, 1, none⟩ (.int .i64 x)) e0 t ao' cap' L' x (k + 1) := by
 have hs := h.size
 have hs1 := hb.size
 have cells : ∀ b o, b < wr.heap.size → w1.cell? ⟨b, o, none⟩ = wr.cell? ⟨b, o, none⟩ := fun b o hh => hb.cell (p := ⟨b, o, none⟩) hh
 have froz : ∀ b o, b < wr.heap.size → w1.frozen? ⟨b, o, none⟩ = wr.frozen? ⟨b, o, none⟩ := fun b o hh => hb.frozen (p := ⟨b, o, none⟩) hh
 have hne : L' ≠ [] := by
  intro h0
  obtain ⟨K, hK⟩ : ∃ K : Nat, -(K : Int) ≤ ex ∧ -(K : Int) ≤ min (e0 - e) 0 := ⟨(ex.natAbs + (min (e0 - e) 0).natAbs), by omega⟩
  have h1 := ho.val K hK.1
  rw [h0, val_nil, h.vl K hK.2] at h1
  have := Nat.mul_pos (two_pos K (e0 - e)) hm
  omega
 have hh := ho.ne hne
 have hlen := ho.len
 have hl := h.len
 have hhi := h.hi
 refine ⟨below_two (h.below.trans (hb.mono (by omega))) (by omega) _ _, ?_, ?_, ?_, ?_, ?_, ?_, ?_, ?_, ?_, ?_, ?_, ho.norm, by omega, hne, hx hh.1, by omega, ?_, by have := h.kk; omega⟩
 ·simp [World.setCell]; omega
 ·rw [World.cell?_setCell_other _ _ _ _ (by simp), World.cell?_setCell_other _ _ _ _ (by simp), cells _ _ (by omega)]; exact h.r0
 ·rw [World.cell?_setCell_other _ _ _ _ (by simp), World.cell?_setCell_other _ _ _ _ (by simp), cells _ _ (by omega)]; exact h.r1
 ·rw [frozen_set, frozen_set, froz _ _ (by omega)]; exact h.rf0
 ·rw [frozen_set, frozen_set, froz _ _ (by omega)]; exact h.rf1
 ·exact (two_cells (by rw [cells _ _ (by omega)]; exact h.x0) (by rw [cells _ _ (by omega)]; exact h.x1)).1
 ·exact (two_cells (by rw [cells _ _ (by omega)]; exact h.x0) (by rw [cells _ _ (by omega)]; exact h.x1)).2
 ·rw [frozen_set, frozen_set, froz _ _ (by omega)]; exact h.xf0
 ·rw [frozen_set, frozen_set, froz _ _ (by omega)]; exact h.xf1
 ·exact (ho.row.setCell _ _ (fun hh => by have := ho.own _ hh; simp at this; omega)).setCell _ _ (fun hh => by have := ho.own _ hh; simp at this; omega)
 ·intro g hg; have := ho.own g hg; omega
 ·intro K hK
  exact hv K hK hh.1 (ho.val K (by have := h.lo; omega)) (h.vl K (by omega))

theorem two_any (e0 : Int) (w : World) (he : -5000 ≤ e0 ∧ e0 ≤ 5000) :
  Calls Tryz.prog 76 #[.int .i64 e0] w fun r w' => Below w.heap.size w w' ∧
   ∃ v' L' e', r = .returned (.agg #[v', .int .i64 e']) ∧ Out w' v' L' e' (1 + 17 * e0.natAbs) (min e0 0) (1 + 17 * e0.natAbs) (fun g => w.heap.size ≤ g) (fun K => two K e0) := by
 go_enter Tryz.func76, Tryz.ntmps76
 go_wp2
 go_loopw [0] (fun i wr => ∃ e ao cap L ex k, i = .int .i64 e ∧ TwoSt w wr e0 e ao cap L ex k ∧ ((0 ≤ e ∧ e ≤ e0) ∨ (e0 ≤ e ∧ e ≤ 0))) (fun i _ => (intOf i).toNat)
 case atStart =>
  refine ⟨e0, some ⟨w.heap.size + 1, 0, none⟩, 1, [1], 0, 0, rfl, ⟨?_, ?_, ?_, ?_, ?_, ?_, ?_, ?_, ?_, ?_, ?_, ?_, norm_one, by simp, by simp, by omega, by simp, ?_, by omega⟩, by omega⟩
  ·exact box6_below
  ·simp
  ·simp [go_sem]
  ·simp [go_sem]
  ·simp [go_sem]
  ·simp [go_sem]
  ·exact World.cell?_alloc_at _ _ _ _ (by simp)
  ·exact World.cell?_alloc_at _ _ _ _ (by simp)
  ·simp [go_sem]
  ·simp [go_sem]
  ·exact row_one (by simp) (by simp [go_sem])
  ·intro g hg; simp [Value.ownBlock] at hg; omega
  ·intro K _; rw [val_one]; simp [two_zero]
 case round =>
  obtain ⟨e, ao, cap, L, ex, k, rfl, hst, hee⟩ := hrel
  have x0 := hst.x0
  have x1 := hst.x1
  have hl := hst.len
  have hk := hst.kk
  have hlo := hst.lo
  have hhi := hst.hi
  by_cases hge : 50 ≤ e
  ·go_wp2_with fail
   refine (times_any _ L ex 1125899906842624 _ hst.row hst.norm.digs (by omega) (by omega) (by omega)).mono ?_
   rintro r w1 ⟨hb, v', L', e', rfl, hout⟩
   obtain ⟨ao', cap', hv⟩ := hout.row.isSlice
   rw [hv] at hout
   subst hv
   have HST := hid (hst.step hb hout (by omega) e' (e - 50) (fun _ => by omega) (by omega) (by omega) (by omega) (fun K hK _ h1 h2 => by
    rw [h1, h2, show e0 - (e - 50) = e0 - e + (50 : Nat) from by omega, two_up K 50 (e0 - e) (by omega)]))
   have xf0 : w1.frozen? ⟨w.heap.size + 1 + 1, 0, none⟩ = false := (hb.frozen (p := ⟨w.heap.size + 1 + 1, 0, none⟩) (by have := hst.size; simp; omega)).trans hst.xf0
   have xf1 : w1.frozen? ⟨w.heap.size + 1 + 1, 1, none⟩ = false := (hb.frozen (p := ⟨w.heap.size + 1 + 1, 1, none⟩) (by have := hst.size; simp; omega)).trans hst.xf1
   have y0 := (hb.cell (p := ⟨w.heap.size + 1 + 1, 0, none⟩) (by have := hst.size; simp; omega)).trans x0
   have y1 := (hb.cell (p := ⟨w.heap.size + 1 + 1, 1, none⟩) (by have := hst.size; simp; omega)).trans x1
   clear hout hb hst x0 x1
   go_wp2
   go_roundw
   case rel => exact ⟨e - 50, _, _, _, _, _, rfl, HST.out, by omega⟩
   case measure => simp [intOf]; omega
  ·clear x0 x1
   go_wp2
   go_loopw [0] (fun i wr => ∃ e ao cap L ex k, i = .int .i64 e ∧ TwoSt w wr e0 e ao cap L ex k ∧ ((0 ≤ e ∧ e ≤ e0) ∨ (e0 ≤ e ∧ e ≤ 0)) ∧ e < 50) (fun i _ => (- intOf i).toNat)
   case atStart => exact ⟨e, _, _, _, _, _, rfl, hst, by omega, by omega⟩
   case round =>
    clear hst hl hk hlo hhi hge hee
    obtain ⟨e, ao, cap, L, ex, k, rfl, hst, hee, hlt⟩ := hrel
    have x0 := hst.x0
    have x1 := hst.x1
    have hl := hst.len
    have hk := hst.kk
    have hlo := hst.lo
    have hhi := hst.hi
    by_cases hge : e ≤ -20
    ·go_wp2_with fail
     refine (times_any _ L ex 95367431640625 _ hst.row hst.norm.digs (by omega) (by omega) (by omega)).mono ?_
     rintro r w1 ⟨hb, v', L', e', rfl, hout⟩
     obtain ⟨ao', cap', hv⟩ := hout.row.isSlice
     rw [hv] at hout
     subst hv
     have hbd := hout.bounds 400000 (by omega) (by omega) (by omega)
     have HST := hid (hst.step hb hout (by omega) (e' - 20) (e + 20) (fun _ => by omega) (by omega) (by omega) (by omega) (fun K hK hle h1 h2 => by
      rw [show e0 - (e + 20) = e0 - e - (20 : Nat) from by omega]
      exact two_step 20 h1 h2 (by omega) (by omega) (by omega)))
     have xf0 : w1.frozen? ⟨w.heap.size + 1 + 1, 0, none⟩ = false := (hb.frozen (p := ⟨w.heap.size + 1 + 1, 0, none⟩) (by have := hst.size; simp; omega)).trans hst.xf0
     have xf1 : w1.frozen? ⟨w.heap.size + 1 + 1, 1, none⟩ = false := (hb.frozen (p := ⟨w.heap.size + 1 + 1, 1, none⟩) (by have := hst.size; simp; omega)).trans hst.xf1
     have y0 := (hb.cell (p := ⟨w.heap.size + 1 + 1, 0, none⟩) (by have := hst.size; simp; omega)).trans x0
     have y1 := (hb.cell (p := ⟨w.heap.size + 1 + 1, 1, none⟩) (by have := hst.size; simp; omega)).trans x1
     clear hout hb hst x0 x1
     go_wp2
     rw [setCell_twice]
     go_roundw
     case rel => exact ⟨e + 20, _, _, _, _, _, rfl, HST.out, by omega, by omega⟩
     case measure => simp [intOf]; omega
    ·clear x0 x1
     go_wp2
     go_loopw [0] (fun i wr => ∃ e ao cap L ex k, i = .int .i64 e ∧ TwoSt w wr e0 e ao cap L ex k ∧ ((0 ≤ e ∧ e ≤ e0) ∨ (e0 ≤ e ∧ e ≤ 0)) ∧ -20 < e ∧ e < 50) (fun i _ => (intOf i).toNat)
     case atStart => exact ⟨e, _, _, _, _, _, rfl, hst, by omega, by omega, by omega⟩
     case round =>
      clear hst hl hk hlo hhi hge hee hlt
      obtain ⟨e, ao, cap, L, ex, k, rfl, hst, hee, hlt⟩ := hrel
      have x0 := hst.x0
      have x1 := hst.x1
      have hl := hst.len
      have hk := hst.kk
      have hlo := hst.lo
      have hhi := hst.hi
      by_cases hge : 0 < e
      ·go_wp2_with fail
       refine (times_any _ L ex 2 _ hst.row hst.norm.digs (by omega) (by omega) (by omega)).mono ?_
       rintro r w1 ⟨hb, v', L', e', rfl, hout⟩
       obtain ⟨ao', cap', hv⟩ := hout.row.isSlice
       rw [hv] at hout
       subst hv
       have HST := hid (hst.step hb hout (by omega) e' (e - 1) (fun _ => by omega) (by omega) (by omega) (by omega) (fun K hK _ h1 h2 => by
        rw [h1, h2, show e0 - (e - 1) = e0 - e + (1 : Nat) from by omega, two_up K 1 (e0 - e) (by omega)]))
       have xf0 : w1.frozen? ⟨w.heap.size + 1 + 1, 0, none⟩ = false := (hb.frozen (p := ⟨w.heap.size + 1 + 1, 0, none⟩) (by have := hst.size; simp; omega)).trans hst.xf0
       have xf1 : w1.frozen? ⟨w.heap.size + 1 + 1, 1, none⟩ = false := (hb.frozen (p := ⟨w.heap.size + 1 + 1, 1, none⟩) (by have := hst.size; simp; omega)).trans hst.xf1
       have y0 := (hb.cell (p := ⟨w.heap.size + 1 + 1, 0, none⟩) (by have := hst.size; simp; omega)).trans x0
       have y1 := (hb.cell (p := ⟨w.heap.size + 1 + 1, 1, none⟩) (by have := hst.size; simp; omega)).trans x1
       clear hout hb hst x0 x1
       go_wp2
       go_roundw
       case rel => exact ⟨e - 1, _, _, _, _, _, rfl, HST.out, by omega, by omega, by omega⟩
       case measure => simp [intOf]; omega
      ·clear x0 x1
       go_wp2
       go_loopw [0] (fun i wr => ∃ e ao cap L ex k, i = .int .i64 e ∧ TwoSt w wr e0 e ao cap L ex k ∧ (e = 0 ∨ (e0 ≤ e ∧ e ≤ 0)) ∧ -20 < e) (fun i _ => (- intOf i).toNat)
       case atStart => exact ⟨e, _, _, _, _, _, rfl, hst, by omega, by omega⟩
       case round =>
        clear hst hl hk hlo hhi hge hee hlt
        obtain ⟨e, ao, cap, L, ex, k, rfl, hst, hee, hlt⟩ := hrel
        have x0 := hst.x0
        have x1 := hst.x1
        have hl := hst.len
        have hk := hst.kk
        have hlo := hst.lo
        have hhi := hst.hi
        by_cases hge : e < 0
        ·go_wp2_with fail
         refine (times_any _ L ex 5 _ hst.row hst.norm.digs (by omega) (by omega) (by omega)).mono ?_
         rintro r w1 ⟨hb, v', L', e', rfl, hout⟩
         obtain ⟨ao', cap', hv⟩ := hout.row.isSlice
         rw [hv] at hout
         subst hv
         have hbd := hout.bounds 400000 (by omega) (by omega) (by omega)
         have HST := hid (hst.step hb hout (by omega) (e' - 1) (e + 1) (fun _ => by omega) (by omega) (by omega) (by omega) (fun K hK hle h1 h2 => by
          rw [show e0 - (e + 1) = e0 - e - (1 : Nat) from by omega]
          exact two_step 1 h1 h2 (by omega) (by omega) (by omega)))
         have xf0 : w1.frozen? ⟨w.heap.size + 1 + 1, 0, none⟩ = false := (hb.frozen (p := ⟨w.heap.size + 1 + 1, 0, none⟩) (by have := hst.size; simp; omega)).trans hst.xf0
         have xf1 : w1.frozen? ⟨w.heap.size + 1 + 1, 1, none⟩ = false := (hb.frozen (p := ⟨w.heap.size + 1 + 1, 1, none⟩) (by have := hst.size; simp; omega)).trans hst.xf1
         have y0 := (hb.cell (p := ⟨w.heap.size + 1 + 1, 0, none⟩) (by have := hst.size; simp; omega)).trans x0
         have y1 := (hb.cell (p := ⟨w.heap.size + 1 + 1, 1, none⟩) (by have := hst.size; simp; omega)).trans x1
         clear hout hb hst x0 x1
         go_wp2
         rw [setCell_twice]
         go_roundw
         case rel => exact ⟨e + 1, _, _, _, _, _, rfl, HST.out, by omega, by omega⟩
         case measure => simp [intOf]; omega
        ·have h0 : e = 0 := by omega
         subst h0
         have r0 := hst.r0
         have r1 := hst.r1
         have rf0 := hst.rf0
         have rf1 := hst.rf1
         have HST := hid hst
         clear hst
         go_wp2
         refine bodyPost_ret (v := .agg #[.slice ao L.length cap, .int .i64 ex]) (dec_results rfl _ _ w.heap.size _ _ rfl (two_cells r0 r1).1 (two_cells r0 r1).2) rfl ⟨below_two HST.out.below (Nat.le_refl _) _ _, _, L, ex, rfl, ?_⟩
         have hst := HST.out
         have h9 : Out wr (.slice ao L.length cap) L ex (1 + 17 * e0.natAbs) (min e0 0) (1 + 17 * e0.natAbs) (fun g => w.heap.size + 1 ≤ g) (fun K => two K e0) :=
          ⟨hst.row, fun g hg => by have := hst.own g hg; omega, hst.norm, by omega, fun h => absurd h hst.ne, fun _ => by omega, fun K hK => by have := hst.vl K (by omega); rwa [Int.sub_zero] at this⟩
         exact ((h9.setCell _ _ (by simp)).setCell _ _ (by simp)).mono (Nat.le_refl _) (Int.le_refl _) (Int.le_refl _) (fun g hg => by omega) (fun _ _ => rfl)

end Go.Proofs.YtbkdaoicnobllabGreatDoor

namespace Go.Proofs.YtbkdaoicnobllabGreatDoor
set_option maxRecDepth 100000
set_option maxHeartbeats 1000000
open Go.RowKit
theorem valA_lo (K : Nat) (f : Int) (a Q E : Nat) (hq : 2 ^ fQ f = Q) (he : fE f = -(E : Int)) (hx : a / Q = 0) : valA K f a = two K (-(E : Int) + (a : Int) / Q) * (a % Q) := by
 unfold valA mA xA; rw [hq, he, if_pos hx, hx]; congr 2; rw [show (a : Int) / Q = ((a / Q : Nat) : Int) from by simp, hx]
theorem valA_hi (K : Nat) (f : Int) (a Q E : Nat) (hq : 2 ^ fQ f = Q) (he : fE f = -(E : Int)) (hx : ¬ a / Q = 0) : valA K f a = two K (-(E : Int) + ((a : Int) / Q - 1)) * (a % Q + Q) := by
 unfold valA mA xA; rw [hq, he, if_neg hx]; congr 2; rw [show (a : Int) / Q = ((a / Q : Nat) : Int) from by simp]; generalize a / Q = d at *; omega

theorem value_any (f : Int) (a : Nat) (w : World) (hf : 0 ≤ f ∧ f ≤ 2) (ha : (a : Int) ≤ infA f) :
  Calls Tryz.prog 79 #[.int .i64 f, .int .i64 a] w fun r w' => Below w.heap.size w w' ∧
   ∃ v' L' e', r = .returned (.agg #[v', .int .i64 e']) ∧ Out w' v' L' e' 20000 (-1100) 20000 (fun g => w.heap.size ≤ g) (fun K => valA K f a) := by
 have hc : f = 0 ∨ f = 1 ∨ f = 2 := by omega
 rcases hc with rfl | rfl | rfl
 ·have hai : (a : Int) ≤ 31744 := ha
  clear ha
  by_cases hx : a / 1024 = 0
  ·have hx2 : ¬ (0 : Int) < (a : Int) / 1024 := by omega
   have HX := hid hx
   clear hx
   go_enter Tryz.func79, Tryz.ntmps79
   go_wp2_with fail
   refine (kind0 _).mono ?_
   rintro e w' ⟨rfl, rfl⟩
   go_wp2_with fail
   refine (two_any (-24 + (a : Int) / 1024) _ (by omega)).mono ?_
   rintro r w1 ⟨hb, v', L, ex, rfl, hout⟩
   obtain ⟨ao, cap, hv⟩ := hout.row.isSlice
   rw [hv] at hout
   subst hv
   have hl := hout.len
   have hbd := hout.bounds 20000 (by omega) (by omega) (by omega)
   have hb2 : Below (w.heap.size + 1) (w.alloc (.cells #[.slice none 0 0, .int .i64 0] 95)) (w1.alloc (.cells #[.slice ao L.length cap, .int .i64 ex] 95)) := (hb.mono (by simp)).alloc (by have := hb.size; simp at this; omega) _
   have hrow := hout.row.below ((Below.refl w1.heap.size w1).alloc (Nat.le_refl _) (.cells #[.slice ao L.length cap, .int .i64 ex] 95)) (Nat.le_refl _)
   go_wp2_with fail
   rw [show (a : Int) % 1024 = ((a % 1024 : Nat) : Int) from by omega]
   refine (times_any _ L ex (a % 1024) _ hrow hout.norm.digs (by omega) (by omega) (by omega)).mono ?_
   rintro r w2 ⟨hb3, v', L', e', rfl, hout2⟩
   have hb4 := below_next hb2 hb3 (by have := hb.size; simp at this ⊢; omega)
   have c0 : w2.cell? ⟨w.heap.size, 0, none⟩ = some (.slice none 0 0) := (hb4.cell (p := ⟨w.heap.size, 0, none⟩) (by simp)).trans (by simp [go_sem])
   have c1 : w2.cell? ⟨w.heap.size, 1, none⟩ = some (.int .i64 0) := (hb4.cell (p := ⟨w.heap.size, 1, none⟩) (by simp)).trans (by simp [go_sem])
   have f0 : w2.frozen? ⟨w.heap.size, 0, none⟩ = false := (hb4.frozen (p := ⟨w.heap.size, 0, none⟩) (by simp)).trans (by simp [go_sem])
   have f1 : w2.frozen? ⟨w.heap.size, 1, none⟩ = false := (hb4.frozen (p := ⟨w.heap.size, 1, none⟩) (by simp)).trans (by simp [go_sem])
   have HB := hid (((Below.refl w.heap.size w).alloc (Nat.le_refl _) (.cells #[.slice none 0 0, .int .i64 0] 95)).trans (hb4.mono (B' := w.heap.size) (by omega)))
   have hs1 : w.heap.size + 1 ≤ w1.heap.size := by have := hb.size; simpa using this
   obtain ⟨ao', cp, hv⟩ := hout2.row.isSlice
   rw [hv] at hout2
   subst hv
   have hlo := hout.ne
   have HO := hid hout
   clear hb hb2 hb3 hb4 hrow hout hlo
   go_wp2
   refine bodyPost_ret (v := .agg #[.slice ao' L'.length cp, .int .i64 e']) (dec_results rfl _ _ w.heap.size _ _ rfl (two_cells c0 c1).1 (two_cells c0 c1).2) rfl ⟨below_two HB.out (Nat.le_refl _) _ _, _, L', e', rfl, ?_⟩
   have hne : L ≠ [] := by
    intro h0
    have h1 := HO.out.val 20000 (by omega)
    rw [h0, val_nil] at h1
    have := two_pos 20000 (-24 + (a : Int) / 1024); omega
   have hnn := HO.out.ne hne
   have h9 : Out w2 (.slice ao' L'.length cp) L' e' 20000 (-1100) 20000 (fun g => w1.heap.size + 1 ≤ g) (fun K => valA K 0 a) :=
    hout2.mono (by omega) (by omega) (by omega) (fun g hg => by simpa using hg) (fun K hK => by rw [HO.out.val K (by omega)]; exact (valA_lo K 0 a 1024 24 rfl rfl HX.out).symm)
   exact ((h9.setCell _ _ (by simp; omega)).setCell _ _ (by simp; omega)).mono (Nat.le_refl _) (Int.le_refl _) (Int.le_refl _) (fun g hg => by omega) (fun _ _ => rfl)
  ·have hx2 : (0 : Int) < (a : Int) / 1024 := by omega
   have HX := hid hx
   clear hx
   go_enter Tryz.func79, Tryz.ntmps79
   go_wp2_with fail
   refine (kind0 _).mono ?_
   rintro e w' ⟨rfl, rfl⟩
   go_wp2_with fail
   refine (two_any (-24 + ((a : Int) / 1024 - 1)) _ (by omega)).mono ?_
   rintro r w1 ⟨hb, v', L, ex, rfl, hout⟩
   obtain ⟨ao, cap, hv⟩ := hout.row.isSlice
   rw [hv] at hout
   subst hv
   have hl := hout.len
   have hbd := hout.bounds 20000 (by omega) (by omega) (by omega)
   have hb2 : Below (w.heap.size + 1) (w.alloc (.cells #[.slice none 0 0, .int .i64 0] 95)) (w1.alloc (.cells #[.slice ao L.length cap, .int .i64 ex] 95)) := (hb.mono (by simp)).alloc (by have := hb.size; simp at this; omega) _
   have hrow := hout.row.below ((Below.refl w1.heap.size w1).alloc (Nat.le_refl _) (.cells #[.slice ao L.length cap, .int .i64 ex] 95)) (Nat.le_refl _)
   go_wp2_with fail
   rw [show (a : Int) % 1024 + 1024 = ((a % 1024 + 1024 : Nat) : Int) from by omega]
   refine (times_any _ L ex (a % 1024 + 1024) _ hrow hout.norm.digs (by omega) (by omega) (by omega)).mono ?_
   rintro r w2 ⟨hb3, v', L', e', rfl, hout2⟩
   have hb4 := below_next hb2 hb3 (by have := hb.size; simp at this ⊢; omega)
   have c0 : w2.cell? ⟨w.heap.size, 0, none⟩ = some (.slice none 0 0) := (hb4.cell (p := ⟨w.heap.size, 0, none⟩) (by simp)).trans (by simp [go_sem])
   have c1 : w2.cell? ⟨w.heap.size, 1, none⟩ = some (.int .i64 0) := (hb4.cell (p := ⟨w.heap.size, 1, none⟩) (by simp)).trans (by simp [go_sem])
   have f0 : w2.frozen? ⟨w.heap.size, 0, none⟩ = false := (hb4.frozen (p := ⟨w.heap.size, 0, none⟩) (by simp)).trans (by simp [go_sem])
   have f1 : w2.frozen? ⟨w.heap.size, 1, none⟩ = false := (hb4.frozen (p := ⟨w.heap.size, 1, none⟩) (by simp)).trans (by simp [go_sem])
   have HB := hid (((Below.refl w.heap.size w).alloc (Nat.le_refl _) (.cells #[.slice none 0 0, .int .i64 0] 95)).trans (hb4.mono (B' := w.heap.size) (by omega)))
   have hs1 : w.heap.size + 1 ≤ w1.heap.size := by have := hb.size; simpa using this
   obtain ⟨ao', cp, hv⟩ := hout2.row.isSlice
   rw [hv] at hout2
   subst hv
   have hlo := hout.ne
   have HO := hid hout
   clear hb hb2 hb3 hb4 hrow hout hlo
   go_wp2
   refine bodyPost_ret (v := .agg #[.slice ao' L'.length cp, .int .i64 e']) (dec_results rfl _ _ w.heap.size _ _ rfl (two_cells c0 c1).1 (two_cells c0 c1).2) rfl ⟨below_two HB.out (Nat.le_refl _) _ _, _, L', e', rfl, ?_⟩
   have hne : L ≠ [] := by
    intro h0
    have h1 := HO.out.val 20000 (by omega)
    rw [h0, val_nil] at h1
    have := two_pos 20000 (-24 + ((a : Int) / 1024 - 1)); omega
   have hnn := HO.out.ne hne
   have h9 : Out w2 (.slice ao' L'.length cp) L' e' 20000 (-1100) 20000 (fun g => w1.heap.size + 1 ≤ g) (fun K => valA K 0 a) :=
    hout2.mono (by omega) (by omega) (by omega) (fun g hg => by simpa using hg) (fun K hK => by rw [HO.out.val K (by omega)]; exact (valA_hi K 0 a 1024 24 rfl rfl HX.out).symm)
   exact ((h9.setCell _ _ (by simp; omega)).setCell _ _ (by simp; omega)).mono (Nat.le_refl _) (Int.le_refl _) (Int.le_refl _) (fun g hg => by omega) (fun _ _ => rfl)
 ·have hai : (a : Int) ≤ 2139095040 := ha
  clear ha
  by_cases hx : a / 8388608 = 0
  ·have hx2 : ¬ (0 : Int) < (a : Int) / 8388608 := by omega
   have HX := hid hx
   clear hx
   go_enter Tryz.func79, Tryz.ntmps79
   go_wp2_with fail
   refine (kind1 _).mono ?_
   rintro e w' ⟨rfl, rfl⟩
   go_wp2_with fail
   refine (two_any (-149 + (a : Int) / 8388608) _ (by omega)).mono ?_
   rintro r w1 ⟨hb, v', L, ex, rfl, hout⟩
   obtain ⟨ao, cap, hv⟩ := hout.row.isSlice
   rw [hv] at hout
   subst hv
   have hl := hout.len
   have hbd := hout.bounds 20000 (by omega) (by omega) (by omega)
   have hb2 : Below (w.heap.size + 1) (w.alloc (.cells #[.slice none 0 0, .int .i64 0] 95)) (w1.alloc (.cells #[.slice ao L.length cap, .int .i64 ex] 95)) := (hb.mono (by simp)).alloc (by have := hb.size; simp at this; omega) _
   have hrow := hout.row.below ((Below.refl w1.heap.size w1).alloc (Nat.le_refl _) (.cells #[.slice ao L.length cap, .int .i64 ex] 95)) (Nat.le_refl _)
   go_wp2_with fail
   rw [show (a : Int) % 8388608 = ((a % 8388608 : Nat) : Int) from by omega]
   refine (times_any _ L ex (a % 8388608) _ hrow hout.norm.digs (by omega) (by omega) (by omega)).mono ?_
   rintro r w2 ⟨hb3, v', L', e', rfl, hout2⟩
   have hb4 := below_next hb2 hb3 (by have := hb.size; simp at this ⊢; omega)
   have c0 : w2.cell? ⟨w.heap.size, 0, none⟩ = some (.slice none 0 0) := (hb4.cell (p := ⟨w.heap.size, 0, none⟩) (by simp)).trans (by simp [go_sem])
   have c1 : w2.cell? ⟨w.heap.size, 1, none⟩ = some (.int .i64 0) := (hb4.cell (p := ⟨w.heap.size, 1, none⟩) (by simp)).trans (by simp [go_sem])
   have f0 : w2.frozen? ⟨w.heap.size, 0, none⟩ = false := (hb4.frozen (p := ⟨w.heap.size, 0, none⟩) (by simp)).trans (by simp [go_sem])
   have f1 : w2.frozen? ⟨w.heap.size, 1, none⟩ = false := (hb4.frozen (p := ⟨w.heap.size, 1, none⟩) (by simp)).trans (by simp [go_sem])
   have HB := hid (((Below.refl w.heap.size w).alloc (Nat.le_refl _) (.cells #[.slice none 0 0, .int .i64 0] 95)).trans (hb4.mono (B' := w.heap.size) (by omega)))
   have hs1 : w.heap.size + 1 ≤ w1.heap.size := by have := hb.size; simpa using this
   obtain ⟨ao', cp, hv⟩ := hout2.row.isSlice
   rw [hv] at hout2
   subst hv
   have hlo := hout.ne
   have HO := hid hout
   clear hb hb2 hb3 hb4 hrow hout hlo
   go_wp2
   refine bodyPost_ret (v := .agg #[.slice ao' L'.length cp, .int .i64 e']) (dec_results rfl _ _ w.heap.size _ _ rfl (two_cells c0 c1).1 (two_cells c0 c1).2) rfl ⟨below_two HB.out (Nat.le_refl _) _ _, _, L', e', rfl, ?_⟩
   have hne : L ≠ [] := by
    intro h0
    have h1 := HO.out.val 20000 (by omega)
    rw [h0, val_nil] at h1
    have := two_pos 20000 (-149 + (a : Int) / 8388608); omega
   have hnn := HO.out.ne hne
   have h9 : Out w2 (.slice ao' L'.length cp) L' e' 20000 (-1100) 20000 (fun g => w1.heap.size + 1 ≤ g) (fun K => valA K 1 a) :=
    hout2.mono (by omega) (by omega) (by omega) (fun g hg => by simpa using hg) (fun K hK => by rw [HO.out.val K (by omega)]; exact (valA_lo K 1 a 8388608 149 rfl rfl HX.out).symm)
   exact ((h9.setCell _ _ (by simp; omega)).setCell _ _ (by simp; omega)).mono (Nat.le_refl _) (Int.le_refl _) (Int.le_refl _) (fun g hg => by omega) (fun _ _ => rfl)
  ·have hx2 : (0 : Int) < (a : Int) / 8388608 := by omega
   have HX := hid hx
   clear hx
   go_enter Tryz.func79, Tryz.ntmps79
   go_wp2_with fail
   refine (kind1 _).mono ?_
   rintro e w' ⟨rfl, rfl⟩
   go_wp2_with fail
   refine (two_any (-149 + ((a : Int) / 8388608 - 1)) _ (by omega)).mono ?_
   rintro r w1 ⟨hb, v', L, ex, rfl, hout⟩
   obtain ⟨ao, cap, hv⟩ := hout.row.isSlice
   rw [hv] at hout
   subst hv
   have hl := hout.len
   have hbd := hout.bounds 20000 (by omega) (by omega) (by omega)
   have hb2 : Below (w.heap.size + 1) (w.alloc (.cells #[.slice none 0 0, .int .i64 0] 95)) (w1.alloc (.cells #[.slice ao L.length cap, .int .i64 ex] 95)) := (hb.mono (by simp)).alloc (by have := hb.size; simp at this; omega) _
   have hrow := hout.row.below ((Below.refl w1.heap.size w1).alloc (Nat.le_refl _) (.cells #[.slice ao L.length cap, .int .i64 ex] 95)) (Nat.le_refl _)
   go_wp2_with fail
   rw [show (a : Int) % 8388608 + 8388608 = ((a % 8388608 + 8388608 : Nat) : Int) from by omega]
   refine (times_any _ L ex (a % 8388608 + 8388608) _ hrow hout.norm.digs (by omega) (by omega) (by omega)).mono ?_
   rintro r w2 ⟨hb3, v', L', e', rfl, hout2⟩
   have hb4 := below_next hb2 hb3 (by have := hb.size; simp at this ⊢; omega)
   have c0 : w2.cell? ⟨w.heap.size, 0, none⟩ = some (.slice none 0 0) := (hb4.cell (p := ⟨w.heap.size, 0, none⟩) (by simp)).trans (by simp [go_sem])
   have c1 : w2.cell? ⟨w.heap.size, 1, none⟩ = some (.int .i64 0) := (hb4.cell (p := ⟨w.heap.size, 1, none⟩) (by simp)).trans (by simp [go_sem])
   have f0 : w2.frozen? ⟨w.heap.size, 0, none⟩ = false := (hb4.frozen (p := ⟨w.heap.size, 0, none⟩) (by simp)).trans (by simp [go_sem])
   have f1 : w2.frozen? ⟨w.heap.size, 1, none⟩ = false := (hb4.frozen (p := ⟨w.heap.size, 1, none⟩) (by simp)).trans (by simp [go_sem])
   have HB := hid (((Below.refl w.heap.size w).alloc (Nat.le_refl _) (.cells #[.slice none 0 0, .int .i64 0] 95)).trans (hb4.mono (B' := w.heap.size) (by omega)))
   have hs1 : w.heap.size + 1 ≤ w1.heap.size := by have := hb.size; simpa using this
   obtain ⟨ao', cp, hv⟩ := hout2.row.isSlice
   rw [hv] at hout2
   subst hv
   have hlo := hout.ne
   have HO := hid hout
   clear hb hb2 hb3 hb4 hrow hout hlo
   go_wp2
   refine bodyPost_ret (v := .agg #[.slice ao' L'.length cp, .int .i64 e']) (dec_results rfl _ _ w.heap.size _ _ rfl (two_cells c0 c1).1 (two_cells c0 c1).2) rfl ⟨below_two HB.out (Nat.le_refl _) _ _, _, L', e', rfl, ?_⟩
   have hne : L ≠ [] := by
    intro h0
    have h1 := HO.out.val 20000 (by omega)
    rw [h0, val_nil] at h1
    have := two_pos 20000 (-149 + ((a : Int) / 8388608 - 1)); omega
   have hnn := HO.out.ne hne
   have h9 : Out w2 (.slice ao' L'.length cp) L' e' 20000 (-1100) 20000 (fun g => w1.heap.size + 1 ≤ g) (fun K => valA K 1 a) :=
    hout2.mono (by omega) (by omega) (by omega) (fun g hg => by simpa using hg) (fun K hK => by rw [HO.out.val K (by omega)]; exact (valA_hi K 1 a 8388608 149 rfl rfl HX.out).symm)
   exact ((h9.setCell _ _ (by simp; omega)).setCell _ _ (by simp; omega)).mono (Nat.le_refl _) (Int.le_refl _) (Int.le_refl _) (fun g hg => by omega) (fun _ _ => rfl)
 ·have hai : (a : Int) ≤ 9218868437227405312 := ha
  clear ha
  by_cases hx : a / 4503599627370496 = 0
  ·have hx2 : ¬ (0 : Int) < (a : Int) / 4503599627370496 := by omega
   have HX := hid hx
   clear hx
   go_enter Tryz.func79, Tryz.ntmps79
   go_wp2_with fail
   refine (kind2 _).mono ?_
   rintro e w' ⟨rfl, rfl⟩
   go_wp2_with fail
   refine (two_any (-1074 + (a : Int) / 4503599627370496) _ (by omega)).mono ?_
   rintro r w1 ⟨hb, v', L, ex, rfl, hout⟩
   obtain ⟨ao, cap, hv⟩ := hout.row.isSlice
   rw [hv] at hout
   subst hv
   have hl := hout.len
   have hbd := hout.bounds 20000 (by omega) (by omega) (by omega)
   have hb2 : Below (w.heap.size + 1) (w.alloc (.cells #[.slice none 0 0, .int .i64 0] 95)) (w1.alloc (.cells #[.slice ao L.length cap, .int .i64 ex] 95)) := (hb.mono (by simp)).alloc (by have := hb.size; simp at this; omega) _
   have hrow := hout.row.below ((Below.refl w1.heap.size w1).alloc (Nat.le_refl _) (.cells #[.slice ao L.length cap, .int .i64 ex] 95)) (Nat.le_refl _)
   go_wp2_with fail
   rw [show (a : Int) % 4503599627370496 = ((a % 4503599627370496 : Nat) : Int) from by omega]
   refine (times_any _ L ex (a % 4503599627370496) _ hrow hout.norm.digs (by omega) (by omega) (by omega)).mono ?_
   rintro r w2 ⟨hb3, v', L', e', rfl, hout2⟩
   have hb4 := below_next hb2 hb3 (by have := hb.size; simp at this ⊢; omega)
   have c0 : w2.cell? ⟨w.heap.size, 0, none⟩ = some (.slice none 0 0) := (hb4.cell (p := ⟨w.heap.size, 0, none⟩) (by simp)).trans (by simp [go_sem])
   have c1 : w2.cell? ⟨w.heap.size, 1, none⟩ = some (.int .i64 0) := (hb4.cell (p := ⟨w.heap.size, 1, none⟩) (by simp)).trans (by simp [go_sem])
   have f0 : w2.frozen? ⟨w.heap.size, 0, none⟩ = false := (hb4.frozen (p := ⟨w.heap.size, 0, none⟩) (by simp)).trans (by simp [go_sem])
   have f1 : w2.frozen? ⟨w.heap.size, 1, none⟩ = false := (hb4.frozen (p := ⟨w.heap.size, 1, none⟩) (by simp)).trans (by simp [go_sem])
   have HB := hid (((Below.refl w.heap.size w).alloc (Nat.le_refl _) (.cells #[.slice none 0 0, .int .i64 0] 95)).trans (hb4.mono (B' := w.heap.size) (by omega)))
   have hs1 : w.heap.size + 1 ≤ w1.heap.size := by have := hb.size; simpa using this
   obtain ⟨ao', cp, hv⟩ := hout2.row.isSlice
   rw [hv] at hout2
   subst hv
   have hlo := hout.ne
   have HO := hid hout
   clear hb hb2 hb3 hb4 hrow hout hlo
   go_wp2
   refine bodyPost_ret (v := .agg #[.slice ao' L'.length cp, .int .i64 e']) (dec_results rfl _ _ w.heap.size _ _ rfl (two_cells c0 c1).1 (two_cells c0 c1).2) rfl ⟨below_two HB.out (Nat.le_refl _) _ _, _, L', e', rfl, ?_⟩
   have hne : L ≠ [] := by
    intro h0
    have h1 := HO.out.val 20000 (by omega)
    rw [h0, val_nil] at h1
    have := two_pos 20000 (-1074 + (a : Int) / 4503599627370496); omega
   have hnn := HO.out.ne hne
   have h9 : Out w2 (.slice ao' L'.length cp) L' e' 20000 (-1100) 20000 (fun g => w1.heap.size + 1 ≤ g) (fun K => valA K 2 a) :=
    hout2.mono (by omega) (by omega) (by omega) (fun g hg => by simpa using hg) (fun K hK => by rw [HO.out.val K (by omega)]; exact (valA_lo K 2 a 4503599627370496 1074 rfl rfl HX.out).symm)
   exact ((h9.setCell _ _ (by simp; omega)).setCell _ _ (by simp; omega)).mono (Nat.le_refl _) (Int.le_refl _) (Int.le_refl _) (fun g hg => by omega) (fun _ _ => rfl)
  ·have hx2 : (0 : Int) < (a : Int) / 4503599627370496 := by omega
   have HX := hid hx
   clear hx
   go_enter Tryz.func79, Tryz.ntmps79
   go_wp2_with fail
   refine (kind2 _).mono ?_
   rintro e w' ⟨rfl, rfl⟩
   go_wp2_with fail
   refine (two_any (-1074 + ((a : Int) / 4503599627370496 - 1)) _ (by omega)).mono ?_
   rintro r w1 ⟨hb, v', L, ex, rfl, hout⟩
   obtain ⟨ao, cap, hv⟩ := hout.row.isSlice
   rw [hv] at hout
   subst hv
   have hl := hout.len
   have hbd := hout.bounds 20000 (by omega) (by omega) (by omega)
   have hb2 : Below (w.heap.size + 1) (w.alloc (.cells #[.slice none 0 0, .int .i64 0] 95)) (w1.alloc (.cells #[.slice ao L.length cap, .int .i64 ex] 95)) := (hb.mono (by simp)).alloc (by have := hb.size; simp at this; omega) _
   have hrow := hout.row.below ((Below.refl w1.heap.size w1).alloc (Nat.le_refl _) (.cells #[.slice ao L.length cap, .int .i64 ex] 95)) (Nat.le_refl _)
   go_wp2_with fail
   rw [show (a : Int) % 4503599627370496 + 4503599627370496 = ((a % 4503599627370496 + 4503599627370496 : Nat) : Int) from by omega]
   refine (times_any _ L ex (a % 4503599627370496 + 4503599627370496) _ hrow hout.norm.digs (by omega) (by omega) (by omega)).mono ?_
   rintro r w2 ⟨hb3, v', L', e', rfl, hout2⟩
   have hb4 := below_next hb2 hb3 (by have := hb.size; simp at this ⊢; omega)
   have c0 : w2.cell? ⟨w.heap.size, 0, none⟩ = some (.slice none 0 0) := (hb4.cell (p := ⟨w.heap.size, 0, none⟩) (by simp)).trans (by simp [go_sem])
   have c1 : w2.cell? ⟨w.heap.size, 1, none⟩ = some (.int .i64 0) := (hb4.cell (p := ⟨w.heap.size, 1, none⟩) (by simp)).trans (by simp [go_sem])
   have f0 : w2.frozen? ⟨w.heap.size, 0, none⟩ = false := (hb4.frozen (p := ⟨w.heap.size, 0, none⟩) (by simp)).trans (by simp [go_sem])
   have f1 : w2.frozen? ⟨w.heap.size, 1, none⟩ = false := (hb4.frozen (p := ⟨w.heap.size, 1, none⟩) (by simp)).trans (by simp [go_sem])
   have HB := hid (((Below.refl w.heap.size w).alloc (Nat.le_refl _) (.cells #[.slice none 0 0, .int .i64 0] 95)).trans (hb4.mono (B' := w.heap.size) (by omega)))
   have hs1 : w.heap.size + 1 ≤ w1.heap.size := by have := hb.size; simpa using this
   obtain ⟨ao', cp, hv⟩ := hout2.row.isSlice
   rw [hv] at hout2
   subst hv
   have hlo := hout.ne
   have HO := hid hout
   clear hb hb2 hb3 hb4 hrow hout hlo
   go_wp2
   refine bodyPost_ret (v := .agg #[.slice ao' L'.length cp, .int .i64 e']) (dec_results rfl _ _ w.heap.size _ _ rfl (two_cells c0 c1).1 (two_cells c0 c1).2) rfl ⟨below_two HB.out (Nat.le_refl _) _ _, _, L', e', rfl, ?_⟩
   have hne : L ≠ [] := by
    intro h0
    have h1 := HO.out.val 20000 (by omega)
    rw [h0, val_nil] at h1
    have := two_pos 20000 (-1074 + ((a : Int) / 4503599627370496 - 1)); omega
   have hnn := HO.out.ne hne
   have h9 : Out w2 (.slice ao' L'.length cp) L' e' 20000 (-1100) 20000 (fun g => w1.heap.size + 1 ≤ g) (fun K => valA K 2 a) :=
    hout2.mono (by omega) (by omega) (by omega) (fun g hg => by simpa using hg) (fun K hK => by rw [HO.out.val K (by omega)]; exact (valA_hi K 2 a 4503599627370496 1074 rfl rfl HX.out).symm)
   exact ((h9.setCell _ _ (by simp; omega)).setCell _ _ (by simp; omega)).mono (Nat.le_refl _) (Int.le_refl _) (Int.le_refl _) (fun g hg => by omega) (fun _ _ => rfl)

end Go.Proofs.YtbkdaoicnobllabGreatDoor

namespace Go.Proofs.YtbkdaoicnobllabGreatDoor
open Go.RowKit

theorem numShort_any (f : Int) (hf : 0 ≤ f ∧ f ≤ 2) (a : Nat) (ng : Bool) (v : Int) (pl : Bool) (hv : v = 0 ∧ pl = false ∨ v = 1 ∧ pl = true) (prec mode : Int) (ha : (a : Int) < infN f) (w : World) (ht : Tab w) :
  Calls Tryz.prog 37 #[.int .i64 a, layOf f, .bool ng, styV v prec mode] w fun r w' => TextPost w w' r (ShortQ pl f a) := by
 have HNB := hid (fun w => number_any f hf a ha w)
 have HS := fun w1 hw => shortText_any f hf a ha v pl hv w1 hw
 obtain ⟨F, B, N, I, G, hl, hI, hN, hE, f1, f2, b1, b2, n1, n2, i2, i3⟩ := lay_num hf
 rw [hl] at HNB HS ⊢
 refine numT _ _ _ _ _ _ _ _ _ _ _ _ _ w ht HNB ?_
 rcases hv with ⟨rfl, rfl⟩ | ⟨rfl, rfl⟩
 ·exact .inr (.inr (.inr (.inl ⟨rfl, HS⟩)))
 ·exact .inr (.inr (.inr (.inr ⟨rfl, HS⟩)))
end Go.Proofs.YtbkdaoicnobllabGreatDoor

namespace Go.Proofs.YtbkdaoicnobllabGreatDoor
open Go.RowKit

theorem pShF (cv : Value) (f x prec mode : Int) (hf : 0 ≤ f ∧ f ≤ 2) (h1 : -9223372036854775808 ≤ x) (h2 : x ≤ 9223372036854775807) (w : World) (ht : Tab w) : Calls Tryz.prog 21 #[cv, .int .i64 x, .int .i64 f, .int .i64 0, .int .i64 prec, .int .i64 mode] w fun r w' => FmtPost f x 0 prec mode w w' r (ShortQ false f (amtI f x).toNat) :=
 pformat_any cv f x 0 prec mode _ hf h1 h2 w ht (fun _ a hA hlt w hw => by
  have := numShort_any f hf a (negI f x) 0 false (by simp) prec mode hlt w hw
  rw [show (amtI f x).toNat = a from by omega]; exact this)
theorem pPlF (cv : Value) (f x prec mode : Int) (hf : 0 ≤ f ∧ f ≤ 2) (h1 : -9223372036854775808 ≤ x) (h2 : x ≤ 9223372036854775807) (w : World) (ht : Tab w) : Calls Tryz.prog 21 #[cv, .int .i64 x, .int .i64 f, .int .i64 1, .int .i64 prec, .int .i64 mode] w fun r w' => FmtPost f x 1 prec mode w w' r (ShortQ true f (amtI f x).toNat) :=
 pformat_any cv f x 1 prec mode _ hf h1 h2 w ht (fun _ a hA hlt w hw => by
  have := numShort_any f hf a (negI f x) 1 true (by simp) prec mode hlt w hw
  rw [show (amtI f x).toNat = a from by omega]; exact this)
end Go.Proofs.YtbkdaoicnobllabGreatDoor

namespace Go.Proofs.YtbkdaoicnobllabGreatDoor
open Go.RowKit

theorem numExp_any (f : Int) (hf : 0 ≤ f ∧ f ≤ 2) (a : Nat) (ng : Bool) (prec mode : Int) (h1 : 0 ≤ prec) (h2 : prec ≤ 800) (ha : (a : Int) < infN f) (w : World) (ht : Tab w) :
  Calls Tryz.prog 37 #[.int .i64 a, layOf f, .bool ng, styV 2 prec mode] w fun r w' => TextPost w w' r (ExpQ (awayB mode ng) (valA 3000 f a) prec.toNat) := by
 have HNB := hid (fun w => number_any f hf a ha w)
 obtain ⟨F, B, N, I, G, hl, hI, hN, hE, f1, f2, b1, b2, n1, n2, i2, i3⟩ := lay_num hf
 obtain ⟨p1, p2, p3, p4, p5⟩ := num_bd hf ha
 rw [hl] at HNB ⊢
 exact numT _ _ _ _ _ _ _ _ _ _ _ _ _ w ht HNB (.inr (.inl ⟨rfl, fun w1 hw => expText_any (mA (fQ f) a) _ _ ng 2 prec mode w1 hw rfl (by omega) (by omega) (by omega) h1 h2⟩))
theorem numFix_any (f : Int) (hf : 0 ≤ f ∧ f ≤ 2) (a : Nat) (ng : Bool) (prec mode : Int) (h1 : 0 ≤ prec) (h2 : prec ≤ 800) (ha : (a : Int) < infN f) (w : World) (ht : Tab w) :
  Calls Tryz.prog 37 #[.int .i64 a, layOf f, .bool ng, styV 3 prec mode] w fun r w' => TextPost w w' r (FixQ (awayB mode ng) (valA 3000 f a) prec.toNat) := by
 have HNB := hid (fun w => number_any f hf a ha w)
 obtain ⟨F, B, N, I, G, hl, hI, hN, hE, f1, f2, b1, b2, n1, n2, i2, i3⟩ := lay_num hf
 obtain ⟨p1, p2, p3, p4, p5⟩ := num_bd hf ha
 rw [hl] at HNB ⊢
 exact numT _ _ _ _ _ _ _ _ _ _ _ _ _ w ht HNB (.inr (.inr (.inl ⟨rfl, fun w1 hw => fixText_any (mA (fQ f) a) _ _ ng 3 prec mode w1 hw rfl (by omega) (by omega) (by omega) h1 h2⟩)))
end Go.Proofs.YtbkdaoicnobllabGreatDoor
