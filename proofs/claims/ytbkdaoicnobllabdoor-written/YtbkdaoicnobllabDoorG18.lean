import Derived.Test.YtbkdaoicnobllabDoorG02
import Derived.Test.YtbkdaoicnobllabDoorG08
import Derived.Test.YtbkdaoicnobllabDoorG16
import Derived.Test.YtbkdaoicnobllabDoorG17
import Derived.Eval
import Derived.Deep.RegionHeld3
import Derived.Deep.DeepCutAuto
import Derived.Deep.RegionWith
import Derived.Deep.DrawnRows

namespace Go.Proofs.YtbkdaoicnobllabDoor
open Go.RowKit
set_option exponentiation.threshold 5000

set_option maxRecDepth 100000 in
set_option maxHeartbeats 1000000 in
theorem prints_out (cv : Value) (v f verb prec : Int) (Q : List UInt8 → Prop) (w : World) (hh : hasB f v = true ∧ allowB verb prec 0 = true)
    (HF0 : Calls Tryd.prog 15 #[cv, .int .i64 v, .int .i64 f, .int .i64 verb, .int .i64 prec, .int .i64 0] w fun r w' => FmtPost f v verb prec 0 w w' r Q) :
    Calls Tryd.prog 10 #[cv, .int .i64 v, .int .i64 f, .int .i64 verb, .int .i64 prec] w fun r w' => OutPost f v w w' r Q := by
  have HF := hid HF0
  have HH := hid hh
  clear HF0 hh
  go_enter Tryd.func10, Tryd.ntmps10
  go_wp2_with fail
  refine HF.out.mono ?_
  intro r w1 hp
  rcases hp with ⟨_, _, T, rfl, hq, hl, hb⟩ | ⟨hn, _⟩
  · have HP : Hid (OutPost f v w w1 (.returned (.string (str (outT f v T)))) Q) := ⟨T, rfl, hq, hl, hb⟩
    clear hq hl hb HF
    go_wp2
    all_goals (go_ret; exact HP.out)
  · exact absurd HH.out hn
theorem out_known {f v : Int} {w w' : World} {r : Ending} {Q : List UInt8 → Prop} {T0 : List UInt8} (hs : ∀ T T', Q T → Q T' → T = T') (hq : amtI f v < infN f → Q T0) (h : OutPost f v w w' r Q) : r = .returned (.string (str (outT f v T0))) ∧ Below w.heap.size w w' := by
  obtain ⟨T, rfl, h1, _, h2⟩ := h
  refine ⟨?_, h2⟩
  by_cases ha : amtI f v < infN f
  · rw [hs T T0 (h1 ha) (hq ha)]
  · unfold outT; rw [if_neg ha, if_neg ha]
theorem psh_any (cv : Value) (x f : Int) (hf : 0 ≤ f ∧ f ≤ 2) (h1 : -9223372036854775808 ≤ x) (h2 : x ≤ 9223372036854775807) (w : World) (ht : Tab w) : Calls Tryd.prog 15 #[cv, .int .i64 x, .int .i64 f, .int .i64 0, .int .i64 (-1), .int .i64 0] w fun r w' => FmtPost f x 0 (-1) 0 w w' r (ShortQ false f (amtI f x).toNat) := by
  rcases (by omega : f = 0 ∨ f = 1 ∨ f = 2) with rfl | rfl | rfl
  · exact pShF0 cv x (-1) 0 h1 h2 w ht
  · exact pShF1 cv x (-1) 0 h1 h2 w ht
  · exact pShF2 cv x (-1) 0 h1 h2 w ht
/-- The known patterns: format, pattern, the text (none: not asked); its digits, the power of the last, the power of the steps, that of the first digit. -/
def knW : List (Int × Int × List UInt8 × List Nat × Int × Int × Int) := [
  (0, 15360, [49, 101, 48], [1], 0, 0, 0),
  (0, 31743, [54, 46, 53, 53, 101, 52], [6, 5, 5], 2, 2, 4),
  (0, 31743, [], [], 0, 0, 0),
  (0, 31744, [105, 110, 102], [], 0, 0, 0),
  (0, 31743, [], [], 0, 0, 0),
  (0, 31743, [], [], 0, 0, 0),
  (0, 31744, [], [], 0, 0, 0),
  (0, 64511, [], [], 0, 0, 0),
  (0, 1, [54, 101, 45, 56], [6], (-8), (-8), (-8)),
  (0, 0, [], [], 0, 0, 0),
  (0, 1, [], [], 0, 0, 0),
  (0, 1, [], [], 0, 0, 0),
  (0, 1, [], [], 0, 0, 0),
  (0, 32768, [], [], 0, 0, 0),
  (0, 32769, [], [], 0, 0, 0),
  (0, 31743, [], [], 0, 0, 0),
  (1, 2139095039, [51, 46, 52, 48, 50, 56, 50, 51, 53, 101, 51, 56], [3, 4, 0, 2, 8, 2, 3, 5], 31, 31, 38),
  (1, 8388608, [49, 46, 49, 55, 53, 52, 57, 52, 52, 101, 45, 51, 56], [1, 1, 7, 5, 4, 9, 4, 4], (-45), (-45), (-38)),
  (1, 1266679808, [], [], 0, 0, 0),
  (1, 1266679809, [], [], 0, 0, 0),
  (1, 1036831949, [49, 101, 45, 49], [1], (-1), (-1), (-1)),
  (2, 4950912855330343670, [49, 101, 50, 51], [1], 23, 22, 22),
  (2, 1, [53, 101, 45, 51, 50, 52], [5], (-324), (-324), (-324)),
  (2, 4503599627370495, [50, 46, 50, 50, 53, 48, 55, 51, 56, 53, 56, 53, 48, 55, 50, 48, 49, 101, 45, 51, 48, 56], [2, 2, 2, 5, 0, 7, 3, 8, 5, 8, 5, 0, 7, 2, 0, 1], (-323), (-323), (-308)),
  (2, 4503599627370496, [50, 46, 50, 50, 53, 48, 55, 51, 56, 53, 56, 53, 48, 55, 50, 48, 49, 52, 101, 45, 51, 48, 56], [2, 2, 2, 5, 0, 7, 3, 8, 5, 8, 5, 0, 7, 2, 0, 1, 4], (-324), (-324), (-308)),
  (2, 4845873199050653696, [], [], 0, 0, 0),
  (2, 4845873199050653697, [], [], 0, 0, 0),
  (2, 4845873199050653697, [], [], 0, 0, 0),
  (2, 9218868437227405311, [49, 46, 55, 57, 55, 54, 57, 51, 49, 51, 52, 56, 54, 50, 51, 49, 53, 55, 101, 51, 48, 56], [1, 7, 9, 7, 6, 9, 3, 1, 3, 4, 8, 6, 2, 3, 1, 5, 7], 292, 292, 308),
  (2, 9218868437227405312, [105, 110, 102], [], 0, 0, 0),
  (2, 0, [], [], 0, 0, 0),
  (2, 1, [], [], 0, 0, 0),
  (2, 4591870180066957722, [49, 101, 45, 49], [1], (-1), (-1), (-1)),
  (2, 4862596447618666293, [], [], 0, 0, 0),
  (2, 4613937818241073152, [51, 101, 48], [3], 0, 0, 0),
  (2, 4611686018427387904, [50, 101, 48], [2], 0, 0, 0)]
def kwCheck (x : Int × Int × List UInt8 × List Nat × Int × Int × Int) : Bool :=
  decide (0 ≤ x.1 ∧ x.1 ≤ 2 ∧ 0 ≤ x.2.1 ∧ x.2.1 ≤ 9223372036854775807) && hasB x.1 x.2.1 && (decide (x.2.2.1 = []) ||
    (if amtI x.1 x.2.1 < infN x.1 then shortC x.1 (amtI x.1 x.2.1).toNat x.2.2.2.1 x.2.2.2.2.1 x.2.2.2.2.2.1 x.2.2.2.2.2.2 && decide (outT x.1 x.2.1 (shortT false x.2.2.2.1 x.2.2.2.2.1) = x.2.2.1) else decide (outT x.1 x.2.1 [] = x.2.2.1)))
theorem knW_ok : knW.all kwCheck = true := by decide +kernel
def kw0 : Int × Int × List UInt8 × List Nat × Int × Int × Int := (0, 0, [], [], 0, 0, 0)
theorem knW_len : knW.length = 36 := rfl
/-- What is printed of a known pattern. -/
def KwPost (sh : List UInt8) (w w' : World) (e : Ending) : Prop := ∃ T : List UInt8, e = .returned (.string (str T)) ∧ (sh = [] ∨ T = sh) ∧ Below w.heap.size w w'
theorem kw_prints (k : Nat) (hk : k < 36) (cv : Value) (w : World) (ht : Tab w) :
    Calls Tryd.prog 10 #[cv, .int .i64 (knW.getD k kw0).2.1, .int .i64 (knW.getD k kw0).1, .int .i64 0, .int .i64 (-1)] w fun e w' => KwPost (knW.getD k kw0).2.2.1 w w' e := by
  have h := List.all_eq_true.1 knW_ok (knW.getD k kw0) (by
    rw [List.getD_eq_getElem?_getD, List.getElem?_eq_getElem (by rw [knW_len]; exact hk)]
    exact List.getElem_mem _)
  generalize knW.getD k kw0 = x at *
  unfold kwCheck at h
  simp only [Bool.and_eq_true, Bool.or_eq_true, decide_eq_true_eq] at h
  obtain ⟨⟨⟨f0, f2, x0, x1⟩, hh⟩, hc⟩ := h
  refine (prints_out cv x.2.1 x.1 0 (-1) _ w ⟨hh, rfl⟩ (psh_any cv x.2.1 x.1 ⟨f0, f2⟩ (by omega) x1 w ht)).mono ?_
  intro r w' hp
  rcases hc with hc | hc
  · obtain ⟨T, rfl, _, _, hb⟩ := hp
    exact ⟨_, rfl, .inl hc, hb⟩
  · by_cases ha : amtI x.1 x.2.1 < infN x.1
    · rw [if_pos ha] at hc
      simp only [Bool.and_eq_true, decide_eq_true_eq] at hc
      obtain ⟨e1, e2⟩ := out_known (T0 := shortT false x.2.2.2.1 x.2.2.2.2.1) (fun T T' a b => a.same b) (fun _ => short_eval false hc.1) hp
      exact ⟨_, by rw [e1], .inr hc.2, e2⟩
    · rw [if_neg ha] at hc
      simp only [decide_eq_true_eq] at hc
      obtain ⟨e1, e2⟩ := out_known (T0 := []) (fun T T' a b => a.same b) (fun h => absurd h ha) hp
      exact ⟨_, by rw [e1], .inr hc, e2⟩
set_option maxRecDepth 100000 in
theorem kw_cells (k : Nat) (hk : k < 36) : knC[k * 6 + 1]? = some (.int .i64 (knW.getD k kw0).1) ∧ knC[k * 6 + 3]? = some (.int .i64 (knW.getD k kw0).2.1) ∧ knC[k * 6 + 5]? = some (.string (str (knW.getD k kw0).2.2.1)) := by
  match k, hk with
  | 0, _ => exact ⟨rfl, rfl, rfl⟩
  | 1, _ => exact ⟨rfl, rfl, rfl⟩
  | 2, _ => exact ⟨rfl, rfl, rfl⟩
  | 3, _ => exact ⟨rfl, rfl, rfl⟩
  | 4, _ => exact ⟨rfl, rfl, rfl⟩
  | 5, _ => exact ⟨rfl, rfl, rfl⟩
  | 6, _ => exact ⟨rfl, rfl, rfl⟩
  | 7, _ => exact ⟨rfl, rfl, rfl⟩
  | 8, _ => exact ⟨rfl, rfl, rfl⟩
  | 9, _ => exact ⟨rfl, rfl, rfl⟩
  | 10, _ => exact ⟨rfl, rfl, rfl⟩
  | 11, _ => exact ⟨rfl, rfl, rfl⟩
  | 12, _ => exact ⟨rfl, rfl, rfl⟩
  | 13, _ => exact ⟨rfl, rfl, rfl⟩
  | 14, _ => exact ⟨rfl, rfl, rfl⟩
  | 15, _ => exact ⟨rfl, rfl, rfl⟩
  | 16, _ => exact ⟨rfl, rfl, rfl⟩
  | 17, _ => exact ⟨rfl, rfl, rfl⟩
  | 18, _ => exact ⟨rfl, rfl, rfl⟩
  | 19, _ => exact ⟨rfl, rfl, rfl⟩
  | 20, _ => exact ⟨rfl, rfl, rfl⟩
  | 21, _ => exact ⟨rfl, rfl, rfl⟩
  | 22, _ => exact ⟨rfl, rfl, rfl⟩
  | 23, _ => exact ⟨rfl, rfl, rfl⟩
  | 24, _ => exact ⟨rfl, rfl, rfl⟩
  | 25, _ => exact ⟨rfl, rfl, rfl⟩
  | 26, _ => exact ⟨rfl, rfl, rfl⟩
  | 27, _ => exact ⟨rfl, rfl, rfl⟩
  | 28, _ => exact ⟨rfl, rfl, rfl⟩
  | 29, _ => exact ⟨rfl, rfl, rfl⟩
  | 30, _ => exact ⟨rfl, rfl, rfl⟩
  | 31, _ => exact ⟨rfl, rfl, rfl⟩
  | 32, _ => exact ⟨rfl, rfl, rfl⟩
  | 33, _ => exact ⟨rfl, rfl, rfl⟩
  | 34, _ => exact ⟨rfl, rfl, rfl⟩
  | 35, _ => exact ⟨rfl, rfl, rfl⟩
  | n + 36, h => exact absurd h (by omega)
end Go.Proofs.YtbkdaoicnobllabDoor

namespace Go.Proofs.YtbkdaoicnobllabDoor
open Go.RowKit

/-- The frame of 'knowns' as it leaves. -/
noncomputable def knFr (cs : List Frame) (w : World) : Frame := match runN Tryd.prog 46 (lone (Frame.enter Tryd.prog 7 #[] .normal) cs w) with
  | .next m => (m.gs[0]!).frame
  | .ended _ _ => default
theorem kn_run (cs : List Frame) (w : World) : runN Tryd.prog 46 (lone (Frame.enter Tryd.prog 7 #[] .normal) cs w) = .next (lone (knFr cs w) cs (w.alloc (.cells knC 32))) := by kernel_rfl
theorem kn_mode (cs : List Frame) (w : World) : (knFr cs w).mode = .returning := by kernel_rfl
theorem kn_defers (cs : List Frame) (w : World) : (knFr cs w).defers = [] := by kernel_rfl
theorem kn_kind (cs : List Frame) (w : World) : (knFr cs w).kind = .normal := by kernel_rfl
theorem kn_fn (cs : List Frame) (w : World) : (knFr cs w).fn = 7 := by kernel_rfl
theorem kn_res (cs : List Frame) (w : World) : (results Tryd.f7 (knFr cs w).tmps).run Tryd.prog (w.alloc (.cells knC 32)) = .ok (.slice (some ⟨w.heap.size, 0, none⟩) 36 36) (w.alloc (.cells knC 32)) := by kernel_rfl
theorem knowns_any (w : World) : Calls Tryd.prog 7 #[] w fun e w' => e = .returned (.slice (some ⟨w.heap.size, 0, none⟩) 36 36) ∧ w' = w.alloc (.cells knC 32) := by
  intro cs
  exact ⟨_, _, knFr cs w, ⟨rfl, rfl⟩, ⟨46, kn_run cs w⟩, kn_fn cs w, kn_mode cs w, kn_defers cs w, kn_kind cs w, _, (by rw [kn_fn]; exact Tryd.func7), kn_res cs w⟩
end Go.Proofs.YtbkdaoicnobllabDoor

namespace Go.Proofs.YtbkdaoicnobllabDoor
open Go.RowKit
set_option exponentiation.threshold 5000

theorem p1_exp : expC (valA 3000 2 4591870180066957722) 20 [1, 0, 0, 0, 0, 0, 0, 0, 0, 0, 0, 0, 0, 0, 0, 0, 0, 5, 5, 5, 1] (-21) (-1) = true := by decide +kernel
theorem p1_text : sciT [1, 0, 0, 0, 0, 0, 0, 0, 0, 0, 0, 0, 0, 0, 0, 0, 0, 5, 5, 5, 1] (-21) (-21 + (([1, 0, 0, 0, 0, 0, 0, 0, 0, 0, 0, 0, 0, 0, 0, 0, 0, 5, 5, 5, 1] : List Nat).length : Int) - 1) 20 ++ (101 :: Lib.itoa (-21 + (([1, 0, 0, 0, 0, 0, 0, 0, 0, 0, 0, 0, 0, 0, 0, 0, 0, 5, 5, 5, 1] : List Nat).length : Int) - 1)) = [49, 46, 48, 48, 48, 48, 48, 48, 48, 48, 48, 48, 48, 48, 48, 48, 48, 48, 53, 53, 53, 49, 101, 45, 49] := by decide +kernel
theorem p2_fix : fixC (valA 3000 2 4591870180066957722) 3 [1] (-1) = true := by decide +kernel
theorem p2_text : fixT [1] (-1) (highN [1] (-1)) 3 = [48, 46, 49, 48, 48] := by decide +kernel
theorem p3_short : shortC 2 4621819117588971520 [1] 1 1 1 = true := by decide +kernel
theorem p3_text : shortT true [1] 1 = [49, 48] := by decide +kernel
theorem p6_short : shortC 0 13653 [3, 3, 3, 3] (-4) (-4) (-1) = true := by decide +kernel
theorem p6_text : shortT true [3, 3, 3, 3] (-4) = [48, 46, 51, 51, 51, 51] := by decide +kernel
theorem p7_short : shortC 1 1266679809 [1, 6, 7, 7, 7, 2, 1, 8] 0 0 7 = true := by decide +kernel
theorem p7_text : shortT true [1, 6, 7, 7, 7, 2, 1, 8] 0 = [49, 54, 55, 55, 55, 50, 49, 56] := by decide +kernel
theorem hx_one : HexQ 2 1 [48, 120, 49, 112, 45, 49, 48, 55, 52] := by
  refine .inr ⟨by omega, [], -1074, ⟨0, 0, ⟨by decide, by decide⟩, ⟨by decide, fun i hi => absurd hi (by omega)⟩, rfl, by decide⟩, by decide +kernel⟩
theorem hx_nine : HexQ 2 4636737291354636288 [48, 120, 49, 46, 57, 112, 54] := by
  refine .inr ⟨by omega, [57], 6, ⟨52, 1, ⟨by decide +kernel, by decide +kernel⟩, ⟨by decide +kernel, fun i hi => ?_⟩, by decide +kernel, by decide +kernel⟩, by decide +kernel⟩
  obtain rfl : i = 0 := by omega
  decide +kernel
/-- One known text. -/
def PrOne (cv : Value) (x f verb prec : Int) (T : List UInt8) : Prop := ∀ w : World, Tab w → Calls Tryd.prog 10 #[cv, .int .i64 x, .int .i64 f, .int .i64 verb, .int .i64 prec] w fun e w' => e = .returned (.string (str T)) ∧ Below w.heap.size w w'
theorem pr_of {cv : Value} {x f verb prec : Int} {T T0 : List UInt8} {Q : List UInt8 → Prop} (hh : hasB f x = true ∧ allowB verb prec 0 = true) (hs : ∀ T T', Q T → Q T' → T = T') (hq : Q T0) (ht : outT f x T0 = T)
    (hc : ∀ w : World, Tab w → Calls Tryd.prog 15 #[cv, .int .i64 x, .int .i64 f, .int .i64 verb, .int .i64 prec, .int .i64 0] w fun r w' => FmtPost f x verb prec 0 w w' r Q) : PrOne cv x f verb prec T := fun w hw => by
  refine (prints_out cv x f verb prec Q w hh (hc w hw)).mono ?_
  intro r w' hp
  obtain ⟨e1, e2⟩ := out_known hs (fun _ => hq) hp
  exact ⟨by rw [e1, ht], e2⟩
theorem pr1 (cv : Value) : PrOne cv 4591870180066957722 2 2 20 [49, 46, 48, 48, 48, 48, 48, 48, 48, 48, 48, 48, 48, 48, 48, 48, 48, 48, 53, 53, 53, 49, 101, 45, 49] :=
  pr_of ⟨by decide +kernel, by decide +kernel⟩ (fun _ _ a b => a.same b) (p1_text ▸ exp_eval p1_exp) (by decide +kernel) (fun w hw => pExpF2 cv _ 20 0 (by decide) (by decide) w hw)
theorem pr2 (cv : Value) : PrOne cv 4591870180066957722 2 3 3 [48, 46, 49, 48, 48] :=
  pr_of ⟨by decide +kernel, by decide +kernel⟩ (fun _ _ a b => a.same b) (p2_text ▸ fix_eval p2_fix) (by decide +kernel) (fun w hw => pFixF2 cv _ 3 0 (by decide) (by decide) w hw)
theorem pr3 (cv : Value) : PrOne cv 4621819117588971520 2 1 (-1) [49, 48] :=
  pr_of ⟨by decide +kernel, by decide +kernel⟩ (fun _ _ a b => a.same b) (p3_text ▸ short_eval true p3_short) (by decide +kernel) (fun w hw => pPlF2 cv _ (-1) 0 (by decide) (by decide) w hw)
theorem pr4 (cv : Value) : PrOne cv (-9223372036854775808) 2 3 2 [45, 48, 46, 48, 48] :=
  pr_of (T0 := [48, 46, 48, 48]) ⟨by decide +kernel, by decide +kernel⟩ (fun _ _ a b => a.same b) (show FixQ (awayB 0 (negI 2 (-9223372036854775808))) 0 2 _ from (show fixT [] (-((2 : Nat) : Int)) ((0 : Int) - ((2 : Nat) : Int) - 1).toNat 2 = [48, 46, 48, 48] by decide +kernel) ▸ fix_zero _ 2 (by omega)) (by decide +kernel) (fun w hw => by
    have := pFixF2 cv (-9223372036854775808) 2 0 (by decide) (by decide) w hw
    rw [show (amtI 2 (-9223372036854775808)).toNat = 0 from by decide +kernel, valA_zero] at this
    exact this)
theorem pr5 (cv : Value) : PrOne cv 1 2 4 (-1) [48, 120, 49, 112, 45, 49, 48, 55, 52] :=
  pr_of ⟨by decide +kernel, by decide +kernel⟩ (fun _ _ a b => a.same b) hx_one (by decide +kernel) (fun w hw => phexF2 cv 1 (-1) 0 (by decide) (by decide) w hw)
theorem pr6 (cv : Value) : PrOne cv 13653 0 1 (-1) [48, 46, 51, 51, 51, 51] :=
  pr_of ⟨by decide +kernel, by decide +kernel⟩ (fun _ _ a b => a.same b) (p6_text ▸ short_eval true p6_short) (by decide +kernel) (fun w hw => pPlF0 cv _ (-1) 0 (by decide) (by decide) w hw)
theorem pr7 (cv : Value) : PrOne cv 1266679809 1 1 (-1) [49, 54, 55, 55, 55, 50, 49, 56] :=
  pr_of ⟨by decide +kernel, by decide +kernel⟩ (fun _ _ a b => a.same b) (p7_text ▸ short_eval true p7_short) (by decide +kernel) (fun w hw => pPlF1 cv _ (-1) 0 (by decide) (by decide) w hw)
theorem pr8 (cv : Value) : PrOne cv 4636737291354636288 2 4 (-1) [48, 120, 49, 46, 57, 112, 54] :=
  pr_of ⟨by decide +kernel, by decide +kernel⟩ (fun _ _ a b => a.same b) hx_nine (by decide +kernel) (fun w hw => phexF2 cv _ (-1) 0 (by decide) (by decide) w hw)
set_option maxRecDepth 100000 in
set_option maxHeartbeats 4000000 in
theorem printed_any (cv : Value) (w : World) (ht : Tab w) : Calls Tryd.prog 9 #[cv] w fun e w' => e = .returned (.bool true) ∧ Below w.heap.size w w' := by
  have H1 := hid (pr1 cv)
  have H2 := hid (pr2 cv)
  have H3 := hid (pr3 cv)
  have H4 := hid (pr4 cv)
  have H5 := hid (pr5 cv)
  have H6 := hid (pr6 cv)
  have H7 := hid (pr7 cv)
  have H8 := hid (pr8 cv)
  have HT := hid ht
  clear ht
  go_enter Tryd.func9, Tryd.ntmps9
  go_wp2_with fail
  refine (H1.out w HT.out).mono ?_
  rintro e w1 ⟨rfl, hb⟩
  have HB1 := hid hb
  clear hb H1
  go_wp2_with fail
  refine (H2.out w1 (HT.out.below HB1.out)).mono ?_
  rintro e w2 ⟨rfl, hb⟩
  have HB2 : Hid (Below w.heap.size w w2) := HB1.out.trans (hb.mono HB1.out.size)
  clear hb H2 HB1
  go_wp2_with fail
  refine (H3.out w2 (HT.out.below HB2.out)).mono ?_
  rintro e w3 ⟨rfl, hb⟩
  have HB3 : Hid (Below w.heap.size w w3) := HB2.out.trans (hb.mono HB2.out.size)
  clear hb H3 HB2
  go_wp2_with fail
  refine (H4.out w3 (HT.out.below HB3.out)).mono ?_
  rintro e w4 ⟨rfl, hb⟩
  have HB4 : Hid (Below w.heap.size w w4) := HB3.out.trans (hb.mono HB3.out.size)
  clear hb H4 HB3
  go_wp2_with fail
  refine (H5.out w4 (HT.out.below HB4.out)).mono ?_
  rintro e w5 ⟨rfl, hb⟩
  have HB5 : Hid (Below w.heap.size w w5) := HB4.out.trans (hb.mono HB4.out.size)
  clear hb H5 HB4
  go_wp2_with fail
  refine (H6.out w5 (HT.out.below HB5.out)).mono ?_
  rintro e w6 ⟨rfl, hb⟩
  have HB6 : Hid (Below w.heap.size w w6) := HB5.out.trans (hb.mono HB5.out.size)
  clear hb H6 HB5
  go_wp2_with fail
  refine (H7.out w6 (HT.out.below HB6.out)).mono ?_
  rintro e w7 ⟨rfl, hb⟩
  have HB7 : Hid (Below w.heap.size w w7) := HB6.out.trans (hb.mono HB6.out.size)
  clear hb H7 HB6
  go_wp2_with fail
  refine (H8.out w7 (HT.out.below HB7.out)).mono ?_
  rintro e w8 ⟨rfl, hb⟩
  have HB8 : Hid (Below w.heap.size w w8) := HB7.out.trans (hb.mono HB7.out.size)
  clear hb H8 HB7
  have s1 : ((str [49, 46, 48, 48, 48, 48, 48, 48, 48, 48, 48, 48, 48, 48, 48, 48, 48, 48, 53, 53, 53, 49, 101, 45, 49]).toList == [49, 46, 48, 48, 48, 48, 48, 48, 48, 48, 48, 48, 48, 48, 48, 48, 48, 48, 53, 53, 53, 49, 101, 45, 49]) = true := by rw [str_toList]; decide
  have s2 : ((str [48, 46, 49, 48, 48]).toList == [48, 46, 49, 48, 48]) = true := by rw [str_toList]; decide
  have s3 : ((str [49, 48]).toList == [49, 48]) = true := by rw [str_toList]; decide
  have s4 : ((str [45, 48, 46, 48, 48]).toList == [45, 48, 46, 48, 48]) = true := by rw [str_toList]; decide
  have s5 : ((str [48, 120, 49, 112, 45, 49, 48, 55, 52]).toList == [48, 120, 49, 112, 45, 49, 48, 55, 52]) = true := by rw [str_toList]; decide
  have s6 : ((str [48, 46, 51, 51, 51, 51]).toList == [48, 46, 51, 51, 51, 51]) = true := by rw [str_toList]; decide
  have s7 : ((str [49, 54, 55, 55, 55, 50, 49, 56]).toList == [49, 54, 55, 55, 55, 50, 49, 56]) = true := by rw [str_toList]; decide
  have s8 : ((str [48, 120, 49, 46, 57, 112, 54]).toList == [48, 120, 49, 46, 57, 112, 54]) = true := by rw [str_toList]; decide
  go_wp2
  all_goals (go_ret; exact ⟨rfl, HB8.out⟩)
theorem kw_mem (k : Nat) (hk : k < 36) (w : World) : ∃ (fx bx : Int) (sh : List UInt8),
    (w.alloc (.cells knC 32)).cell? ⟨w.heap.size, k * 6 + 1, none⟩ = some (.int .i64 fx) ∧ (w.alloc (.cells knC 32)).cell? ⟨w.heap.size, k * 6 + 3, none⟩ = some (.int .i64 bx) ∧
    (w.alloc (.cells knC 32)).cell? ⟨w.heap.size, k * 6 + 5, none⟩ = some (.string (str sh)) ∧
    ∀ (cv : Value) (w1 : World), Tab w1 → Calls Tryd.prog 10 #[cv, .int .i64 bx, .int .i64 fx, .int .i64 0, .int .i64 (-1)] w1 fun e w' => KwPost sh w1 w' e := by
  obtain ⟨h0, h1, h2⟩ := kw_cells k hk
  refine ⟨_, _, _, ?_, ?_, ?_, fun cv w1 hw => kw_prints k hk cv w1 hw⟩
  · simp [go_sem]; exact h0
  · simp [go_sem]; exact h1
  · simp [go_sem]; exact h2
set_option maxRecDepth 100000 in
set_option maxHeartbeats 4000000 in
theorem written_law (c : Int) (hc : -9223372036854775808 ≤ c ∧ c ≤ 9223372036854775807) (w : World) (ht : Tab w) :
    Calls Tryd.prog 4 #[.int .i64 c] w fun e w' => e = .returned (.bool true) ∧ Below w.heap.size w w' := by
  have h37 : pickV c 37 < 37 := Nat.mod_lt _ (by omega)
  have HCC := hid hc
  have HT := hid ht
  clear hc ht
  go_enter Tryd.func4, Tryd.ntmps4
  go_wp2_with fail
  refine (pnew_any w).mono ?_
  rintro e w1 ⟨v, rfl, hb1⟩
  have HB1 := hid hb1
  clear hb1
  go_wp2_with fail
  refine (knowns_any w1).mono ?_
  rintro e w2 ⟨rfl, hw2⟩
  have HB2 : Hid (Below w.heap.size w w2) := by unfold Hid; rw [hw2]; exact HB1.out.alloc HB1.out.size _
  have HXp := hid (pick_any c 37 (by omega) (by omega) HCC.out w2)
  obtain ⟨k, hk⟩ : ∃ k, k = pickV c 37 := ⟨_, rfl⟩
  rw [← hk] at HXp h37
  clear hk
  obtain ⟨G, hG⟩ : ∃ G, G = w1.heap.size := ⟨_, rfl⟩
  rw [← hG]
  by_cases h36 : k = 36
  · subst h36
    have HXm := hid (printed_any v w2 (HT.out.below HB2.out))
    clear hw2
    go_wp2_with fail
    refine HXp.out.mono ?_
    rintro e w3 ⟨rfl, rfl⟩
    clear HXp
    go_wp2_with fail
    refine HXm.out.mono ?_
    rintro e w4 ⟨rfl, hb4⟩
    have HB4 : Hid (Below w.heap.size w w4) := HB2.out.trans (hb4.mono HB2.out.size)
    clear HXm hb4
    go_wp2
    go_ret
    exact ⟨rfl, HB4.out⟩
  · have hk : k < 36 := by omega
    obtain ⟨fx, bx, sh, c1, c3, c5, hsay⟩ := kw_mem k hk w1
    rw [← hw2, ← hG] at c1 c3 c5
    have HSAY := hid hsay
    have t36 : ((k : Int) == 36) = false := by simp; omega
    clear hw2 hsay h36 hG
    go_wp2_with fail
    refine HXp.out.mono ?_
    rintro e w3 ⟨rfl, rfl⟩
    clear HXp
    go_wp2_with fail
    have i0 : (0 : Int) ≤ (k : Int) := by omega
    have i1 : (k : Int) < 36 := by omega
    go_region_held3 (fun w' => w'.cell? ⟨G, k * 6 + 1, none⟩ = some (.int .i64 fx) ∧ w'.cell? ⟨G, k * 6 + 3, none⟩ = some (.int .i64 bx) ∧ w'.cell? ⟨G, k * 6 + 5, none⟩ = some (.string (str sh)))
      (first | go_keep | exact ⟨keep_cell' hb (by assumption), keep_cell' hb (by assumption), keep_cell' hb (by assumption)⟩)
      ((go_at_call 10; refine (HSAY.out _ _ (HT.out.below HB2.out.drew)).mono ?_; rintro e w4 ⟨T, rfl, hT, hb⟩))
    have HB4 : Hid (Below w.heap.size w w4) := HB2.out.drew.trans (hb.mono HB2.out.size)
    have d5 : w4.cell? ⟨G, k * 6 + 5, none⟩ = some (.string (str sh)) := keep_cell' hb c5
    have HTT := hid hT
    clear hb c1 c3 c5 hT HSAY HCC HT HB2
    by_cases hs : sh = []
    · have e1 : (str sh).toList.isEmpty = true := by rw [hs, str_toList]; rfl
      clear HTT hs
      go_wp2
      all_goals (go_ret; exact ⟨rfl, by first | exact HB4.out | exact HB4.out.trans ((((Still.refl _).drewN _).below _).mono HB4.out.size)⟩)
    · have hTs := HTT.out.resolve_left hs
      subst hTs
      have e1 : (str T).toList.isEmpty = false := by rw [str_toList]; simpa using hs
      clear HTT hs
      go_wp2
      all_goals (go_ret; exact ⟨rfl, by first | exact HB4.out | exact HB4.out.trans ((((Still.refl _).drewN _).below _).mono HB4.out.size)⟩)
end Go.Proofs.YtbkdaoicnobllabDoor
