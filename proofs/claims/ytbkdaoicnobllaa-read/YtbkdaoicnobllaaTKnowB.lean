import Derived.Test.YtbkdaoicnobllaaTKnow
import Derived.Eval
import Derived.Test.YtbkdaoicnobllaaTKeepD
import Derived.Deep.DeepCutAuto
import Derived.Deep.RegionWith
import Derived.Deep.DrawnRows

namespace Go.Proofs.Ytbkdaoicnobllaa
open Go.RowKit

/-- The frame of 'knowns' as it leaves. -/
noncomputable def knFr (cs : List Frame) (w : World) : Frame := match runN Try.prog 46 (lone (Frame.enter Try.prog 10 #[] .normal) cs w) with
  | .next m => (m.gs[0]!).frame
  | .ended _ _ => default
theorem kn_run (cs : List Frame) (w : World) : runN Try.prog 46 (lone (Frame.enter Try.prog 10 #[] .normal) cs w) = .next (lone (knFr cs w) cs (w.alloc (.cells knC 33))) := by kernel_rfl
theorem kn_mode (cs : List Frame) (w : World) : (knFr cs w).mode = .returning := by kernel_rfl
theorem kn_defers (cs : List Frame) (w : World) : (knFr cs w).defers = [] := by kernel_rfl
theorem kn_kind (cs : List Frame) (w : World) : (knFr cs w).kind = .normal := by kernel_rfl
theorem kn_fn (cs : List Frame) (w : World) : (knFr cs w).fn = 10 := by kernel_rfl
theorem kn_res (cs : List Frame) (w : World) : (results Try.f10 (knFr cs w).tmps).run Try.prog (w.alloc (.cells knC 33)) = .ok (.slice (some ⟨w.heap.size, 0, none⟩) 36 36) (w.alloc (.cells knC 33)) := by kernel_rfl
theorem knowns_any (w : World) : Calls Try.prog 10 #[] w fun e w' => e = .returned (.slice (some ⟨w.heap.size, 0, none⟩) 36 36) ∧ w' = w.alloc (.cells knC 33) := by
  intro cs
  exact ⟨_, _, knFr cs w, ⟨rfl, rfl⟩, ⟨46, kn_run cs w⟩, kn_fn cs w, kn_mode cs w, kn_defers cs w, kn_kind cs w, _, (by rw [kn_fn]; exact Try.func10), kn_res cs w⟩
end Go.Proofs.Ytbkdaoicnobllaa

namespace Go.Proofs.Ytbkdaoicnobllaa
open Go.RowKit
attribute [local go_sem ↓] Go.wp_at_zero Go.wp_at_succ

theorem kn_mem (k : Nat) (hk : k < 36) (w : World) : ∃ (tx : ByteArray) (fx mx bx gx : Int),
    (w.alloc (.cells knC 33)).cell? ⟨w.heap.size, k * 6, none⟩ = some (.string tx) ∧ (w.alloc (.cells knC 33)).cell? ⟨w.heap.size, k * 6 + 1, none⟩ = some (.int .i64 fx) ∧
    (w.alloc (.cells knC 33)).cell? ⟨w.heap.size, k * 6 + 2, none⟩ = some (.int .i64 mx) ∧ (w.alloc (.cells knC 33)).cell? ⟨w.heap.size, k * 6 + 3, none⟩ = some (.int .i64 bx) ∧
    (w.alloc (.cells knC 33)).cell? ⟨w.heap.size, k * 6 + 4, none⟩ = some (.int .i64 gx) ∧
    ∀ (cv : Value) (w1 : World), Calls Try.prog 13 #[cv, .string tx, .int .i64 fx, .int .i64 mx, .int .i64 bx, .int .i64 gx] w1 fun e w' => e = .returned (.bool true) ∧ Below w1.heap.size w1 w' := by
  obtain ⟨h0, h1, h2, h3, h4⟩ := kn_cells k hk
  refine ⟨_, _, _, _, _, ?_, ?_, ?_, ?_, ?_, fun cv w1 => kn_says k hk cv w1⟩
  · simp [go_sem]; exact h0
  · simp [go_sem]; exact h1
  · simp [go_sem]; exact h2
  · simp [go_sem]; exact h3
  · simp [go_sem]; exact h4
end Go.Proofs.Ytbkdaoicnobllaa
