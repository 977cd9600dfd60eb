import Derived.Test.YtbkdaoicnobllabDoorProg
import Derived.Test.YtbkdaoicnobllabDoorGMem
import Derived.WalkSpells
import Derived.WalkLawsBesides
import Derived.WalkKit
import Derived.Test.YtbkdaoicnobllabDoorGMath
import Derived.Deep.QuietTactic
import Derived.BigQuiet

namespace Go.Proofs.YtbkdaoicnobllabDoor
open Go.RowKit

end Go.Proofs.YtbkdaoicnobllabDoor

namespace Go.Proofs.YtbkdaoicnobllabDoor
open Go.RowKit

end Go.Proofs.YtbkdaoicnobllabDoor

namespace Go.Proofs.YtbkdaoicnobllabDoor
open Go.RowKit

theorem Tryd.info_int : (Tryd.prog.info? 3).map (fun i => (i.zero, i.size, i.bytes)) = some (some (.int .i64 0), 1, 8) := by kernel_rfl

theorem two_cells {w : World} {B : Nat} {x y x0 y0 : Value} (c0 : w.cell? ⟨B, 0, none⟩ = some x0) (c1 : w.cell? ⟨B, 1, none⟩ = some y0) :
    ((w.setCell ⟨B, 0, none⟩ x).setCell ⟨B, 1, none⟩ y).cell? ⟨B, 0, none⟩ = some x ∧ ((w.setCell ⟨B, 0, none⟩ x).setCell ⟨B, 1, none⟩ y).cell? ⟨B, 1, none⟩ = some y := by
  constructor
  · rw [World.cell?_setCell_other _ _ _ _ (by simp)]
    exact World.cell?_setCell_same' _ _ _ (by rw [c0]; rfl)
  · exact World.cell?_setCell_same' _ _ _ (by rw [World.cell?_setCell_other _ _ _ _ (by simp), c1]; rfl)

/-- Two boxes of two cells each, in a later world. -/
theorem box4 {w w' : World} {x1 y1 x2 y2 : Value} {t1 t2 : TypeId} (hb : Below (w.heap.size + 2) ((w.alloc (.cells #[x1, y1] t1)).alloc (.cells #[x2, y2] t2)) w') :
    w'.cell? ⟨w.heap.size, 0, none⟩ = some x1 ∧ w'.cell? ⟨w.heap.size, 1, none⟩ = some y1 ∧ w'.cell? ⟨w.heap.size + 1, 0, none⟩ = some x2 ∧ w'.cell? ⟨w.heap.size + 1, 1, none⟩ = some y2 ∧
    w'.frozen? ⟨w.heap.size, 0, none⟩ = false ∧ w'.frozen? ⟨w.heap.size, 1, none⟩ = false ∧ w'.frozen? ⟨w.heap.size + 1, 0, none⟩ = false ∧ w'.frozen? ⟨w.heap.size + 1, 1, none⟩ = false ∧ w.heap.size + 2 ≤ w'.heap.size := by
  refine ⟨?_, ?_, ?_, ?_, ?_, ?_, ?_, ?_, ?_⟩
  · exact (hb.cell (p := ⟨w.heap.size, 0, none⟩) (by simp)).trans (by simp [go_sem])
  · exact (hb.cell (p := ⟨w.heap.size, 1, none⟩) (by simp)).trans (by simp [go_sem])
  · exact (hb.cell (p := ⟨w.heap.size + 1, 0, none⟩) (by simp)).trans (by simp [go_sem])
  · exact (hb.cell (p := ⟨w.heap.size + 1, 1, none⟩) (by simp)).trans (by simp [go_sem])
  · exact (hb.frozen (p := ⟨w.heap.size, 0, none⟩) (by simp)).trans (by simp [go_sem])
  · exact (hb.frozen (p := ⟨w.heap.size, 1, none⟩) (by simp)).trans (by simp [go_sem])
  · exact (hb.frozen (p := ⟨w.heap.size + 1, 0, none⟩) (by simp)).trans (by simp [go_sem])
  · exact (hb.frozen (p := ⟨w.heap.size + 1, 1, none⟩) (by simp)).trans (by simp [go_sem])
  · have := hb.size; simpa using this
theorem box4_below {w : World} {o1 o2 : Obj} : Below w.heap.size w ((w.alloc o1).alloc o2) := ((Below.refl _ _).alloc (Nat.le_refl _) _).alloc (by simp) _
theorem box4_up {w w' : World} {o1 o2 : Obj} (hb : Below (w.heap.size + 2) ((w.alloc o1).alloc o2) w') : Below w.heap.size w w' := box4_below.trans (hb.mono (by omega))
theorem box4_start {w w' : World} {o1 o2 : Obj} (hb : Below ((w.alloc o1).alloc o2).heap.size ((w.alloc o1).alloc o2) w') : Below (w.heap.size + 2) ((w.alloc o1).alloc o2) w' := hb.mono (by simp)
theorem below_next {B : Nat} {w w1 w2 : World} (h : Below B w w1) (h2 : Below w1.heap.size w1 w2) (hB : B ≤ w1.heap.size) : Below B w w2 := h.trans (h2.mono hB)

/-- Three boxes of two cells each, in a later world. -/
theorem box6 {w w' : World} {x1 y1 x2 y2 x3 y3 : Value} {t1 t2 t3 : TypeId} (hb : Below (w.heap.size + 3) (((w.alloc (.cells #[x1, y1] t1)).alloc (.cells #[x2, y2] t2)).alloc (.cells #[x3, y3] t3)) w') :
    w'.cell? ⟨w.heap.size, 0, none⟩ = some x1 ∧ w'.cell? ⟨w.heap.size, 1, none⟩ = some y1 ∧ w'.cell? ⟨w.heap.size + 1, 0, none⟩ = some x2 ∧ w'.cell? ⟨w.heap.size + 1, 1, none⟩ = some y2 ∧
    w'.cell? ⟨w.heap.size + 1 + 1, 0, none⟩ = some x3 ∧ w'.cell? ⟨w.heap.size + 1 + 1, 1, none⟩ = some y3 ∧
    w'.frozen? ⟨w.heap.size + 1 + 1, 0, none⟩ = false ∧ w'.frozen? ⟨w.heap.size + 1 + 1, 1, none⟩ = false ∧ w.heap.size + 3 ≤ w'.heap.size := by
  have h1 : ((w.alloc (.cells #[x1, y1] t1)).alloc (.cells #[x2, y2] t2)).heap.size = w.heap.size + 2 := by simp
  have hb2 : Below (w.heap.size + 2) ((w.alloc (.cells #[x1, y1] t1)).alloc (.cells #[x2, y2] t2)) w' := ((Below.refl _ _).alloc (by omega) _).trans (hb.mono (by omega))
  obtain ⟨a, b, c, d, _⟩ := box4 hb2
  refine ⟨a, b, c, d, ?_, ?_, ?_, ?_, ?_⟩
  · exact (hb.cell (p := ⟨w.heap.size + 1 + 1, 0, none⟩) (by simp)).trans (by rw [show w.heap.size + 1 + 1 = ((w.alloc (.cells #[x1, y1] t1)).alloc (.cells #[x2, y2] t2)).heap.size from by omega]; exact World.cell?_alloc_new _ _ _ _)
  · exact (hb.cell (p := ⟨w.heap.size + 1 + 1, 1, none⟩) (by simp)).trans (by rw [show w.heap.size + 1 + 1 = ((w.alloc (.cells #[x1, y1] t1)).alloc (.cells #[x2, y2] t2)).heap.size from by omega]; exact World.cell?_alloc_new _ _ _ _)
  · exact (hb.frozen (p := ⟨w.heap.size + 1 + 1, 0, none⟩) (by simp)).trans (by rw [show w.heap.size + 1 + 1 = ((w.alloc (.cells #[x1, y1] t1)).alloc (.cells #[x2, y2] t2)).heap.size from by omega]; simp [go_sem])
  · exact (hb.frozen (p := ⟨w.heap.size + 1 + 1, 1, none⟩) (by simp)).trans (by rw [show w.heap.size + 1 + 1 = ((w.alloc (.cells #[x1, y1] t1)).alloc (.cells #[x2, y2] t2)).heap.size from by omega]; simp [go_sem])
  · have := hb.size; simpa using this
theorem box6_below {w : World} {o1 o2 o3 : Obj} : Below w.heap.size w (((w.alloc o1).alloc o2).alloc o3) := box4_below.alloc (by simp; omega) _
theorem box6_up {w w' : World} {o1 o2 o3 : Obj} (hb : Below (w.heap.size + 3) (((w.alloc o1).alloc o2).alloc o3) w') : Below w.heap.size w w' := box6_below.trans (hb.mono (by omega))
theorem box6_start {w w' : World} {o1 o2 o3 : Obj} (hb : Below (((w.alloc o1).alloc o2).alloc o3).heap.size (((w.alloc o1).alloc o2).alloc o3) w') : Below (w.heap.size + 3) (((w.alloc o1).alloc o2).alloc o3) w' := hb.mono (by simp)
/-- Two stores into one block. -/
theorem below_two {B : Nat} {a w : World} (h : Below B a w) {b : Nat} (hb : B ≤ b) (x y : Value) : Below B a ((w.setCell ⟨b, 0, none⟩ x).setCell ⟨b, 1, none⟩ y) := (h.setCell (p := ⟨b, 0, none⟩) hb x).setCell (p := ⟨b, 1, none⟩) hb y

end Go.Proofs.YtbkdaoicnobllabDoor

namespace Go.Proofs.YtbkdaoicnobllabDoor
open Go.RowKit

end Go.Proofs.YtbkdaoicnobllabDoor

namespace Go.Proofs.YtbkdaoicnobllabDoor
open Go.RowKit

end Go.Proofs.YtbkdaoicnobllabDoor

namespace Go.Proofs.YtbkdaoicnobllabDoor
open Go.RowKit

/-- The amount of infinity. -/
def infA (f : Int) : Int := if f = 0 then 31744 else if f = 1 then 2139095040 else 9218868437227405312

/-- Of two neighbours, is it the one away from 0 that is taken? -/
def awayB (mode : Int) (neg : Bool) (half : Int) (odd : Bool) : Bool :=
  if mode = 0 then half == 3 || (half == 2 && odd) else if mode = 1 then decide (2 ≤ half) else if mode = 3 then !neg else if mode = 4 then neg else false

/-- A row of one. -/
theorem row_one {w : World} {b : Nat} (h : b < w.heap.size) (c : w.cell? ⟨b, 0, none⟩ = some (.int .i64 1)) : Row w (.slice (some ⟨b, 0, none⟩) 1 1) [1] :=
  .inr ⟨b, 0, 1, rfl, by simp, by unfold maxLen; omega, h, fun j hj => by
    have : j = 0 := by simp at hj; omega
    subst this; simpa using c⟩
theorem norm_one : Norm [1] := ⟨Digs.cons (by omega) Digs.nil, fun _ => by simp, fun _ => by simp⟩
theorem val_one (K : Nat) (p : Int) : val K [1] p = 10 ^ (p + K).toNat := by simp [val, num_cons, num_nil]

end Go.Proofs.YtbkdaoicnobllabDoor
