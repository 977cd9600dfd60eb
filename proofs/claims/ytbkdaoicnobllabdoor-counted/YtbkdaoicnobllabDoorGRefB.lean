import Derived.Test.YtbkdaoicnobllabDoorGRefA

namespace Go.Proofs.YtbkdaoicnobllabDoor
open Go.RowKit

theorem two_step (n : Nat) {K : Nat} {L L' : List Nat} {ex e' t : Int} (h1 : val K L' e' = val K L ex * 5 ^ n) (h2 : val K L ex = two K t) (ht : t ≤ 0) (hk : -(K : Int) ≤ t - n) (he : -(K : Int) ≤ e' - n) : val K L' (e' - n) = two K (t - n) := by
  have hp : 0 < 10 ^ n := Nat.pow_pos (by omega)
  apply Nat.eq_of_mul_eq_mul_right hp
  rw [val_down K n L' e' he, two_down K n t ht hk, h1, h2]

/-- A power of two that is being made: its variable in block B + 2, the result's in block B. -/
structure TwoSt (w wr : World) (e0 e : Int) (ao : Option Addr) (cap : Nat) (L : List Nat) (ex : Int) (k : Nat) : Prop where
  below : Below w.heap.size w wr
  size : w.heap.size + 3 ≤ wr.heap.size
  r0 : wr.cell? ⟨w.heap.size, 0, none⟩ = some (.slice none 0 0)
  r1 : wr.cell? ⟨w.heap.size, 1, none⟩ = some (.int .i64 0)
  rf0 : wr.frozen? ⟨w.heap.size, 0, none⟩ = false
  rf1 : wr.frozen? ⟨w.heap.size, 1, none⟩ = false
  x0 : wr.cell? ⟨w.heap.size + 1 + 1, 0, none⟩ = some (.slice ao L.length cap)
  x1 : wr.cell? ⟨w.heap.size + 1 + 1, 1, none⟩ = some (.int .i64 ex)
  xf0 : wr.frozen? ⟨w.heap.size + 1 + 1, 0, none⟩ = false
  xf1 : wr.frozen? ⟨w.heap.size + 1 + 1, 1, none⟩ = false
  row : Row wr (.slice ao L.length cap) L
  own : ∀ g, (Value.slice ao L.length cap).ownBlock = some g → g = w.heap.size + 1 ∨ w.heap.size + 3 ≤ g
  norm : Norm L
  len : L.length ≤ 1 + 17 * k
  ne : L ≠ []
  lo : min (e0 - e) 0 ≤ ex
  hi : ex + L.length ≤ 1 + 17 * k
  vl : ∀ K : Nat, -(K : Int) ≤ min (e0 - e) 0 → val K L ex = two K (e0 - e)
  kk : k ≤ (e0 - e).natAbs

theorem frozen_set (w : World) (a : Addr) (u : Value) (b : Addr) : (w.setCell a u).frozen? b = w.frozen? b := by simp [go_sem]

theorem setCell_twice (w : World) (a : Addr) (x y : Value) : (w.setCell a x).setCell a y = w.setCell a y := by
  unfold World.setCell
  simp only
  congr 1
  apply Array.ext_getElem?
  intro i
  simp only [Array.getElem?_modify]
  split
  · rename_i h
    subst h
    cases h2 : w.heap[a.block]? with
    | none => rfl
    | some o =>
      cases o with
      | cells c t f =>
        simp only [Option.map_some]
        split
        · rfl
        · congr 2
          apply Array.ext_getElem?
          intro j
          simp only [Array.getElem?_setIfInBounds]
          split <;> simp_all
      | _ => rfl
  · rfl

/-- 'x = Times(x, m)' and then perhaps a change of its exponent. -/
theorem TwoSt.step {w wr w1 : World} {e0 e : Int} {ao ao' : Option Addr} {cap cap' : Nat} {L L' : List Nat} {ex e' : Int} {k m : Nat} (h : TwoSt w wr e0 e ao cap L ex k) (hb : Below wr.heap.size wr w1)
    (ho : Out w1 (.slice ao' L'.length cap') L' e' (L.length + 17) ex (ex + L.length + 17) (fun g => wr.heap.size ≤ g) (fun K => val K L ex * m)) (hm : 0 < m) (x : Int) (t : Int) (hx : ex ≤ e' → min (e0 - t) 0 ≤ x) (hx2 : x ≤ e') (hmin : min (e0 - t) 0 ≤ min (e0 - e) 0) (habs : (e0 - e).natAbs + 1 ≤ (e0 - t).natAbs)
    (hv : ∀ K : Nat, -(K : Int) ≤ min (e0 - t) 0 → ex ≤ e' → val K L' e' = val K L ex * m → val K L ex = two K (e0 - e) → val K L' x = two K (e0 - t)) :
    TwoSt w ((w1.setCell ⟨w.heap.size + 1 + 1, 0, none⟩ (.slice ao' L'.length cap')).setCell ⟨w.heap.size + 1 + 1, 1, none⟩ (.int .i64 x)) e0 t ao' cap' L' x (k + 1) := by
  have hs := h.size
  have hs1 := hb.size
  have cells : ∀ b o, b < wr.heap.size → w1.cell? ⟨b, o, none⟩ = wr.cell? ⟨b, o, none⟩ := fun b o hh => hb.cell (p := ⟨b, o, none⟩) hh
  have froz : ∀ b o, b < wr.heap.size → w1.frozen? ⟨b, o, none⟩ = wr.frozen? ⟨b, o, none⟩ := fun b o hh => hb.frozen (p := ⟨b, o, none⟩) hh
  have hne : L' ≠ [] := by
    intro h0
    obtain ⟨K, hK⟩ : ∃ K : Nat, -(K : Int) ≤ ex ∧ -(K : Int) ≤ min (e0 - e) 0 := ⟨(ex.natAbs + (min (e0 - e) 0).natAbs), by omega⟩
    have h1 := ho.val K hK.1
    rw [h0, val_nil, h.vl K hK.2] at h1
    have := Nat.mul_pos (two_pos K (e0 - e)) hm
    omega
  have hh := ho.ne hne
  have hlen := ho.len
  have hl := h.len
  have hhi := h.hi
  refine ⟨below_two (h.below.trans (hb.mono (by omega))) (by omega) _ _, ?_, ?_, ?_, ?_, ?_, ?_, ?_, ?_, ?_, ?_, ?_, ho.norm, by omega, hne, hx hh.1, by omega, ?_, by have := h.kk; omega⟩
  · simp [World.setCell]; omega
  · rw [World.cell?_setCell_other _ _ _ _ (by simp), World.cell?_setCell_other _ _ _ _ (by simp), cells _ _ (by omega)]; exact h.r0
  · rw [World.cell?_setCell_other _ _ _ _ (by simp), World.cell?_setCell_other _ _ _ _ (by simp), cells _ _ (by omega)]; exact h.r1
  · rw [frozen_set, frozen_set, froz _ _ (by omega)]; exact h.rf0
  · rw [frozen_set, frozen_set, froz _ _ (by omega)]; exact h.rf1
  · exact (two_cells (by rw [cells _ _ (by omega)]; exact h.x0) (by rw [cells _ _ (by omega)]; exact h.x1)).1
  · exact (two_cells (by rw [cells _ _ (by omega)]; exact h.x0) (by rw [cells _ _ (by omega)]; exact h.x1)).2
  · rw [frozen_set, frozen_set, froz _ _ (by omega)]; exact h.xf0
  · rw [frozen_set, frozen_set, froz _ _ (by omega)]; exact h.xf1
  · exact (ho.row.setCell _ _ (fun hh => by have := ho.own _ hh; simp at this; omega)).setCell _ _ (fun hh => by have := ho.own _ hh; simp at this; omega)
  · intro g hg; have := ho.own g hg; omega
  · intro K hK
    exact hv K hK hh.1 (ho.val K (by have := h.lo; omega)) (h.vl K (by omega))

end Go.Proofs.YtbkdaoicnobllabDoor

namespace Go.Proofs.YtbkdaoicnobllabDoor
open Go.RowKit

/-- The number's bits and the power of two of the last, less the least power, of an amount in a format of q bits behind the first. -/
def mA (q a : Nat) : Nat := if a / 2 ^ q = 0 then a % 2 ^ q else a % 2 ^ q + 2 ^ q
def xA (q a : Nat) : Nat := a / 2 ^ q - 1
/-- Bits behind the first; the power of two of the last bit of the least numbers. -/
def fQ (f : Int) : Nat := if f = 0 then 10 else if f = 1 then 23 else 52
def fE (f : Int) : Int := if f = 0 then -24 else if f = 1 then -149 else -1074
/-- The number that an amount says, times 10^K. -/
def valA (K : Nat) (f : Int) (a : Nat) : Nat := two K (fE f + xA (fQ f) a) * mA (fQ f) a

theorem valA_lo (K : Nat) (f : Int) (a Q E : Nat) (hq : 2 ^ fQ f = Q) (he : fE f = -(E : Int)) (hx : a / Q = 0) : valA K f a = two K (-(E : Int) + (a : Int) / Q) * (a % Q) := by
  unfold valA mA xA; rw [hq, he, if_pos hx, hx]; congr 2; rw [show (a : Int) / Q = ((a / Q : Nat) : Int) from by simp, hx]
theorem valA_hi (K : Nat) (f : Int) (a Q E : Nat) (hq : 2 ^ fQ f = Q) (he : fE f = -(E : Int)) (hx : ¬ a / Q = 0) : valA K f a = two K (-(E : Int) + ((a : Int) / Q - 1)) * (a % Q + Q) := by
  unfold valA mA xA; rw [hq, he, if_neg hx]; congr 2; rw [show (a : Int) / Q = ((a / Q : Nat) : Int) from by simp]; generalize a / Q = d at *; omega

end Go.Proofs.YtbkdaoicnobllabDoor

/- Plain mathematics: amounts and their numbers. -/
namespace Go.Proofs.YtbkdaoicnobllabDoor

theorem pQ0 : 2 ^ fQ 0 = 1024 := by simp [fQ]
theorem pQ1 : 2 ^ fQ 1 = 8388608 := by simp [fQ]
theorem pQ2 : 2 ^ fQ 2 = 4503599627370496 := by simp [fQ]
theorem fE_ge (f : Int) : -1074 ≤ fE f := by unfold fE; split <;> (try split) <;> omega
/-- An amount of exponent lo and of r more. -/
theorem valA_at (K : Nat) (f : Int) (lo r : Nat) (hr : r ≤ 2 ^ fQ f) (hK : 1100 ≤ K) :
    valA K f (lo * 2 ^ fQ f + r) = if lo = 0 then two K (fE f) * r else two K (fE f + (lo - 1 : Nat)) * (2 ^ fQ f + r) := by
  have hge := fE_ge f
  have hp : 0 < 2 ^ fQ f := Nat.pow_pos (by omega)
  unfold valA mA xA
  generalize 2 ^ fQ f = Q at *
  by_cases h : r = Q
  · subst h
    have e1 : (lo * r + r) / r = lo + 1 := by rw [← Nat.succ_mul, Nat.mul_div_cancel _ hp]
    have e2 : (lo * r + r) % r = 0 := by rw [← Nat.succ_mul, Nat.mul_mod_left]
    rw [e1, e2, if_neg (by omega)]
    by_cases h0 : lo = 0
    · rw [if_pos h0, h0]; simp
    · rw [if_neg h0, Nat.zero_add, show fE f + ((lo + 1 - 1 : Nat) : Int) = fE f + ((lo - 1 : Nat) : Int) + (1 : Nat) from by omega, two_mul K _ (by omega)]
      rw [Nat.pow_one, Nat.mul_assoc, Nat.two_mul]
  · have e1 : (lo * Q + r) / Q = lo := by rw [Nat.mul_comm, Nat.mul_add_div hp, Nat.div_eq_of_lt (by omega)]; omega
    have e2 : (lo * Q + r) % Q = r := by rw [Nat.mul_comm, Nat.mul_add_mod, Nat.mod_eq_of_lt (by omega)]
    rw [e1, e2]
    by_cases h0 : lo = 0
    · rw [if_pos h0, if_pos h0, h0]; simp
    · rw [if_neg h0, if_neg h0, Nat.add_comm r]
theorem valA_zero (K : Nat) (f : Int) : valA K f 0 = 0 := by unfold valA mA; simp

/-- Bit by bit: the last bits' worth. -/
theorem below_end (K : Nat) (f : Int) (lo m X : Nat) (hK : 1100 ≤ K)
    (h0 : lo = 0 → m < 2 ^ fQ f ∧ two K (fE f) * m ≤ X ∧ X < two K (fE f) * (m + 1))
    (h1 : lo ≠ 0 → 2 ^ fQ f ≤ m ∧ m < 2 * 2 ^ fQ f ∧ two K (fE f + (lo - 1 : Nat)) * m ≤ X ∧ X < two K (fE f + (lo - 1 : Nat)) * (m + 1)) :
    valA K f (lo * 2 ^ fQ f + (if lo = 0 then m else m - 2 ^ fQ f)) ≤ X ∧ X < valA K f (lo * 2 ^ fQ f + (if lo = 0 then m else m - 2 ^ fQ f) + 1) := by
  by_cases h : lo = 0
  · obtain ⟨a, b, c⟩ := h0 h
    rw [if_pos h, Nat.add_assoc, valA_at K f lo m (by omega) hK, valA_at K f lo (m + 1) (by omega) hK, if_pos h, if_pos h]
    exact ⟨b, c⟩
  · obtain ⟨a, b, c, d⟩ := h1 h
    rw [if_neg h, Nat.add_assoc, valA_at K f lo (m - 2 ^ fQ f) (by omega) hK, valA_at K f lo (m - 2 ^ fQ f + 1) (by omega) hK, if_neg h, if_neg h,
      show 2 ^ fQ f + (m - 2 ^ fQ f) = m from by omega, show 2 ^ fQ f + (m - 2 ^ fQ f + 1) = m + 1 from by omega]
    exact ⟨c, d⟩

open Go.RowKit in
/-- A box that was laid ahead of a call, behind it. -/
theorem after_alloc {w w2 : World} {x y : Value} {t : TypeId} (h : Below (w.alloc (.cells #[x, y] t)).drew.heap.size (w.alloc (.cells #[x, y] t)).drew w2) :
    w2.cell? ⟨w.heap.size, 0, none⟩ = some x ∧ w2.cell? ⟨w.heap.size, 1, none⟩ = some y ∧ w2.frozen? ⟨w.heap.size, 0, none⟩ = false ∧ w2.frozen? ⟨w.heap.size, 1, none⟩ = false ∧ w.heap.size < w2.heap.size := by
  have hz : (w.alloc (.cells #[x, y] t)).drew.heap.size = w.heap.size + 1 := by simp [World.drew]
  rw [hz] at h
  refine ⟨?_, ?_, ?_, ?_, ?_⟩
  · exact (h.cell (p := ⟨w.heap.size, 0, none⟩) (by simp)).trans (by simp [go_sem])
  · exact (h.cell (p := ⟨w.heap.size, 1, none⟩) (by simp)).trans (by simp [go_sem])
  · exact (h.frozen (p := ⟨w.heap.size, 0, none⟩) (by simp)).trans (by simp [go_sem])
  · exact (h.frozen (p := ⟨w.heap.size, 1, none⟩) (by simp)).trans (by simp [go_sem])
  · have := h.size; rw [hz] at this; omega

open Go.RowKit in
theorem after_alloc_then {w w2 : World} {x y : Value} {t : TypeId} {C : Prop} (h : Below (w.alloc (.cells #[x, y] t)).drew.heap.size (w.alloc (.cells #[x, y] t)).drew w2)
    (k : w2.cell? ⟨w.heap.size, 0, none⟩ = some x → w2.cell? ⟨w.heap.size, 1, none⟩ = some y → w2.frozen? ⟨w.heap.size, 0, none⟩ = false → w2.frozen? ⟨w.heap.size, 1, none⟩ = false → w.heap.size < w2.heap.size → C) : C :=
  have a := after_alloc h
  k a.1 a.2.1 a.2.2.1 a.2.2.2.1 a.2.2.2.2

open Go.RowKit in
/-- A variable that holds a decimal. -/
def Boxed (b : Nat) (s : Value) (wx : World) (len : Nat) (lo hi : Int) (V : Nat → Nat) : Prop :=
  ∃ g ao cap L e, s = .pointer (some ⟨g, 0, none⟩) ∧ g < wx.heap.size ∧ wx.cell? ⟨g, 0, none⟩ = some (.slice ao (List.length L) cap) ∧ wx.cell? ⟨g, 1, none⟩ = some (.int .i64 e) ∧ Out wx (.slice ao (List.length L) cap) L e len lo hi (fun g => b ≤ g) V
open Go.RowKit in
theorem boxed_after {B0 b : Nat} {W0 wr w2 : World} {ao : Option Addr} {cap : Nat} {L : List Nat} {e : Int} {len len' : Nat} {lo hi lo' hi' : Int} {V V' : Nat → Nat} {t : TypeId} (hb : Below B0 W0 wr) (hB : B0 ≤ wr.heap.size) (hbb : b ≤ wr.heap.size)
    (hb6 : Below wr.drew.heap.size wr.drew w2) (ho : Out w2 (.slice ao L.length cap) L e len lo hi (fun g => wr.drew.heap.size ≤ g) V) (h1 : len ≤ len') (h2 : lo' ≤ lo) (h3 : hi ≤ hi') (h5 : ∀ K : Nat, -(K : Int) ≤ lo' → V K = V' K) :
    Boxed b (.pointer (some ⟨w2.heap.size, 0, none⟩)) (w2.alloc (.cells #[.slice ao L.length cap, .int .i64 e] t)) len' lo' hi' V' ∧ Below B0 W0 (w2.alloc (.cells #[.slice ao L.length cap, .int .i64 e] t)) := by
  have hz : wr.drew.heap.size = wr.heap.size := rfl
  have hs := hb6.size
  refine ⟨⟨_, ao, cap, L, e, rfl, by simp, by simp [go_sem], by simp [go_sem], ?_⟩, ?_⟩
  · exact (ho.below ((Below.refl w2.heap.size w2).alloc (Nat.le_refl _) _) (Nat.le_refl _)).mono h1 h2 h3 (fun g hg => by omega) h5
  · exact (hb.trans ((Below.refl _ _).drew.trans (hb6.mono (by omega)))).alloc (by omega) _
open Go.RowKit in
theorem boxed_ahead {B0 b : Nat} {W0 wr w2 : World} {ao : Option Addr} {cap : Nat} {L : List Nat} {e : Int} {len len' : Nat} {lo hi lo' hi' : Int} {V V' : Nat → Nat} {t : TypeId} {x y : Value} (hb : Below B0 W0 wr) (hB : B0 ≤ wr.heap.size) (hbb : b ≤ wr.heap.size)
    (hb6 : Below (wr.alloc (.cells #[x, y] t)).drew.heap.size (wr.alloc (.cells #[x, y] t)).drew w2) (ho : Out w2 (.slice ao L.length cap) L e len lo hi (fun g => (wr.alloc (.cells #[x, y] t)).drew.heap.size ≤ g) V) (h1 : len ≤ len') (h2 : lo' ≤ lo) (h3 : hi ≤ hi') (h5 : ∀ K : Nat, -(K : Int) ≤ lo' → V K = V' K) :
    Boxed b (.pointer (some ⟨wr.heap.size, 0, none⟩)) ((w2.setCell ⟨wr.heap.size, 0, none⟩ (.slice ao L.length cap)).setCell ⟨wr.heap.size, 1, none⟩ (.int .i64 e)) len' lo' hi' V' ∧
      Below B0 W0 ((w2.setCell ⟨wr.heap.size, 0, none⟩ (.slice ao L.length cap)).setCell ⟨wr.heap.size, 1, none⟩ (.int .i64 e)) := by
  obtain ⟨q0, q1, q2, q3, q4⟩ := after_alloc hb6
  have hz : (wr.alloc (.cells #[x, y] t)).drew.heap.size = wr.heap.size + 1 := by simp [World.drew]
  refine ⟨⟨_, ao, cap, L, e, rfl, by simpa [World.setCell] using q4, (two_cells q0 q1).1, (two_cells q0 q1).2, ?_⟩, ?_⟩
  · exact ((ho.setCell _ _ (by simp [hz])).setCell _ _ (by simp [hz])).mono h1 h2 h3 (fun g hg => by omega) h5
  · exact below_two (hb.trans (((Below.refl _ _).alloc hB _).drew.trans (hb6.mono (by omega)))) hB _ _

end Go.Proofs.YtbkdaoicnobllabDoor
