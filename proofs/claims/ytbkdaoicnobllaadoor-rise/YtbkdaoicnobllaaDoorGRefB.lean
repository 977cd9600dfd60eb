import Derived.Test.YtbkdaoicnobllaaDoorGRefA

namespace Go.Proofs.YtbkdaoicnobllaaDoor
open Go.RowKit

theorem two_step (n : Nat) {K : Nat} {L L' : List Nat} {ex e' t : Int} (h1 : val K L' e' = val K L ex * 5 ^ n) (h2 : val K L ex = two K t) (ht : t ≤ 0) (hk : -(K : Int) ≤ t - n) (he : -(K : Int) ≤ e' - n) : val K L' (e' - n) = two K (t - n) := by
  have hp : 0 < 10 ^ n := Nat.pow_pos (by omega)
  apply Nat.eq_of_mul_eq_mul_right hp
  rw [val_down K n L' e' he, two_down K n t ht hk, h1, h2]

/-- A power of two that is being made: its variable in block B + 2, the result's in block B. -/
structure TwoSt (w wr : World) (e0 e : Int) (ao : Option Addr) (cap : Nat) (L : List Nat) (ex : Int) (k : Nat) : Prop where
  below : Below w.heap.size w wr
  size : w.heap.size + 3 ≤ wr.heap.size
  r0 : wr.cell? ⟨w.heap.size, 0, none⟩ = some (.slice none 0 0)
  r1 : wr.cell? ⟨w.heap.size, 1, none⟩ = some (.int .i64 0)
  rf0 : wr.frozen? ⟨w.heap.size, 0, none⟩ = false
  rf1 : wr.frozen? ⟨w.heap.size, 1, none⟩ = false
  x0 : wr.cell? ⟨w.heap.size + 1 + 1, 0, none⟩ = some (.slice ao L.length cap)
  x1 : wr.cell? ⟨w.heap.size + 1 + 1, 1, none⟩ = some (.int .i64 ex)
  xf0 : wr.frozen? ⟨w.heap.size + 1 + 1, 0, none⟩ = false
  xf1 : wr.frozen? ⟨w.heap.size + 1 + 1, 1, none⟩ = false
  row : Row wr (.slice ao L.length cap) L
  own : ∀ g, (Value.slice ao L.length cap).ownBlock = some g → g = w.heap.size + 1 ∨ w.heap.size + 3 ≤ g
  norm : Norm L
  len : L.length ≤ 1 + 17 * k
  ne : L ≠ []
  lo : min (e0 - e) 0 ≤ ex
  hi : ex + L.length ≤ 1 + 17 * k
  vl : ∀ K : Nat, -(K : Int) ≤ min (e0 - e) 0 → val K L ex = two K (e0 - e)
  kk : k ≤ (e0 - e).natAbs

theorem frozen_set (w : World) (a : Addr) (u : Value) (b : Addr) : (w.setCell a u).frozen? b = w.frozen? b := by simp [go_sem]

theorem setCell_twice (w : World) (a : Addr) (x y : Value) : (w.setCell a x).setCell a y = w.setCell a y := by
  unfold World.setCell
  simp only
  congr 1
  apply Array.ext_getElem?
  intro i
  simp only [Array.getElem?_modify]
  split
  · rename_i h
    subst h
    cases h2 : w.heap[a.block]? with
    | none => rfl
    | some o =>
      cases o with
      | cells c t f =>
        simp only [Option.map_some]
        split
        · rfl
        · congr 2
          apply Array.ext_getElem?
          intro j
          simp only [Array.getElem?_setIfInBounds]
          split <;> simp_all
      | _ => rfl
  · rfl

/-- 'x = Times(x, m)' and then perhaps a change of its exponent. -/
theorem TwoSt.step {w wr w1 : World} {e0 e : Int} {ao ao' : Option Addr} {cap cap' : Nat} {L L' : List Nat} {ex e' : Int} {k m : Nat} (h : TwoSt w wr e0 e ao cap L ex k) (hb : Below wr.heap.size wr w1)
    (ho : Out w1 (.slice ao' L'.length cap') L' e' (L.length + 17) ex (ex + L.length + 17) (fun g => wr.heap.size ≤ g) (fun K => val K L ex * m)) (hm : 0 < m) (x : Int) (t : Int) (hx : ex ≤ e' → min (e0 - t) 0 ≤ x) (hx2 : x ≤ e') (hmin : min (e0 - t) 0 ≤ min (e0 - e) 0) (habs : (e0 - e).natAbs + 1 ≤ (e0 - t).natAbs)
    (hv : ∀ K : Nat, -(K : Int) ≤ min (e0 - t) 0 → ex ≤ e' → val K L' e' = val K L ex * m → val K L ex = two K (e0 - e) → val K L' x = two K (e0 - t)) :
    TwoSt w ((w1.setCell ⟨w.heap.size + 1 + 1, 0, none⟩ (.slice ao' L'.length cap')).setCell ⟨w.heap.size + 1 + 1, 1, none⟩ (.int .i64 x)) e0 t ao' cap' L' x (k + 1) := by
  have hs := h.size
  have hs1 := hb.size
  have cells : ∀ b o, b < wr.heap.size → w1.cell? ⟨b, o, none⟩ = wr.cell? ⟨b, o, none⟩ := fun b o hh => hb.cell (p := ⟨b, o, none⟩) hh
  have froz : ∀ b o, b < wr.heap.size → w1.frozen? ⟨b, o, none⟩ = wr.frozen? ⟨b, o, none⟩ := fun b o hh => hb.frozen (p := ⟨b, o, none⟩) hh
  have hne : L' ≠ [] := by
    intro h0
    obtain ⟨K, hK⟩ : ∃ K : Nat, -(K : Int) ≤ ex ∧ -(K : Int) ≤ min (e0 - e) 0 := ⟨(ex.natAbs + (min (e0 - e) 0).natAbs), by omega⟩
    have h1 := ho.val K hK.1
    rw [h0, val_nil, h.vl K hK.2] at h1
    have := Nat.mul_pos (two_pos K (e0 - e)) hm
    omega
  have hh := ho.ne hne
  have hlen := ho.len
  have hl := h.len
  have hhi := h.hi
  refine ⟨below_two (h.below.trans (hb.mono (by omega))) (by omega) _ _, ?_, ?_, ?_, ?_, ?_, ?_, ?_, ?_, ?_, ?_, ?_, ho.norm, by omega, hne, hx hh.1, by omega, ?_, by have := h.kk; omega⟩
  · simp [World.setCell]; omega
  · rw [World.cell?_setCell_other _ _ _ _ (by simp), World.cell?_setCell_other _ _ _ _ (by simp), cells _ _ (by omega)]; exact h.r0
  · rw [World.cell?_setCell_other _ _ _ _ (by simp), World.cell?_setCell_other _ _ _ _ (by simp), cells _ _ (by omega)]; exact h.r1
  · rw [frozen_set, frozen_set, froz _ _ (by omega)]; exact h.rf0
  · rw [frozen_set, frozen_set, froz _ _ (by omega)]; exact h.rf1
  · exact (two_cells (by rw [cells _ _ (by omega)]; exact h.x0) (by rw [cells _ _ (by omega)]; exact h.x1)).1
  · exact (two_cells (by rw [cells _ _ (by omega)]; exact h.x0) (by rw [cells _ _ (by omega)]; exact h.x1)).2
  · rw [frozen_set, frozen_set, froz _ _ (by omega)]; exact h.xf0
  · rw [frozen_set, frozen_set, froz _ _ (by omega)]; exact h.xf1
  · exact (ho.row.setCell _ _ (fun hh => by have := ho.own _ hh; simp at this; omega)).setCell _ _ (fun hh => by have := ho.own _ hh; simp at this; omega)
  · intro g hg; have := ho.own g hg; omega
  · intro K hK
    exact hv K hK hh.1 (ho.val K (by have := h.lo; omega)) (h.vl K (by omega))

set_option maxRecDepth 100000 in
set_option maxHeartbeats 1000000 in
theorem two_any (e0 : Int) (w : World) (he : -5000 ≤ e0 ∧ e0 ≤ 5000) :
    Calls Tryd.prog 41 #[.int .i64 e0] w fun r w' => Below w.heap.size w w' ∧
      ∃ v' L' e', r = .returned (.agg #[v', .int .i64 e']) ∧ Out w' v' L' e' (1 + 17 * e0.natAbs) (min e0 0) (1 + 17 * e0.natAbs) (fun g => w.heap.size ≤ g) (fun K => two K e0) := by
  go_enter Tryd.func41, Tryd.ntmps41
  go_wp2
  go_loopw [0] (fun i wr => ∃ e ao cap L ex k, i = .int .i64 e ∧ TwoSt w wr e0 e ao cap L ex k ∧ ((0 ≤ e ∧ e ≤ e0) ∨ (e0 ≤ e ∧ e ≤ 0))) (fun i _ => (intOf i).toNat)
  case atStart =>
    refine ⟨e0, some ⟨w.heap.size + 1, 0, none⟩, 1, [1], 0, 0, rfl, ⟨?_, ?_, ?_, ?_, ?_, ?_, ?_, ?_, ?_, ?_, ?_, ?_, norm_one, by simp, by simp, by omega, by simp, ?_, by omega⟩, by omega⟩
    · exact box6_below
    · simp
    · simp [go_sem]
    · simp [go_sem]
    · simp [go_sem]
    · simp [go_sem]
    · exact World.cell?_alloc_at _ _ _ _ (by simp)
    · exact World.cell?_alloc_at _ _ _ _ (by simp)
    · simp [go_sem]
    · simp [go_sem]
    · exact row_one (by simp) (by simp [go_sem])
    · intro g hg; simp [Value.ownBlock] at hg; omega
    · intro K _; rw [val_one]; simp [two_zero]
  case round =>
    obtain ⟨e, ao, cap, L, ex, k, rfl, hst, hee⟩ := hrel
    have x0 := hst.x0
    have x1 := hst.x1
    have hl := hst.len
    have hk := hst.kk
    have hlo := hst.lo
    have hhi := hst.hi
    by_cases hge : 50 ≤ e
    · go_wp2_with fail
      refine (times_any _ L ex 1125899906842624 _ hst.row hst.norm.digs (by omega) (by omega) (by omega)).mono ?_
      rintro r w1 ⟨hb, v', L', e', rfl, hout⟩
      obtain ⟨ao', cap', hv⟩ := hout.row.isSlice
      rw [hv] at hout
      subst hv
      have HST := hid (hst.step hb hout (by omega) e' (e - 50) (fun _ => by omega) (by omega) (by omega) (by omega) (fun K hK _ h1 h2 => by
        rw [h1, h2, show e0 - (e - 50) = e0 - e + (50 : Nat) from by omega, two_up K 50 (e0 - e) (by omega)]))
      have xf0 : w1.frozen? ⟨w.heap.size + 1 + 1, 0, none⟩ = false := (hb.frozen (p := ⟨w.heap.size + 1 + 1, 0, none⟩) (by have := hst.size; simp; omega)).trans hst.xf0
      have xf1 : w1.frozen? ⟨w.heap.size + 1 + 1, 1, none⟩ = false := (hb.frozen (p := ⟨w.heap.size + 1 + 1, 1, none⟩) (by have := hst.size; simp; omega)).trans hst.xf1
      have y0 := (hb.cell (p := ⟨w.heap.size + 1 + 1, 0, none⟩) (by have := hst.size; simp; omega)).trans x0
      have y1 := (hb.cell (p := ⟨w.heap.size + 1 + 1, 1, none⟩) (by have := hst.size; simp; omega)).trans x1
      clear hout hb hst x0 x1
      go_wp2
      go_roundw
      case rel => exact ⟨e - 50, _, _, _, _, _, rfl, HST.out, by omega⟩
      case measure => simp [intOf]; omega
    · clear x0 x1
      go_wp2
      go_loopw [0] (fun i wr => ∃ e ao cap L ex k, i = .int .i64 e ∧ TwoSt w wr e0 e ao cap L ex k ∧ ((0 ≤ e ∧ e ≤ e0) ∨ (e0 ≤ e ∧ e ≤ 0)) ∧ e < 50) (fun i _ => (- intOf i).toNat)
      case atStart => exact ⟨e, _, _, _, _, _, rfl, hst, by omega, by omega⟩
      case round =>
        clear hst hl hk hlo hhi hge hee
        obtain ⟨e, ao, cap, L, ex, k, rfl, hst, hee, hlt⟩ := hrel
        have x0 := hst.x0
        have x1 := hst.x1
        have hl := hst.len
        have hk := hst.kk
        have hlo := hst.lo
        have hhi := hst.hi
        by_cases hge : e ≤ -20
        · go_wp2_with fail
          refine (times_any _ L ex 95367431640625 _ hst.row hst.norm.digs (by omega) (by omega) (by omega)).mono ?_
          rintro r w1 ⟨hb, v', L', e', rfl, hout⟩
          obtain ⟨ao', cap', hv⟩ := hout.row.isSlice
          rw [hv] at hout
          subst hv
          have hbd := hout.bounds 400000 (by omega) (by omega) (by omega)
          have HST := hid (hst.step hb hout (by omega) (e' - 20) (e + 20) (fun _ => by omega) (by omega) (by omega) (by omega) (fun K hK hle h1 h2 => by
            rw [show e0 - (e + 20) = e0 - e - (20 : Nat) from by omega]
            exact two_step 20 h1 h2 (by omega) (by omega) (by omega)))
          have xf0 : w1.frozen? ⟨w.heap.size + 1 + 1, 0, none⟩ = false := (hb.frozen (p := ⟨w.heap.size + 1 + 1, 0, none⟩) (by have := hst.size; simp; omega)).trans hst.xf0
          have xf1 : w1.frozen? ⟨w.heap.size + 1 + 1, 1, none⟩ = false := (hb.frozen (p := ⟨w.heap.size + 1 + 1, 1, none⟩) (by have := hst.size; simp; omega)).trans hst.xf1
          have y0 := (hb.cell (p := ⟨w.heap.size + 1 + 1, 0, none⟩) (by have := hst.size; simp; omega)).trans x0
          have y1 := (hb.cell (p := ⟨w.heap.size + 1 + 1, 1, none⟩) (by have := hst.size; simp; omega)).trans x1
          clear hout hb hst x0 x1
          go_wp2
          rw [setCell_twice]
          go_roundw
          case rel => exact ⟨e + 20, _, _, _, _, _, rfl, HST.out, by omega, by omega⟩
          case measure => simp [intOf]; omega
        · clear x0 x1
          go_wp2
          go_loopw [0] (fun i wr => ∃ e ao cap L ex k, i = .int .i64 e ∧ TwoSt w wr e0 e ao cap L ex k ∧ ((0 ≤ e ∧ e ≤ e0) ∨ (e0 ≤ e ∧ e ≤ 0)) ∧ -20 < e ∧ e < 50) (fun i _ => (intOf i).toNat)
          case atStart => exact ⟨e, _, _, _, _, _, rfl, hst, by omega, by omega, by omega⟩
          case round =>
            clear hst hl hk hlo hhi hge hee hlt
            obtain ⟨e, ao, cap, L, ex, k, rfl, hst, hee, hlt⟩ := hrel
            have x0 := hst.x0
            have x1 := hst.x1
            have hl := hst.len
            have hk := hst.kk
            have hlo := hst.lo
            have hhi := hst.hi
            by_cases hge : 0 < e
            · go_wp2_with fail
              refine (times_any _ L ex 2 _ hst.row hst.norm.digs (by omega) (by omega) (by omega)).mono ?_
              rintro r w1 ⟨hb, v', L', e', rfl, hout⟩
              obtain ⟨ao', cap', hv⟩ := hout.row.isSlice
              rw [hv] at hout
              subst hv
              have HST := hid (hst.step hb hout (by omega) e' (e - 1) (fun _ => by omega) (by omega) (by omega) (by omega) (fun K hK _ h1 h2 => by
                rw [h1, h2, show e0 - (e - 1) = e0 - e + (1 : Nat) from by omega, two_up K 1 (e0 - e) (by omega)]))
              have xf0 : w1.frozen? ⟨w.heap.size + 1 + 1, 0, none⟩ = false := (hb.frozen (p := ⟨w.heap.size + 1 + 1, 0, none⟩) (by have := hst.size; simp; omega)).trans hst.xf0
              have xf1 : w1.frozen? ⟨w.heap.size + 1 + 1, 1, none⟩ = false := (hb.frozen (p := ⟨w.heap.size + 1 + 1, 1, none⟩) (by have := hst.size; simp; omega)).trans hst.xf1
              have y0 := (hb.cell (p := ⟨w.heap.size + 1 + 1, 0, none⟩) (by have := hst.size; simp; omega)).trans x0
              have y1 := (hb.cell (p := ⟨w.heap.size + 1 + 1, 1, none⟩) (by have := hst.size; simp; omega)).trans x1
              clear hout hb hst x0 x1
              go_wp2
              go_roundw
              case rel => exact ⟨e - 1, _, _, _, _, _, rfl, HST.out, by omega, by omega, by omega⟩
              case measure => simp [intOf]; omega
            · clear x0 x1
              go_wp2
              go_loopw [0] (fun i wr => ∃ e ao cap L ex k, i = .int .i64 e ∧ TwoSt w wr e0 e ao cap L ex k ∧ (e = 0 ∨ (e0 ≤ e ∧ e ≤ 0)) ∧ -20 < e) (fun i _ => (- intOf i).toNat)
              case atStart => exact ⟨e, _, _, _, _, _, rfl, hst, by omega, by omega⟩
              case round =>
                clear hst hl hk hlo hhi hge hee hlt
                obtain ⟨e, ao, cap, L, ex, k, rfl, hst, hee, hlt⟩ := hrel
                have x0 := hst.x0
                have x1 := hst.x1
                have hl := hst.len
                have hk := hst.kk
                have hlo := hst.lo
                have hhi := hst.hi
                by_cases hge : e < 0
                · go_wp2_with fail
                  refine (times_any _ L ex 5 _ hst.row hst.norm.digs (by omega) (by omega) (by omega)).mono ?_
                  rintro r w1 ⟨hb, v', L', e', rfl, hout⟩
                  obtain ⟨ao', cap', hv⟩ := hout.row.isSlice
                  rw [hv] at hout
                  subst hv
                  have hbd := hout.bounds 400000 (by omega) (by omega) (by omega)
                  have HST := hid (hst.step hb hout (by omega) (e' - 1) (e + 1) (fun _ => by omega) (by omega) (by omega) (by omega) (fun K hK hle h1 h2 => by
                    rw [show e0 - (e + 1) = e0 - e - (1 : Nat) from by omega]
                    exact two_step 1 h1 h2 (by omega) (by omega) (by omega)))
                  have xf0 : w1.frozen? ⟨w.heap.size + 1 + 1, 0, none⟩ = false := (hb.frozen (p := ⟨w.heap.size + 1 + 1, 0, none⟩) (by have := hst.size; simp; omega)).trans hst.xf0
                  have xf1 : w1.frozen? ⟨w.heap.size + 1 + 1, 1, none⟩ = false := (hb.frozen (p := ⟨w.heap.size + 1 + 1, 1, none⟩) (by have := hst.size; simp; omega)).trans hst.xf1
                  have y0 := (hb.cell (p := ⟨w.heap.size + 1 + 1, 0, none⟩) (by have := hst.size; simp; omega)).trans x0
                  have y1 := (hb.cell (p := ⟨w.heap.size + 1 + 1, 1, none⟩) (by have := hst.size; simp; omega)).trans x1
                  clear hout hb hst x0 x1
                  go_wp2
                  rw [setCell_twice]
                  go_roundw
                  case rel => exact ⟨e + 1, _, _, _, _, _, rfl, HST.out, by omega, by omega⟩
                  case measure => simp [intOf]; omega
                · have h0 : e = 0 := by omega
                  subst h0
                  have r0 := hst.r0
                  have r1 := hst.r1
                  have rf0 := hst.rf0
                  have rf1 := hst.rf1
                  have HST := hid hst
                  clear hst
                  go_wp2
                  refine bodyPost_ret (v := .agg #[.slice ao L.length cap, .int .i64 ex]) (dec_results rfl _ _ w.heap.size _ _ rfl (two_cells r0 r1).1 (two_cells r0 r1).2) rfl ⟨below_two HST.out.below (Nat.le_refl _) _ _, _, L, ex, rfl, ?_⟩
                  have hst := HST.out
                  have h9 : Out wr (.slice ao L.length cap) L ex (1 + 17 * e0.natAbs) (min e0 0) (1 + 17 * e0.natAbs) (fun g => w.heap.size + 1 ≤ g) (fun K => two K e0) :=
                    ⟨hst.row, fun g hg => by have := hst.own g hg; omega, hst.norm, by omega, fun h => absurd h hst.ne, fun _ => by omega, fun K hK => by have := hst.vl K (by omega); rwa [Int.sub_zero] at this⟩
                  exact ((h9.setCell _ _ (by simp)).setCell _ _ (by simp)).mono (Nat.le_refl _) (Int.le_refl _) (Int.le_refl _) (fun g hg => by omega) (fun _ _ => rfl)

end Go.Proofs.YtbkdaoicnobllaaDoor

namespace Go.Proofs.YtbkdaoicnobllaaDoor
open Go.RowKit

/-- The number's bits and the power of two of the last, less the least power, of an amount in a format of q bits behind the first. -/
def mA (q a : Nat) : Nat := if a / 2 ^ q = 0 then a % 2 ^ q else a % 2 ^ q + 2 ^ q
def xA (q a : Nat) : Nat := a / 2 ^ q - 1
/-- Bits behind the first; the power of two of the last bit of the least numbers. -/
def fQ (f : Int) : Nat := if f = 0 then 10 else if f = 1 then 23 else 52
def fE (f : Int) : Int := if f = 0 then -24 else if f = 1 then -149 else -1074
/-- The number that an amount says, times 10^K. -/
def valA (K : Nat) (f : Int) (a : Nat) : Nat := two K (fE f + xA (fQ f) a) * mA (fQ f) a

theorem valA_lo (K : Nat) (f : Int) (a Q E : Nat) (hq : 2 ^ fQ f = Q) (he : fE f = -(E : Int)) (hx : a / Q = 0) : valA K f a = two K (-(E : Int) + (a : Int) / Q) * (a % Q) := by
  unfold valA mA xA; rw [hq, he, if_pos hx, hx]; congr 2; rw [show (a : Int) / Q = ((a / Q : Nat) : Int) from by simp, hx]
theorem valA_hi (K : Nat) (f : Int) (a Q E : Nat) (hq : 2 ^ fQ f = Q) (he : fE f = -(E : Int)) (hx : ¬ a / Q = 0) : valA K f a = two K (-(E : Int) + ((a : Int) / Q - 1)) * (a % Q + Q) := by
  unfold valA mA xA; rw [hq, he, if_neg hx]; congr 2; rw [show (a : Int) / Q = ((a / Q : Nat) : Int) from by simp]; generalize a / Q = d at *; omega

set_option maxRecDepth 100000 in
set_option maxHeartbeats 1000000 in
theorem value_any (f : Int) (a : Nat) (w : World) (hf : 0 ≤ f ∧ f ≤ 2) (ha : (a : Int) ≤ infA f) :
    Calls Tryd.prog 29 #[.int .i64 f, .int .i64 a] w fun r w' => Below w.heap.size w w' ∧
      ∃ v' L' e', r = .returned (.agg #[v', .int .i64 e']) ∧ Out w' v' L' e' 20000 (-1100) 20000 (fun g => w.heap.size ≤ g) (fun K => valA K f a) := by
  have hc : f = 0 ∨ f = 1 ∨ f = 2 := by omega
  rcases hc with rfl | rfl | rfl
  · have hai : (a : Int) ≤ 31744 := ha
    clear ha
    by_cases hx : a / 1024 = 0
    · have hx2 : ¬ (0 : Int) < (a : Int) / 1024 := by omega
      have HX := hid hx
      clear hx
      go_enter Tryd.func29, Tryd.ntmps29
      go_wp2_with fail
      refine (kind0 _).mono ?_
      rintro e w' ⟨rfl, rfl⟩
      go_wp2_with fail
      refine (two_any (-24 + (a : Int) / 1024) _ (by omega)).mono ?_
      rintro r w1 ⟨hb, v', L, ex, rfl, hout⟩
      obtain ⟨ao, cap, hv⟩ := hout.row.isSlice
      rw [hv] at hout
      subst hv
      have hl := hout.len
      have hbd := hout.bounds 20000 (by omega) (by omega) (by omega)
      have hb2 : Below (w.heap.size + 1) (w.alloc (.cells #[.slice none 0 0, .int .i64 0] 60)) (w1.alloc (.cells #[.slice ao L.length cap, .int .i64 ex] 60)) := (hb.mono (by simp)).alloc (by have := hb.size; simp at this; omega) _
      have hrow := hout.row.below ((Below.refl w1.heap.size w1).alloc (Nat.le_refl _) (.cells #[.slice ao L.length cap, .int .i64 ex] 60)) (Nat.le_refl _)
      go_wp2_with fail
      rw [show (a : Int) % 1024 = ((a % 1024 : Nat) : Int) from by omega]
      refine (times_any _ L ex (a % 1024) _ hrow hout.norm.digs (by omega) (by omega) (by omega)).mono ?_
      rintro r w2 ⟨hb3, v', L', e', rfl, hout2⟩
      have hb4 := below_next hb2 hb3 (by have := hb.size; simp at this ⊢; omega)
      have c0 : w2.cell? ⟨w.heap.size, 0, none⟩ = some (.slice none 0 0) := (hb4.cell (p := ⟨w.heap.size, 0, none⟩) (by simp)).trans (by simp [go_sem])
      have c1 : w2.cell? ⟨w.heap.size, 1, none⟩ = some (.int .i64 0) := (hb4.cell (p := ⟨w.heap.size, 1, none⟩) (by simp)).trans (by simp [go_sem])
      have f0 : w2.frozen? ⟨w.heap.size, 0, none⟩ = false := (hb4.frozen (p := ⟨w.heap.size, 0, none⟩) (by simp)).trans (by simp [go_sem])
      have f1 : w2.frozen? ⟨w.heap.size, 1, none⟩ = false := (hb4.frozen (p := ⟨w.heap.size, 1, none⟩) (by simp)).trans (by simp [go_sem])
      have HB := hid (((Below.refl w.heap.size w).alloc (Nat.le_refl _) (.cells #[.slice none 0 0, .int .i64 0] 60)).trans (hb4.mono (B' := w.heap.size) (by omega)))
      have hs1 : w.heap.size + 1 ≤ w1.heap.size := by have := hb.size; simpa using this
      obtain ⟨ao', cp, hv⟩ := hout2.row.isSlice
      rw [hv] at hout2
      subst hv
      have hlo := hout.ne
      have HO := hid hout
      clear hb hb2 hb3 hb4 hrow hout hlo
      go_wp2
      refine bodyPost_ret (v := .agg #[.slice ao' L'.length cp, .int .i64 e']) (dec_results rfl _ _ w.heap.size _ _ rfl (two_cells c0 c1).1 (two_cells c0 c1).2) rfl ⟨below_two HB.out (Nat.le_refl _) _ _, _, L', e', rfl, ?_⟩
      have hne : L ≠ [] := by
        intro h0
        have h1 := HO.out.val 20000 (by omega)
        rw [h0, val_nil] at h1
        have := two_pos 20000 (-24 + (a : Int) / 1024); omega
      have hnn := HO.out.ne hne
      have h9 : Out w2 (.slice ao' L'.length cp) L' e' 20000 (-1100) 20000 (fun g => w1.heap.size + 1 ≤ g) (fun K => valA K 0 a) :=
        hout2.mono (by omega) (by omega) (by omega) (fun g hg => by simpa using hg) (fun K hK => by rw [HO.out.val K (by omega)]; exact (valA_lo K 0 a 1024 24 rfl rfl HX.out).symm)
      exact ((h9.setCell _ _ (by simp; omega)).setCell _ _ (by simp; omega)).mono (Nat.le_refl _) (Int.le_refl _) (Int.le_refl _) (fun g hg => by omega) (fun _ _ => rfl)
    · have hx2 : (0 : Int) < (a : Int) / 1024 := by omega
      have HX := hid hx
      clear hx
      go_enter Tryd.func29, Tryd.ntmps29
      go_wp2_with fail
      refine (kind0 _).mono ?_
      rintro e w' ⟨rfl, rfl⟩
      go_wp2_with fail
      refine (two_any (-24 + ((a : Int) / 1024 - 1)) _ (by omega)).mono ?_
      rintro r w1 ⟨hb, v', L, ex, rfl, hout⟩
      obtain ⟨ao, cap, hv⟩ := hout.row.isSlice
      rw [hv] at hout
      subst hv
      have hl := hout.len
      have hbd := hout.bounds 20000 (by omega) (by omega) (by omega)
      have hb2 : Below (w.heap.size + 1) (w.alloc (.cells #[.slice none 0 0, .int .i64 0] 60)) (w1.alloc (.cells #[.slice ao L.length cap, .int .i64 ex] 60)) := (hb.mono (by simp)).alloc (by have := hb.size; simp at this; omega) _
      have hrow := hout.row.below ((Below.refl w1.heap.size w1).alloc (Nat.le_refl _) (.cells #[.slice ao L.length cap, .int .i64 ex] 60)) (Nat.le_refl _)
      go_wp2_with fail
      rw [show (a : Int) % 1024 + 1024 = ((a % 1024 + 1024 : Nat) : Int) from by omega]
      refine (times_any _ L ex (a % 1024 + 1024) _ hrow hout.norm.digs (by omega) (by omega) (by omega)).mono ?_
      rintro r w2 ⟨hb3, v', L', e', rfl, hout2⟩
      have hb4 := below_next hb2 hb3 (by have := hb.size; simp at this ⊢; omega)
      have c0 : w2.cell? ⟨w.heap.size, 0, none⟩ = some (.slice none 0 0) := (hb4.cell (p := ⟨w.heap.size, 0, none⟩) (by simp)).trans (by simp [go_sem])
      have c1 : w2.cell? ⟨w.heap.size, 1, none⟩ = some (.int .i64 0) := (hb4.cell (p := ⟨w.heap.size, 1, none⟩) (by simp)).trans (by simp [go_sem])
      have f0 : w2.frozen? ⟨w.heap.size, 0, none⟩ = false := (hb4.frozen (p := ⟨w.heap.size, 0, none⟩) (by simp)).trans (by simp [go_sem])
      have f1 : w2.frozen? ⟨w.heap.size, 1, none⟩ = false := (hb4.frozen (p := ⟨w.heap.size, 1, none⟩) (by simp)).trans (by simp [go_sem])
      have HB := hid (((Below.refl w.heap.size w).alloc (Nat.le_refl _) (.cells #[.slice none 0 0, .int .i64 0] 60)).trans (hb4.mono (B' := w.heap.size) (by omega)))
      have hs1 : w.heap.size + 1 ≤ w1.heap.size := by have := hb.size; simpa using this
      obtain ⟨ao', cp, hv⟩ := hout2.row.isSlice
      rw [hv] at hout2
      subst hv
      have hlo := hout.ne
      have HO := hid hout
      clear hb hb2 hb3 hb4 hrow hout hlo
      go_wp2
      refine bodyPost_ret (v := .agg #[.slice ao' L'.length cp, .int .i64 e']) (dec_results rfl _ _ w.heap.size _ _ rfl (two_cells c0 c1).1 (two_cells c0 c1).2) rfl ⟨below_two HB.out (Nat.le_refl _) _ _, _, L', e', rfl, ?_⟩
      have hne : L ≠ [] := by
        intro h0
        have h1 := HO.out.val 20000 (by omega)
        rw [h0, val_nil] at h1
        have := two_pos 20000 (-24 + ((a : Int) / 1024 - 1)); omega
      have hnn := HO.out.ne hne
      have h9 : Out w2 (.slice ao' L'.length cp) L' e' 20000 (-1100) 20000 (fun g => w1.heap.size + 1 ≤ g) (fun K => valA K 0 a) :=
        hout2.mono (by omega) (by omega) (by omega) (fun g hg => by simpa using hg) (fun K hK => by rw [HO.out.val K (by omega)]; exact (valA_hi K 0 a 1024 24 rfl rfl HX.out).symm)
      exact ((h9.setCell _ _ (by simp; omega)).setCell _ _ (by simp; omega)).mono (Nat.le_refl _) (Int.le_refl _) (Int.le_refl _) (fun g hg => by omega) (fun _ _ => rfl)
  · have hai : (a : Int) ≤ 2139095040 := ha
    clear ha
    by_cases hx : a / 8388608 = 0
    · have hx2 : ¬ (0 : Int) < (a : Int) / 8388608 := by omega
      have HX := hid hx
      clear hx
      go_enter Tryd.func29, Tryd.ntmps29
      go_wp2_with fail
      refine (kind1 _).mono ?_
      rintro e w' ⟨rfl, rfl⟩
      go_wp2_with fail
      refine (two_any (-149 + (a : Int) / 8388608) _ (by omega)).mono ?_
      rintro r w1 ⟨hb, v', L, ex, rfl, hout⟩
      obtain ⟨ao, cap, hv⟩ := hout.row.isSlice
      rw [hv] at hout
      subst hv
      have hl := hout.len
      have hbd := hout.bounds 20000 (by omega) (by omega) (by omega)
      have hb2 : Below (w.heap.size + 1) (w.alloc (.cells #[.slice none 0 0, .int .i64 0] 60)) (w1.alloc (.cells #[.slice ao L.length cap, .int .i64 ex] 60)) := (hb.mono (by simp)).alloc (by have := hb.size; simp at this; omega) _
      have hrow := hout.row.below ((Below.refl w1.heap.size w1).alloc (Nat.le_refl _) (.cells #[.slice ao L.length cap, .int .i64 ex] 60)) (Nat.le_refl _)
      go_wp2_with fail
      rw [show (a : Int) % 8388608 = ((a % 8388608 : Nat) : Int) from by omega]
      refine (times_any _ L ex (a % 8388608) _ hrow hout.norm.digs (by omega) (by omega) (by omega)).mono ?_
      rintro r w2 ⟨hb3, v', L', e', rfl, hout2⟩
      have hb4 := below_next hb2 hb3 (by have := hb.size; simp at this ⊢; omega)
      have c0 : w2.cell? ⟨w.heap.size, 0, none⟩ = some (.slice none 0 0) := (hb4.cell (p := ⟨w.heap.size, 0, none⟩) (by simp)).trans (by simp [go_sem])
      have c1 : w2.cell? ⟨w.heap.size, 1, none⟩ = some (.int .i64 0) := (hb4.cell (p := ⟨w.heap.size, 1, none⟩) (by simp)).trans (by simp [go_sem])
      have f0 : w2.frozen? ⟨w.heap.size, 0, none⟩ = false := (hb4.frozen (p := ⟨w.heap.size, 0, none⟩) (by simp)).trans (by simp [go_sem])
      have f1 : w2.frozen? ⟨w.heap.size, 1, none⟩ = false := (hb4.frozen (p := ⟨w.heap.size, 1, none⟩) (by simp)).trans (by simp [go_sem])
      have HB := hid (((Below.refl w.heap.size w).alloc (Nat.le_refl _) (.cells #[.slice none 0 0, .int .i64 0] 60)).trans (hb4.mono (B' := w.heap.size) (by omega)))
      have hs1 : w.heap.size + 1 ≤ w1.heap.size := by have := hb.size; simpa using this
      obtain ⟨ao', cp, hv⟩ := hout2.row.isSlice
      rw [hv] at hout2
      subst hv
      have hlo := hout.ne
      have HO := hid hout
      clear hb hb2 hb3 hb4 hrow hout hlo
      go_wp2
      refine bodyPost_ret (v := .agg #[.slice ao' L'.length cp, .int .i64 e']) (dec_results rfl _ _ w.heap.size _ _ rfl (two_cells c0 c1).1 (two_cells c0 c1).2) rfl ⟨below_two HB.out (Nat.le_refl _) _ _, _, L', e', rfl, ?_⟩
      have hne : L ≠ [] := by
        intro h0
        have h1 := HO.out.val 20000 (by omega)
        rw [h0, val_nil] at h1
        have := two_pos 20000 (-149 + (a : Int) / 8388608); omega
      have hnn := HO.out.ne hne
      have h9 : Out w2 (.slice ao' L'.length cp) L' e' 20000 (-1100) 20000 (fun g => w1.heap.size + 1 ≤ g) (fun K => valA K 1 a) :=
        hout2.mono (by omega) (by omega) (by omega) (fun g hg => by simpa using hg) (fun K hK => by rw [HO.out.val K (by omega)]; exact (valA_lo K 1 a 8388608 149 rfl rfl HX.out).symm)
      exact ((h9.setCell _ _ (by simp; omega)).setCell _ _ (by simp; omega)).mono (Nat.le_refl _) (Int.le_refl _) (Int.le_refl _) (fun g hg => by omega) (fun _ _ => rfl)
    · have hx2 : (0 : Int) < (a : Int) / 8388608 := by omega
      have HX := hid hx
      clear hx
      go_enter Tryd.func29, Tryd.ntmps29
      go_wp2_with fail
      refine (kind1 _).mono ?_
      rintro e w' ⟨rfl, rfl⟩
      go_wp2_with fail
      refine (two_any (-149 + ((a : Int) / 8388608 - 1)) _ (by omega)).mono ?_
      rintro r w1 ⟨hb, v', L, ex, rfl, hout⟩
      obtain ⟨ao, cap, hv⟩ := hout.row.isSlice
      rw [hv] at hout
      subst hv
      have hl := hout.len
      have hbd := hout.bounds 20000 (by omega) (by omega) (by omega)
      have hb2 : Below (w.heap.size + 1) (w.alloc (.cells #[.slice none 0 0, .int .i64 0] 60)) (w1.alloc (.cells #[.slice ao L.length cap, .int .i64 ex] 60)) := (hb.mono (by simp)).alloc (by have := hb.size; simp at this; omega) _
      have hrow := hout.row.below ((Below.refl w1.heap.size w1).alloc (Nat.le_refl _) (.cells #[.slice ao L.length cap, .int .i64 ex] 60)) (Nat.le_refl _)
      go_wp2_with fail
      rw [show (a : Int) % 8388608 + 8388608 = ((a % 8388608 + 8388608 : Nat) : Int) from by omega]
      refine (times_any _ L ex (a % 8388608 + 8388608) _ hrow hout.norm.digs (by omega) (by omega) (by omega)).mono ?_
      rintro r w2 ⟨hb3, v', L', e', rfl, hout2⟩
      have hb4 := below_next hb2 hb3 (by have := hb.size; simp at this ⊢; omega)
      have c0 : w2.cell? ⟨w.heap.size, 0, none⟩ = some (.slice none 0 0) := (hb4.cell (p := ⟨w.heap.size, 0, none⟩) (by simp)).trans (by simp [go_sem])
      have c1 : w2.cell? ⟨w.heap.size, 1, none⟩ = some (.int .i64 0) := (hb4.cell (p := ⟨w.heap.size, 1, none⟩) (by simp)).trans (by simp [go_sem])
      have f0 : w2.frozen? ⟨w.heap.size, 0, none⟩ = false := (hb4.frozen (p := ⟨w.heap.size, 0, none⟩) (by simp)).trans (by simp [go_sem])
      have f1 : w2.frozen? ⟨w.heap.size, 1, none⟩ = false := (hb4.frozen (p := ⟨w.heap.size, 1, none⟩) (by simp)).trans (by simp [go_sem])
      have HB := hid (((Below.refl w.heap.size w).alloc (Nat.le_refl _) (.cells #[.slice none 0 0, .int .i64 0] 60)).trans (hb4.mono (B' := w.heap.size) (by omega)))
      have hs1 : w.heap.size + 1 ≤ w1.heap.size := by have := hb.size; simpa using this
      obtain ⟨ao', cp, hv⟩ := hout2.row.isSlice
      rw [hv] at hout2
      subst hv
      have hlo := hout.ne
      have HO := hid hout
      clear hb hb2 hb3 hb4 hrow hout hlo
      go_wp2
      refine bodyPost_ret (v := .agg #[.slice ao' L'.length cp, .int .i64 e']) (dec_results rfl _ _ w.heap.size _ _ rfl (two_cells c0 c1).1 (two_cells c0 c1).2) rfl ⟨below_two HB.out (Nat.le_refl _) _ _, _, L', e', rfl, ?_⟩
      have hne : L ≠ [] := by
        intro h0
        have h1 := HO.out.val 20000 (by omega)
        rw [h0, val_nil] at h1
        have := two_pos 20000 (-149 + ((a : Int) / 8388608 - 1)); omega
      have hnn := HO.out.ne hne
      have h9 : Out w2 (.slice ao' L'.length cp) L' e' 20000 (-1100) 20000 (fun g => w1.heap.size + 1 ≤ g) (fun K => valA K 1 a) :=
        hout2.mono (by omega) (by omega) (by omega) (fun g hg => by simpa using hg) (fun K hK => by rw [HO.out.val K (by omega)]; exact (valA_hi K 1 a 8388608 149 rfl rfl HX.out).symm)
      exact ((h9.setCell _ _ (by simp; omega)).setCell _ _ (by simp; omega)).mono (Nat.le_refl _) (Int.le_refl _) (Int.le_refl _) (fun g hg => by omega) (fun _ _ => rfl)
  · have hai : (a : Int) ≤ 9218868437227405312 := ha
    clear ha
    by_cases hx : a / 4503599627370496 = 0
    · have hx2 : ¬ (0 : Int) < (a : Int) / 4503599627370496 := by omega
      have HX := hid hx
      clear hx
      go_enter Tryd.func29, Tryd.ntmps29
      go_wp2_with fail
      refine (kind2 _).mono ?_
      rintro e w' ⟨rfl, rfl⟩
      go_wp2_with fail
      refine (two_any (-1074 + (a : Int) / 4503599627370496) _ (by omega)).mono ?_
      rintro r w1 ⟨hb, v', L, ex, rfl, hout⟩
      obtain ⟨ao, cap, hv⟩ := hout.row.isSlice
      rw [hv] at hout
      subst hv
      have hl := hout.len
      have hbd := hout.bounds 20000 (by omega) (by omega) (by omega)
      have hb2 : Below (w.heap.size + 1) (w.alloc (.cells #[.slice none 0 0, .int .i64 0] 60)) (w1.alloc (.cells #[.slice ao L.length cap, .int .i64 ex] 60)) := (hb.mono (by simp)).alloc (by have := hb.size; simp at this; omega) _
      have hrow := hout.row.below ((Below.refl w1.heap.size w1).alloc (Nat.le_refl _) (.cells #[.slice ao L.length cap, .int .i64 ex] 60)) (Nat.le_refl _)
      go_wp2_with fail
      rw [show (a : Int) % 4503599627370496 = ((a % 4503599627370496 : Nat) : Int) from by omega]
      refine (times_any _ L ex (a % 4503599627370496) _ hrow hout.norm.digs (by omega) (by omega) (by omega)).mono ?_
      rintro r w2 ⟨hb3, v', L', e', rfl, hout2⟩
      have hb4 := below_next hb2 hb3 (by have := hb.size; simp at this ⊢; omega)
      have c0 : w2.cell? ⟨w.heap.size, 0, none⟩ = some (.slice none 0 0) := (hb4.cell (p := ⟨w.heap.size, 0, none⟩) (by simp)).trans (by simp [go_sem])
      have c1 : w2.cell? ⟨w.heap.size, 1, none⟩ = some (.int .i64 0) := (hb4.cell (p := ⟨w.heap.size, 1, none⟩) (by simp)).trans (by simp [go_sem])
      have f0 : w2.frozen? ⟨w.heap.size, 0, none⟩ = false := (hb4.frozen (p := ⟨w.heap.size, 0, none⟩) (by simp)).trans (by simp [go_sem])
      have f1 : w2.frozen? ⟨w.heap.size, 1, none⟩ = false := (hb4.frozen (p := ⟨w.heap.size, 1, none⟩) (by simp)).trans (by simp [go_sem])
      have HB := hid (((Below.refl w.heap.size w).alloc (Nat.le_refl _) (.cells #[.slice none 0 0, .int .i64 0] 60)).trans (hb4.mono (B' := w.heap.size) (by omega)))
      have hs1 : w.heap.size + 1 ≤ w1.heap.size := by have := hb.size; simpa using this
      obtain ⟨ao', cp, hv⟩ := hout2.row.isSlice
      rw [hv] at hout2
      subst hv
      have hlo := hout.ne
      have HO := hid hout
      clear hb hb2 hb3 hb4 hrow hout hlo
      go_wp2
      refine bodyPost_ret (v := .agg #[.slice ao' L'.length cp, .int .i64 e']) (dec_results rfl _ _ w.heap.size _ _ rfl (two_cells c0 c1).1 (two_cells c0 c1).2) rfl ⟨below_two HB.out (Nat.le_refl _) _ _, _, L', e', rfl, ?_⟩
      have hne : L ≠ [] := by
        intro h0
        have h1 := HO.out.val 20000 (by omega)
        rw [h0, val_nil] at h1
        have := two_pos 20000 (-1074 + (a : Int) / 4503599627370496); omega
      have hnn := HO.out.ne hne
      have h9 : Out w2 (.slice ao' L'.length cp) L' e' 20000 (-1100) 20000 (fun g => w1.heap.size + 1 ≤ g) (fun K => valA K 2 a) :=
        hout2.mono (by omega) (by omega) (by omega) (fun g hg => by simpa using hg) (fun K hK => by rw [HO.out.val K (by omega)]; exact (valA_lo K 2 a 4503599627370496 1074 rfl rfl HX.out).symm)
      exact ((h9.setCell _ _ (by simp; omega)).setCell _ _ (by simp; omega)).mono (Nat.le_refl _) (Int.le_refl _) (Int.le_refl _) (fun g hg => by omega) (fun _ _ => rfl)
    · have hx2 : (0 : Int) < (a : Int) / 4503599627370496 := by omega
      have HX := hid hx
      clear hx
      go_enter Tryd.func29, Tryd.ntmps29
      go_wp2_with fail
      refine (kind2 _).mono ?_
      rintro e w' ⟨rfl, rfl⟩
      go_wp2_with fail
      refine (two_any (-1074 + ((a : Int) / 4503599627370496 - 1)) _ (by omega)).mono ?_
      rintro r w1 ⟨hb, v', L, ex, rfl, hout⟩
      obtain ⟨ao, cap, hv⟩ := hout.row.isSlice
      rw [hv] at hout
      subst hv
      have hl := hout.len
      have hbd := hout.bounds 20000 (by omega) (by omega) (by omega)
      have hb2 : Below (w.heap.size + 1) (w.alloc (.cells #[.slice none 0 0, .int .i64 0] 60)) (w1.alloc (.cells #[.slice ao L.length cap, .int .i64 ex] 60)) := (hb.mono (by simp)).alloc (by have := hb.size; simp at this; omega) _
      have hrow := hout.row.below ((Below.refl w1.heap.size w1).alloc (Nat.le_refl _) (.cells #[.slice ao L.length cap, .int .i64 ex] 60)) (Nat.le_refl _)
      go_wp2_with fail
      rw [show (a : Int) % 4503599627370496 + 4503599627370496 = ((a % 4503599627370496 + 4503599627370496 : Nat) : Int) from by omega]
      refine (times_any _ L ex (a % 4503599627370496 + 4503599627370496) _ hrow hout.norm.digs (by omega) (by omega) (by omega)).mono ?_
      rintro r w2 ⟨hb3, v', L', e', rfl, hout2⟩
      have hb4 := below_next hb2 hb3 (by have := hb.size; simp at this ⊢; omega)
      have c0 : w2.cell? ⟨w.heap.size, 0, none⟩ = some (.slice none 0 0) := (hb4.cell (p := ⟨w.heap.size, 0, none⟩) (by simp)).trans (by simp [go_sem])
      have c1 : w2.cell? ⟨w.heap.size, 1, none⟩ = some (.int .i64 0) := (hb4.cell (p := ⟨w.heap.size, 1, none⟩) (by simp)).trans (by simp [go_sem])
      have f0 : w2.frozen? ⟨w.heap.size, 0, none⟩ = false := (hb4.frozen (p := ⟨w.heap.size, 0, none⟩) (by simp)).trans (by simp [go_sem])
      have f1 : w2.frozen? ⟨w.heap.size, 1, none⟩ = false := (hb4.frozen (p := ⟨w.heap.size, 1, none⟩) (by simp)).trans (by simp [go_sem])
      have HB := hid (((Below.refl w.heap.size w).alloc (Nat.le_refl _) (.cells #[.slice none 0 0, .int .i64 0] 60)).trans (hb4.mono (B' := w.heap.size) (by omega)))
      have hs1 : w.heap.size + 1 ≤ w1.heap.size := by have := hb.size; simpa using this
      obtain ⟨ao', cp, hv⟩ := hout2.row.isSlice
      rw [hv] at hout2
      subst hv
      have hlo := hout.ne
      have HO := hid hout
      clear hb hb2 hb3 hb4 hrow hout hlo
      go_wp2
      refine bodyPost_ret (v := .agg #[.slice ao' L'.length cp, .int .i64 e']) (dec_results rfl _ _ w.heap.size _ _ rfl (two_cells c0 c1).1 (two_cells c0 c1).2) rfl ⟨below_two HB.out (Nat.le_refl _) _ _, _, L', e', rfl, ?_⟩
      have hne : L ≠ [] := by
        intro h0
        have h1 := HO.out.val 20000 (by omega)
        rw [h0, val_nil] at h1
        have := two_pos 20000 (-1074 + ((a : Int) / 4503599627370496 - 1)); omega
      have hnn := HO.out.ne hne
      have h9 : Out w2 (.slice ao' L'.length cp) L' e' 20000 (-1100) 20000 (fun g => w1.heap.size + 1 ≤ g) (fun K => valA K 2 a) :=
        hout2.mono (by omega) (by omega) (by omega) (fun g hg => by simpa using hg) (fun K hK => by rw [HO.out.val K (by omega)]; exact (valA_hi K 2 a 4503599627370496 1074 rfl rfl HX.out).symm)
      exact ((h9.setCell _ _ (by simp; omega)).setCell _ _ (by simp; omega)).mono (Nat.le_refl _) (Int.le_refl _) (Int.le_refl _) (fun g hg => by omega) (fun _ _ => rfl)

end Go.Proofs.YtbkdaoicnobllaaDoor

/- Plain mathematics: amounts and their numbers. -/
namespace Go.Proofs.YtbkdaoicnobllaaDoor

theorem pQ0 : 2 ^ fQ 0 = 1024 := by simp [fQ]
theorem pQ1 : 2 ^ fQ 1 = 8388608 := by simp [fQ]
theorem pQ2 : 2 ^ fQ 2 = 4503599627370496 := by simp [fQ]
theorem fE_ge (f : Int) : -1074 ≤ fE f := by unfold fE; split <;> (try split) <;> omega
/-- An amount of exponent lo and of r more. -/
theorem valA_at (K : Nat) (f : Int) (lo r : Nat) (hr : r ≤ 2 ^ fQ f) (hK : 1100 ≤ K) :
    valA K f (lo * 2 ^ fQ f + r) = if lo = 0 then two K (fE f) * r else two K (fE f + (lo - 1 : Nat)) * (2 ^ fQ f + r) := by
  have hge := fE_ge f
  have hp : 0 < 2 ^ fQ f := Nat.pow_pos (by omega)
  unfold valA mA xA
  generalize 2 ^ fQ f = Q at *
  by_cases h : r = Q
  · subst h
    have e1 : (lo * r + r) / r = lo + 1 := by rw [← Nat.succ_mul, Nat.mul_div_cancel _ hp]
    have e2 : (lo * r + r) % r = 0 := by rw [← Nat.succ_mul, Nat.mul_mod_left]
    rw [e1, e2, if_neg (by omega)]
    by_cases h0 : lo = 0
    · rw [if_pos h0, h0]; simp
    · rw [if_neg h0, Nat.zero_add, show fE f + ((lo + 1 - 1 : Nat) : Int) = fE f + ((lo - 1 : Nat) : Int) + (1 : Nat) from by omega, two_mul K _ (by omega)]
      rw [Nat.pow_one, Nat.mul_assoc, Nat.two_mul]
  · have e1 : (lo * Q + r) / Q = lo := by rw [Nat.mul_comm, Nat.mul_add_div hp, Nat.div_eq_of_lt (by omega)]; omega
    have e2 : (lo * Q + r) % Q = r := by rw [Nat.mul_comm, Nat.mul_add_mod, Nat.mod_eq_of_lt (by omega)]
    rw [e1, e2]
    by_cases h0 : lo = 0
    · rw [if_pos h0, if_pos h0, h0]; simp
    · rw [if_neg h0, if_neg h0, Nat.add_comm r]
theorem valA_zero (K : Nat) (f : Int) : valA K f 0 = 0 := by unfold valA mA; simp

/-- Bit by bit: the last bits' worth. -/
theorem below_end (K : Nat) (f : Int) (lo m X : Nat) (hK : 1100 ≤ K)
    (h0 : lo = 0 → m < 2 ^ fQ f ∧ two K (fE f) * m ≤ X ∧ X < two K (fE f) * (m + 1))
    (h1 : lo ≠ 0 → 2 ^ fQ f ≤ m ∧ m < 2 * 2 ^ fQ f ∧ two K (fE f + (lo - 1 : Nat)) * m ≤ X ∧ X < two K (fE f + (lo - 1 : Nat)) * (m + 1)) :
    valA K f (lo * 2 ^ fQ f + (if lo = 0 then m else m - 2 ^ fQ f)) ≤ X ∧ X < valA K f (lo * 2 ^ fQ f + (if lo = 0 then m else m - 2 ^ fQ f) + 1) := by
  by_cases h : lo = 0
  · obtain ⟨a, b, c⟩ := h0 h
    rw [if_pos h, Nat.add_assoc, valA_at K f lo m (by omega) hK, valA_at K f lo (m + 1) (by omega) hK, if_pos h, if_pos h]
    exact ⟨b, c⟩
  · obtain ⟨a, b, c, d⟩ := h1 h
    rw [if_neg h, Nat.add_assoc, valA_at K f lo (m - 2 ^ fQ f) (by omega) hK, valA_at K f lo (m - 2 ^ fQ f + 1) (by omega) hK, if_neg h, if_neg h,
      show 2 ^ fQ f + (m - 2 ^ fQ f) = m from by omega, show 2 ^ fQ f + (m - 2 ^ fQ f + 1) = m + 1 from by omega]
    exact ⟨c, d⟩

open Go.RowKit in
/-- A box that was laid ahead of a call, behind it. -/
theorem after_alloc {w w2 : World} {x y : Value} {t : TypeId} (h : Below (w.alloc (.cells #[x, y] t)).drew.heap.size (w.alloc (.cells #[x, y] t)).drew w2) :
    w2.cell? ⟨w.heap.size, 0, none⟩ = some x ∧ w2.cell? ⟨w.heap.size, 1, none⟩ = some y ∧ w2.frozen? ⟨w.heap.size, 0, none⟩ = false ∧ w2.frozen? ⟨w.heap.size, 1, none⟩ = false ∧ w.heap.size < w2.heap.size := by
  have hz : (w.alloc (.cells #[x, y] t)).drew.heap.size = w.heap.size + 1 := by simp [World.drew]
  rw [hz] at h
  refine ⟨?_, ?_, ?_, ?_, ?_⟩
  · exact (h.cell (p := ⟨w.heap.size, 0, none⟩) (by simp)).trans (by simp [go_sem])
  · exact (h.cell (p := ⟨w.heap.size, 1, none⟩) (by simp)).trans (by simp [go_sem])
  · exact (h.frozen (p := ⟨w.heap.size, 0, none⟩) (by simp)).trans (by simp [go_sem])
  · exact (h.frozen (p := ⟨w.heap.size, 1, none⟩) (by simp)).trans (by simp [go_sem])
  · have := h.size; rw [hz] at this; omega

open Go.RowKit in
theorem after_alloc_then {w w2 : World} {x y : Value} {t : TypeId} {C : Prop} (h : Below (w.alloc (.cells #[x, y] t)).drew.heap.size (w.alloc (.cells #[x, y] t)).drew w2)
    (k : w2.cell? ⟨w.heap.size, 0, none⟩ = some x → w2.cell? ⟨w.heap.size, 1, none⟩ = some y → w2.frozen? ⟨w.heap.size, 0, none⟩ = false → w2.frozen? ⟨w.heap.size, 1, none⟩ = false → w.heap.size < w2.heap.size → C) : C :=
  have a := after_alloc h
  k a.1 a.2.1 a.2.2.1 a.2.2.2.1 a.2.2.2.2

open Go.RowKit in
/-- A variable that holds a decimal. -/
def Boxed (b : Nat) (s : Value) (wx : World) (len : Nat) (lo hi : Int) (V : Nat → Nat) : Prop :=
  ∃ g ao cap L e, s = .pointer (some ⟨g, 0, none⟩) ∧ g < wx.heap.size ∧ wx.cell? ⟨g, 0, none⟩ = some (.slice ao (List.length L) cap) ∧ wx.cell? ⟨g, 1, none⟩ = some (.int .i64 e) ∧ Out wx (.slice ao (List.length L) cap) L e len lo hi (fun g => b ≤ g) V
open Go.RowKit in
theorem boxed_after {B0 b : Nat} {W0 wr w2 : World} {ao : Option Addr} {cap : Nat} {L : List Nat} {e : Int} {len len' : Nat} {lo hi lo' hi' : Int} {V V' : Nat → Nat} {t : TypeId} (hb : Below B0 W0 wr) (hB : B0 ≤ wr.heap.size) (hbb : b ≤ wr.heap.size)
    (hb6 : Below wr.drew.heap.size wr.drew w2) (ho : Out w2 (.slice ao L.length cap) L e len lo hi (fun g => wr.drew.heap.size ≤ g) V) (h1 : len ≤ len') (h2 : lo' ≤ lo) (h3 : hi ≤ hi') (h5 : ∀ K : Nat, -(K : Int) ≤ lo' → V K = V' K) :
    Boxed b (.pointer (some ⟨w2.heap.size, 0, none⟩)) (w2.alloc (.cells #[.slice ao L.length cap, .int .i64 e] t)) len' lo' hi' V' ∧ Below B0 W0 (w2.alloc (.cells #[.slice ao L.length cap, .int .i64 e] t)) := by
  have hz : wr.drew.heap.size = wr.heap.size := rfl
  have hs := hb6.size
  refine ⟨⟨_, ao, cap, L, e, rfl, by simp, by simp [go_sem], by simp [go_sem], ?_⟩, ?_⟩
  · exact (ho.below ((Below.refl w2.heap.size w2).alloc (Nat.le_refl _) _) (Nat.le_refl _)).mono h1 h2 h3 (fun g hg => by omega) h5
  · exact (hb.trans ((Below.refl _ _).drew.trans (hb6.mono (by omega)))).alloc (by omega) _
open Go.RowKit in
theorem boxed_ahead {B0 b : Nat} {W0 wr w2 : World} {ao : Option Addr} {cap : Nat} {L : List Nat} {e : Int} {len len' : Nat} {lo hi lo' hi' : Int} {V V' : Nat → Nat} {t : TypeId} {x y : Value} (hb : Below B0 W0 wr) (hB : B0 ≤ wr.heap.size) (hbb : b ≤ wr.heap.size)
    (hb6 : Below (wr.alloc (.cells #[x, y] t)).drew.heap.size (wr.alloc (.cells #[x, y] t)).drew w2) (ho : Out w2 (.slice ao L.length cap) L e len lo hi (fun g => (wr.alloc (.cells #[x, y] t)).drew.heap.size ≤ g) V) (h1 : len ≤ len') (h2 : lo' ≤ lo) (h3 : hi ≤ hi') (h5 : ∀ K : Nat, -(K : Int) ≤ lo' → V K = V' K) :
    Boxed b (.pointer (some ⟨wr.heap.size, 0, none⟩)) ((w2.setCell ⟨wr.heap.size, 0, none⟩ (.slice ao L.length cap)).setCell ⟨wr.heap.size, 1, none⟩ (.int .i64 e)) len' lo' hi' V' ∧
      Below B0 W0 ((w2.setCell ⟨wr.heap.size, 0, none⟩ (.slice ao L.length cap)).setCell ⟨wr.heap.size, 1, none⟩ (.int .i64 e)) := by
  obtain ⟨q0, q1, q2, q3, q4⟩ := after_alloc hb6
  have hz : (wr.alloc (.cells #[x, y] t)).drew.heap.size = wr.heap.size + 1 := by simp [World.drew]
  refine ⟨⟨_, ao, cap, L, e, rfl, by simpa [World.setCell] using q4, (two_cells q0 q1).1, (two_cells q0 q1).2, ?_⟩, ?_⟩
  · exact ((ho.setCell _ _ (by simp [hz])).setCell _ _ (by simp [hz])).mono h1 h2 h3 (fun g hg => by omega) h5
  · exact below_two (hb.trans (((Below.refl _ _).alloc hB _).drew.trans (hb6.mono (by omega)))) hB _ _

end Go.Proofs.YtbkdaoicnobllaaDoor

namespace Go.Proofs.YtbkdaoicnobllaaDoor
open Go.RowKit

set_option maxRecDepth 100000 in
set_option maxHeartbeats 1000000 in
theorem cmp_any (v1 v2 : Value) (L1 L2 : List Nat) (e1 e2 : Int) (K : Nat) (w : World) (r1 : Row w v1 L1) (r2 : Row w v2 L2) (n1 : Norm L1) (n2 : Norm L2) (l1 : L1.length ≤ 400000) (l2 : L2.length ≤ 400000)
    (b1 : -400000 ≤ e1 ∧ e1 ≤ 400000) (b2 : -400000 ≤ e2 ∧ e2 ≤ 400000) (k1 : -(K : Int) ≤ e1) (k2 : -(K : Int) ≤ e2) :
    Calls Tryd.prog 69 #[.agg #[v1, .int .i64 e1], .agg #[v2, .int .i64 e2]] w fun r w' => Below w.heap.size w w' ∧ r = .returned (.int .i64 (cmpN (val K L1 e1) (val K L2 e2))) := by
  obtain ⟨a1, c1, hv1⟩ := r1.isSlice
  obtain ⟨a2, c2, hv2⟩ := r2.isSlice
  subst hv1 hv2
  by_cases hz1 : L1.length = 0
  · have h10 := List.length_eq_zero_iff.1 hz1
    by_cases hz2 : L2.length = 0
    · have h20 := List.length_eq_zero_iff.1 hz2
      have HC : Hid (cmpN (val K L1 e1) (val K L2 e2) = 0) := cmpN_eq (by rw [h10, h20, val_nil, val_nil])
      clear r1 r2 h10 h20
      rw [hz1, hz2]
      go_enter Tryd.func69, Tryd.ntmps69
      go_wp2
      go_ret
      exact ⟨((Below.refl _ _).alloc (Nat.le_refl _) _).alloc (by simp) _, ret_int (by rw [HC.out])⟩
    · have HC : Hid (cmpN (val K L1 e1) (val K L2 e2) = -1) := cmpN_lt (by rw [h10, val_nil]; exact val_pos n2 (by omega) K e2)
      have hp2 : (((L2.length : Int)) == 0) = false := beq_eq_false_iff_ne.2 (by omega)
      clear r1 r2 h10
      rw [hz1]
      go_enter Tryd.func69, Tryd.ntmps69
      go_wp2
      go_ret
      exact ⟨((Below.refl _ _).alloc (Nat.le_refl _) _).alloc (by simp) _, ret_int (by rw [HC.out])⟩
  · have hp1 : (((L1.length : Int)) == 0) = false := beq_eq_false_iff_ne.2 (by omega)
    by_cases hz2 : L2.length = 0
    · have h20 := List.length_eq_zero_iff.1 hz2
      have HC : Hid (cmpN (val K L1 e1) (val K L2 e2) = 1) := cmpN_gt (by rw [h20, val_nil]; exact val_pos n1 (by omega) K e1)
      clear r1 r2 h20
      rw [hz2]
      go_enter Tryd.func69, Tryd.ntmps69
      go_wp2
      go_ret
      exact ⟨((Below.refl _ _).alloc (Nat.le_refl _) _).alloc (by simp) _, ret_int (by rw [HC.out])⟩
    · have hp2 : (((L2.length : Int)) == 0) = false := beq_eq_false_iff_ne.2 (by omega)
      have HR : Hid (Row w (.slice a1 L1.length c1) L1 ∧ Row w (.slice a2 L2.length c2) L2 ∧ Norm L1 ∧ Norm L2) := ⟨r1, r2, n1, n2⟩
      clear r1 r2 n1 n2
      go_enter Tryd.func69, Tryd.ntmps69
      go_wp2_with fail
      refine (top_any _ L1 e1 _ (HR.out.1.below box4_below (Nat.le_refl _)) (by omega) (by omega)).mono ?_
      rintro r w3 ⟨rfl, hb3⟩
      have hb := box4_start hb3
      clear hb3
      obtain ⟨x1, x2, x3, x4, _, _, _, _, hs⟩ := box4 hb
      go_wp2_with fail
      refine (top_any _ L2 e2 _ (HR.out.2.1.below (box4_up hb) (Nat.le_refl _)) (by omega) (by omega)).mono ?_
      rintro r w4 ⟨rfl, hb4⟩
      have hb := below_next hb hb4 hs
      clear x1 x2 x3 x4 hs hb4
      obtain ⟨x1, x2, x3, x4, _, _, _, _, hs⟩ := box4 hb
      go_wp2_with fail
      refine (least_any e1 e2 w4).mono ?_
      rintro r w5 ⟨rfl, rfl⟩
      go_wp2_with fail
      refine (most_any _ _ w5).mono ?_
      rintro r w6 ⟨rfl, rfl⟩
      clear x1 x2 x3 x4 hs
      go_wp2_with fail
      go_loopw [8] (fun p wr => ∃ P : Int, p = .int .i64 P ∧ min e1 e2 - 1 ≤ P ∧ P ≤ max (e1 + L1.length - 1) (e2 + L2.length - 1) ∧ Hid (val K L1 e1 / 10 ^ (P + 1 + K).toNat = val K L2 e2 / 10 ^ (P + 1 + K).toNat) ∧
          Below (w.heap.size + 2) ((w.alloc (.cells #[.slice a1 L1.length c1, .int .i64 e1] 60)).alloc (.cells #[.slice a2 L2.length c2, .int .i64 e2] 60)) wr)
        (fun p _ => (intOf p - min e1 e2 + 1).toNat)
      case atStart =>
        refine ⟨_, rfl, by omega, by omega, ?_, hb⟩
        unfold Hid
        rw [val_hi HR.out.2.2.1.digs K e1 _ (by omega) k1, val_hi HR.out.2.2.2.digs K e2 _ (by omega) k2]
      case round =>
        obtain ⟨P, rfl, hP1, hP2, HV, hbr⟩ := hrel
        obtain ⟨x1, x2, x3, x4, _, _, _, _, hs⟩ := box4 hbr
        by_cases hge : min e1 e2 ≤ P
        · have hst := cmp_step HR.out.2.2.1.digs HR.out.2.2.2.digs k1 k2 (by omega) HV.out
          have q1 := dig_le HR.out.2.2.1.digs e1 P
          have q2 := dig_le HR.out.2.2.2.digs e2 P
          go_wp2_with fail
          refine (at_any _ L1 e1 P _ (HR.out.1.below (box4_up hbr) (Nat.le_refl _)) (by omega) (by omega) (by omega)).mono ?_
          rintro r w7 ⟨rfl, hb7⟩
          have hb8 := below_next hbr hb7 hs
          clear x1 x2 x3 x4 hs hb7 hbr
          obtain ⟨x1, x2, x3, x4, _, _, _, _, hs⟩ := box4 hb8
          go_wp2_with fail
          refine (at_any _ L2 e2 P _ (HR.out.2.1.below (box4_up hb8) (Nat.le_refl _)) (by omega) (by omega) (by omega)).mono ?_
          rintro r w8 ⟨rfl, hb9⟩
          have hb10 := below_next hb8 hb9 hs
          clear x1 x2 x3 x4 hs hb9 hb8
          generalize hd1 : dig L1 e1 P = d1 at *
          generalize hd2 : dig L2 e2 P = d2 at *
          clear hd1 hd2
          have HST : Hid ((d1 = d2 → val K L1 e1 / 10 ^ (P + K).toNat = val K L2 e2 / 10 ^ (P + K).toNat) ∧ (d1 < d2 → val K L1 e1 < val K L2 e2) ∧ (d2 < d1 → val K L2 e2 < val K L1 e1)) := hst
          clear hst
          by_cases hgt : d2 < d1
          · go_wp2
            go_ret
            exact ⟨box4_up hb10, ret_int (cmpN_gt (HST.out.2.2 hgt)).symm⟩
          · by_cases hlt : d1 < d2
            · go_wp2
              go_ret
              exact ⟨box4_up hb10, ret_int (cmpN_lt (HST.out.2.1 hlt)).symm⟩
            · go_wp2
              go_roundw
              case rel => exact ⟨P - 1, rfl, by omega, by omega, by have := HST.out.1 (by omega); unfold Hid; rw [show P - 1 + 1 + (K : Int) = P + K from by omega]; exact this, hb10⟩
              case measure => simp [intOf]; omega
        · have HEQ : Hid (val K L1 e1 = val K L2 e2) := cmp_done k1 k2 (by have := HV.out; rw [show P + 1 + (K : Int) = min e1 e2 + K from by omega] at this; exact this)
          clear x1 x2 x3 x4 hs
          go_wp2
          go_ret
          exact ⟨box4_up hbr, ret_int (cmpN_eq HEQ.out).symm⟩

end Go.Proofs.YtbkdaoicnobllaaDoor
