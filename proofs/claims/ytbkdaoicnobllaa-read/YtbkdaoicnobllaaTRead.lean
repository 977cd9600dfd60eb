import Derived.Test.YtbkdaoicnobllaaTHex
import Derived.Deep.RegionWith

namespace Go.Proofs.Ytbkdaoicnobllaa
open Go.RowKit

theorem num_results3 {fn : Func} {p q r : Tmp} (h : fn.results = #[.cell p 53, .tmp q, .tmp r]) (tmps : Array Value) (w : World) (B : Nat) (x0 x1 x2 x3 : Value) (hp : tmps.getD p undef = .pointer (some ⟨B, 0, none⟩))
    (c0 : w.cell? ⟨B, 0, none⟩ = some x0) (c1 : w.cell? ⟨B, 1, none⟩ = some x1) (c2 : w.cell? ⟨B, 2, none⟩ = some x2) (c3 : w.cell? ⟨B, 3, none⟩ = some x3) : (results fn tmps).run Try.prog w = .ok (.tuple #[.agg #[x0, x1, x2, x3], tmps.getD q undef, tmps.getD r undef]) w := by
  have hp' : tmps[p]?.getD undef = .pointer (some ⟨B, 0, none⟩) := by rw [← Array.getD_eq_getD_getElem?]; exact hp
  simp [results, h, hp', go_sem, c0, c1, c2, c3]
theorem drew_cell {w : World} {p : Addr} {v : Value} (h : w.cell? p = some v) : w.drew.cell? p = some v := h
/-- Inside 'Read': the reader in a block of its own, the result's cells, since w. -/
structure QPost (w w' : World) (s : ByteArray) (k : Nat) (v : Value) (L : List Nat) : Prop where
  rdr : RdrAt w' (w.heap.size + 1) s k
  own : Own w' 0 v L
  res : Res4 w' w.heap.size
  fresh : ∀ g, v.ownBlock = some g → w.heap.size + 2 ≤ g
  size : w.heap.size + 2 ≤ w'.heap.size
  below : Below w.heap.size w w'
theorem QPost.start (w : World) (s : ByteArray) :
    QPost w ((w.alloc (.cells #[.int .i64 0, .bool false, .slice none 0 0, .int .i64 0] 53)).alloc (.cells #[.string s, .int .i64 0] 76)) s 0 (.slice none 0 0) [] := by
  exact ⟨⟨by simp [go_sem], by simp [go_sem], by simp [go_sem]⟩, Own.nil _ _, ⟨by simp [go_sem], by simp [go_sem], by simp [go_sem], by simp [go_sem], by simp [go_sem], by simp [go_sem], by simp [go_sem], by simp [go_sem]⟩, fun g hg => by simp [Value.ownBlock] at hg, by simp, box4_below⟩
theorem below_of_turn {w w1 w2 : World} {b : Nat} (h : Below w.heap.size w w1) (t : Turn (fun j => j = b) w1 w2) (hb : w.heap.size ≤ b) (hs : w.heap.size ≤ w1.heap.size) : Below w.heap.size w w2 :=
  h.trans ⟨t.os, t.tape, t.output, t.size, fun k hk => t.block k (by omega) (by omega)⟩
theorem QPost.move {w w1 w2 : World} {k k' : Nat} {s : ByteArray} {v : Value} {L : List Nat} (h : QPost w w1 s k v L) (r : RPost w1 w2 (w.heap.size + 1) s k') : QPost w w2 s k' v L := by
  have hz := h.size
  have hh : ∀ x, x < w1.heap.size → x ≠ w.heap.size + 1 → w2.heap[x]? = w1.heap[x]? := fun x hx hn => r.turn.block x hx hn
  exact ⟨r.rdr, h.own.heap (fun g hg => hh g (h.own.lt' g hg) (by have := h.fresh g hg; omega)), h.res.heap (hh _ (by omega) (by omega)), h.fresh, by have := r.turn.size; omega, below_of_turn h.below r.turn (by omega) (by omega)⟩
theorem QPost.next {w w1 w2 : World} {k k' : Nat} {s : ByteArray} {v v' : Value} {L L' : List Nat} (h : QPost w w1 s k v L) (r : NPost w1 w2 (w.heap.size + 1) s k' v' L') : QPost w w2 s k' v' L' := by
  have hz := h.size
  have hh : ∀ x, x < w1.heap.size → x ≠ w.heap.size + 1 → w2.heap[x]? = w1.heap[x]? := fun x hx hn => r.turn.block x hx hn
  exact ⟨r.rdr, r.own, h.res.heap (hh _ (by omega) (by omega)), fun g hg => by have := r.fresh g hg; omega, by have := r.turn.size; omega, below_of_turn h.below r.turn (by omega) (by omega)⟩
/-- A Number of its own, further on. -/
theorem QPost.alloc {w w1 : World} {k : Nat} {s : ByteArray} {v : Value} {L : List Nat} (h : QPost w w1 s k v L) (o : Obj) : QPost w (w1.alloc o) s k v L := by
  have hz := h.size
  have hb : Below w1.heap.size w1 (w1.alloc o) := (Below.refl _ _).alloc (Nat.le_refl _) _
  have hh : ∀ x, x < w1.heap.size → (w1.alloc o).heap[x]? = w1.heap[x]? := fun x hx => hb.block x hx
  have hbs := hb.size
  have hr := hh (w.heap.size + 1) (by omega)
  exact ⟨⟨by rw [World.cell?_of_block hr]; exact h.rdr.c0, by rw [World.cell?_of_block hr]; exact h.rdr.c1, by rw [World.frozen?_of_block hr]; exact h.rdr.fz⟩, h.own.heap (fun g hg => hh g (h.own.lt' g hg)), h.res.heap (hh _ (by omega)), h.fresh, by omega, h.below.trans (hb.mono (by omega))⟩
theorem QPost.set {w w1 : World} {k : Nat} {s : ByteArray} {v : Value} {L : List Nat} (h : QPost w w1 s k v L) (C i : Nat) (u : Value) (hC : w.heap.size + 2 ≤ C) (hv : ∀ g, v.ownBlock = some g → g ≠ C) : QPost w (w1.setCell ⟨C, i, none⟩ u) s k v L := by
  have hz := h.size
  have hh : ∀ x, x ≠ C → (w1.setCell ⟨C, i, none⟩ u).heap[x]? = w1.heap[x]? := fun x hn => Below.heap_setCell _ _ _ _ hn
  have hs : (w1.setCell ⟨C, i, none⟩ u).heap.size = w1.heap.size := by simp [World.setCell]
  have hbl : Below w.heap.size w (w1.setCell ⟨C, i, none⟩ u) := h.below.setCell (by show w.heap.size ≤ C; omega) _
  generalize w1.setCell ⟨C, i, none⟩ u = w2 at *
  have hr := hh (w.heap.size + 1) (by omega)
  exact ⟨⟨by rw [World.cell?_of_block hr]; exact h.rdr.c0, by rw [World.cell?_of_block hr]; exact h.rdr.c1, by rw [World.frozen?_of_block hr]; exact h.rdr.fz⟩, h.own.heap (fun g hg => hh g (hv g hg)), h.res.heap (hh _ (by omega)), h.fresh, by omega, hbl⟩
theorem QPost.fail {w w1 : World} {k : Nat} {s : ByteArray} {v : Value} {L : List Nat} (h : QPost w w1 s k v L) (x0 x1 x2 x3 : Value) : Below w.heap.size w (set4 w1 w.heap.size x0 x1 x2 x3) := by
  unfold set4
  exact (((h.below.setCell (Nat.le_refl _) _).setCell (Nat.le_refl _) _).setCell (Nat.le_refl _) _).setCell (Nat.le_refl _) _
theorem QPost.done {w w1 : World} {k : Nat} {s : ByteArray} {v : Value} {L : List Nat} (h : QPost w w1 s k v L) (x0 x1 x2 x3 : Value) : Own (set4 w1 w.heap.size x0 x1 x2 x3) 0 v L :=
  h.own.heap (fun g hg => set4_heap (by have := h.fresh g hg; omega))
/-- What 'Read' hands back. -/
def ScanPost (w w' : World) (s : ByteArray) (e : Ending) : Prop :=
  ∃ (k : Nat) (uok : Bool) (kd : Int) (v : Value) (D : List Nat) (pw : Int), UnsRes s (sgnL s 0) k uok kd D pw ∧ Below w.heap.size w w' ∧
    (((uok = false ∨ k < s.size) ∧ e = .returned (.tuple #[.agg #[.int .i64 0, .bool false, .slice none 0 0, .int .i64 0], .int .i64 k, .bool false])) ∨
     ((uok = true ∧ ¬ k < s.size) ∧ Own w' 0 v D ∧ (∀ g, v.ownBlock = some g → w.heap.size ≤ g) ∧ e = .returned (.tuple #[.agg #[.int .i64 kd, .bool (atB s 0 45), v, .int .i64 pw], .int .i64 0, .bool true])))

set_option maxRecDepth 100000 in
set_option maxHeartbeats 4000000 in
theorem scan_any (s : ByteArray) (w : World) (hs : s.size ≤ 900) :
    Calls Try.prog 27 #[.string s] w fun e w' => ScanPost w w' s e := by
  have H0 := hid (QPost.start w s)
  go_enter Try.func27, Try.ntmps27
  go_wp2_with fail
  refine (sign_any (w.heap.size + 1) 0 s _ H0.out.rdr (Nat.zero_le _) hs).mono ?_
  rintro e w1 ⟨rfl, h1⟩
  have H1 := hid (H0.out.move h1)
  clear H0 h1
  have HX2 := hid (unsigned_any (w.heap.size + 1) (sgnL s 0) s w1 H1.out.rdr (sgnL_le (Nat.zero_le _)) hs)
  go_wp2_with fail
  refine HX2.out.mono ?_
  rintro e w2 ⟨k, uok, kd, v, D, pw, rfl, h2, hd2⟩
  have H2 := hid (H1.out.next h2)
  have HD := hid hd2
  clear HX2 h2 hd2 H1
  obtain ⟨ao, cp, hv⟩ := H2.out.own.row.isSlice
  obtain ⟨n, hn⟩ : ∃ n, n = D.length := ⟨_, rfl⟩
  rw [← hn] at hv
  subst hv
  clear hn
  obtain ⟨C, hC⟩ : ∃ C, C = w2.heap.size := ⟨_, rfl⟩
  have hC2 : w.heap.size + 2 ≤ C := by rw [hC]; exact H2.out.size
  obtain ⟨w3, hw3⟩ : ∃ w3, w3 = w2.alloc (.cells #[.int .i64 kd, .bool false, .slice ao n cp, .int .i64 pw] 53) := ⟨_, rfl⟩
  have HW3 := hid hw3
  have H4 : Hid (QPost w w3 s k (.slice ao n cp) D) := by unfold Hid; rw [hw3]; exact H2.out.alloc _
  have HNC : Hid (∀ g, (Value.slice ao n cp).ownBlock = some g → g ≠ C) := fun g hg => by have := H2.out.own.lt' g hg; omega
  have k0 : w3.cell? ⟨C, 0, none⟩ = some (.int .i64 kd) := by rw [hw3, hC]; simp [go_sem]
  have k1 : w3.cell? ⟨C, 1, none⟩ = some (.bool false) := by rw [hw3, hC]; simp [go_sem]
  have k2 : w3.cell? ⟨C, 2, none⟩ = some (.slice ao n cp) := by rw [hw3, hC]; simp [go_sem]
  have k3 : w3.cell? ⟨C, 3, none⟩ = some (.int .i64 pw) := by rw [hw3, hC]; simp [go_sem]
  have kf : w3.frozen? ⟨C, 1, none⟩ = false := by rw [hw3, hC]; simp [go_sem]
  have HC := hid hC
  clear hw3 hC H2
  have c1 := H4.out.rdr.c1
  have r0 := H4.out.res.c0
  have r1 := H4.out.res.c1
  have r2 := H4.out.res.c2
  have r3 := H4.out.res.c3
  have q0 := H4.out.res.f0
  have q1 := H4.out.res.f1
  have q2 := H4.out.res.f2
  have q3 := H4.out.res.f3
  cases uok
  · go_wp2_with (rw [← HW3.out, ← HC.out])
    go_wp2_with fail
    go_region
    go_wp2
    try simp only [Exit.inBlock, Exit.then]
    refine bodyPost_ret (num_results3 rfl _ _ w.heap.size _ _ _ _ rfl (drew_cell (set4_cells r0 r1 r2 r3).1) (drew_cell (set4_cells r0 r1 r2 r3).2.1) (drew_cell (set4_cells r0 r1 r2 r3).2.2.1) (drew_cell (set4_cells r0 r1 r2 r3).2.2.2)) rfl ?_
    exact ⟨k, _, kd, .slice ao n cp, D, pw, HD.out, (H4.out.fail _ _ _ _).drew, .inl ⟨.inl rfl, rfl⟩⟩
  · by_cases hlt : k < s.size
    · go_wp2_with (rw [← HW3.out, ← HC.out])
      go_wp2_with fail
      go_region
      go_wp2
      try simp only [Exit.inBlock, Exit.then]
      refine bodyPost_ret (num_results3 rfl _ _ w.heap.size _ _ _ _ rfl (drew_cell (set4_cells r0 r1 r2 r3).1) (drew_cell (set4_cells r0 r1 r2 r3).2.1) (drew_cell (set4_cells r0 r1 r2 r3).2.2.1) (drew_cell (set4_cells r0 r1 r2 r3).2.2.2)) rfl ?_
      exact ⟨k, _, kd, .slice ao n cp, D, pw, HD.out, (H4.out.fail _ _ _ _).drew, .inl ⟨.inr hlt, rfl⟩⟩
    · have H5 := hid (H4.out.set C 1 (.bool (atB s 0 45)) hC2 HNC.out)
      have r0' := H5.out.res.c0
      have r1' := H5.out.res.c1
      have r2' := H5.out.res.c2
      have r3' := H5.out.res.c3
      go_wp2_with (rw [← HW3.out, ← HC.out])
      go_wp2
      try simp only [Exit.inBlock, Exit.then]
      refine bodyPost_ret (num_results3 rfl _ _ w.heap.size _ _ _ _ rfl (set4_cells r0' r1' r2' r3').1 (set4_cells r0' r1' r2' r3').2.1 (set4_cells r0' r1' r2' r3').2.2.1 (set4_cells r0' r1' r2' r3').2.2.2) rfl ?_
      exact ⟨k, true, kd, .slice ao n cp, D, pw, HD.out, H5.out.fail _ _ _ _, .inr ⟨⟨rfl, hlt⟩, H5.out.done _ _ _ _, fun g hg => by have := H5.out.fresh g hg; omega, rfl⟩⟩
end Go.Proofs.Ytbkdaoicnobllaa
