import Derived.Test.YtbkdaoicnobllabGreatDoorG33
import Derived.Deep.RegionWith
import Derived.Test.YtbkdaoicnobllabGreatDoorG31

namespace Go.Proofs.YtbkdaoicnobllabGreatDoor
set_option maxRecDepth 100000
set_option maxHeartbeats 4000000
open Go.RowKit

theorem num_results3 {fn : Func} {p q r : Tmp} (h : fn.results = #[.cell p 71, .tmp q, .tmp r]) (tmps : Array Value) (w : World) (B : Nat) (x0 x1 x2 x3 : Value) (hp : tmps.getD p undef = .pointer (some ⟨B, 0, none⟩))
  (c0 : w.cell? ⟨B, 0, none⟩ = some x0) (c1 : w.cell? ⟨B, 1, none⟩ = some x1) (c2 : w.cell? ⟨B, 2, none⟩ = some x2) (c3 : w.cell? ⟨B, 3, none⟩ = some x3) : (results fn tmps).run Tryz.prog w = .ok (.tuple #[.agg #[x0, x1, x2, x3], tmps.getD q undef, tmps.getD r undef]) w := by
 have hp' : tmps[p]?.getD undef = .pointer (some ⟨B, 0, none⟩) := by rw [← Array.getD_eq_getD_getElem?]; exact hp
 simp [results, h, hp', go_sem, c0, c1, c2, c3]
theorem drew_cell {w : World} {p : Addr} {v : Value} (h : w.cell? p = some v) : w.drew.cell? p = some v := h
structure QPost (w w' : World) (s : ByteArray) (k : Nat) (v : Value) (L : List Nat) : Prop where
 rdr : RdrAt w' (w.heap.size + 1) s k
 own : Own w' 0 v L
 res : Res4 w' w.heap.size
 fresh : ∀ g, v.ownBlock = some g → w.heap.size + 2 ≤ g
 size : w.heap.size + 2 ≤ w'.heap.size
 below : Below w.heap.size w w'
theorem QPost.start (w : World) (s : ByteArray) :
  QPost w ((w.alloc (.cells #[.int .i64 0, .bool false, .slice none 0 0, .int .i64 0] 71)).alloc (.cells #[.string s, .int .i64 0] 79)) s 0 (.slice none 0 0) [] := by
 exact ⟨⟨by simp [go_sem], by simp [go_sem], by simp [go_sem]⟩, Own.nil _ _, ⟨by simp [go_sem], by simp [go_sem], by simp [go_sem], by simp [go_sem], by simp [go_sem], by simp [go_sem], by simp [go_sem], by simp [go_sem]⟩, fun g hg => by simp [Value.ownBlock] at hg, by simp, box4_below⟩
theorem below_of_turn {w w1 w2 : World} {b : Nat} (h : Below w.heap.size w w1) (t : Turn (fun j => j = b) w1 w2) (hb : w.heap.size ≤ b) (hs : w.heap.size ≤ w1.heap.size) : Below w.heap.size w w2 :=
 h.trans ⟨t.os, t.tape, t.output, t.size, fun k hk => t.block k (by omega) (by omega)⟩
theorem QPost.move {w w1 w2 : World} {k k' : Nat} {s : ByteArray} {v : Value} {L : List Nat} (h : QPost w w1 s k v L) (r : RPost w1 w2 (w.heap.size + 1) s k') : QPost w w2 s k' v L := by
 have hz := h.size
 have hh : ∀ x, x < w1.heap.size → x ≠ w.heap.size + 1 → w2.heap[x]? = w1.heap[x]? := fun x hx hn => r.turn.block x hx hn
 exact ⟨r.rdr, h.own.heap (fun g hg => hh g (h.own.lt' g hg) (by have := h.fresh g hg; omega)), h.res.heap (hh _ (by omega) (by omega)), h.fresh, by have := r.turn.size; omega, below_of_turn h.below r.turn (by omega) (by omega)⟩
theorem QPost.next {w w1 w2 : World} {k k' : Nat} {s : ByteArray} {v v' : Value} {L L' : List Nat} (h : QPost w w1 s k v L) (r : NPost w1 w2 (w.heap.size + 1) s k' v' L') : QPost w w2 s k' v' L' := by
 have hz := h.size
 have hh : ∀ x, x < w1.heap.size → x ≠ w.heap.size + 1 → w2.heap[x]? = w1.heap[x]? := fun x hx hn => r.turn.block x hx hn
 exact ⟨r.rdr, r.own, h.res.heap (hh _ (by omega) (by omega)), fun g hg => by have := r.fresh g hg; omega, by have := r.turn.size; omega, below_of_turn h.below r.turn (by omega) (by omega)⟩
theorem QPost.alloc {w w1 : World} {k : Nat} {s : ByteArray} {v : Value} {L : List Nat} (h : QPost w w1 s k v L) (o : Obj) : QPost w (w1.alloc o) s k v L := by
 have hz := h.size
 have hb : Below w1.heap.size w1 (w1.alloc o) := (Below.refl _ _).alloc (Nat.le_refl _) _
 have hh : ∀ x, x < w1.heap.size → (w1.alloc o).heap[x]? = w1.heap[x]? := fun x hx => hb.block x hx
 have hbs := hb.size
 have hr := hh (w.heap.size + 1) (by omega)
 exact ⟨⟨by rw [World.cell?_of_block hr]; exact h.rdr.c0, by rw [World.cell?_of_block hr]; exact h.rdr.c1, by rw [World.frozen?_of_block hr]; exact h.rdr.fz⟩, h.own.heap (fun g hg => hh g (h.own.lt' g hg)), h.res.heap (hh _ (by omega)), h.fresh, by omega, h.below.trans (hb.mono (by omega))⟩
theorem QPost.set {w w1 : World} {k : Nat} {s : ByteArray} {v : Value} {L : List Nat} (h : QPost w w1 s k v L) (C i : Nat) (u : Value) (hC : w.heap.size + 2 ≤ C) (hv : ∀ g, v.ownBlock = some g → g ≠ C) : QPost w (w1.setCell ⟨C, i, none⟩ u) s k v L := by
 have hz := h.size
 have hh : ∀ x, x ≠ C → (w1.setCell ⟨C, i, none⟩ u).heap[x]? = w1.heap[x]? := fun x hn => Below.heap_setCell _ _ _ _ hn
 have hs : (w1.setCell ⟨C, i, none⟩ u).heap.size = w1.heap.size := by simp [World.setCell]
 have hbl : Below w.heap.size w (w1.setCell ⟨C, i, none⟩ u) := h.below.setCell (by show w.heap.size ≤ C; omega) _
 generalize w1.setCell ⟨C, i, none⟩ u = w2 at *
 have hr := hh (w.heap.size + 1) (by omega)
 exact ⟨⟨by rw [World.cell?_of_block hr]; exact h.rdr.c0, by rw [World.cell?_of_block hr]; exact h.rdr.c1, by rw [World.frozen?_of_block hr]; exact h.rdr.fz⟩, h.own.heap (fun g hg => hh g (hv g hg)), h.res.heap (hh _ (by omega)), h.fresh, by omega, hbl⟩
theorem QPost.fail {w w1 : World} {k : Nat} {s : ByteArray} {v : Value} {L : List Nat} (h : QPost w w1 s k v L) (x0 x1 x2 x3 : Value) : Below w.heap.size w (set4 w1 w.heap.size x0 x1 x2 x3) := by
 unfold set4
 exact (((h.below.setCell (Nat.le_refl _) _).setCell (Nat.le_refl _) _).setCell (Nat.le_refl _) _).setCell (Nat.le_refl _) _
theorem QPost.done {w w1 : World} {k : Nat} {s : ByteArray} {v : Value} {L : List Nat} (h : QPost w w1 s k v L) (x0 x1 x2 x3 : Value) : Own (set4 w1 w.heap.size x0 x1 x2 x3) 0 v L :=
 h.own.heap (fun g hg => set4_heap (by have := h.fresh g hg; omega))
def ScanPost (w w' : World) (s : ByteArray) (e : Ending) : Prop :=
  ∃ (k : Nat) (uok : Bool) (kd : Int) (v : Value) (D : List Nat) (pw : Int), UnsRes s (sgnL s 0) k uok kd D pw ∧ Below w.heap.size w w' ∧
    (((uok = false ∨ k < s.size) ∧ e = .returned (.tuple #[.agg #[.int .i64 0, .bool false, .slice none 0 0, .int .i64 0], .int .i64 k, .bool false])) ∨
     ((uok = true ∧ ¬ k < s.size) ∧ Own w' 0 v D ∧ (∀ g, v.ownBlock = some g → w.heap.size ≤ g) ∧ e = .returned (.tuple #[.agg #[.int .i64 kd, .bool (atB s 0 45), v, .int .i64 pw], .int .i64 0, .bool true])))

theorem scan_any (s : ByteArray) (w : World) (hs : s.size ≤ 900) :
  Calls Tryz.prog 32 #[.string s] w fun e w' => ScanPost w w' s e := by
 have H0 := hid (QPost.start w s)
 go_enter Tryz.func32, Tryz.ntmps32
 go_wp2_with fail
 refine (sign_any (w.heap.size + 1) 0 s _ H0.out.rdr (Nat.zero_le _) hs).mono ?_
 rintro e w1 ⟨rfl, h1⟩
 have H1 := hid (H0.out.move h1)
 clear H0 h1
 have HX2 := hid (unsigned_any (w.heap.size + 1) (sgnL s 0) s w1 H1.out.rdr (sgnL_le (Nat.zero_le _)) hs)
 go_wp2_with fail
 refine HX2.out.mono ?_
 rintro e w2 ⟨k, uok, kd, v, D, pw, rfl, h2, hd2⟩
 have H2 := hid (H1.out.next h2)
 have HD := hid hd2
 clear HX2 h2 hd2 H1
 obtain ⟨ao, cp, hv⟩ := H2.out.own.row.isSlice
 obtain ⟨n, hn⟩ : ∃ n, n = D.length := ⟨_, rfl⟩
 rw [← hn] at hv
 subst hv
 clear hn
 obtain ⟨C, hC⟩ : ∃ C, C = w2.heap.size := ⟨_, rfl⟩
 have hC2 : w.heap.size + 2 ≤ C := by rw [hC]; exact H2.out.size
 obtain ⟨w3, hw3⟩ : ∃ w3, w3 = w2.alloc (.cells #[.int .i64 kd, .bool false, .slice ao n cp, .int .i64 pw] 71) := ⟨_, rfl⟩
 have HW3 := hid hw3
 have H4 : Hid (QPost w w3 s k (.slice ao n cp) D) := by unfold Hid; rw [hw3]; exact H2.out.alloc _
 have HNC : Hid (∀ g, (Value.slice ao n cp).ownBlock = some g → g ≠ C) := fun g hg => by have := H2.out.own.lt' g hg; omega
 have k0 : w3.cell? ⟨C, 0, none⟩ = some (.int .i64 kd) := by rw [hw3, hC]; simp [go_sem]
 have k1 : w3.cell? ⟨C, 1, none⟩ = some (.bool false) := by rw [hw3, hC]; simp [go_sem]
 have k2 : w3.cell? ⟨C, 2, none⟩ = some (.slice ao n cp) := by rw [hw3, hC]; simp [go_sem]
 have k3 : w3.cell? ⟨C, 3, none⟩ = some (.int .i64 pw) := by rw [hw3, hC]; simp [go_sem]
 have kf : w3.frozen? ⟨C, 1, none⟩ = false := by rw [hw3, hC]; simp [go_sem]
 have HC := hid hC
 clear hw3 hC H2
 have c1 := H4.out.rdr.c1
 have r0 := H4.out.res.c0
 have r1 := H4.out.res.c1
 have r2 := H4.out.res.c2
 have r3 := H4.out.res.c3
 have q0 := H4.out.res.f0
 have q1 := H4.out.res.f1
 have q2 := H4.out.res.f2
 have q3 := H4.out.res.f3
 cases uok
 ·go_wp2_with (rw [← HW3.out, ← HC.out])
  go_wp2_with fail
  go_region
  go_wp2
  try simp only [Exit.inBlock, Exit.then]
  refine bodyPost_ret (num_results3 rfl _ _ w.heap.size _ _ _ _ rfl (drew_cell (set4_cells r0 r1 r2 r3).1) (drew_cell (set4_cells r0 r1 r2 r3).2.1) (drew_cell (set4_cells r0 r1 r2 r3).2.2.1) (drew_cell (set4_cells r0 r1 r2 r3).2.2.2)) rfl ?_
  exact ⟨k, _, kd, .slice ao n cp, D, pw, HD.out, (H4.out.fail _ _ _ _).drew, .inl ⟨.inl rfl, rfl⟩⟩
 ·by_cases hlt : k < s.size
  ·go_wp2_with (rw [← HW3.out, ← HC.out])
   go_wp2_with fail
   go_region
   go_wp2
   try simp only [Exit.inBlock, Exit.then]
   refine bodyPost_ret (num_results3 rfl _ _ w.heap.size _ _ _ _ rfl (drew_cell (set4_cells r0 r1 r2 r3).1) (drew_cell (set4_cells r0 r1 r2 r3).2.1) (drew_cell (set4_cells r0 r1 r2 r3).2.2.1) (drew_cell (set4_cells r0 r1 r2 r3).2.2.2)) rfl ?_
   exact ⟨k, _, kd, .slice ao n cp, D, pw, HD.out, (H4.out.fail _ _ _ _).drew, .inl ⟨.inr hlt, rfl⟩⟩
  ·have H5 := hid (H4.out.set C 1 (.bool (atB s 0 45)) hC2 HNC.out)
   have r0' := H5.out.res.c0
   have r1' := H5.out.res.c1
   have r2' := H5.out.res.c2
   have r3' := H5.out.res.c3
   go_wp2_with (rw [← HW3.out, ← HC.out])
   go_wp2
   try simp only [Exit.inBlock, Exit.then]
   refine bodyPost_ret (num_results3 rfl _ _ w.heap.size _ _ _ _ rfl (set4_cells r0' r1' r2' r3').1 (set4_cells r0' r1' r2' r3').2.1 (set4_cells r0' r1' r2' r3').2.2.1 (set4_cells r0' r1' r2' r3').2.2.2) rfl ?_
   exact ⟨k, true, kd, .slice ao n cp, D, pw, HD.out, H5.out.fail _ _ _ _, .inr ⟨⟨rfl, hlt⟩, H5.out.done _ _ _ _, fun g hg => by have := H5.out.fresh g hg; omega, rfl⟩⟩
end Go.Proofs.YtbkdaoicnobllabGreatDoor

namespace Go.Proofs.YtbkdaoicnobllabGreatDoor

theorem sgn_notDig {c : Nat} (h : sgn c = true) : isDig c = false := by
 unfold sgn at h; simp at h; rcases h with rfl | rfl <;> rfl
theorem dig_ne {c : Nat} (h : isDig c = true) : c ≠ 46 ∧ c ≠ 101 ∧ c ≠ 120 ∧ c ≠ 105 ∧ c ≠ 110 ∧ c ≠ 45 ∧ c ≠ 43 ∧ c ≠ 112 := by
 unfold isDig at h; simp at h; omega
theorem hexc_ne {c : Nat} (h : isHexc c = true) : c ≠ 46 ∧ c ≠ 112 ∧ c ≠ 120 := by
 unfold isHexc isDig at h; simp at h; omega
theorem first_dig {l : List Nat} {a k1 st0 : Nat} (hp : Path l a st0) (hb : a < l.length → nextS st0 (l.getD a 0) = beginS (l.getD a 0)) (hr : LRun isDig l a k1) (hlt : a < k1) :
  ∃ e, Path l k1 e ∧ ((e = 2 ∧ k1 = a + 1 ∧ l.getD a 0 = 48) ∨ e = 3) := by
 have hal : a < l.length := Nat.lt_of_lt_of_le hlt hr.le
 have hd := hr.all _ (mem_cut (Nat.le_refl a) hlt hr.le)
 have hr2 : LRun isDig l (a + 1) k1 := ⟨hlt, hr.le, fun c hc => hr.all c (by unfold cut at hc ⊢; rw [← List.drop_drop] at hc; exact List.mem_of_mem_drop hc), hr.fin⟩
 have h3 : ∀ c, isDig c = true → nextS 3 c = 3 := fun c hc => by show (if isDig c = true then 3 else _) = 3; rw [if_pos hc]
 by_cases h48 : l.getD a 0 = 48
 ·have p1 : Path l (a + 1) 2 := hp.step hal (by rw [hb hal, h48]; rfl) (by omega)
  rcases Nat.lt_or_ge (a + 1) k1 with g | g
  ·refine ⟨3, p1.run1 (by omega) isDig (fun c hc => ?_) h3 hr2 g, .inr rfl⟩
   show (if c = 120 then 10 else if isDig c = true then 3 else _) = 3
   rw [if_neg (dig_ne hc).2.2.1, if_pos hc]
  ·exact ⟨2, by rw [show k1 = a + 1 from by omega]; exact p1, .inl ⟨rfl, by omega, h48⟩⟩
 ·have p1 : Path l (a + 1) 3 := hp.step hal (by rw [hb hal]; unfold beginS; rw [if_neg h48, if_pos hd]) (by omega)
  exact ⟨3, p1.run (by omega) isDig h3 k1 hlt hr.le hr2.all, .inr rfl⟩
theorem nxs7 (c : Nat) : nextS 7 c = if isDig c = true then 9 else if sgn c = true then 8 else 28 := rfl
theorem nxs8 (c : Nat) : nextS 8 c = if isDig c = true then 9 else 28 := rfl
theorem nxs9 (c : Nat) : nextS 9 c = if isDig c = true then 9 else 28 := rfl
theorem nxs13 (c : Nat) : nextS 13 c = if isDig c = true then 15 else if sgn c = true then 14 else 28 := rfl
theorem nxs14 (c : Nat) : nextS 14 c = if isDig c = true then 15 else 28 := rfl
theorem nxs15 (c : Nat) : nextS 15 c = if isDig c = true then 15 else 28 := rfl

theorem dec_stop {l : List Nat} {a k st0 : Nat} {ok : Bool} {D : List Nat} {pw : Int} (hp : Path l a st0) (hb : a < l.length → nextS st0 (l.getD a 0) = beginS (l.getD a 0)) (he0 : endsB st0 = false)
  (hx : ¬ (a + 1 < l.length ∧ l.getD a 0 = 48 ∧ l.getD (a + 1) 0 = 120)) (hi : a < l.length → l.getD a 0 ≠ 105 ∧ l.getD a 0 ≠ 110) (h : DecRes l a k ok D pw) :
  ∃ st, Stop l k ok st ∧ (ok = true → st = 2 ∨ st = 3 ∨ st = 4 ∨ st = 6 ∨ st = 9) := by
 obtain ⟨k2, X, b, pt, hm, _, hc⟩ := h
 have key : (X = [] ∧ ∃ e, Path l k2 e ∧ endsB e = false ∧ (k2 < l.length → nextS e (l.getD k2 0) = 28)) ∨
   (X ≠ [] ∧ ∃ e, Path l k2 e ∧ endsB e = true ∧ (e = 2 ∨ e = 3 ∨ e = 4 ∨ e = 6) ∧ nextS e 101 = 7 ∧ (k2 < l.length → l.getD k2 0 ≠ 101 → nextS e (l.getD k2 0) = 28)) := by
  rcases hm with ⟨_, hr, h46, hX, _⟩ | ⟨_, k1, hr, hk1, h46, hr2, hX, _⟩
  ·rcases Nat.lt_or_ge a k2 with hlt | hge
   ·refine .inr ⟨by rw [hX]; exact fun h => by have := (cut_nil hr.ge hr.le).1 h; omega, ?_⟩
    obtain ⟨e, p, he⟩ := first_dig hp hb hr hlt
    rcases he with ⟨rfl, hk, h48⟩ | rfl
    ·refine ⟨2, p, rfl, .inl rfl, rfl, fun hl hn => ?_⟩
     show (if l.getD k2 0 = 120 then 10 else if isDig (l.getD k2 0) = true then 3 else if l.getD k2 0 = 46 then 4 else if l.getD k2 0 = 101 then 7 else 28) = 28
     rw [if_neg (fun g => hx ⟨by omega, h48, by rw [← hk]; exact g⟩), hr.fin hl, if_neg (by simp), if_neg (h46 hl), if_neg hn]
    ·refine ⟨3, p, rfl, .inr (.inl rfl), rfl, fun hl hn => ?_⟩
     show (if isDig (l.getD k2 0) = true then 3 else if l.getD k2 0 = 46 then 4 else if l.getD k2 0 = 101 then 7 else 28) = 28
     rw [hr.fin hl, if_neg (by simp), if_neg (h46 hl), if_neg hn]
   ·have hk : k2 = a := Nat.le_antisymm hge hr.ge
    refine .inl ⟨by rw [hX]; exact (cut_nil hr.ge hr.le).2 hk, st0, by rw [hk]; exact hp, he0, fun hl => ?_⟩
    rw [hk] at hl ⊢
    rw [hb hl]
    have hf := hr.fin (by rw [hk]; exact hl)
    have h46' := h46 (by rw [hk]; exact hl)
    rw [hk] at hf h46'
    unfold beginS
    rw [if_neg (fun g => by rw [g] at hf; exact absurd hf (by decide)), hf, if_neg (by simp), if_neg h46', if_neg (hi hl).1, if_neg (hi hl).2]
  ·have six : ∀ c, isDig c = true → nextS 6 c = 6 := fun c hc => by show (if isDig c = true then 6 else _) = 6; rw [if_pos hc]
   rcases Nat.lt_or_ge a k1 with hlt | hge
   ·obtain ⟨e, p, he⟩ := first_dig hp hb hr hlt
    have hne : cut l a k1 ≠ [] := fun h => by have := (cut_nil hr.ge hr.le).1 h; omega
    refine .inr ⟨by rw [hX]; simp [hne], ?_⟩
    have p4 : Path l (k1 + 1) 4 := by
     refine p.step hk1 ?_ (by omega)
     rw [h46]
     rcases he with ⟨rfl, _⟩ | rfl <;> rfl
    rcases Nat.lt_or_ge (k1 + 1) k2 with g | g
    ·have p6 : Path l k2 6 := p4.run1 (by omega) isDig (fun c hc => by show (if isDig c = true then 6 else _) = 6; rw [if_pos hc]) six hr2 g
     refine ⟨6, p6, rfl, .inr (.inr (.inr rfl)), rfl, fun hl hn => ?_⟩
     show (if isDig (l.getD k2 0) = true then 6 else if l.getD k2 0 = 101 then 7 else 28) = 28
     rw [hr2.fin hl, if_neg (by simp), if_neg hn]
    ·have hk : k2 = k1 + 1 := Nat.le_antisymm g hr2.ge
     refine ⟨4, by rw [hk]; exact p4, rfl, .inr (.inr (.inl rfl)), rfl, fun hl hn => ?_⟩
     show (if isDig (l.getD k2 0) = true then 6 else if l.getD k2 0 = 101 then 7 else 28) = 28
     rw [hr2.fin hl, if_neg (by simp), if_neg hn]
   ·have hk1a : k1 = a := Nat.le_antisymm hge hr.ge
    have hc1 : cut l a k1 = [] := (cut_nil hr.ge hr.le).2 hk1a
    have p5 : Path l (k1 + 1) 5 := by
     subst hk1a
     exact hp.step hk1 (by rw [hb hk1, h46]; rfl) (by omega)
    rcases Nat.lt_or_ge (k1 + 1) k2 with g | g
    ·have p6 : Path l k2 6 := p5.run1 (by omega) isDig (fun c hc => by show (if isDig c = true then 6 else _) = 6; rw [if_pos hc]) six hr2 g
     have hne : cut l (k1 + 1) k2 ≠ [] := fun h => by have := (cut_nil hr2.ge hr2.le).1 h; omega
     refine .inr ⟨by rw [hX]; simp [hne], 6, p6, rfl, .inr (.inr (.inr rfl)), rfl, fun hl hn => ?_⟩
     show (if isDig (l.getD k2 0) = true then 6 else if l.getD k2 0 = 101 then 7 else 28) = 28
     rw [hr2.fin hl, if_neg (by simp), if_neg hn]
    ·have hk : k2 = k1 + 1 := Nat.le_antisymm g hr2.ge
     refine .inl ⟨by rw [hX, hc1, (cut_nil hr2.ge hr2.le).2 hk]; rfl, 5, by rw [hk]; exact p5, rfl, fun hl => ?_⟩
     show (if isDig (l.getD k2 0) = true then 6 else 28) = 28
     rw [hr2.fin hl, if_neg (by simp)]
 rcases key with ⟨hX, e, p, h1, h2⟩ | ⟨hX, e, p, h1, h2, h3, h4⟩
 ·rcases hc with ⟨_, g2, g3⟩ | ⟨g1, _⟩ | ⟨g1, _⟩
  ·exact ⟨e, ⟨by rw [g3]; exact p, by rw [g3]; exact h2, by rw [g2, h1]⟩, fun h => by rw [g2] at h; cases h⟩
  ·exact absurd hX g1
  ·exact absurd hX g1
 ·rcases hc with ⟨g1, _⟩ | ⟨_, g2, g3, _, g4⟩ | ⟨_, g2, g3, x, hpw, _⟩
  ·exact absurd g1 hX
  ·refine ⟨e, ⟨by rw [g3]; exact p, by rw [g3]; exact fun hl => h4 hl (g4 hl), by rw [g2, h1]⟩, fun _ => ?_⟩
   rcases h2 with h2 | h2 | h2 | h2
   ·exact .inl h2
   ·exact .inr (.inl h2)
   ·exact .inr (.inr (.inl h2))
   ·exact .inr (.inr (.inr (.inl h2)))
  ·have p7 : Path l (k2 + 1) 7 := p.step g2 (by rw [g3]; exact h3) (by omega)
   obtain ⟨st, s1, s2⟩ := powr_stop 7 8 9 p7 nxs7 nxs8 nxs9 (by omega) (by omega) rfl rfl rfl hpw
   exact ⟨st, s1, fun h => .inr (.inr (.inr (.inr (s2 h))))⟩

theorem hex_stop {l : List Nat} {a k : Nat} {ok : Bool} {D : List Nat} {pw : Int} (hp : Path l a 10) (h : HexRes l a k ok D pw) : ∃ st, Stop l k ok st ∧ (ok = true → st = 15) := by
 have n10 : ∀ c, nextS 10 c = if isHexc c = true then 11 else 28 := fun _ => rfl
 have n11 : ∀ c, nextS 11 c = if isHexc c = true then 11 else if c = 46 then 12 else if c = 112 then 13 else 28 := fun _ => rfl
 have n12 : ∀ c, nextS 12 c = if isHexc c = true then 12 else if c = 112 then 13 else 28 := fun _ => rfl
 rcases h with ⟨hr, hok, hk⟩ | ⟨k2, X, b, pt, hm, ⟨hal, hah⟩, _, hc⟩
 ·subst hk
  exact ⟨10, ⟨hp, fun hl => by rw [n10, hr.fin hl]; rfl, hok⟩, fun h => by rw [hok] at h; cases h⟩
 ·have key : ∃ e, Path l k2 e ∧ endsB e = false ∧ nextS e 112 = 13 ∧ (k2 < l.length → l.getD k2 0 ≠ 112 → nextS e (l.getD k2 0) = 28) := by
   have first : ∀ k1, LRun isHexc l a k1 → a < k1 := fun k1 hr => by
    rcases Nat.lt_or_ge a k1 with g | g
    ·exact g
    ·have hk : k1 = a := Nat.le_antisymm g hr.ge
     have := hr.fin (by omega)
     rw [hk, hah] at this; cases this
   have r11 : ∀ k1, LRun isHexc l a k1 → Path l k1 11 := fun k1 hr => hp.run1 (by omega) isHexc (fun c hc => by rw [n10, if_pos hc]) (fun c hc => by rw [n11, if_pos hc]) hr (first k1 hr)
   rcases hm with ⟨_, hr, h46, _, _⟩ | ⟨_, k1, hr, hk1, h46, hr2, _, _⟩
   ·exact ⟨11, r11 k2 hr, rfl, rfl, fun hl hn => by rw [n11, hr.fin hl, if_neg (by simp), if_neg (h46 hl), if_neg hn]⟩
   ·have p12 : Path l (k1 + 1) 12 := (r11 k1 hr).step hk1 (by rw [h46]; rfl) (by omega)
    exact ⟨12, p12.run (by omega) isHexc (fun c hc => by rw [n12, if_pos hc]) k2 hr2.ge hr2.le hr2.all, rfl, rfl, fun hl hn => by rw [n12, hr2.fin hl, if_neg (by simp), if_neg hn]⟩
  obtain ⟨e, p, h1, h2, h3⟩ := key
  rcases hc with ⟨g1, g2, g3⟩ | ⟨g1, g2, x, hpw, _⟩
  ·exact ⟨e, ⟨by rw [g2]; exact p, by rw [g2]; exact fun hl => h3 hl (g3 hl), by rw [g1, h1]⟩, fun h => by rw [g1] at h; cases h⟩
  ·have p13 : Path l (k2 + 1) 13 := p.step g1 (by rw [g2]; exact h2) (by omega)
   exact powr_stop 13 14 15 p13 nxs13 nxs14 nxs15 (by omega) (by omega) rfl rfl rfl hpw

theorem read_of {l : List Nat} {k st : Nat} {ok : Bool} (h : Stop l k ok st) : ∃ st', ReadSpec l st' k (ok && decide (k = l.length)) ∧ (ok = true → k = l.length → st' = st) := by
 have hle := h.path.le
 rcases Nat.lt_or_ge k l.length with g | g
 ·refine ⟨28, .inl ⟨k, g, h.path.ok, ?_, rfl, rfl, ?_⟩, fun _ hk => by omega⟩
  ·rw [stAt_succ l k g, h.path.st]; exact h.fin g
  ·rw [show decide (k = l.length) = false from by simp; omega]; simp
 ·have hk : k = l.length := Nat.le_antisymm hle g
  refine ⟨st, .inr ⟨fun j hj => h.path.ok j (by omega), ?_, hk, ?_⟩, fun _ _ => rfl⟩
  ·rw [← hk]; exact h.path.st.symm
  ·rw [h.ok, hk]; simp
end Go.Proofs.YtbkdaoicnobllabGreatDoor

namespace Go.Proofs.YtbkdaoicnobllabGreatDoor
set_option maxRecDepth 100000
set_option maxHeartbeats 1000000
open Go.RowKit

theorem FracPost.lift {w w1 w' : World} {e : Ending} {Q Q' : Nat → Nat → Int → Prop} (hb : Below w.heap.size w w1) (h : FracPost (fun k => k < w1.heap.size) w1 w' e Q) (hQ : ∀ V U q, Q V U q → Q' V U q) : FracPost (fun k => k < w.heap.size) w w' e Q' := by
 obtain ⟨p, V, U, q, h1, ⟨bo, bu, h2⟩, h3, h4, h5, h6, h7, h8, h9⟩ := h
 have hs := hb.size
 refine ⟨p, V, U, q, h1, ⟨bo, bu, h2.c0, h2.c1, h2.c2, h2.fz, fun hh => h2.out (by omega), h2.two.set (fun k hk => ?_)⟩, h3, h4, h5, h6, h7, (Below.kept hb (fun _ h => h)).trans (h8.mono (fun k hk => by omega)), hQ _ _ _ h9⟩
 rcases hk with hk | hk
 ·exact .inl (by omega)
 ·exact .inr hk
theorem numB_16 (D : List Nat) : numB 16 D = num16 D := rfl
theorem num_pos_lead {D : List Nat} (h : D.getD 0 0 ≠ 0) : 0 < num D := Nat.lt_of_lt_of_le (Nat.pow_pos (by omega)) (lead_ge h)
theorem num16_pos_lead {D : List Nat} (h : D.getD 0 0 ≠ 0) : 0 < num16 D := Nat.lt_of_lt_of_le (Nat.pow_pos (by omega)) (num16_lead h)
def ExaRes (kd : Int) (D : List Nat) (pw : Int) (V U : Nat) (q : Int) : Prop := (kd = 1 ∧ SameVal (num16 D) 1 pw V U q) ∨ (kd = 0 ∧ DecFrac D pw V U q)

theorem exactly_any (bd cap n : Nat) (D : List Nat) (kd pw : Int) (neg : Bool) (w : World) (hn : D.length = n) (hlen : n ≤ 900) (ho : Own w 0 (.slice (some ⟨bd, 0, none⟩) n cap) D) (hD0 : D.getD 0 0 ≠ 0)
  (hk : (kd = 1 ∧ ∀ d, d ∈ D → d < 16) ∨ (kd = 0 ∧ ∀ d, d ∈ D → d < 10)) (hp1 : -100000000 ≤ pw) (hp2 : pw ≤ 100000000) :
  Calls Tryz.prog 42 #[.agg #[.int .i64 kd, .bool neg, .slice (some ⟨bd, 0, none⟩) n cap, .int .i64 pw]] w fun e w' => FracPost (fun k => k < w.heap.size) w w' e (ExaRes kd D pw) := by
 obtain ⟨w1, hw1⟩ : ∃ w1, w1 = w.alloc (.cells #[.int .i64 kd, .bool neg, .slice (some ⟨bd, 0, none⟩) n cap, .int .i64 pw] 71) := ⟨_, rfl⟩
 have hb : Below w.heap.size w w1 := by rw [hw1]; exact (Below.refl _ _).alloc (Nat.le_refl _) _
 have hcap : n ≤ cap ∧ cap ≤ maxLen := by
  rcases ho.form with ⟨_, h2⟩ | ⟨g', cap', hv, _, _, h3, h4⟩
  ·cases h2
  ·simp only [Value.slice.injEq] at hv
   obtain ⟨_, _, h5⟩ := hv
   omega
 have hbd0 : bd < w.heap.size := ho.lt' bd rfl
 have hbd : bd < w1.heap.size := by have := hb.size; omega
 have hce : ∀ j, j < n → w1.cell? ⟨bd, 0 + j, none⟩ = some (.int .i64 (D.getD j 0 : Nat)) := fun j hj => by
  rw [Nat.zero_add]; exact (hb.cell (p := ⟨bd, j, none⟩) hbd0).trans (ho.cell hn j hj)
 have k0 : w1.cell? ⟨w.heap.size, 0, none⟩ = some (.int .i64 kd) := by rw [hw1]; simp [go_sem]
 have k2 : w1.cell? ⟨w.heap.size, 2, none⟩ = some (.slice (some ⟨bd, 0, none⟩) n cap) := by rw [hw1]; simp [go_sem]
 have k3 : w1.cell? ⟨w.heap.size, 3, none⟩ = some (.int .i64 pw) := by rw [hw1]; simp [go_sem]
 have HW := hid hw1
 have HB := hid hb
 have HX : Hid (Calls Tryz.prog (if kd = 1 then 64 else 65) #[.slice (some ⟨bd, 0, none⟩) n cap, .int .i64 pw] w1 fun e w' => FracPost (fun k => k < w.heap.size) w w' e (ExaRes kd D pw)) := by
  unfold Hid
  rcases hk with ⟨rfl, hk⟩ | ⟨rfl, hk⟩
  ·rw [if_pos rfl]
   refine (fromHex_any bd 0 cap n D pw w1 hn hlen hcap.1 hcap.2 hbd hce hk (by rw [numB_16]; exact num16_pos_lead hD0) hp1 hp2).mono ?_
   exact fun e w' h => h.lift hb (fun V U q hq => .inl ⟨rfl, hq⟩)
  ·rw [if_neg (by decide)]
   by_cases hf : 400 < pw + n - 1 ∨ pw + n - 1 < -400
   ·refine (fromDecimal_far bd 0 cap n pw w1 hlen hp1 hp2 hf).mono ?_
    refine fun e w' h => h.lift hb (fun V U q hq => .inr ⟨rfl, ?_⟩)
    obtain ⟨_, _, hq⟩ := hq
    by_cases h4 : 400 < pw + n - 1
    ·rw [if_pos h4] at hq; exact .inl ⟨by rw [hn]; exact h4, hq⟩
    ·rw [if_neg h4] at hq; exact .inr (.inl ⟨by rw [hn]; omega, hq⟩)
   ·refine (fromDecimal_near bd 0 cap n D pw w1 hn hlen hcap.1 hcap.2 hbd hce hk (by rw [numB_num]; exact num_pos_lead hD0) (by omega) (by omega)).mono ?_
    refine fun e w' h => h.lift hb (fun V U q hq => .inr ⟨rfl, .inr (.inr ⟨by rw [hn]; omega, by rw [hn]; omega, ?_⟩)⟩)
    rw [numB_num] at hq; exact hq
 clear ho hce hw1 hb hn
 go_enter Tryz.func42, Tryz.ntmps42
 rcases hk with ⟨rfl, hk⟩ | ⟨rfl, hk⟩
 ·rw [if_pos rfl] at HX
  go_wp2_with (rw [← HW.out])
  go_wp2_with fail
  refine HX.out.mono ?_
  rintro e w' ⟨p, V, U, q, rfl, h⟩
  have H := hid h
  clear h HX
  go_wp2
  go_ret
  exact ⟨p, V, U, q, rfl, H.out⟩
 ·rw [if_neg (by decide)] at HX
  go_wp2_with (rw [← HW.out])
  go_wp2_with fail
  refine HX.out.mono ?_
  rintro e w' ⟨p, V, U, q, rfl, h⟩
  have H := hid h
  clear h HX
  go_wp2
  go_ret
  exact ⟨p, V, U, q, rfl, H.out⟩

theorem amt0 (mode : Int) (neg : Bool) (V U : Nat) (q : Int) : amtOf 0 mode neg V U q = roundP 15 1024 31744 mode neg (lowPair 10 15 1024 31744 V U q).1 (lowPair 10 15 1024 31744 V U q).2 q := rfl
theorem amt1 (mode : Int) (neg : Bool) (V U : Nat) (q : Int) : amtOf 1 mode neg V U q = roundP 127 8388608 2139095040 mode neg (lowPair 23 127 8388608 2139095040 V U q).1 (lowPair 23 127 8388608 2139095040 V U q).2 q := rfl
theorem amt2 (mode : Int) (neg : Bool) (V U : Nat) (q : Int) : amtOf 2 mode neg V U q = roundP 1023 4503599627370496 9218868437227405312 mode neg (lowPair 52 1023 4503599627370496 9218868437227405312 V U q).1 (lowPair 52 1023 4503599627370496 9218868437227405312 V U q).2 q := rfl
theorem amount_any (f : Int) (hf : 0 ≤ f ∧ f ≤ 2) (S : Nat → Prop) (p bo bu V U : Nat) (pw mode : Int) (neg : Bool) (w : World) (h : FracAt S w p bo bu V U pw 8000) (hVU : V < 2 * U) (hp1 : -110000000 ≤ pw) (hp2 : pw ≤ 110000000) :
  Calls Tryz.prog 43 #[.pointer (some ⟨p, 0, none⟩), layOf f, .bool neg, .int .i64 mode] w fun e w' => e = .returned (.tuple #[.int .i64 (amtOf f mode neg V U pw).1, .int .i64 (amtOf f mode neg V U pw).2]) ∧ Kept S w w' := by
 rcases (by omega : f = 0 ∨ f = 1 ∨ f = 2) with rfl | rfl | rfl
 ·rw [amt0]; exact amount0 S p bo bu V U pw mode neg w h hVU hp1 hp2
 ·rw [amt1]; exact amount1 S p bo bu V U pw mode neg w h hVU hp1 hp2
 ·rw [amt2]; exact amount2 S p bo bu V U pw mode neg w h hVU hp1 hp2
theorem amt_bd {f mode : Int} {neg : Bool} {V U : Nat} {q : Int} (hf : Fmt f) (hVU : V < 2 * U) : 0 ≤ (amtOf f mode neg V U q).1 ∧ (amtOf f mode neg V U q).1 ≤ infN f := by
 have hb := hf.b1
 obtain ⟨h1, h2, _⟩ := lowPair_bd (fQ f) (fB f) ((2 ^ fQ f : Nat) : Int) (infN f) V U q rfl hf.i (by omega) hVU
 unfold amtOf roundP
 generalize (lowPair (fQ f) (fB f) ((2 ^ fQ f : Nat) : Int) (infN f) V U q).1 = lo at *
 generalize (lowPair (fQ f) (fB f) ((2 ^ fQ f : Nat) : Int) (infN f) V U q).2 = re at *
 split
 ·exact ⟨h1, by show lo ≤ _; omega⟩
 ·split
  ·exact ⟨by show 0 ≤ lo + 1; omega, by show lo + 1 ≤ _; omega⟩
  ·exact ⟨h1, by show lo ≤ _; omega⟩
theorem infN_max (f : Int) : (infN f : Int) ≤ 9218868437227405312 := by unfold infN; split <;> (try split) <;> decide
theorem lay_form (f : Int) (hf : 0 ≤ f ∧ f ≤ 2) : ∃ F B N G : Int, layOf f = layV F B N (infN f) G := by
 rcases (by omega : f = 0 ∨ f = 1 ∨ f = 2) with rfl | rfl | rfl
 ·exact ⟨_, _, _, _, rfl⟩
 ·exact ⟨_, _, _, _, rfl⟩
 ·exact ⟨_, _, _, _, rfl⟩
def PatRes (f mode : Int) (neg : Bool) (kd : Int) (D : List Nat) (pw : Int) (bts fl : Int) : Prop :=
 (kd = 3 ∧ bts = nanP f ∧ fl = 0) ∨ (kd = 2 ∧ bts = signedV f neg (infN f) ∧ fl = 0) ∨
 ((kd = 0 ∨ kd = 1) ∧ D = [] ∧ bts = signedV f neg 0 ∧ fl = 0) ∨
 ((kd = 0 ∨ kd = 1) ∧ D ≠ [] ∧ ∃ V U q, U ≤ V ∧ V < 2 * U ∧ ExaRes kd D pw V U q ∧ bts = signedV f neg (amtOf f mode neg V U q).1 ∧ fl = (amtOf f mode neg V U q).2)
def PatPost (w w' : World) (f mode : Int) (neg : Bool) (kd : Int) (D : List Nat) (pw : Int) (e : Ending) : Prop :=
 ∃ bts fl : Int, e = .returned (.tuple #[.int .i64 bts, .int .i64 fl]) ∧ Below w.heap.size w w' ∧ PatRes f mode neg kd D pw bts fl
end Go.Proofs.YtbkdaoicnobllabGreatDoor

namespace Go.Proofs.YtbkdaoicnobllabGreatDoor
set_option maxRecDepth 100000
set_option maxHeartbeats 2000000
open Go.RowKit

theorem patternOf_word (f mode kd pw : Int) (neg : Bool) (ao : Option Addr) (n cp : Nat) (D : List Nat) (w : World) (hf : 0 ≤ f ∧ f ≤ 2) (hk : kd = 2 ∨ kd = 3) :
  Calls Tryz.prog 33 #[.agg #[.int .i64 kd, .bool neg, .slice ao n cp, .int .i64 pw], layOf f, .int .i64 mode] w fun e w' => PatPost w w' f mode neg kd D pw e := by
 obtain ⟨F, B, N, G, hlay⟩ := lay_form f hf
 obtain ⟨I, hI⟩ : ∃ I : Int, I = infN f := ⟨_, rfl⟩
 rw [← hI] at hlay
 obtain ⟨w1, hw1⟩ : ∃ w1, w1 = (w.alloc (.cells #[.int .i64 kd, .bool neg, .slice ao n cp, .int .i64 pw] 71)).alloc (.cells #[.int .i64 F, .int .i64 B, .int .i64 N, .int .i64 I, .int .i64 G] 63) := ⟨_, rfl⟩
 have HB : Hid (Below w.heap.size w w1) := by unfold Hid; rw [hw1]; exact box4_below
 have hsz : w1.heap.size = w.heap.size + 2 := by rw [hw1]; simp
 have m0 : w1.cell? ⟨w.heap.size, 0, none⟩ = some (.int .i64 kd) := by rw [hw1]; simp [go_sem]
 have m1 : w1.cell? ⟨w.heap.size, 1, none⟩ = some (.bool neg) := by rw [hw1]; simp [go_sem]
 have m2 : w1.cell? ⟨w.heap.size, 2, none⟩ = some (.slice ao n cp) := by rw [hw1]; simp [go_sem]
 have m3 : w1.cell? ⟨w.heap.size, 3, none⟩ = some (.int .i64 pw) := by rw [hw1]; simp [go_sem]
 have l0 : w1.cell? ⟨w.heap.size + 1, 0, none⟩ = some (.int .i64 F) := by rw [hw1]; simp [go_sem]
 have l1 : w1.cell? ⟨w.heap.size + 1, 1, none⟩ = some (.int .i64 B) := by rw [hw1]; simp [go_sem]
 have l2 : w1.cell? ⟨w.heap.size + 1, 2, none⟩ = some (.int .i64 N) := by rw [hw1]; simp [go_sem]
 have l3 : w1.cell? ⟨w.heap.size + 1, 3, none⟩ = some (.int .i64 I) := by rw [hw1]; simp [go_sem]
 have l4 : w1.cell? ⟨w.heap.size + 1, 4, none⟩ = some (.int .i64 G) := by rw [hw1]; simp [go_sem]
 have HW := hid hw1
 have HX3 := hid (patNaN_any f hf.1 hf.2 w1)
 have HX2 := hid (patSigned_any f I neg hf.1 hf.2 (by omega) (by have := infN_max f; omega) w1)
 have HI := hid hI
 rw [hlay] at HX3 HX2 ⊢
 unfold layV at HX3 HX2 ⊢
 clear hw1 hlay hI
 go_enter Tryz.func33, Tryz.ntmps33
 rcases hk with rfl | rfl
 ·go_wp2_with (rw [← HW.out])
  go_wp2_with fail
  refine HX2.out.mono ?_
  rintro e w2 ⟨rfl, h2⟩
  have HB2 := hid (HB.out.trans (h2.mono (by omega)))
  clear HX2 HX3 h2
  go_wp2
  go_ret2
  exact ⟨_, _, rfl, HB2.out, .inr (.inl ⟨rfl, by rw [← HI.out], rfl⟩)⟩
 ·go_wp2_with (rw [← HW.out])
  go_wp2_with fail
  refine HX3.out.mono ?_
  rintro e w2 ⟨rfl, h2⟩
  have HB2 := hid (HB.out.trans (h2.mono (by omega)))
  clear HX2 HX3 h2
  go_wp2
  go_ret2
  exact ⟨_, _, rfl, HB2.out, .inl ⟨rfl, rfl, rfl⟩⟩

theorem patternOf_zero (f mode kd pw : Int) (neg : Bool) (ao : Option Addr) (cp : Nat) (w : World) (hf : 0 ≤ f ∧ f ≤ 2) (hk : kd = 0 ∨ kd = 1) :
  Calls Tryz.prog 33 #[.agg #[.int .i64 kd, .bool neg, .slice ao 0 cp, .int .i64 pw], layOf f, .int .i64 mode] w fun e w' => PatPost w w' f mode neg kd [] pw e := by
 obtain ⟨F, B, N, G, hlay⟩ := lay_form f hf
 obtain ⟨I, hI⟩ : ∃ I : Int, I = infN f := ⟨_, rfl⟩
 rw [← hI] at hlay
 obtain ⟨w1, hw1⟩ : ∃ w1, w1 = (w.alloc (.cells #[.int .i64 kd, .bool neg, .slice ao 0 cp, .int .i64 pw] 71)).alloc (.cells #[.int .i64 F, .int .i64 B, .int .i64 N, .int .i64 I, .int .i64 G] 63) := ⟨_, rfl⟩
 have HB : Hid (Below w.heap.size w w1) := by unfold Hid; rw [hw1]; exact box4_below
 have hsz : w1.heap.size = w.heap.size + 2 := by rw [hw1]; simp
 have m0 : w1.cell? ⟨w.heap.size, 0, none⟩ = some (.int .i64 kd) := by rw [hw1]; simp [go_sem]
 have m1 : w1.cell? ⟨w.heap.size, 1, none⟩ = some (.bool neg) := by rw [hw1]; simp [go_sem]
 have m2 : w1.cell? ⟨w.heap.size, 2, none⟩ = some (.slice ao 0 cp) := by rw [hw1]; simp [go_sem]
 have m3 : w1.cell? ⟨w.heap.size, 3, none⟩ = some (.int .i64 pw) := by rw [hw1]; simp [go_sem]
 have l0 : w1.cell? ⟨w.heap.size + 1, 0, none⟩ = some (.int .i64 F) := by rw [hw1]; simp [go_sem]
 have l1 : w1.cell? ⟨w.heap.size + 1, 1, none⟩ = some (.int .i64 B) := by rw [hw1]; simp [go_sem]
 have l2 : w1.cell? ⟨w.heap.size + 1, 2, none⟩ = some (.int .i64 N) := by rw [hw1]; simp [go_sem]
 have l3 : w1.cell? ⟨w.heap.size + 1, 3, none⟩ = some (.int .i64 I) := by rw [hw1]; simp [go_sem]
 have l4 : w1.cell? ⟨w.heap.size + 1, 4, none⟩ = some (.int .i64 G) := by rw [hw1]; simp [go_sem]
 have HW := hid hw1
 have HX2 := hid (patSigned_any f 0 neg hf.1 hf.2 (by omega) (by omega) w1)
 have HK := hid hk
 rw [hlay] at HX2 ⊢
 unfold layV at HX2 ⊢
 have t3 : (kd == 3) = false := by simp; omega
 have t2 : (kd == 2) = false := by simp; omega
 clear hw1 hlay hI hk
 go_enter Tryz.func33, Tryz.ntmps33
 go_wp2_with (rw [← HW.out])
 go_wp2_with fail
 refine HX2.out.mono ?_
 rintro e w2 ⟨rfl, h2⟩
 have HB2 := hid (HB.out.trans (h2.mono (by omega)))
 clear HX2 h2
 go_wp2
 go_ret2
 exact ⟨_, _, rfl, HB2.out, .inr (.inr (.inl ⟨HK.out, rfl, rfl, rfl⟩))⟩

theorem patternOf_num (f mode kd pw : Int) (neg : Bool) (bd n cp : Nat) (D : List Nat) (w : World) (hf : 0 ≤ f ∧ f ≤ 2) (hn : D.length = n) (hlen : n ≤ 900) (ho : Own w 0 (.slice (some ⟨bd, 0, none⟩) n cp) D) (hD0 : D.getD 0 0 ≠ 0)
  (hk : (kd = 1 ∧ ∀ d, d ∈ D → d < 16) ∨ (kd = 0 ∧ ∀ d, d ∈ D → d < 10)) (hp1 : -100000000 ≤ pw) (hp2 : pw ≤ 100000000) :
  Calls Tryz.prog 33 #[.agg #[.int .i64 kd, .bool neg, .slice (some ⟨bd, 0, none⟩) n cp, .int .i64 pw], layOf f, .int .i64 mode] w fun e w' => PatPost w w' f mode neg kd D pw e := by
 obtain ⟨F, B, N, G, hlay⟩ := lay_form f hf
 obtain ⟨I, hI⟩ : ∃ I : Int, I = infN f := ⟨_, rfl⟩
 rw [← hI] at hlay
 obtain ⟨w1, hw1⟩ : ∃ w1, w1 = (w.alloc (.cells #[.int .i64 kd, .bool neg, .slice (some ⟨bd, 0, none⟩) n cp, .int .i64 pw] 71)).alloc (.cells #[.int .i64 F, .int .i64 B, .int .i64 N, .int .i64 I, .int .i64 G] 63) := ⟨_, rfl⟩
 have HB : Hid (Below w.heap.size w w1) := by unfold Hid; rw [hw1]; exact box4_below
 have hsz : w1.heap.size = w.heap.size + 2 := by rw [hw1]; simp
 have m0 : w1.cell? ⟨w.heap.size, 0, none⟩ = some (.int .i64 kd) := by rw [hw1]; simp [go_sem]
 have m1 : w1.cell? ⟨w.heap.size, 1, none⟩ = some (.bool neg) := by rw [hw1]; simp [go_sem]
 have m2 : w1.cell? ⟨w.heap.size, 2, none⟩ = some (.slice (some ⟨bd, 0, none⟩) n cp) := by rw [hw1]; simp [go_sem]
 have m3 : w1.cell? ⟨w.heap.size, 3, none⟩ = some (.int .i64 pw) := by rw [hw1]; simp [go_sem]
 have l0 : w1.cell? ⟨w.heap.size + 1, 0, none⟩ = some (.int .i64 F) := by rw [hw1]; simp [go_sem]
 have l1 : w1.cell? ⟨w.heap.size + 1, 1, none⟩ = some (.int .i64 B) := by rw [hw1]; simp [go_sem]
 have l2 : w1.cell? ⟨w.heap.size + 1, 2, none⟩ = some (.int .i64 N) := by rw [hw1]; simp [go_sem]
 have l3 : w1.cell? ⟨w.heap.size + 1, 3, none⟩ = some (.int .i64 I) := by rw [hw1]; simp [go_sem]
 have l4 : w1.cell? ⟨w.heap.size + 1, 4, none⟩ = some (.int .i64 G) := by rw [hw1]; simp [go_sem]
 have HW := hid hw1
 have hn0 : 0 < n := by
  rcases Nat.eq_zero_or_pos n with h0 | h0
  ·rw [h0] at hn; rw [List.length_eq_zero_iff.1 hn] at hD0; simp at hD0
  ·exact h0
 have HD : Hid (D ≠ []) := fun h => by rw [h] at hn; simp at hn; omega
 have HX := hid (exactly_any bd cp n D kd pw neg w1 hn hlen (ho.below HB.out (Nat.le_refl _)) hD0 hk hp1 hp2)
 have HK : Hid (kd = 0 ∨ kd = 1) := by
  rcases hk with ⟨h, _⟩ | ⟨h, _⟩
  ·exact .inr h
  ·exact .inl h
 have t3 : (kd == 3) = false := by have := HK.out; simp; omega
 have t2 : (kd == 2) = false := by have := HK.out; simp; omega
 have t0 : ((n : Int) == 0) = false := by simp; omega
 have HL := hid hlay
 rw [hlay]
 unfold layV
 clear hw1 hI hk ho hlay hn
 go_enter Tryz.func33, Tryz.ntmps33
 go_wp2_with (rw [← HW.out])
 go_wp2_with fail
 refine HX.out.mono ?_
 rintro e w2 ⟨p, V, U, q, rfl, ⟨bo, bu, hfr⟩, hUV, hVU, hU, hq1, hq2, hkp, hex⟩
 have HE := hid hex
 have HUV := hid (And.intro hUV hVU)
 have HXA := hid (amount_any f hf _ p bo bu V U q mode neg w2 hfr hVU hq1 hq2)
 obtain ⟨A, hA⟩ : ∃ A, A = (amtOf f mode neg V U q).1 := ⟨_, rfl⟩
 obtain ⟨fl, hfl⟩ : ∃ fl, fl = (amtOf f mode neg V U q).2 := ⟨_, rfl⟩
 have hbd := amt_bd (mode := mode) (neg := neg) (q := q) (fmt_of hf) hVU
 rw [← hA] at hbd
 rw [← hA, ← hfl, HL.out] at HXA
 unfold layV at HXA
 have HAF := hid (And.intro hA hfl)
 have HKP := hid hkp
 have o1 := hkp.cell m1 (show w.heap.size < w1.heap.size by omega)
 have x0 := hkp.cell l0 (show w.heap.size + 1 < w1.heap.size by omega)
 have x1 := hkp.cell l1 (show w.heap.size + 1 < w1.heap.size by omega)
 have x2 := hkp.cell l2 (show w.heap.size + 1 < w1.heap.size by omega)
 have x3 := hkp.cell l3 (show w.heap.size + 1 < w1.heap.size by omega)
 have x4 := hkp.cell l4 (show w.heap.size + 1 < w1.heap.size by omega)
 clear HX hfr hUV hVU hU hkp hex hA hfl m0 m1 m2 m3 l0 l1 l2 l3 l4
 go_wp2_with fail
 refine HXA.out.mono ?_
 rintro e w3 ⟨rfl, hk3⟩
 have HKP3 := hid (HKP.out.trans hk3)
 have HXS := hid (patSigned_any f A neg hf.1 hf.2 hbd.1 (Int.le_trans hbd.2 (infN_max f)) w3)
 rw [HL.out] at HXS
 unfold layV at HXS
 have y1 := hk3.cell o1 (show w.heap.size < w1.heap.size by omega)
 have z0 := hk3.cell x0 (show w.heap.size + 1 < w1.heap.size by omega)
 have z1 := hk3.cell x1 (show w.heap.size + 1 < w1.heap.size by omega)
 have z2 := hk3.cell x2 (show w.heap.size + 1 < w1.heap.size by omega)
 have z3 := hk3.cell x3 (show w.heap.size + 1 < w1.heap.size by omega)
 have z4 := hk3.cell x4 (show w.heap.size + 1 < w1.heap.size by omega)
 clear HXA hk3 o1 x0 x1 x2 x3 x4 hbd HKP
 go_wp2_with fail
 refine HXS.out.mono ?_
 rintro e w4 ⟨rfl, h4⟩
 have HB4 : Hid (Below w.heap.size w w4) := HB.out.trans ((HKP3.out.below (Nat.le_refl _)).trans (h4.mono HKP3.out.size) |>.mono (by omega))
 clear HXS h4
 go_wp2
 go_ret2
 exact ⟨_, _, rfl, HB4.out, .inr (.inr (.inr ⟨HK.out, HD.out, V, U, q, HUV.out.1, HUV.out.2, HE.out, by rw [← HAF.out.1], HAF.out.2⟩))⟩
end Go.Proofs.YtbkdaoicnobllabGreatDoor
