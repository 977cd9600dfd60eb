import Derived.Test.YtbkdaoicnobllabGreatDoorG32

namespace Go.Proofs.YtbkdaoicnobllabGreatDoor
set_option maxRecDepth 100000
set_option maxHeartbeats 4000000
open Go.RowKit

theorem num_results {fn : Func} {p q : Tmp} (h : fn.results = #[.cell p 71, .tmp q]) (tmps : Array Value) (w : World) (B : Nat) (x0 x1 x2 x3 : Value) (hp : tmps.getD p undef = .pointer (some ⟨B, 0, none⟩))
  (c0 : w.cell? ⟨B, 0, none⟩ = some x0) (c1 : w.cell? ⟨B, 1, none⟩ = some x1) (c2 : w.cell? ⟨B, 2, none⟩ = some x2) (c3 : w.cell? ⟨B, 3, none⟩ = some x3) : (results fn tmps).run Tryz.prog w = .ok (.tuple #[.agg #[x0, x1, x2, x3], tmps.getD q undef]) w := by
 have hp' : tmps[p]?.getD undef = .pointer (some ⟨B, 0, none⟩) := by rw [← Array.getD_eq_getD_getElem?]; exact hp
 simp [results, h, hp', go_sem, c0, c1, c2, c3]
def set4 (w : World) (B : Nat) (x0 x1 x2 x3 : Value) : World := (((w.setCell ⟨B, 0, none⟩ x0).setCell ⟨B, 1, none⟩ x1).setCell ⟨B, 2, none⟩ x2).setCell ⟨B, 3, none⟩ x3
theorem set4_cells {w : World} {B : Nat} {x0 x1 x2 x3 y0 y1 y2 y3 : Value} (c0 : w.cell? ⟨B, 0, none⟩ = some y0) (c1 : w.cell? ⟨B, 1, none⟩ = some y1) (c2 : w.cell? ⟨B, 2, none⟩ = some y2) (c3 : w.cell? ⟨B, 3, none⟩ = some y3) :
  (set4 w B x0 x1 x2 x3).cell? ⟨B, 0, none⟩ = some x0 ∧ (set4 w B x0 x1 x2 x3).cell? ⟨B, 1, none⟩ = some x1 ∧ (set4 w B x0 x1 x2 x3).cell? ⟨B, 2, none⟩ = some x2 ∧ (set4 w B x0 x1 x2 x3).cell? ⟨B, 3, none⟩ = some x3 := by
 unfold set4
 refine ⟨?_, ?_, ?_, ?_⟩
 ·rw [World.cell?_setCell_other _ _ _ _ (by simp), World.cell?_setCell_other _ _ _ _ (by simp), World.cell?_setCell_other _ _ _ _ (by simp)]; exact World.cell?_setCell_same' _ _ _ (by rw [c0]; rfl)
 ·rw [World.cell?_setCell_other _ _ _ _ (by simp), World.cell?_setCell_other _ _ _ _ (by simp)]; exact World.cell?_setCell_same' _ _ _ (by rw [World.cell?_setCell_other _ _ _ _ (by simp), c1]; rfl)
 ·rw [World.cell?_setCell_other _ _ _ _ (by simp)]; exact World.cell?_setCell_same' _ _ _ (by rw [World.cell?_setCell_other _ _ _ _ (by simp), World.cell?_setCell_other _ _ _ _ (by simp), c2]; rfl)
 ·exact World.cell?_setCell_same' _ _ _ (by rw [World.cell?_setCell_other _ _ _ _ (by simp), World.cell?_setCell_other _ _ _ _ (by simp), World.cell?_setCell_other _ _ _ _ (by simp), c3]; rfl)
theorem set4_heap {w : World} {B k : Nat} {x0 x1 x2 x3 : Value} (h : k ≠ B) : (set4 w B x0 x1 x2 x3).heap[k]? = w.heap[k]? := by
 unfold set4
 rw [Below.heap_setCell _ _ _ _ h, Below.heap_setCell _ _ _ _ h, Below.heap_setCell _ _ _ _ h, Below.heap_setCell _ _ _ _ h]
theorem Turn.fresh4 {S : Nat → Prop} {w w1 : World} (h : Turn S w w1) {B : Nat} (hB : w.heap.size ≤ B) (x0 x1 x2 x3 : Value) : Turn S w (set4 w1 B x0 x1 x2 x3) := by
 refine ⟨h.os, h.tape, h.output, by simpa [set4, World.setCell] using h.size, fun k hk hn => ?_⟩
 rw [set4_heap (by omega)]; exact h.block k hk hn
structure Res4 (w : World) (B : Nat) : Prop where
 c0 : w.cell? ⟨B, 0, none⟩ = some (.int .i64 0)
 c1 : w.cell? ⟨B, 1, none⟩ = some (.bool false)
 c2 : w.cell? ⟨B, 2, none⟩ = some (.slice none 0 0)
 c3 : w.cell? ⟨B, 3, none⟩ = some (.int .i64 0)
 f0 : w.frozen? ⟨B, 0, none⟩ = false
 f1 : w.frozen? ⟨B, 1, none⟩ = false
 f2 : w.frozen? ⟨B, 2, none⟩ = false
 f3 : w.frozen? ⟨B, 3, none⟩ = false
theorem Res4.heap {w w1 : World} {B : Nat} (h : Res4 w B) (hh : w1.heap[B]? = w.heap[B]?) : Res4 w1 B := by
 have c : ∀ i, w1.cell? ⟨B, i, none⟩ = w.cell? ⟨B, i, none⟩ := fun i => World.cell?_of_block hh
 have f : ∀ i, w1.frozen? ⟨B, i, none⟩ = w.frozen? ⟨B, i, none⟩ := fun i => World.frozen?_of_block hh
 exact ⟨by rw [c]; exact h.c0, by rw [c]; exact h.c1, by rw [c]; exact h.c2, by rw [c]; exact h.c3, by rw [f]; exact h.f0, by rw [f]; exact h.f1, by rw [f]; exact h.f2, by rw [f]; exact h.f3⟩
structure SPost (w w' : World) (b : Nat) (s : ByteArray) (kd pw : Int) (k : Nat) (v : Value) (L : List Nat) : Prop where
 rdr : RdrAt w' b s k
 num : NumAt w' (w.heap.size + 1) kd v L pw
 res : Res4 w' w.heap.size
 lt : b < w.heap.size
 fresh : ∀ g, v.ownBlock = some g → w.heap.size + 2 ≤ g
 size : w.heap.size + 2 ≤ w'.heap.size
 turn : Turn (fun j => j = b) w w'
theorem SPost.self {w w' : World} {b k : Nat} {s : ByteArray} {kd pw : Int} {v : Value} {L : List Nat} (h : SPost w w' b s kd pw k v L) : DPost w' w' b (w.heap.size + 1) s kd pw v k v L :=
 ⟨h.rdr, h.num, fun e => by have := h.fresh _ e; have := h.lt; omega, by have := h.lt; omega, Turn.refl _ _, .inl rfl⟩
theorem SPost.digs {w w1 w2 : World} {b k k' : Nat} {s : ByteArray} {kd pw : Int} {v v' : Value} {L L' : List Nat} (h : SPost w w1 b s kd pw k v L) (d : DPost w1 w2 b (w.heap.size + 1) s kd pw v k' v' L') : SPost w w2 b s kd pw k' v' L' := by
 have hl := h.lt
 have hz := h.size
 refine ⟨d.rdr, d.num, h.res.heap (d.turn.block _ (by omega) (fun e => ?_)), hl, fun g hg => ?_, by have := d.turn.size; omega, h.turn.trans d.turn (fun j hj e => ?_)⟩
 ·rcases e with e | e | e
  ·omega
  ·omega
  ·have := h.fresh _ e; omega
 ·rcases d.blk with e | ⟨x, e1, e2⟩
  ·exact h.fresh g (by rw [← e]; exact hg)
  ·rw [e1] at hg; cases hg; omega
 ·rcases e with e | e | e
  ·exact e
  ·omega
  ·have := h.fresh _ e; omega
theorem SPost.pass {w w1 w2 : World} {b k k' : Nat} {s : ByteArray} {kd pw : Int} {v : Value} {L : List Nat} (h : SPost w w1 b s kd pw k v L) (r : RPost w1 w2 b s k') : SPost w w2 b s kd pw k' v L := by
 have hl := h.lt
 have hz := h.size
 have hh : ∀ x, x < w1.heap.size → x ≠ b → w2.heap[x]? = w1.heap[x]? := fun x hx hn => r.turn.block x hx hn
 have hN := hh (w.heap.size + 1) (by omega) (by omega)
 have c : ∀ i, w2.cell? ⟨w.heap.size + 1, i, none⟩ = w1.cell? ⟨w.heap.size + 1, i, none⟩ := fun i => World.cell?_of_block hN
 have f : ∀ i, w2.frozen? ⟨w.heap.size + 1, i, none⟩ = w1.frozen? ⟨w.heap.size + 1, i, none⟩ := fun i => World.frozen?_of_block hN
 refine ⟨r.rdr, ⟨by rw [c]; exact h.num.c0, by rw [c]; exact h.num.c1, by rw [c]; exact h.num.c2, by rw [c]; exact h.num.c3, by rw [f]; exact h.num.f2, by rw [f]; exact h.num.f3, h.num.own.heap (fun g hg => hh g ?_ ?_), h.num.apart⟩, h.res.heap (hh _ (by omega) (by omega)), hl, h.fresh, by have := r.turn.size; omega, h.turn.trans r.turn (fun _ _ e => e)⟩
 ·rcases h.num.own.form with ⟨_, e⟩ | ⟨g', cap, e, _, e2, _⟩
  ·rw [e] at hg; cases hg
  ·rw [e] at hg; cases hg; exact e2
 ·have := h.fresh g hg; omega
theorem SPost.pow {w w1 : World} {b k : Nat} {s : ByteArray} {kd pw : Int} {v : Value} {L : List Nat} (h : SPost w w1 b s kd pw k v L) (p : Int) : SPost w (w1.setCell ⟨w.heap.size + 1, 3, none⟩ (.int .i64 p)) b s kd p k v L := by
 have hl := h.lt
 have hz := h.size
 have hh : ∀ x, x ≠ w.heap.size + 1 → (w1.setCell ⟨w.heap.size + 1, 3, none⟩ (.int .i64 p)).heap[x]? = w1.heap[x]? := fun x hn => Below.heap_setCell _ _ _ _ hn
 have fr : ∀ x i, (w1.setCell ⟨w.heap.size + 1, 3, none⟩ (.int .i64 p)).frozen? ⟨x, i, none⟩ = w1.frozen? ⟨x, i, none⟩ := fun x i => by simp [go_sem]
 refine ⟨⟨?_, ?_, by rw [fr]; exact h.rdr.fz⟩, ⟨?_, ?_, ?_, ?_, by rw [fr]; exact h.num.f2, by rw [fr]; exact h.num.f3, h.num.own.heap (fun g hg => hh g (fun e => h.num.apart (by rw [hg, e]))), h.num.apart⟩, h.res.heap (hh _ (by omega)), hl, h.fresh, by simpa [World.setCell] using hz, ?_⟩
 ·rw [World.cell?_setCell_other _ _ _ _ (by simp <;> omega)]; exact h.rdr.c0
 ·rw [World.cell?_setCell_other _ _ _ _ (by simp <;> omega)]; exact h.rdr.c1
 ·rw [World.cell?_setCell_other _ _ _ _ (by simp)]; exact h.num.c0
 ·rw [World.cell?_setCell_other _ _ _ _ (by simp)]; exact h.num.c1
 ·rw [World.cell?_setCell_other _ _ _ _ (by simp)]; exact h.num.c2
 ·exact World.cell?_setCell_same' _ _ _ (by rw [h.num.c3]; rfl)
 ·refine ⟨h.turn.os, h.turn.tape, h.turn.output, by simpa [World.setCell] using h.turn.size, fun x hx hn => ?_⟩
  rw [hh x (by omega)]; exact h.turn.block x hx hn
structure NPost (w w' : World) (b : Nat) (s : ByteArray) (k : Nat) (v : Value) (L : List Nat) : Prop where
 rdr : RdrAt w' b s k
 own : Own w' 0 v L
 fresh : ∀ g, v.ownBlock = some g → w.heap.size ≤ g
 turn : Turn (fun j => j = b) w w'
theorem SPost.out {w w1 : World} {b k : Nat} {s : ByteArray} {kd pw : Int} {v : Value} {L : List Nat} (h : SPost w w1 b s kd pw k v L) (x0 x1 x2 x3 : Value) : NPost w (set4 w1 w.heap.size x0 x1 x2 x3) b s k v L := by
 have hl := h.lt
 have hz := h.size
 have hh : ∀ g, g ≠ w.heap.size → (set4 w1 w.heap.size x0 x1 x2 x3).heap[g]? = w1.heap[g]? := fun g hg => set4_heap hg
 have ht := h.turn.fresh4 (Nat.le_refl w.heap.size) x0 x1 x2 x3
 generalize set4 w1 w.heap.size x0 x1 x2 x3 = w2 at *
 have hb := hh b (by omega)
 exact ⟨⟨by rw [World.cell?_of_block hb]; exact h.rdr.c0, by rw [World.cell?_of_block hb]; exact h.rdr.c1, by rw [World.frozen?_of_block hb]; exact h.rdr.fz⟩, h.num.own.heap (fun g hg => hh g (by have := h.fresh g hg; omega)), fun g hg => by have := h.fresh g hg; omega, ht⟩
theorem SPost.start {w : World} {b a : Nat} {s : ByteArray} (h : RdrAt w b s a) (kd : Int) :
  SPost w ((w.alloc (.cells #[.int .i64 0, .bool false, .slice none 0 0, .int .i64 0] 71)).alloc (.cells #[.int .i64 kd, .bool false, .slice none 0 0, .int .i64 0] 71)) b s kd 0 a (.slice none 0 0) [] := by
 have hb : Below w.heap.size w ((w.alloc (.cells #[.int .i64 0, .bool false, .slice none 0 0, .int .i64 0] 71)).alloc (.cells #[.int .i64 kd, .bool false, .slice none 0 0, .int .i64 0] 71)) := box4_below
 have hbl : b < w.heap.size := World.block_lt_of_cell? w _ h.c0
 refine ⟨⟨?_, ?_, ?_⟩, ⟨by simp [go_sem], by simp [go_sem], by simp [go_sem], by simp [go_sem], by simp [go_sem], by simp [go_sem], Own.nil _ _, by simp [Value.ownBlock]⟩, ⟨by simp [go_sem], by simp [go_sem], by simp [go_sem], by simp [go_sem], by simp [go_sem], by simp [go_sem], by simp [go_sem], by simp [go_sem]⟩, hbl, fun g hg => by simp [Value.ownBlock] at hg, by simp, ⟨hb.os, hb.tape, hb.output, hb.size, fun k hk _ => hb.block k hk⟩⟩
 ·exact (hb.cell (p := ⟨b, 0, none⟩) hbl).trans h.c0
 ·exact (hb.cell (p := ⟨b, 1, none⟩) hbl).trans h.c1
 ·exact (hb.frozen (p := ⟨b, 1, none⟩) hbl).trans h.fz

theorem run_dig {s : ByteArray} {a k : Nat} (h : RunEnd s 10 a k) : LRun isDig (chs s) a k :=
 ⟨h.1.ge, by rw [chs_length]; exact h.1.le, fun c hc => (digV_isDig c).1.1 (h.1.all c hc), fun hk => (digV_isDig _).2.1 (h.2 (by rw [← chs_length]; exact hk))⟩
theorem run_hex {s : ByteArray} {a k : Nat} (h : RunEnd s 16 a k) : LRun isHexc (chs s) a k :=
 ⟨h.1.ge, by rw [chs_length]; exact h.1.le, fun c hc => (digV_isHexc c).1.1 (h.1.all c hc), fun hk => (digV_isHexc _).2.1 (h.2 (by rw [← chs_length]; exact hk))⟩
theorem atB_yes {s : ByteArray} {a x : Nat} (h : atB s a x = true) : a < (chs s).length ∧ (chs s).getD a 0 = x := by
 unfold atB at h; rw [chs_length]; simpa using h
theorem atB_no {s : ByteArray} {a x : Nat} (h : atB s a x = false) : a < (chs s).length → (chs s).getD a 0 ≠ x := by
 intro ha hx; unfold atB at h; rw [chs_length] at ha; simp [ha] at h; exact h (by simpa using hx)
theorem capPow_le {X : List Nat} (h : ∀ c, c ∈ X → isDig c = true) : capPow X ≤ 20000000 := by
 have : ∀ n, ∀ X : List Nat, X.length = n → (∀ c, c ∈ X → isDig c = true) → capPow X ≤ 20000000 := by
  intro n; induction n with
  | zero => intro X h _; rw [List.length_eq_zero_iff.1 h]; exact Nat.zero_le _
  | succ n ih =>
   intro X h hd
   have hne : X ≠ [] := by intro e; rw [e] at h; simp at h
   have h9 : isDig (X.getLast hne) = true := hd _ (List.getLast_mem hne)
   have hi := ih X.dropLast (by simp [h]) (fun c hc => hd c (List.dropLast_subset X hc))
   rw [← List.dropLast_concat_getLast hne, capPow_snoc]
   unfold isDig at h9
   simp at h9
   split <;> omega
 exact this _ X rfl h
theorem powr_of {s : ByteArray} {a k : Nat} (h : RunEnd s 10 (sgnL s a) k) : Powr (chs s) a k (decide (sgnL s a < k)) (sgnI (atB s a 45) (capPow (cut (chs s) (sgnL s a) k))) := by
 refine ⟨sgnL s a, atB s a 45, ?_, run_dig h, rfl, rfl⟩
 unfold sgnL
 cases h45 : atB s a 45
 ·cases h43 : atB s a 43
  ·refine .inr ⟨fun hl => ?_, by simp, rfl⟩
   have e1 := atB_no h45 hl
   have e2 := atB_no h43 hl
   unfold sgn; simp; exact ⟨e2, e1⟩
  ·obtain ⟨e1, e2⟩ := atB_yes h43
   exact .inl ⟨e1, by rw [e2]; rfl, by simp, by rw [e2]; rfl⟩
 ·obtain ⟨e1, e2⟩ := atB_yes h45
  exact .inl ⟨e1, by rw [e2]; rfl, by simp, by rw [e2]; rfl⟩
theorem sgnI_bd (ng : Bool) (p : Nat) (h : p ≤ 20000000) : -20000000 ≤ sgnI ng p ∧ sgnI ng p ≤ 20000000 := by
 unfold sgnI; cases ng
 ·simp; omega
 ·simp; omega

def DecPost (w w' : World) (b a : Nat) (s : ByteArray) (e : Ending) : Prop :=
 ∃ (k : Nat) (ok : Bool) (v : Value) (D : List Nat) (pw : Int), e = .returned (.tuple #[.agg #[.int .i64 0, .bool false, v, .int .i64 pw], .bool ok]) ∧ NPost w w' b s k v D ∧ DecRes (chs s) a k ok D pw
theorem sdecimal_any (b a : Nat) (s : ByteArray) (w : World) (h : RdrAt w b s a) (ha : a ≤ s.size) (hs : s.size ≤ 900) :
  Calls Tryz.prog 63 #[.pointer (some ⟨b, 0, none⟩)] w fun e w' => DecPost w w' b a s e := by
 have H0 := hid (SPost.start h 0)
 clear h
 go_enter Tryz.func63, Tryz.ntmps63
 go_wp2_with fail
 refine (digits_any b (w.heap.size + 1) a 10 s 0 0 (.slice none 0 0) [] _ H0.out.self ha hs (by simp)).mono ?_
 rintro e w1 ⟨k1, v1, hd1, hr1, rfl⟩
 have H1 := hid (H0.out.digs hd1)
 have HR1 := hid hr1
 have hk1 := hr1.1.ge
 have hk1l := hr1.1.le
 clear hd1 hr1 H0
 have HX2 := hid (pass_any b k1 46 s w1 H1.out.rdr hk1l hs)
 go_wp2_with fail
 refine HX2.out.mono ?_
 rintro e w2 ⟨rfl, hp2⟩
 have H2 := hid (H1.out.pass hp2)
 clear HX2 hp2 H1
 cases h46 : atB s k1 46
 ·rw [passTo_no h46] at H2
  have H46 := hid h46
  clear h46
  obtain ⟨ao, cp, hv⟩ := H2.out.num.own.row.isSlice
  obtain ⟨n, hn⟩ : ∃ n, n = (pushes 10 [] (cut (chs s) a k1)).length := ⟨_, rfl⟩
  rw [← hn] at hv
  subst hv
  clear hn
  by_cases hz : k1 = a
  ·have tz : (((k1 - a : Nat) : Int) == 0) = true := by simp; omega
   have n0 := H2.out.num.c0
   have n1 := H2.out.num.c1
   have n2 := H2.out.num.c2
   have n3 := H2.out.num.c3
   have g3 := H2.out.num.f3
   have r0 := H2.out.res.c0
   have r1 := H2.out.res.c1
   have r2 := H2.out.res.c2
   have r3 := H2.out.res.c3
   have q0 := H2.out.res.f0
   have q1 := H2.out.res.f1
   have q2 := H2.out.res.f2
   have q3 := H2.out.res.f3
   have HZ := hid hz
   clear hz
   go_wp2
   try simp only [Exit.inBlock, Exit.then]
   refine bodyPost_ret (num_results rfl _ _ w.heap.size _ _ _ _ rfl (set4_cells r0 r1 r2 r3).1 (set4_cells r0 r1 r2 r3).2.1 (set4_cells r0 r1 r2 r3).2.2.1 (set4_cells r0 r1 r2 r3).2.2.2) rfl ?_
   exact ⟨k1, false, .slice ao n cp, _, 0, rfl, H2.out.out _ _ _ _, ⟨k1, _, 0, false, .inl ⟨rfl, run_dig HR1.out, atB_no H46.out, rfl, rfl⟩, rfl, .inl ⟨(cut_nil hk1 (by rw [chs_length]; exact hk1l)).2 HZ.out, rfl, rfl⟩⟩⟩
  ·have tz : (((k1 - a : Nat) : Int) == 0) = false := by simp; omega
   have HZ : Hid (cut (chs s) a k1 ≠ []) := fun h => hz ((cut_nil hk1 (by rw [chs_length]; exact hk1l)).1 h)
   clear hz
   have hk2l := hk1l
   have HXe := hid (pass_any b k1 101 s w2 H2.out.rdr hk2l hs)
   go_wp2_with fail
   refine HXe.out.mono ?_
   rintro e w6 ⟨rfl, hp6⟩
   have H6 := hid (H2.out.pass hp6)
   clear HXe hp6 H2
   cases he : atB s k1 101
   ·rw [passTo_no he] at H6
    have HE := hid he
    clear he
    have n0 := H6.out.num.c0
    have n1 := H6.out.num.c1
    have n2 := H6.out.num.c2
    have n3 := H6.out.num.c3
    have g3 := H6.out.num.f3
    have r0 := H6.out.res.c0
    have r1 := H6.out.res.c1
    have r2 := H6.out.res.c2
    have r3 := H6.out.res.c3
    have q0 := H6.out.res.f0
    have q1 := H6.out.res.f1
    have q2 := H6.out.res.f2
    have q3 := H6.out.res.f3
    go_wp2
    try simp only [Exit.inBlock, Exit.then]
    refine bodyPost_ret (num_results rfl _ _ w.heap.size _ _ _ _ rfl (set4_cells r0 r1 r2 r3).1 (set4_cells r0 r1 r2 r3).2.1 (set4_cells r0 r1 r2 r3).2.2.1 (set4_cells r0 r1 r2 r3).2.2.2) rfl ?_
    exact ⟨k1, true, .slice ao n cp, _, 0, rfl, H6.out.out _ _ _ _, ⟨k1, _, 0, false, .inl ⟨rfl, run_dig HR1.out, atB_no H46.out, rfl, rfl⟩, rfl, .inr (.inl ⟨HZ.out, rfl, rfl, rfl, atB_no HE.out⟩)⟩⟩
   ·rw [passTo_yes he] at H6
    have HE := hid he
    have hk2l' : k1 + 1 ≤ s.size := by have := atB_lt he; omega
    have HXp := hid (power_read b (k1 + 1) _ _ s w6 H6.out.rdr hk2l' hs rfl rfl)
    clear he
    go_wp2_with fail
    refine HXp.out.mono ?_
    rintro e w7 ⟨k3, hp7, hr7, rfl⟩
    have H7 := hid (H6.out.pass hp7)
    have HPW := hid (powr_of hr7)
    have hbd := sgnI_bd (atB s (k1 + 1) 45) _ (capPow_le (run_dig hr7).all)
    obtain ⟨x, hx⟩ : ∃ x, x = sgnI (atB s (k1 + 1) 45) (capPow (cut (chs s) (sgnL s (k1 + 1)) k3)) := ⟨_, rfl⟩
    obtain ⟨ok, hok⟩ : ∃ ok, ok = decide (sgnL s (k1 + 1) < k3) := ⟨_, rfl⟩
    rw [← hx, ← hok] at HPW ⊢
    rw [← hx] at hbd
    obtain ⟨hb1, hb2⟩ := hbd
    clear HXp hp7 hr7 H6 hx hok
    have n0 := H7.out.num.c0
    have n1 := H7.out.num.c1
    have n2 := H7.out.num.c2
    have n3 := H7.out.num.c3
    have g3 := H7.out.num.f3
    have r0 := H7.out.res.c0
    have r1 := H7.out.res.c1
    have r2 := H7.out.res.c2
    have r3 := H7.out.res.c3
    have q0 := H7.out.res.f0
    have q1 := H7.out.res.f1
    have q2 := H7.out.res.f2
    have q3 := H7.out.res.f3
    have HF := hid (H7.out.pow (x))
    have r0' := HF.out.res.c0
    have r1' := HF.out.res.c1
    have r2' := HF.out.res.c2
    have r3' := HF.out.res.c3
    go_wp2
    try simp only [Exit.inBlock, Exit.then]
    refine bodyPost_ret (num_results rfl _ _ w.heap.size _ _ _ _ rfl (set4_cells r0' r1' r2' r3').1 (set4_cells r0' r1' r2' r3').2.1 (set4_cells r0' r1' r2' r3').2.2.1 (set4_cells r0' r1' r2' r3').2.2.2) rfl ?_
    exact ⟨k3, ok, .slice ao n cp, _, x, rfl, HF.out.out _ _ _ _, ⟨k1, _, 0, false, .inl ⟨rfl, run_dig HR1.out, atB_no H46.out, rfl, rfl⟩, rfl, .inr (.inr ⟨HZ.out, (atB_yes HE.out).1, (atB_yes HE.out).2, x, HPW.out, by simp⟩)⟩⟩
 ·rw [passTo_yes h46] at H2
  have H46 := hid h46
  have hk1l2 : k1 + 1 ≤ s.size := by have := atB_lt h46; omega
  clear h46
  have HX3 := hid (digits_any b (w.heap.size + 1) (k1 + 1) 10 s 0 0 v1 (pushes 10 [] (cut (chs s) a k1)) _ H2.out.self hk1l2 hs (by
   have h1 := pushes_len 10 [] (cut (chs s) a k1)
   have h2 : (cut (chs s) a k1).length ≤ s.size := by unfold cut; rw [List.length_drop, List.length_take, chs_length]; omega
   simp at h1; omega))
  go_wp2_with fail
  refine HX3.out.mono ?_
  rintro e w3 ⟨k2, v2, hd3, hr3, rfl⟩
  have H3 := hid (H2.out.digs hd3)
  have HR2 := hid hr3
  have hk2 := hr3.1.ge
  have hk2l := hr3.1.le
  clear hd3 hr3 H2 HX3
  obtain ⟨ao, cp, hv⟩ := H3.out.num.own.row.isSlice
  obtain ⟨n, hn⟩ : ∃ n, n = (pushes 10 (pushes 10 [] (cut (chs s) a k1)) (cut (chs s) (k1 + 1) k2)).length := ⟨_, rfl⟩
  rw [← hn] at hv
  subst hv
  clear hn
  have n3 := H3.out.num.c3
  have g3 := H3.out.num.f3
  have H4 := hid (H3.out.pow (-((k2 - (k1 + 1) : Nat) : Int)))
  have hw4 : ∃ w4, w4 = w3.setCell ⟨w.heap.size + 1, 3, none⟩ (.int .i64 (-((k2 - (k1 + 1) : Nat) : Int))) := ⟨_, rfl⟩
  obtain ⟨w4, hw4⟩ := hw4
  rw [← hw4] at H4
  have HW4 := hid hw4
  clear hw4 H3
  by_cases hz : (k1 - a) + (k2 - (k1 + 1)) = 0
  ·have tz : (((k1 - a : Nat) : Int) + ((k2 - (k1 + 1) : Nat) : Int) == 0) = true := by simp; omega
   have HZ : Hid (cut (chs s) a k1 ++ cut (chs s) (k1 + 1) k2 = []) := by
    unfold Hid
    rw [(cut_nil hk1 (by rw [chs_length]; exact hk1l)).2 (by omega), (cut_nil hk2 (by rw [chs_length]; exact hk2l)).2 (by omega)]; rfl
   have n0 := H4.out.num.c0
   have n1 := H4.out.num.c1
   have n2 := H4.out.num.c2
   have n3' := H4.out.num.c3
   have g3' := H4.out.num.f3
   have r0 := H4.out.res.c0
   have r1 := H4.out.res.c1
   have r2 := H4.out.res.c2
   have r3 := H4.out.res.c3
   have q0 := H4.out.res.f0
   have q1 := H4.out.res.f1
   have q2 := H4.out.res.f2
   have q3 := H4.out.res.f3
   clear hz
   go_wp2_with (rw [← HW4.out])
   go_wp2
   try simp only [Exit.inBlock, Exit.then]
   refine bodyPost_ret (num_results rfl _ _ w.heap.size _ _ _ _ rfl (set4_cells r0 r1 r2 r3).1 (set4_cells r0 r1 r2 r3).2.1 (set4_cells r0 r1 r2 r3).2.2.1 (set4_cells r0 r1 r2 r3).2.2.2) rfl ?_
   exact ⟨k2, false, .slice ao n cp, _, -((k2 - (k1 + 1) : Nat) : Int), rfl, H4.out.out _ _ _ _, ⟨k2, _, k2 - (k1 + 1), true, .inr ⟨rfl, k1, run_dig HR1.out, (atB_yes H46.out).1, (atB_yes H46.out).2, run_dig HR2.out, rfl, rfl⟩, (pushes_append 10 [] _ _).symm, .inl ⟨HZ.out, rfl, rfl⟩⟩⟩
  ·have tz : (((k1 - a : Nat) : Int) + ((k2 - (k1 + 1) : Nat) : Int) == 0) = false := by simp; omega
   have HZ : Hid (cut (chs s) a k1 ++ cut (chs s) (k1 + 1) k2 ≠ []) := by
    unfold Hid
    intro h0
    rw [List.append_eq_nil_iff, cut_nil hk1 (by rw [chs_length]; exact hk1l), cut_nil hk2 (by rw [chs_length]; exact hk2l)] at h0
    omega
   clear hz
   go_wp2_with (rw [← HW4.out])
   clear n3 g3
   have HXe := hid (pass_any b k2 101 s w4 H4.out.rdr hk2l hs)
   go_wp2_with fail
   refine HXe.out.mono ?_
   rintro e w6 ⟨rfl, hp6⟩
   have H6 := hid (H4.out.pass hp6)
   clear HXe hp6 H4
   cases he : atB s k2 101
   ·rw [passTo_no he] at H6
    have HE := hid he
    clear he
    have n0 := H6.out.num.c0
    have n1 := H6.out.num.c1
    have n2 := H6.out.num.c2
    have n3 := H6.out.num.c3
    have g3 := H6.out.num.f3
    have r0 := H6.out.res.c0
    have r1 := H6.out.res.c1
    have r2 := H6.out.res.c2
    have r3 := H6.out.res.c3
    have q0 := H6.out.res.f0
    have q1 := H6.out.res.f1
    have q2 := H6.out.res.f2
    have q3 := H6.out.res.f3
    go_wp2
    try simp only [Exit.inBlock, Exit.then]
    refine bodyPost_ret (num_results rfl _ _ w.heap.size _ _ _ _ rfl (set4_cells r0 r1 r2 r3).1 (set4_cells r0 r1 r2 r3).2.1 (set4_cells r0 r1 r2 r3).2.2.1 (set4_cells r0 r1 r2 r3).2.2.2) rfl ?_
    exact ⟨k2, true, .slice ao n cp, _, -((k2 - (k1 + 1) : Nat) : Int), rfl, H6.out.out _ _ _ _, ⟨k2, _, k2 - (k1 + 1), true, .inr ⟨rfl, k1, run_dig HR1.out, (atB_yes H46.out).1, (atB_yes H46.out).2, run_dig HR2.out, rfl, rfl⟩, (pushes_append 10 [] _ _).symm, .inr (.inl ⟨HZ.out, rfl, rfl, rfl, atB_no HE.out⟩)⟩⟩
   ·rw [passTo_yes he] at H6
    have HE := hid he
    have hk2l' : k2 + 1 ≤ s.size := by have := atB_lt he; omega
    have HXp := hid (power_read b (k2 + 1) _ _ s w6 H6.out.rdr hk2l' hs rfl rfl)
    clear he
    go_wp2_with fail
    refine HXp.out.mono ?_
    rintro e w7 ⟨k3, hp7, hr7, rfl⟩
    have H7 := hid (H6.out.pass hp7)
    have HPW := hid (powr_of hr7)
    have hbd := sgnI_bd (atB s (k2 + 1) 45) _ (capPow_le (run_dig hr7).all)
    obtain ⟨x, hx⟩ : ∃ x, x = sgnI (atB s (k2 + 1) 45) (capPow (cut (chs s) (sgnL s (k2 + 1)) k3)) := ⟨_, rfl⟩
    obtain ⟨ok, hok⟩ : ∃ ok, ok = decide (sgnL s (k2 + 1) < k3) := ⟨_, rfl⟩
    rw [← hx, ← hok] at HPW ⊢
    rw [← hx] at hbd
    obtain ⟨hb1, hb2⟩ := hbd
    clear HXp hp7 hr7 H6 hx hok
    have n0 := H7.out.num.c0
    have n1 := H7.out.num.c1
    have n2 := H7.out.num.c2
    have n3 := H7.out.num.c3
    have g3 := H7.out.num.f3
    have r0 := H7.out.res.c0
    have r1 := H7.out.res.c1
    have r2 := H7.out.res.c2
    have r3 := H7.out.res.c3
    have q0 := H7.out.res.f0
    have q1 := H7.out.res.f1
    have q2 := H7.out.res.f2
    have q3 := H7.out.res.f3
    have HF := hid (H7.out.pow (-((k2 - (k1 + 1) : Nat) : Int) + x))
    have r0' := HF.out.res.c0
    have r1' := HF.out.res.c1
    have r2' := HF.out.res.c2
    have r3' := HF.out.res.c3
    go_wp2
    try simp only [Exit.inBlock, Exit.then]
    refine bodyPost_ret (num_results rfl _ _ w.heap.size _ _ _ _ rfl (set4_cells r0' r1' r2' r3').1 (set4_cells r0' r1' r2' r3').2.1 (set4_cells r0' r1' r2' r3').2.2.1 (set4_cells r0' r1' r2' r3').2.2.2) rfl ?_
    exact ⟨k3, ok, .slice ao n cp, _, -((k2 - (k1 + 1) : Nat) : Int) + x, rfl, HF.out.out _ _ _ _, ⟨k2, _, k2 - (k1 + 1), true, .inr ⟨rfl, k1, run_dig HR1.out, (atB_yes H46.out).1, (atB_yes H46.out).2, run_dig HR2.out, rfl, rfl⟩, (pushes_append 10 [] _ _).symm, .inr (.inr ⟨HZ.out, (atB_yes HE.out).1, (atB_yes HE.out).2, x, HPW.out, rfl⟩)⟩⟩
end Go.Proofs.YtbkdaoicnobllabGreatDoor

namespace Go.Proofs.YtbkdaoicnobllabGreatDoor
set_option maxRecDepth 100000
set_option maxHeartbeats 4000000
open Go.RowKit

def HexPost (w w' : World) (b a : Nat) (s : ByteArray) (e : Ending) : Prop :=
 ∃ (k : Nat) (ok : Bool) (v : Value) (D : List Nat) (pw : Int), e = .returned (.tuple #[.agg #[.int .i64 1, .bool false, v, .int .i64 pw], .bool ok]) ∧ NPost w w' b s k v D ∧ HexRes (chs s) a k ok D pw
theorem shex_any (b a : Nat) (s : ByteArray) (w : World) (h : RdrAt w b s a) (ha : a ≤ s.size) (hs : s.size ≤ 900) :
  Calls Tryz.prog 62 #[.pointer (some ⟨b, 0, none⟩)] w fun e w' => HexPost w w' b a s e := by
 have H0 := hid (SPost.start h 1)
 clear h
 go_enter Tryz.func62, Tryz.ntmps62
 go_wp2_with fail
 refine (digits_any b (w.heap.size + 1) a 16 s 1 0 (.slice none 0 0) [] _ H0.out.self ha hs (by simp)).mono ?_
 rintro e w1 ⟨k1, v1, hd1, hr1, rfl⟩
 have H1 := hid (H0.out.digs hd1)
 have HR1 := hid hr1
 have hk1 := hr1.1.ge
 have hk1l := hr1.1.le
 clear hd1 hr1 H0
 obtain ⟨ao, cp, hv⟩ := H1.out.num.own.row.isSlice
 obtain ⟨n, hn⟩ : ∃ n, n = (pushes 16 [] (cut (chs s) a k1)).length := ⟨_, rfl⟩
 rw [← hn] at hv
 subst hv
 clear hn
 by_cases hz : k1 = a
 ·have tz : (((k1 - a : Nat) : Int) == 0) = true := by simp; omega
  have n0 := H1.out.num.c0
  have n1 := H1.out.num.c1
  have n2 := H1.out.num.c2
  have n3 := H1.out.num.c3
  have g3 := H1.out.num.f3
  have r0 := H1.out.res.c0
  have r1 := H1.out.res.c1
  have r2 := H1.out.res.c2
  have r3 := H1.out.res.c3
  have q0 := H1.out.res.f0
  have q1 := H1.out.res.f1
  have q2 := H1.out.res.f2
  have q3 := H1.out.res.f3
  have HZ := hid hz
  clear hz
  go_wp2
  try simp only [Exit.inBlock, Exit.then]
  refine bodyPost_ret (num_results rfl _ _ w.heap.size _ _ _ _ rfl (set4_cells r0 r1 r2 r3).1 (set4_cells r0 r1 r2 r3).2.1 (set4_cells r0 r1 r2 r3).2.2.1 (set4_cells r0 r1 r2 r3).2.2.2) rfl ?_
  exact ⟨k1, false, .slice ao n cp, _, 0, rfl, H1.out.out _ _ _ _, .inl ⟨by have := run_hex HR1.out; rw [HZ.out] at this; exact this, rfl, HZ.out⟩⟩
 ·have tz : (((k1 - a : Nat) : Int) == 0) = false := by simp; omega
  have HA : Hid (a < (chs s).length ∧ isHexc ((chs s).getD a 0) = true) := ⟨by rw [chs_length]; omega, (run_hex HR1.out).all _ (mem_cut (Nat.le_refl a) (by omega) (by rw [chs_length]; exact hk1l))⟩
  clear hz
  have HX2 := hid (pass_any b k1 46 s w1 H1.out.rdr hk1l hs)
  go_wp2_with fail
  refine HX2.out.mono ?_
  rintro e w2 ⟨rfl, hp2⟩
  have H2 := hid (H1.out.pass hp2)
  clear HX2 hp2 H1
  cases h46 : atB s k1 46
  ·rw [passTo_no h46] at H2
   have H46 := hid h46
   clear h46
   have hk2l := hk1l
   have HXe := hid (pass_any b k1 112 s w2 H2.out.rdr hk2l hs)
   go_wp2_with fail
   refine HXe.out.mono ?_
   rintro e w6 ⟨rfl, hp6⟩
   have H6 := hid (H2.out.pass hp6)
   clear HXe hp6 H2
   cases he : atB s k1 112
   ·rw [passTo_no he] at H6
    have HE := hid he
    clear he
    have n0 := H6.out.num.c0
    have n1 := H6.out.num.c1
    have n2 := H6.out.num.c2
    have n3 := H6.out.num.c3
    have g3 := H6.out.num.f3
    have r0 := H6.out.res.c0
    have r1 := H6.out.res.c1
    have r2 := H6.out.res.c2
    have r3 := H6.out.res.c3
    have q0 := H6.out.res.f0
    have q1 := H6.out.res.f1
    have q2 := H6.out.res.f2
    have q3 := H6.out.res.f3
    go_wp2
    try simp only [Exit.inBlock, Exit.then]
    refine bodyPost_ret (num_results rfl _ _ w.heap.size _ _ _ _ rfl (set4_cells r0 r1 r2 r3).1 (set4_cells r0 r1 r2 r3).2.1 (set4_cells r0 r1 r2 r3).2.2.1 (set4_cells r0 r1 r2 r3).2.2.2) rfl ?_
    exact ⟨k1, false, .slice ao n cp, _, 0, rfl, H6.out.out _ _ _ _, .inr ⟨k1, _, 0, false, .inl ⟨rfl, run_hex HR1.out, atB_no H46.out, rfl, rfl⟩, HA.out, rfl, .inl ⟨rfl, rfl, atB_no HE.out⟩⟩⟩
   ·rw [passTo_yes he] at H6
    have HE := hid he
    have hk2l' : k1 + 1 ≤ s.size := by have := atB_lt he; omega
    have HXp := hid (power_read b (k1 + 1) _ _ s w6 H6.out.rdr hk2l' hs rfl rfl)
    clear he
    go_wp2_with fail
    refine HXp.out.mono ?_
    rintro e w7 ⟨k3, hp7, hr7, rfl⟩
    have H7 := hid (H6.out.pass hp7)
    have HPW := hid (powr_of hr7)
    have hbd := sgnI_bd (atB s (k1 + 1) 45) _ (capPow_le (run_dig hr7).all)
    obtain ⟨x, hx⟩ : ∃ x, x = sgnI (atB s (k1 + 1) 45) (capPow (cut (chs s) (sgnL s (k1 + 1)) k3)) := ⟨_, rfl⟩
    obtain ⟨ok, hok⟩ : ∃ ok, ok = decide (sgnL s (k1 + 1) < k3) := ⟨_, rfl⟩
    rw [← hx, ← hok] at HPW ⊢
    rw [← hx] at hbd
    obtain ⟨hb1, hb2⟩ := hbd
    clear HXp hp7 hr7 H6 hx hok
    have n0 := H7.out.num.c0
    have n1 := H7.out.num.c1
    have n2 := H7.out.num.c2
    have n3 := H7.out.num.c3
    have g3 := H7.out.num.f3
    have r0 := H7.out.res.c0
    have r1 := H7.out.res.c1
    have r2 := H7.out.res.c2
    have r3 := H7.out.res.c3
    have q0 := H7.out.res.f0
    have q1 := H7.out.res.f1
    have q2 := H7.out.res.f2
    have q3 := H7.out.res.f3
    have HF := hid (H7.out.pow (x))
    have r0' := HF.out.res.c0
    have r1' := HF.out.res.c1
    have r2' := HF.out.res.c2
    have r3' := HF.out.res.c3
    go_wp2
    try simp only [Exit.inBlock, Exit.then]
    refine bodyPost_ret (num_results rfl _ _ w.heap.size _ _ _ _ rfl (set4_cells r0' r1' r2' r3').1 (set4_cells r0' r1' r2' r3').2.1 (set4_cells r0' r1' r2' r3').2.2.1 (set4_cells r0' r1' r2' r3').2.2.2) rfl ?_
    exact ⟨k3, ok, .slice ao n cp, _, x, rfl, HF.out.out _ _ _ _, .inr ⟨k1, _, 0, false, .inl ⟨rfl, run_hex HR1.out, atB_no H46.out, rfl, rfl⟩, HA.out, rfl, .inr ⟨(atB_yes HE.out).1, (atB_yes HE.out).2, x, HPW.out, by simp⟩⟩⟩
  ·rw [passTo_yes h46] at H2
   have H46 := hid h46
   have hk1l2 : k1 + 1 ≤ s.size := by have := atB_lt h46; omega
   clear h46
   have HX3 := hid (digits_any b (w.heap.size + 1) (k1 + 1) 16 s 1 0 (.slice ao n cp) (pushes 16 [] (cut (chs s) a k1)) _ H2.out.self hk1l2 hs (by
    have h1 := pushes_len 16 [] (cut (chs s) a k1)
    have h2 : (cut (chs s) a k1).length ≤ s.size := by unfold cut; rw [List.length_drop, List.length_take, chs_length]; omega
    simp at h1; omega))
   go_wp2_with fail
   refine HX3.out.mono ?_
   rintro e w3 ⟨k2, v2, hd3, hr3, rfl⟩
   have H3 := hid (H2.out.digs hd3)
   have HR2 := hid hr3
   have hk2 := hr3.1.ge
   have hk2l := hr3.1.le
   clear hd3 hr3 H2 HX3
   obtain ⟨ao2, cp2, hv⟩ := H3.out.num.own.row.isSlice
   obtain ⟨m2, hn⟩ : ∃ n, n = (pushes 16 (pushes 16 [] (cut (chs s) a k1)) (cut (chs s) (k1 + 1) k2)).length := ⟨_, rfl⟩
   rw [← hn] at hv
   subst hv
   clear hn
   have n3 := H3.out.num.c3
   have g3 := H3.out.num.f3
   have H4 := hid (H3.out.pow (-4 * ((k2 - (k1 + 1) : Nat) : Int)))
   have hw4 : ∃ w4, w4 = w3.setCell ⟨w.heap.size + 1, 3, none⟩ (.int .i64 (-4 * ((k2 - (k1 + 1) : Nat) : Int))) := ⟨_, rfl⟩
   obtain ⟨w4, hw4⟩ := hw4
   rw [← hw4] at H4
   have HW4 := hid hw4
   clear hw4 H3
   go_wp2_with (rw [← HW4.out])
   clear n3 g3
   have HXe := hid (pass_any b k2 112 s w4 H4.out.rdr hk2l hs)
   go_wp2_with fail
   refine HXe.out.mono ?_
   rintro e w6 ⟨rfl, hp6⟩
   have H6 := hid (H4.out.pass hp6)
   clear HXe hp6 H4
   cases he : atB s k2 112
   ·rw [passTo_no he] at H6
    have HE := hid he
    clear he
    have n0 := H6.out.num.c0
    have n1 := H6.out.num.c1
    have n2 := H6.out.num.c2
    have n3 := H6.out.num.c3
    have g3 := H6.out.num.f3
    have r0 := H6.out.res.c0
    have r1 := H6.out.res.c1
    have r2 := H6.out.res.c2
    have r3 := H6.out.res.c3
    have q0 := H6.out.res.f0
    have q1 := H6.out.res.f1
    have q2 := H6.out.res.f2
    have q3 := H6.out.res.f3
    go_wp2
    try simp only [Exit.inBlock, Exit.then]
    refine bodyPost_ret (num_results rfl _ _ w.heap.size _ _ _ _ rfl (set4_cells r0 r1 r2 r3).1 (set4_cells r0 r1 r2 r3).2.1 (set4_cells r0 r1 r2 r3).2.2.1 (set4_cells r0 r1 r2 r3).2.2.2) rfl ?_
    exact ⟨k2, false, .slice ao2 m2 cp2, _, -4 * ((k2 - (k1 + 1) : Nat) : Int), rfl, H6.out.out _ _ _ _, .inr ⟨k2, _, k2 - (k1 + 1), true, .inr ⟨rfl, k1, run_hex HR1.out, (atB_yes H46.out).1, (atB_yes H46.out).2, run_hex HR2.out, rfl, rfl⟩, HA.out, (pushes_append 16 [] _ _).symm, .inl ⟨rfl, rfl, atB_no HE.out⟩⟩⟩
   ·rw [passTo_yes he] at H6
    have HE := hid he
    have hk2l' : k2 + 1 ≤ s.size := by have := atB_lt he; omega
    have HXp := hid (power_read b (k2 + 1) _ _ s w6 H6.out.rdr hk2l' hs rfl rfl)
    clear he
    go_wp2_with fail
    refine HXp.out.mono ?_
    rintro e w7 ⟨k3, hp7, hr7, rfl⟩
    have H7 := hid (H6.out.pass hp7)
    have HPW := hid (powr_of hr7)
    have hbd := sgnI_bd (atB s (k2 + 1) 45) _ (capPow_le (run_dig hr7).all)
    obtain ⟨x, hx⟩ : ∃ x, x = sgnI (atB s (k2 + 1) 45) (capPow (cut (chs s) (sgnL s (k2 + 1)) k3)) := ⟨_, rfl⟩
    obtain ⟨ok, hok⟩ : ∃ ok, ok = decide (sgnL s (k2 + 1) < k3) := ⟨_, rfl⟩
    rw [← hx, ← hok] at HPW ⊢
    rw [← hx] at hbd
    obtain ⟨hb1, hb2⟩ := hbd
    clear HXp hp7 hr7 H6 hx hok
    have n0 := H7.out.num.c0
    have n1 := H7.out.num.c1
    have n2 := H7.out.num.c2
    have n3 := H7.out.num.c3
    have g3 := H7.out.num.f3
    have r0 := H7.out.res.c0
    have r1 := H7.out.res.c1
    have r2 := H7.out.res.c2
    have r3 := H7.out.res.c3
    have q0 := H7.out.res.f0
    have q1 := H7.out.res.f1
    have q2 := H7.out.res.f2
    have q3 := H7.out.res.f3
    have HF := hid (H7.out.pow (-4 * ((k2 - (k1 + 1) : Nat) : Int) + x))
    have r0' := HF.out.res.c0
    have r1' := HF.out.res.c1
    have r2' := HF.out.res.c2
    have r3' := HF.out.res.c3
    go_wp2
    try simp only [Exit.inBlock, Exit.then]
    refine bodyPost_ret (num_results rfl _ _ w.heap.size _ _ _ _ rfl (set4_cells r0' r1' r2' r3').1 (set4_cells r0' r1' r2' r3').2.1 (set4_cells r0' r1' r2' r3').2.2.1 (set4_cells r0' r1' r2' r3').2.2.2) rfl ?_
    exact ⟨k3, ok, .slice ao2 m2 cp2, _, -4 * ((k2 - (k1 + 1) : Nat) : Int) + x, rfl, HF.out.out _ _ _ _, .inr ⟨k2, _, k2 - (k1 + 1), true, .inr ⟨rfl, k1, run_hex HR1.out, (atB_yes H46.out).1, (atB_yes H46.out).2, run_hex HR2.out, rfl, rfl⟩, HA.out, (pushes_append 16 [] _ _).symm, .inr ⟨(atB_yes HE.out).1, (atB_yes HE.out).2, x, HPW.out, rfl⟩⟩⟩
end Go.Proofs.YtbkdaoicnobllabGreatDoor

namespace Go.Proofs.YtbkdaoicnobllabGreatDoor
set_option maxRecDepth 100000
set_option maxHeartbeats 4000000
open Go.RowKit

structure UPost (w w' : World) (b : Nat) (s : ByteArray) (k : Nat) (v : Value) (L : List Nat) : Prop where
 rdr : RdrAt w' b s k
 own : Own w' 0 v L
 res : Res4 w' w.heap.size
 lt : b < w.heap.size
 fresh : ∀ g, v.ownBlock = some g → w.heap.size + 1 ≤ g
 size : w.heap.size + 1 ≤ w'.heap.size
 turn : Turn (fun j => j = b) w w'
theorem UPost.start {w : World} {b a : Nat} {s : ByteArray} (h : RdrAt w b s a) :
  UPost w (w.alloc (.cells #[.int .i64 0, .bool false, .slice none 0 0, .int .i64 0] 71)) b s a (.slice none 0 0) [] := by
 have hb : Below w.heap.size w (w.alloc (.cells #[.int .i64 0, .bool false, .slice none 0 0, .int .i64 0] 71)) := (Below.refl _ _).alloc (Nat.le_refl _) _
 have hbl : b < w.heap.size := World.block_lt_of_cell? w _ h.c0
 refine ⟨⟨?_, ?_, ?_⟩, Own.nil _ _, ⟨by simp [go_sem], by simp [go_sem], by simp [go_sem], by simp [go_sem], by simp [go_sem], by simp [go_sem], by simp [go_sem], by simp [go_sem]⟩, hbl, fun g hg => by simp [Value.ownBlock] at hg, by simp, ⟨hb.os, hb.tape, hb.output, hb.size, fun k hk _ => hb.block k hk⟩⟩
 ·exact (hb.cell (p := ⟨b, 0, none⟩) hbl).trans h.c0
 ·exact (hb.cell (p := ⟨b, 1, none⟩) hbl).trans h.c1
 ·exact (hb.frozen (p := ⟨b, 1, none⟩) hbl).trans h.fz
theorem Own.lt' {w : World} {v : Value} {L : List Nat} (h : Own w 0 v L) (g : Nat) (hg : v.ownBlock = some g) : g < w.heap.size := by
 rcases h.form with ⟨_, e⟩ | ⟨g', cap, e, _, e2, _⟩
 ·rw [e] at hg; cases hg
 ·rw [e] at hg; cases hg; exact e2
theorem UPost.move {w w1 w2 : World} {b k k' : Nat} {s : ByteArray} {v : Value} {L : List Nat} (h : UPost w w1 b s k v L) (r : RPost w1 w2 b s k') : UPost w w2 b s k' v L := by
 have hl := h.lt
 have hz := h.size
 have hh : ∀ x, x < w1.heap.size → x ≠ b → w2.heap[x]? = w1.heap[x]? := fun x hx hn => r.turn.block x hx hn
 exact ⟨r.rdr, h.own.heap (fun g hg => hh g (h.own.lt' g hg) (by have := h.fresh g hg; omega)), h.res.heap (hh _ (by omega) (by omega)), hl, h.fresh, by have := r.turn.size; omega, h.turn.trans r.turn (fun _ _ e => e)⟩
theorem UPost.next {w w1 w2 : World} {b k k' : Nat} {s : ByteArray} {v v' : Value} {L L' : List Nat} (h : UPost w w1 b s k v L) (r : NPost w1 w2 b s k' v' L') : UPost w w2 b s k' v' L' := by
 have hl := h.lt
 have hz := h.size
 have hh : ∀ x, x < w1.heap.size → x ≠ b → w2.heap[x]? = w1.heap[x]? := fun x hx hn => r.turn.block x hx hn
 exact ⟨r.rdr, r.own, h.res.heap (hh _ (by omega) (by omega)), hl, fun g hg => by have := r.fresh g hg; omega, by have := r.turn.size; omega, h.turn.trans r.turn (fun _ _ e => e)⟩
theorem UPost.out {w w1 : World} {b k : Nat} {s : ByteArray} {v : Value} {L : List Nat} (h : UPost w w1 b s k v L) (x0 x1 x2 x3 : Value) : NPost w (set4 w1 w.heap.size x0 x1 x2 x3) b s k v L := by
 have hl := h.lt
 have hz := h.size
 have hh : ∀ g, g ≠ w.heap.size → (set4 w1 w.heap.size x0 x1 x2 x3).heap[g]? = w1.heap[g]? := fun g hg => set4_heap hg
 have ht := h.turn.fresh4 (Nat.le_refl w.heap.size) x0 x1 x2 x3
 generalize set4 w1 w.heap.size x0 x1 x2 x3 = w2 at *
 have hb := hh b (by omega)
 exact ⟨⟨by rw [World.cell?_of_block hb]; exact h.rdr.c0, by rw [World.cell?_of_block hb]; exact h.rdr.c1, by rw [World.frozen?_of_block hb]; exact h.rdr.fz⟩, h.own.heap (fun g hg => hh g (by have := h.fresh g hg; omega)), fun g hg => by have := h.fresh g hg; omega, ht⟩
def wInf : List Nat := [105, 110, 102, 105, 110, 105, 116, 121]
def wNan : List Nat := [110, 97, 110]
def UnsRes (s : ByteArray) (a k : Nat) (ok : Bool) (kd : Int) (D : List Nat) (pw : Int) : Prop :=
 ((chs s).getD a 0 = 105 ∧ kd = 2 ∧ k = a + wordN s a wInf ∧ ok = (decide (wordN s a wInf = 3) || decide (wordN s a wInf = 8))) ∨
 ((chs s).getD a 0 = 110 ∧ kd = 3 ∧ k = a + wordN s a wNan ∧ ok = decide (wordN s a wNan = 3)) ∨
 ((chs s).getD a 0 ≠ 105 ∧ (chs s).getD a 0 ≠ 110 ∧ hexB s a = true ∧ kd = 1 ∧ HexRes (chs s) (a + 2) k ok D pw) ∨
 ((chs s).getD a 0 ≠ 105 ∧ (chs s).getD a 0 ≠ 110 ∧ hexB s a = false ∧ kd = 0 ∧ DecRes (chs s) a k ok D pw)
def UnsPost (w w' : World) (b a : Nat) (s : ByteArray) (e : Ending) : Prop :=
 ∃ (k : Nat) (ok : Bool) (kd : Int) (v : Value) (D : List Nat) (pw : Int), e = .returned (.tuple #[.agg #[.int .i64 kd, .bool false, v, .int .i64 pw], .bool ok]) ∧ NPost w w' b s k v D ∧ UnsRes s a k ok kd D pw
theorem chs_byte (s : ByteArray) (a : Nat) : (chs s).getD a 0 < 256 := by
 rw [List.getD_eq_getElem?_getD]
 cases h : (chs s)[a]? with
 | none => simp
 | some d => simpa using chs_lt s d (List.mem_of_getElem? h)
theorem hexB_le {s : ByteArray} {a : Nat} (h : hexB s a = true) : a + 2 ≤ s.size := by
 unfold hexB at h; simp at h; have := atB_lt h.2; omega

theorem unsigned_any (b a : Nat) (s : ByteArray) (w : World) (h : RdrAt w b s a) (ha : a ≤ s.size) (hs : s.size ≤ 900) :
  Calls Tryz.prog 39 #[.pointer (some ⟨b, 0, none⟩)] w fun e w' => UnsPost w w' b a s e := by
 have H0 := hid (UPost.start h)
 clear h
 go_enter Tryz.func39, Tryz.ntmps39
 go_wp2_with fail
 refine (next_byte b a s _ H0.out.rdr ha hs).mono ?_
 rintro e w1 ⟨rfl, hs1⟩
 have H1 := hid (H0.out.move (RPost.still H0.out.rdr hs1))
 clear H0 hs1
 have hx := chs_byte s a
 obtain ⟨x, hxx⟩ : ∃ x, x = (chs s).getD a 0 := ⟨_, rfl⟩
 rw [← hxx] at hx ⊢
 have HX := hid hxx
 clear hxx
 by_cases h105 : x = 105
 ·have t1 : ((x : Int) == 105) = true := by simp; omega
  have HXw := hid (word_any b a s ⟨#[105, 110, 102, 105, 110, 105, 116, 121]⟩ w1 H1.out.rdr ha hs (by decide))
  have hch : chs ⟨#[105, 110, 102, 105, 110, 105, 116, 121]⟩ = wInf := by decide
  rw [hch] at HXw
  go_wp2_with fail
  refine HXw.out.mono ?_
  rintro e w2 ⟨rfl, h2⟩
  have H2 := hid (H1.out.move h2)
  clear HXw h2 H1 hch
  obtain ⟨n, hn⟩ : ∃ n, n = wordN s a wInf := ⟨_, rfl⟩
  rw [← hn] at H2 ⊢
  have HN := hid hn
  clear hn
  have r0 := H2.out.res.c0
  have r1 := H2.out.res.c1
  have r2 := H2.out.res.c2
  have r3 := H2.out.res.c3
  have q0 := H2.out.res.f0
  have q1 := H2.out.res.f1
  have q2 := H2.out.res.f2
  have q3 := H2.out.res.f3
  have HY : Hid ((chs s).getD a 0 = 105) := by unfold Hid; rw [← HX.out]; exact h105
  clear h105
  by_cases h3 : n = 3
  ·have t3 : ((n : Int) == 3) = true := by simp; omega
   have HK : Hid (true = (decide (wordN s a wInf = 3) || decide (wordN s a wInf = 8))) := by unfold Hid; rw [← HN.out, h3]; rfl
   clear h3
   go_wp2
   try simp only [Exit.inBlock, Exit.then]
   refine bodyPost_ret (num_results rfl _ _ w.heap.size _ _ _ _ rfl (set4_cells r0 r1 r2 r3).1 (set4_cells r0 r1 r2 r3).2.1 (set4_cells r0 r1 r2 r3).2.2.1 (set4_cells r0 r1 r2 r3).2.2.2) rfl ?_
   exact ⟨a + n, true, 2, .slice none 0 0, [], 0, rfl, H2.out.out _ _ _ _, .inl ⟨HY.out, rfl, by rw [HN.out], HK.out⟩⟩
  ·have t3 : ((n : Int) == 3) = false := by simp; omega
   have HK : Hid (decide ((n : Int) = 8) = (decide (wordN s a wInf = 3) || decide (wordN s a wInf = 8))) := by
    unfold Hid; rw [← HN.out, Bool.eq_iff_iff]; simp; omega
   obtain ⟨o, ho⟩ : ∃ o, o = decide ((n : Int) = 8) := ⟨_, rfl⟩
   rw [← ho] at HK
   have t8 : ((n : Int) == 8) = o := by rw [ho, Bool.eq_iff_iff]; simp
   clear h3 ho
   go_wp2
   try simp only [Exit.inBlock, Exit.then]
   refine bodyPost_ret (num_results rfl _ _ w.heap.size _ _ _ _ rfl (set4_cells r0 r1 r2 r3).1 (set4_cells r0 r1 r2 r3).2.1 (set4_cells r0 r1 r2 r3).2.2.1 (set4_cells r0 r1 r2 r3).2.2.2) rfl ?_
   exact ⟨a + n, o, 2, .slice none 0 0, [], 0, rfl, H2.out.out _ _ _ _, .inl ⟨HY.out, rfl, by rw [HN.out], HK.out⟩⟩
 ·have t1 : ((x : Int) == 105) = false := by simp; omega
  by_cases h110 : x = 110
  ·have t2 : ((x : Int) == 110) = true := by simp; omega
   have HXw := hid (word_any b a s ⟨#[110, 97, 110]⟩ w1 H1.out.rdr ha hs (by decide))
   have hch : chs ⟨#[110, 97, 110]⟩ = wNan := by decide
   rw [hch] at HXw
   go_wp2_with fail
   refine HXw.out.mono ?_
   rintro e w2 ⟨rfl, h2⟩
   have H2 := hid (H1.out.move h2)
   clear HXw h2 H1 hch
   obtain ⟨n, hn⟩ : ∃ n, n = wordN s a wNan := ⟨_, rfl⟩
   rw [← hn] at H2 ⊢
   have HN := hid hn
   clear hn
   have r0 := H2.out.res.c0
   have r1 := H2.out.res.c1
   have r2 := H2.out.res.c2
   have r3 := H2.out.res.c3
   have q0 := H2.out.res.f0
   have q1 := H2.out.res.f1
   have q2 := H2.out.res.f2
   have q3 := H2.out.res.f3
   have HY : Hid ((chs s).getD a 0 = 110) := by unfold Hid; rw [← HX.out]; exact h110
   have HK : Hid (decide ((n : Int) = 3) = decide (wordN s a wNan = 3)) := by
    unfold Hid; rw [← HN.out, Bool.eq_iff_iff]; simp; omega
   obtain ⟨o, ho⟩ : ∃ o, o = decide ((n : Int) = 3) := ⟨_, rfl⟩
   rw [← ho] at HK
   have t3 : ((n : Int) == 3) = o := by rw [ho, Bool.eq_iff_iff]; simp
   clear h105 h110 ho
   go_wp2
   try simp only [Exit.inBlock, Exit.then]
   refine bodyPost_ret (num_results rfl _ _ w.heap.size _ _ _ _ rfl (set4_cells r0 r1 r2 r3).1 (set4_cells r0 r1 r2 r3).2.1 (set4_cells r0 r1 r2 r3).2.2.1 (set4_cells r0 r1 r2 r3).2.2.2) rfl ?_
   exact ⟨a + n, o, 3, .slice none 0 0, [], 0, rfl, H2.out.out _ _ _ _, .inr (.inl ⟨HY.out, rfl, by rw [HN.out], HK.out⟩)⟩
  ·have t2 : ((x : Int) == 110) = false := by simp; omega
   have HY1 : Hid ((chs s).getD a 0 ≠ 105) := by unfold Hid; rw [← HX.out]; exact h105
   have HY2 : Hid ((chs s).getD a 0 ≠ 110) := by unfold Hid; rw [← HX.out]; exact h110
   have HXh := hid (hexAhead_any b a s w1 H1.out.rdr ha hs)
   clear h105 h110
   go_wp2_with fail
   refine HXh.out.mono ?_
   rintro e w2 ⟨rfl, hs2⟩
   have H2 := hid (H1.out.move (RPost.still H1.out.rdr hs2))
   clear HXh hs2 H1
   cases hh : hexB s a
   ·have HHB := hid hh
    have HXd := hid (sdecimal_any b a s w2 H2.out.rdr ha hs)
    clear hh
    go_wp2_with fail
    refine HXd.out.mono ?_
    rintro e w3 ⟨k, ok, v, D, pw, rfl, h3, hd3⟩
    have H3 := hid (H2.out.next h3)
    have HD := hid hd3
    clear HXd h3 hd3 H2
    obtain ⟨ao, cp, hv⟩ := H3.out.own.row.isSlice
    obtain ⟨n, hn⟩ : ∃ n, n = D.length := ⟨_, rfl⟩
    rw [← hn] at hv
    subst hv
    clear hn
    have r0 := H3.out.res.c0
    have r1 := H3.out.res.c1
    have r2 := H3.out.res.c2
    have r3 := H3.out.res.c3
    have q0 := H3.out.res.f0
    have q1 := H3.out.res.f1
    have q2 := H3.out.res.f2
    have q3 := H3.out.res.f3
    go_wp2
    try simp only [Exit.inBlock, Exit.then]
    refine bodyPost_ret (num_results rfl _ _ w.heap.size _ _ _ _ rfl (set4_cells r0 r1 r2 r3).1 (set4_cells r0 r1 r2 r3).2.1 (set4_cells r0 r1 r2 r3).2.2.1 (set4_cells r0 r1 r2 r3).2.2.2) rfl ?_
    exact ⟨k, ok, 0, .slice ao n cp, D, pw, rfl, H3.out.out _ _ _ _, .inr (.inr (.inr ⟨HY1.out, HY2.out, HHB.out, rfl, HD.out⟩))⟩
   ·have HHB := hid hh
    have ha2 := hexB_le hh
    have c1 := H2.out.rdr.c1
    have fz := H2.out.rdr.fz
    obtain ⟨w3, hw3⟩ : ∃ w3, w3 = w2.setCell ⟨b, 1, none⟩ (.int .i64 ((a : Int) + 2)) := ⟨_, rfl⟩
    have HW3 := hid hw3
    have H3 : Hid (UPost w w3 b s (a + 2) (.slice none 0 0) []) := by
     unfold Hid
     rw [hw3, show (a : Int) + 2 = ((a + 2 : Nat) : Int) from by omega]
     exact H2.out.move (H2.out.rdr.set (a + 2))
    have HXd := hid (shex_any b (a + 2) s w3 H3.out.rdr ha2 hs)
    clear hh hw3 H2
    go_wp2_with (rw [← HW3.out])
    clear c1 fz
    go_wp2_with fail
    refine HXd.out.mono ?_
    rintro e w4 ⟨k, ok, v, D, pw, rfl, h4, hd4⟩
    have H4 := hid (H3.out.next h4)
    have HD := hid hd4
    clear HXd h4 hd4 H3
    obtain ⟨ao, cp, hv⟩ := H4.out.own.row.isSlice
    obtain ⟨n, hn⟩ : ∃ n, n = D.length := ⟨_, rfl⟩
    rw [← hn] at hv
    subst hv
    clear hn
    have r0 := H4.out.res.c0
    have r1 := H4.out.res.c1
    have r2 := H4.out.res.c2
    have r3 := H4.out.res.c3
    have q0 := H4.out.res.f0
    have q1 := H4.out.res.f1
    have q2 := H4.out.res.f2
    have q3 := H4.out.res.f3
    go_wp2
    try simp only [Exit.inBlock, Exit.then]
    refine bodyPost_ret (num_results rfl _ _ w.heap.size _ _ _ _ rfl (set4_cells r0 r1 r2 r3).1 (set4_cells r0 r1 r2 r3).2.1 (set4_cells r0 r1 r2 r3).2.2.1 (set4_cells r0 r1 r2 r3).2.2.2) rfl ?_
    exact ⟨k, ok, 1, .slice ao n cp, D, pw, rfl, H4.out.out _ _ _ _, .inr (.inr (.inl ⟨HY1.out, HY2.out, HHB.out, rfl, HD.out⟩))⟩
end Go.Proofs.YtbkdaoicnobllabGreatDoor
