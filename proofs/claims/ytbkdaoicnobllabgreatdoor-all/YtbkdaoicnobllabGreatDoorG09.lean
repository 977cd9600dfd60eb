import Derived.Test.YtbkdaoicnobllabGreatDoorG03
import Derived.Deep.AppendLies
import Derived.Test.YtbkdaoicnobllabGreatDoorG08
import Derived.Deep.RegionHeld3
import Derived.Deep.RegionLaw
import Derived.Test.YtbkdaoicnobllabGreatDoorG00
import Derived.Test.YtbkdaoicnobllabGreatDoorG04

namespace Go.Proofs.YtbkdaoicnobllabGreatDoor
set_option maxRecDepth 100000
set_option maxHeartbeats 1000000
open Go.RowKit

structure FromSt (w wr : World) (V : Nat) (X : Int) (v : Value) (L : List Nat) : Prop where
 cell : wr.cell? ⟨w.heap.size, 0, none⟩ = some v
 frozen : wr.frozen? ⟨w.heap.size, 0, none⟩ = false
 own : Own wr 0 v L
 above : ∀ k, v.ownBlock = some k → w.heap.size < k
 lim : Lim L
 num : nv L + X.toNat * 1073741824 ^ L.length = V
 len : L.length ≤ 3
 last : X = 0 → 0 < L.length → L.getD (L.length - 1) 0 ≠ 0
 below : Below w.heap.size w wr
theorem Own.setOther {w : World} {b : Nat} {v u : Value} {L : List Nat} (h : Own w 0 v L) (hap : ∀ k, v.ownBlock = some k → b < k) : Own (w.setCell ⟨b, 0, none⟩ u) 0 v L := by
 refine ⟨h.1, ?_⟩
 rcases h.2 with h2 | ⟨g, cap, cur, hv, hg, hh, r⟩
 ·exact .inl h2
 ·exact .inr ⟨g, cap, cur, hv, hg, by rw [Below.heap_setCell _ _ _ _ (fun e => by have := hap g (by rw [hv]; rfl); simp at e; omega)]; exact hh, r⟩
theorem FromSt.put {w w1 : World} {V : Nat} {q : Int} {v u : Value} {L : List Nat} (hc : w1.cell? ⟨w.heap.size, 0, none⟩ = some u) (hf : w1.frozen? ⟨w.heap.size, 0, none⟩ = false) (ho : Own w1 0 v L) (ha : ∀ k, v.ownBlock = some k → w.heap.size < k) (hl : Lim L)
  (hn : nv L + q.toNat * 1073741824 ^ L.length = V) (hlen : L.length ≤ 3) (hla : q = 0 → 0 < L.length → L.getD (L.length - 1) 0 ≠ 0) (hb : Below w.heap.size w w1) : FromSt w (w1.setCell ⟨w.heap.size, 0, none⟩ v) V q v L :=
 ⟨World.cell?_setCell_same' _ _ _ (by rw [hc]; rfl), by rw [show (w1.setCell ⟨w.heap.size, 0, none⟩ v).frozen? ⟨w.heap.size, 0, none⟩ = w1.frozen? ⟨w.heap.size, 0, none⟩ from by simp [go_sem]]; exact hf, ho.setOther ha, ha, hl, hn, hlen, hla, hb.setCell (p := ⟨w.heap.size, 0, none⟩) (Nat.le_refl _) _⟩
theorem from_len {L : List Nat} {X V : Nat} (h : nv L + X * 1073741824 ^ L.length = V) (hX : 0 < X) (hV : V < 1152921504606846976) : L.length < 2 := by
 apply Nat.lt_of_not_le; intro hle
 have h1 : 1073741824 ^ 2 ≤ 1073741824 ^ L.length := Nat.pow_le_pow_right (by omega) hle
 have h2 : 1 * 1073741824 ^ L.length ≤ X * 1073741824 ^ L.length := Nat.mul_le_mul_right _ hX
 have h3 : (1073741824 : Nat) ^ 2 = 1152921504606846976 := by decide
 omega
theorem fromInt_any (V : Nat) (w : World) (hV : V < 1152921504606846976) :
  Calls Tryz.prog 124 #[.int .i64 V] w fun e w' => e = .returned (.pointer (some ⟨w.heap.size, 0, none⟩)) ∧ NewNat w.heap.size w' w.heap.size V 3 ∧ Below w.heap.size w w' := by
 obtain ⟨i0, hi, hz0, hz1, hz2⟩ := info_parts Tryz.info_int
 obtain ⟨X0, hX0⟩ : ∃ X0 : Int, X0 = (V : Int) := ⟨_, rfl⟩
 rw [← hX0]
 have HX0 := hid hX0
 have HV := hid hV
 have hX1 : 0 ≤ X0 := by omega
 have hX2 : X0 < 1152921504606846976 := by omega
 clear hX0 hV
 go_enter Tryz.func124, Tryz.ntmps124
 go_wp2
 go_loopw [4] (fun ll wr => ∃ (X : Int) (v : Value) (L : List Nat), ll = .int .i64 X ∧ (0 ≤ X ∧ X < 1152921504606846976) ∧ FromSt w wr V X v L) (fun ll _ => (intOf ll).toNat)
 case atStart =>
  refine ⟨X0, .slice none 0 0, [], rfl, ⟨hX1, hX2⟩, ⟨by simp [go_sem], by simp [go_sem], Own.nil _ _, fun k hk => by simp [Value.ownBlock] at hk, fun d hd => by simp at hd, by have := HX0.out; simp [nv]; omega, by simp, fun _ h => by simp at h, (Below.refl _ _).alloc (Nat.le_refl _) _⟩⟩
 case round =>
  clear hX1 hX2
  obtain ⟨X, v, L, rfl, ⟨hx1, hx2⟩, hst⟩ := hrel
  obtain ⟨hcb, hfb, hown, hvo, hli, hnum, hlen, hla, hb⟩ := hst
  have hsz := hb.size
  have hbw : w.heap.size < wr.heap.size := World.block_lt_of_cell? wr _ hcb
  by_cases hpos : 0 < X
  ·obtain ⟨r, hr⟩ : ∃ r : Int, X % 1073741824 = r := ⟨_, rfl⟩
   obtain ⟨q, hq⟩ : ∃ q : Int, X / 1073741824 = q := ⟨_, rfl⟩
   have hr0 : 0 ≤ r := by omega
   have hr1 : r < 1073741824 := by omega
   have hq0 : 0 ≤ q := by omega
   have hq1 : q < X := by omega
   have hl2 := from_len hnum (by omega) HV.out
   have HLI := hid hli
   have HST : Hid (nv (L ++ [r.toNat]) + q.toNat * 1073741824 ^ (L ++ [r.toNat]).length = V) := by
    have := word_step L X.toNat V hnum
    rw [show X.toNat % 1073741824 = r.toNat from by omega, show X.toNat / 1073741824 = q.toNat from by omega] at this; exact this
   have HLA : Hid (q = 0 → 0 < (L ++ [r.toNat]).length → (L ++ [r.toNat]).getD ((L ++ [r.toNat]).length - 1) 0 ≠ 0) := fun h _ => by
    rw [List.length_append, List.length_singleton, Nat.add_sub_cancel, List.getD_eq_getElem?_getD, List.getElem?_append_right (Nat.le_refl _)]; simp; omega
   clear hnum hla hli hlen
   rcases hown.form with ⟨h0, hv⟩ | ⟨g, cap, hv, _, hgw, hc1, hc2⟩
   ·subst hv
    have HL : Hid (L.length = 0) := by unfold Hid; rw [h0]; rfl
    clear h0 hl2
    have hown' : wr.ownsRow 0 3 1 (.slice none 0 0) 0 (ints L) := by have := hown; unfold Own at this; rwa [HL.out] at this
    clear hown
    go_wp2_with (at_builtin; refine wpList_append_lies _ rfl (.tmp 16) (.tmp 19) 69 rfl 0 3 i0 (.int .i64 0) 1 8 Tryz.underlying69 hi hz0 hz1 hz2 rfl (by decide) _ _ _ rfl (hown'.alloc _) ⟨wr.heap.size, 0, none⟩ 1 1 [.int .i64 r] rfl rfl (cell_one_new _ _ _) (by intro u hu; simp at hu; subst hu; rfl) (by omega) (by unfold maxLen; omega) (by omega) (by omega) (wr.heap.size + 1) (by simp) ?_)
    intro g2 cap2 w1 hown1 hgrow hat hlt2
    have hb1 : Below w.heap.size w w1 := (hb.alloc (by omega) _).grown hgrow (by simp; omega) (fun k hk => by simp [Value.ownBlock] at hk)
    have hcb1 : w1.cell? ⟨w.heap.size, 0, none⟩ = some (.slice none 0 0) := by
     rw [hgrow.cell_far ⟨w.heap.size, 0, none⟩ (by simp; omega) (by simp [Value.ownBlock]), World.cell?_alloc_past _ _ _ hbw]; exact hcb
    have hfb1 : w1.frozen? ⟨w.heap.size, 0, none⟩ = false := by
     rw [hgrow.frozen_far ⟨w.heap.size, 0, none⟩ (by simp; omega) (by simp [Value.ownBlock])]; simp [go_sem, hbw]; exact hfb
    have hown2 : Own w1 0 (.slice (some ⟨g2, 0, none⟩) (0 + 1) cap2) (L ++ [r.toNat]) := Own.snoc hown1 HL.out (by omega)
    have hg2 : w.heap.size < g2 := by
     rcases hat with hat | hat
     ·simp [Value.ownBlock] at hat
     ·omega
    have HN : Hid (FromSt w (w1.setCell ⟨w.heap.size, 0, none⟩ (.slice (some ⟨g2, 0, none⟩) (0 + 1) cap2)) V q (.slice (some ⟨g2, 0, none⟩) (0 + 1) cap2) (L ++ [r.toNat])) :=
     FromSt.put hcb1 hfb1 hown2 (by simp [Value.ownBlock]; omega) (HLI.out.snoc r.toNat (by omega)) HST.out (by rw [List.length_append, HL.out, List.length_singleton]; omega) HLA.out hb1
    clear hown' hgrow hat hown1 hb hb1 hown2 hcb hfb
    go_wp2
    go_roundw
    case rel => exact ⟨q, _, _, by rw [hq], by omega, HN.out⟩
    case measure => simp [intOf]; omega
   ·obtain ⟨m, hm⟩ : ∃ m, L.length = m := ⟨_, rfl⟩
    rw [hm] at hv hl2 hc1
    subst hv
    unfold maxLen at hc2
    have HL := hid hm
    have hgb := hvo g (by simp [Value.ownBlock])
    clear hm
    have hown' : wr.ownsRow 0 3 1 (.slice (some ⟨g, 0, none⟩) m cap) m (ints L) := by have := hown; unfold Own at this; rwa [HL.out] at this
    clear hown
    go_wp2_with (at_builtin; refine wpList_append_lies _ rfl (.tmp 16) (.tmp 19) 69 rfl 0 3 i0 (.int .i64 0) 1 8 Tryz.underlying69 hi hz0 hz1 hz2 rfl (by decide) _ _ _ rfl (hown'.alloc _) ⟨wr.heap.size, 0, none⟩ 1 1 [.int .i64 r] rfl rfl (cell_one_new _ _ _) (by intro u hu; simp at hu; subst hu; rfl) (by omega) (by unfold maxLen; omega) (by omega) (by omega) (wr.heap.size + 1) (by simp) ?_)
    intro g2 cap2 w1 hown1 hgrow hat hlt2
    have hb1 : Below w.heap.size w w1 := (hb.alloc (by omega) _).grown hgrow (by simp; omega) (fun k hk => by have := hvo k (by simpa [Value.ownBlock] using hk); omega)
    have hcb1 : w1.cell? ⟨w.heap.size, 0, none⟩ = some (.slice (some ⟨g, 0, none⟩) m cap) := by
     rw [hgrow.cell_far ⟨w.heap.size, 0, none⟩ (by simp; omega) (by simp [Value.ownBlock]; omega), World.cell?_alloc_past _ _ _ hbw]; exact hcb
    have hfb1 : w1.frozen? ⟨w.heap.size, 0, none⟩ = false := by
     rw [hgrow.frozen_far ⟨w.heap.size, 0, none⟩ (by simp; omega) (by simp [Value.ownBlock]; omega)]; simp [go_sem, hbw]; exact hfb
    have hown2 : Own w1 0 (.slice (some ⟨g2, 0, none⟩) (m + 1) cap2) (L ++ [r.toNat]) := Own.snoc hown1 HL.out (by omega)
    have hg2 : w.heap.size < g2 := by
     rcases hat with hat | hat
     ·simp [Value.ownBlock] at hat; omega
     ·omega
    have HN : Hid (FromSt w (w1.setCell ⟨w.heap.size, 0, none⟩ (.slice (some ⟨g2, 0, none⟩) (m + 1) cap2)) V q (.slice (some ⟨g2, 0, none⟩) (m + 1) cap2) (L ++ [r.toNat])) :=
     FromSt.put hcb1 hfb1 hown2 (by simp [Value.ownBlock]; omega) (HLI.out.snoc r.toNat (by omega)) HST.out (by rw [List.length_append, HL.out, List.length_singleton]; omega) HLA.out hb1
    clear hown' hgrow hat hown1 hb hb1 hown2 hcb hfb
    go_wp2
    go_roundw
    case rel => exact ⟨q, _, _, by rw [hq], by omega, HN.out⟩
    case measure => simp [intOf]; omega
  ·have hX0 : X = 0 := by omega
   subst hX0
   have HN : Hid (NewNat w.heap.size wr w.heap.size V 3 ∧ Below w.heap.size w wr) :=
    ⟨⟨v, L, ⟨hcb, hfb, hown, fun h => by have := hvo _ h; omega, hli, hla rfl⟩, by simpa using hnum, hlen, Nat.le_refl _, fun g hg => by have := hvo g hg; omega⟩, hb⟩
   clear hcb hfb hown hvo hli hnum hla hb
   go_wp2
   go_ret
   exact ⟨rfl, HN.out⟩
end Go.Proofs.YtbkdaoicnobllabGreatDoor

namespace Go.Proofs.YtbkdaoicnobllabGreatDoor
set_option maxRecDepth 100000
set_option maxHeartbeats 1000000
open Go.RowKit

def DigSt (W w : World) (b : Nat) (v : Value) (L : List Nat) : Prop := NatAt w b v L ∧ Still W w
theorem still_drew (w : World) : Still w w.drew := ⟨1, rfl⟩
theorem DigSt.drew {W w : World} {b : Nat} {v : Value} {L : List Nat} (h : DigSt W w b v L) : DigSt W w.drew b v L :=
 ⟨(still_drew w).natAt h.1, h.2.trans (still_drew w)⟩
theorem DigSt.src {W w : World} {b g n cap : Nat} {L : List Nat} (h : DigSt W w b (.slice (some ⟨g, 0, none⟩) n cap) L) (hn : L.length = n) (j : Nat) (u : Value) (hu : (ints L)[j]? = some u) : w.cell? (Addr.add ⟨g, 0, none⟩ j) = some u := by
 have hj : j < L.length := by
  have := (List.getElem?_eq_some_iff.1 hu).1; rwa [ints_length] at this
 rw [ints_getElem?, if_pos hj] at hu
 have e : (Addr.add ⟨g, 0, none⟩ j) = ⟨g, j, none⟩ := by unfold Addr.add; by_cases h0 : j = 0 <;> simp [h0]
 rw [e, h.1.own.cell hn j (by omega)]; exact hu
theorem DigSt.size {W w : World} {b : Nat} {v : Value} {L : List Nat} (h : DigSt W w b v L) {s : Nat} (hs : W.heap.size = s) : w.heap.size = s := by rw [h.2.heap]; exact hs
theorem grown_nil_cell {W w1 : World} {B : Nat} (hg : W.drew.grownBy w1 (Value.slice none 0 0).ownBlock) (h : W.cell? ⟨B, 0, none⟩ = some (.slice none 0 0)) (hs : W.heap.size = B + 1) : w1.cell? ⟨B, 0, none⟩ = some (.slice none 0 0) := by
 rw [hg.cell_far ⟨B, 0, none⟩ (by show B < W.heap.size; omega) (by simp [Value.ownBlock])]; exact ((still_drew W).cell _).trans h
theorem grown_nil_frozen {W w1 : World} {B : Nat} (hg : W.drew.grownBy w1 (Value.slice none 0 0).ownBlock) (h : W.frozen? ⟨B, 0, none⟩ = false) (hs : W.heap.size = B + 1) : w1.frozen? ⟨B, 0, none⟩ = false := by
 rw [hg.frozen_far ⟨B, 0, none⟩ (by show B < W.heap.size; omega) (by simp [Value.ownBlock])]
 exact (World.frozen?_of_block (w := W) (by rw [(still_drew W).heap])).trans h
structure DSt (w wr : World) (v : Value) (M : List Nat) : Prop where
 nat : NatAt wr w.heap.size v M
 foot : ∀ k, v.ownBlock = some k → w.heap.size < k ∧ k < wr.heap.size
 below : Below w.heap.size w wr
theorem DSt.lt {w wr : World} {v : Value} {M : List Nat} (h : DSt w wr v M) : w.heap.size + 1 ≤ wr.heap.size := World.block_lt_of_cell? wr _ h.nat.cell
theorem DSt.alloc {w wr : World} {v : Value} {M : List Nat} (h : DSt w wr v M) (o : Obj) : DSt w (wr.alloc o) v M :=
 ⟨h.nat.turn ((Turn.refl (fun _ => False) wr).below ((Below.refl _ _).alloc (Nat.le_refl _) _)) (fun _ _ h => h), fun k hk => by have := h.foot k hk; simp; omega, h.below.alloc (by have := h.lt; omega) _⟩
theorem DSt.grown {w wr w1 : World} {v : Value} {M : List Nat} {row : Option Nat} (h : DSt w wr v M) (hg : wr.grownBy w1 row) (hr : ∀ j, row = some j → w.heap.size + 1 ≤ j ∧ v.ownBlock ≠ some j) (_hs : w.heap.size ≤ wr.heap.size) : DSt w w1 v M := by
 have ht : Turn (fun k => row = some k) wr w1 := (Turn.refl _ wr).grown hg (fun k hk _ => hk)
 refine ⟨h.nat.turn ht (fun k hk hn => ?_), fun k hk => by have := h.foot k hk; have := hg.size; omega, h.below.grown hg (by have := h.lt; omega) (fun k hk => by have := hr k hk; omega)⟩
 rcases hk with rfl | hk
 ·have := hr _ hn; omega
 ·exact (hr k hn).2 hk
theorem DSt.post {w wr w1 : World} {v v1 : Value} {M M1 : List Nat} (h : DSt w wr v M) (hn : NatAt w1 w.heap.size v1 M1) (ht : Turn (Foot w.heap.size v) wr w1) (hv : v1.ownBlock = v.ownBlock ∨ ∃ g, v1.ownBlock = some g ∧ wr.heap.size ≤ g) : DSt w w1 v1 M1 := by
 refine ⟨hn, fun k hk => ?_, below_turn h.below ht (fun k hk => ?_) (by have := h.lt; omega)⟩
 ·have h3 : k < w1.heap.size := by
   rcases hn.own.form with ⟨_, h0⟩ | ⟨g, cap, hv1, _, hg, _⟩
   ·rw [h0] at hk; simp [Value.ownBlock] at hk
   ·rw [hv1] at hk; simp [Value.ownBlock] at hk; omega
  rcases hv with h2 | ⟨g, h2, hg⟩
  ·have := h.foot k (h2 ▸ hk); omega
  ·rw [h2] at hk; cases hk; have := h.lt; omega
 ·rcases hk with rfl | hk
  ·exact Nat.le_refl _
  ·have := h.foot k hk; omega
theorem Own.turn {S : Nat → Prop} {w w1 : World} {base : Nat} {v : Value} {L : List Nat} (h : Own w base v L) (ht : Turn S w w1) (hs : ∀ k, v.ownBlock = some k → ¬ S k) : Own w1 base v L := by
 refine ⟨h.1, ?_⟩
 rcases h.2 with h2 | ⟨g, cap, cur, hv, hg, hh, r⟩
 ·exact .inl h2
 ·exact .inr ⟨g, cap, cur, hv, hg, by rw [ht.block g (Array.getElem?_eq_some_iff.1 hh).1 (hs g (by rw [hv]; rfl))]; exact hh, r⟩
theorem Own.lo {w : World} {base : Nat} {v : Value} {L : List Nat} (h : Own w base v L) (k : Nat) (hk : v.ownBlock = some k) : base ≤ k := by
 rcases h.form with ⟨_, h0⟩ | ⟨g, cap, hv, hb, _⟩
 ·rw [h0] at hk; simp [Value.ownBlock] at hk
 ·rw [hv] at hk; simp [Value.ownBlock] at hk; omega
theorem Own.hi {w : World} {base : Nat} {v : Value} {L : List Nat} (h : Own w base v L) (k : Nat) (hk : v.ownBlock = some k) : k < w.heap.size := by
 rcases h.form with ⟨_, h0⟩ | ⟨g, cap, hv, _, hg, _⟩
 ·rw [h0] at hk; simp [Value.ownBlock] at hk
 ·rw [hv] at hk; simp [Value.ownBlock] at hk; omega
def DigRel (w : World) (n : Nat) (L : List Nat) (dd : Value) (wr : World) : Prop := ∃ (v' : Value) (M O : List Nat), DSt w wr v' M ∧ (∃ g c cp, dd = .slice (some ⟨g, 0, none⟩) c cp) ∧ Own wr (w.heap.size + 1) dd O ∧ (∀ k, dd.ownBlock = some k → v'.ownBlock ≠ some k) ∧ Digs O ∧ M.length ≤ n ∧ O.length ≤ 10 * n + 9 ∧ Hid (le O + nv M * 10 ^ O.length = nv L)
theorem bill_any (b : Nat) (v : Value) (L : List Nat) (w : World) (hA : NatAt w b v L) (h0 : 0 < L.length) (hlen : L.length ≤ 90000) :
  Calls Tryz.prog 141 #[.pointer (some ⟨b, 0, none⟩)] w fun e w' => e = .returned (.int .i64 (nv L % 1000000000 : Nat)) ∧ NatPost w w' b v (nv L / 1000000000) L.length := by
 rcases hA.own.form with ⟨h1, _⟩ | ⟨g, cap, hv, _⟩
 ·rw [h1] at h0; simp at h0
 ·subst hv; exact bill_some b g cap L.length L w hA rfl hlen
theorem natDigits_any (b : Nat) (v : Value) (L : List Nat) (w : World) (h : NatAt w b v L) (h0 : 0 < L.length) (hlen : L.length ≤ 3000) :
  Calls Tryz.prog 126 #[.pointer (some ⟨b, 0, none⟩)] w fun r w' => ∃ v' : Value, r = .returned v' ∧ ∃ R : List Nat, Own w' w.heap.size v' R ∧ Digs R ∧ Headed R ∧ num R = nv L ∧ R.length ≤ 10 * L.length + 9 ∧ Below w.heap.size w w' := by
 obtain ⟨i0, hi, hz0, hz1, hz2⟩ := info_parts Tryz.info_int
 rcases h.own.form with ⟨h1, _⟩ | ⟨g, cap, hv, _, hgw, hc1, hc2⟩
 ·rw [h1] at h0; simp at h0
 ·obtain ⟨n, hn⟩ : ∃ n, L.length = n := ⟨_, rfl⟩
  rw [hn] at hv hc1 h0 hlen
  subst hv
  unfold maxLen at hc2
  have HN := hid hn
  have HA := hid h
  have hbw : b < w.heap.size := World.block_lt_of_cell? w _ h.cell
  have c0 := h.cell
  clear h hn
  go_enter Tryz.func126, Tryz.ntmps126
  go_wp2_with fail
  have HW : Hid (NatAt (w.alloc (.cells #[.slice none 0 0] 162)) b (.slice (some ⟨g, 0, none⟩) n cap) L) := HA.out.turn (((Turn.refl (fun _ => False) w).below ((Below.refl _ _).alloc (Nat.le_refl _) _))) (fun _ _ h => h)
  have d0 : (w.alloc (.cells #[.slice none 0 0] 162)).cell? ⟨w.heap.size, 0, none⟩ = some (.slice none 0 0) := by simp [go_sem]
  have df : (w.alloc (.cells #[.slice none 0 0] 162)).frozen? ⟨w.heap.size, 0, none⟩ = false := by simp [go_sem]
  have hWs : (w.alloc (.cells #[.slice none 0 0] 162)).heap.size = w.heap.size + 1 := by simp
  have HB : Hid (Below w.heap.size w (w.alloc (.cells #[.slice none 0 0] 162))) := (Below.refl _ _).alloc (Nat.le_refl _) _
  have c1 := HW.out.cell
  generalize w.alloc (.cells #[.slice none 0 0] 162) = W at *
  clear c0
  have HSR : Hid (∀ (k : Nat) (j : Nat) (u : Value), (ints L)[j]? = some u → (W.drewN k).cell? (Addr.add ⟨g, 0, none⟩ j) = some u) := fun k => DigSt.src (W := W) (b := b) (cap := cap) ⟨((Still.refl W).drewN k).natAt HW.out, (Still.refl W).drewN k⟩ HN.out
  have HDF := hid df
  have HD0 := hid d0
  clear df
  go_region_law ((refine step_append_lies _ rfl (.tmp 13) (.tmp 17) 69 rfl 0 3 i0 (.int .i64 0) 1 8 Tryz.underlying69 hi hz0 hz1 hz2 rfl (by decide) (.slice none 0 0) 0 [] rfl (World.ownsRow_nil _ _ _ _) ⟨g, 0, none⟩ n cap (ints L) rfl (by rw [ints_length, HN.out]; omega) (HSR.out _) (ints_oneCell L) h0 (by unfold maxLen; omega) (by omega) (Nat.zero_le _) (w.heap.size + 1) (by simpa using hWs) ?_; intro g2 cap2 w1 hown1 hgrow hat hlt2; have hcb1 := grown_nil_cell hgrow HD0.out hWs; have hfb1 := grown_nil_frozen hgrow HDF.out hWs))
  all_goals (
   have hg2 : g2 = w.heap.size + 1 := by
    rcases hat with hat | hat
    ·simp [Value.ownBlock] at hat
    ·exact hat
   have hown2 : Own w1 0 (.slice (some ⟨g2, 0, none⟩) n cap2) L := by
    unfold Own; rw [HN.out]; simpa using hown1
   have HST : Hid (DSt w (w1.setCell ⟨w.heap.size, 0, none⟩ (.slice (some ⟨g2, 0, none⟩) n cap2)) (.slice (some ⟨g2, 0, none⟩) n cap2) L) := by
    refine ⟨NatAt.mk_set hcb1 hfb1 hown2 (by simp [Value.ownBlock]; omega) HA.out.lim HA.out.nrm, fun k hk => by simp [Value.ownBlock] at hk; subst hk; exact ⟨by omega, by simpa [World.setCell] using hlt2⟩, ?_⟩
    exact ((HB.out.drew.grown hgrow (by show w.heap.size ≤ W.heap.size; omega) (fun k hk => by simp [Value.ownBlock] at hk))).setCell (p := ⟨w.heap.size, 0, none⟩) (Nat.le_refl _) _
   clear hown1 hgrow hat hcb1 hfb1 hown2 HW HSR HDF HD0 d0 c1 hWs HB hg2 hlt2
   generalize w1.setCell ⟨w.heap.size, 0, none⟩ (.slice (some ⟨g2, 0, none⟩) n cap2) = w2 at *
   go_wp2_with fail
   go_loopw [4] (fun dd wr => DigRel w n L dd wr) (fun dd _ => 10 * n + 20 - lenOf dd)
   case atStart =>
    refine ⟨_, L, [], HST.out.alloc _, ⟨_, _, _, rfl⟩, (Own.empty w2).mono (by have := HST.out.lt; omega), fun k hk h2 => by have := HST.out.foot _ h2; simp [Value.ownBlock] at hk; omega, Digs.nil, by rw [HN.out]; exact Nat.le_refl _, by simp, by simp [Hid, le]⟩
   case round =>
    clear HST
    obtain ⟨v', M, O, hst, ⟨gd, nd, cd, hdd⟩, hown, hap, hdg, hMl, hOl, HV⟩ := hrel
    subst hdd
    have hnd : nd = O.length := by
     rcases hown.form with ⟨_, h2⟩ | ⟨g', cap', hv', _⟩
     ·cases h2
     ·simp only [Value.slice.injEq] at hv'; exact hv'.2.1
    by_cases hz : M.length = 0
    ·have HZ : Hid (Calls Tryz.prog 140 #[.pointer (some ⟨w.heap.size, 0, none⟩)] wr fun e w' => e = .returned (.bool true) ∧ w' = wr) := by
      have := isZero_any w.heap.size v' M wr hst.nat
      rw [show decide (M.length = 0) = true from by simp [hz]] at this; exact this
     have hM0 : nv M = 0 := by rw [List.length_eq_zero_iff.1 hz]; rfl
     have HT : Hid (Calls Tryz.prog 142 #[.slice (some ⟨gd, 0, none⟩) nd cd] wr fun r w' => ∃ v' : Value, r = .returned v' ∧ ∃ R : List Nat, Own w' wr.heap.size v' R ∧ Digs R ∧ Headed R ∧ num R = le O ∧ R.length ≤ nd ∧ Below wr.heap.size wr w') := by
      rcases hown.form with ⟨_, h2⟩ | ⟨g', cap', hv', q1, q2, q3, q4⟩
      ·cases h2
      ·simp only [Value.slice.injEq, Option.some.injEq, Addr.mk.injEq, and_true] at hv'
       obtain ⟨rfl, _, rfl⟩ := hv'
       exact turned_some gd 0 cd nd O wr hnd.symm (by omega) q4 q2 (fun j hj => by rw [Nat.zero_add]; exact hown.cell hnd.symm j hj) hdg (by omega)
     have HF : Hid (le O = nv L ∧ Below w.heap.size w wr ∧ nd ≤ 10 * n + 9) := ⟨by have := HV.out; rw [hM0] at this; simpa using this, hst.below, by omega⟩
     clear hst hown hap hdg hMl hOl HV hz hM0 hnd
     go_wp2_with fail
     refine HZ.out.mono ?_
     rintro r w3 ⟨rfl, rfl⟩
     go_wp2_with fail
     refine HT.out.mono ?_
     rintro r w4 ⟨v4, rfl, R, ho4, hd4, hh4, hn4, hl4, hb4⟩
     have HG : Hid (Own w4 w.heap.size v4 R ∧ Digs R ∧ Headed R ∧ num R = nv L ∧ R.length ≤ 10 * L.length + 9 ∧ Below w.heap.size w w4) :=
      ⟨ho4.mono HF.out.2.1.size, hd4, hh4, by rw [hn4, HF.out.1], by rw [HN.out]; have := HF.out.2.2; omega, HF.out.2.1.trans (hb4.mono HF.out.2.1.size)⟩
     clear ho4 hd4 hh4 hn4 hl4 hb4 HT HZ
     go_wp2
     go_ret
     exact ⟨_, rfl, R, HG.out⟩
    ·have HZ : Hid (Calls Tryz.prog 140 #[.pointer (some ⟨w.heap.size, 0, none⟩)] wr fun e w' => e = .returned (.bool false) ∧ w' = wr) := by
      have := isZero_any w.heap.size v' M wr hst.nat
      rw [show decide (M.length = 0) = false from by simp [hz]] at this; exact this
     have HBL := hid (bill_any w.heap.size v' M wr hst.nat (by omega) (by omega))
     have hOn : O.length < 10 * n := digits_more HV.out (by have := nv_lt HA.out.lim; rw [HN.out] at this; exact this) (nv_pos (by omega) (hst.nat.nrm (by omega)))
     have HS0 := hid (And.intro hst (And.intro hown (And.intro hap (And.intro hdg hMl))))
     have HND := hid hnd
     clear hst hown hap hdg hOl hz hnd
     go_wp2_with fail
     refine HZ.out.mono ?_
     rintro r w3 ⟨rfl, rfl⟩
     clear HZ
     go_wp2_with fail
     refine HBL.out.mono ?_
     rintro r w4 ⟨rfl, hpost⟩
     obtain ⟨v4, M4, hn4, hnv4, hl4, ht4, hv4⟩ := hpost
     obtain ⟨G0, hG0⟩ : ∃ G0, G0 = nv M % 1000000000 := ⟨_, rfl⟩
     rw [← hG0]
     have HG0 := hid hG0
     have hG9 : G0 < 1000000000 := by rw [hG0]; exact Nat.mod_lt _ (by omega)
     have hst4 : DSt w w4 v4 M4 := HS0.out.1.post hn4 ht4 hv4
     have hown4 : Own w4 (w.heap.size + 1) (.slice (some ⟨gd, 0, none⟩) nd cd) O := HS0.out.2.1.turn ht4 (fun k hk hf => by
      rcases hf with hf | hf
      ·have := HS0.out.2.1.lo k hk; omega
      ·exact HS0.out.2.2.1 k hk hf)
     have hap4 : ∀ k, (Value.slice (some ⟨gd, 0, none⟩) nd cd).ownBlock = some k → v4.ownBlock ≠ some k := fun k hk h2 => by
      rcases hv4 with h | ⟨g', h, hg'⟩
      ·exact HS0.out.2.2.1 k hk (h ▸ h2)
      ·rw [h] at h2; cases h2; have := HS0.out.2.1.hi k hk; omega
     have HM4 : Hid (nv M4 = nv M / 1000000000 ∧ M4.length ≤ n) := ⟨hnv4, by have := HS0.out.2.2.2.2; omega⟩
     have HST4 := hid (And.intro hst4 (And.intro hown4 hap4))
     have hdg0 := hid HS0.out.2.2.2.1
     clear hn4 hnv4 hl4 ht4 hv4 hst4 hown4 hap4 HBL HS0 hG0 hMl
     go_wp2
     go_loopw [4, 5, 6] (fun dd gg ii wx => ∃ (k G : Nat) (P : List Nat) (vx : Value) (Mx : List Nat), gg = .int .i64 G ∧ ii = .int .i64 k ∧ k ≤ 9 ∧ G < 1000000000 ∧ Hid (G < 10 ^ (9 - k)) ∧ DSt w wx vx Mx ∧ Hid (Mx = M4) ∧ (∃ g c cp, dd = .slice (some ⟨g, 0, none⟩) c cp) ∧ Own wx (w.heap.size + 1) dd P ∧ (∀ j, dd.ownBlock = some j → vx.ownBlock ≠ some j) ∧ Digs P ∧ Hid (P.length = O.length + k) ∧ Hid (le P + G * 10 ^ P.length = le O + G0 * 10 ^ O.length)) (fun _ _ ii _ => 9 - (intOf ii).toNat)
     case atStart => exact ⟨0, G0, O, v4, M4, rfl, rfl, by omega, hG9, by unfold Hid; simpa using hG9, HST4.out.1, rfl, ⟨_, _, _, rfl⟩, HST4.out.2.1, HST4.out.2.2, hdg0.out, by simp [Hid], rfl⟩
     case round =>
      clear HST4 hdg0
      obtain ⟨k, G, P, vx, Mx, rfl, rfl, hk9, hGl, HGk, hstx, HMx, ⟨gx, nx, cx, hdd⟩, hownx, hapx, hdgx, HPl, HPe⟩ := hrel
      subst hdd
      have hnx : P.length = nx := by
       rcases hownx.form with ⟨_, h2⟩ | ⟨g', cap', hv', _⟩
       ·cases h2
       ·simp only [Value.slice.injEq] at hv'; exact hv'.2.1.symm
      by_cases hk : k < 9
      ·have HC : Hid (le (P ++ [G % 10]) + G / 10 * 10 ^ (P ++ [G % 10]).length = le O + G0 * 10 ^ O.length) := carry_step P G _ HPe.out
       have HGk2 : Hid (G / 10 < 10 ^ (9 - (k + 1))) := by
        unfold Hid
        have := HGk.out
        rw [show 9 - k = (9 - (k + 1)) + 1 from by omega, Nat.pow_succ] at this
        omega
       have hown' : wr.ownsRow (w.heap.size + 1) 3 1 (.slice (some ⟨gx, 0, none⟩) nx cx) nx (ints P) := by have := hownx; unfold Own at this; rwa [hnx] at this
       have hsz : w.heap.size + 1 ≤ wr.heap.size := hstx.lt
       obtain ⟨r, hr⟩ : ∃ r : Int, (G : Int) % 10 = r := ⟨_, rfl⟩
       obtain ⟨q, hq⟩ : ∃ q : Nat, q = G / 10 := ⟨_, rfl⟩
       have hqi : (G : Int) / 10 = (q : Int) := by omega
       have hql : q < 1000000000 := by omega
       have hr9 : r = ((G % 10 : Nat) : Int) := by omega
       have hnxl : nx < 10 * n + 9 := by have := HPl.out; omega
       have HSX := hid (And.intro hstx (And.intro hownx (And.intro hapx hdgx)))
       have HNX := hid hnx
       rw [← hq] at HC HGk2
       have HR9 := hid hr9
       clear hstx hownx hapx hdgx hq hr9 hnx
       go_wp2_with (at_builtin; refine wpList_append_lies _ rfl (.tmp 31) (.tmp 34) 69 rfl (w.heap.size + 1) 3 i0 (.int .i64 0) 1 8 Tryz.underlying69 hi hz0 hz1 hz2 rfl (by decide) _ _ _ rfl (hown'.alloc _) ⟨wr.heap.size, 0, none⟩ 1 1 [.int .i64 r] rfl rfl (cell_one_new _ _ _) (by intro u hu; simp at hu; subst hu; rfl) (by omega) (by unfold maxLen; omega) (by omega) (by simp; omega) (wr.heap.size + 1) (by simp) ?_)
       intro g3 cap3 w5 hown5 hgrow5 hat5 hlt5
       have HN2 : Hid (Own w5 (w.heap.size + 1) (.slice (some ⟨g3, 0, none⟩) (nx + 1) cap3) (P ++ [G % 10])) := Own.snoc hown5 HNX.out HR9.out
       have HS2 : Hid (DSt w w5 vx Mx ∧ ∀ j, (Value.slice (some ⟨g3, 0, none⟩) (nx + 1) cap3).ownBlock = some j → vx.ownBlock ≠ some j) := by
        refine ⟨(HSX.out.1.alloc _).grown hgrow5 (fun j hj => ?_) (by simp; omega), fun j hj h2 => ?_⟩
        ·have h1 := HSX.out.2.1.lo j hj
         exact ⟨h1, HSX.out.2.2.1 j hj⟩
        ·have h3 := HSX.out.1.foot _ h2
         rcases hat5 with h | h
         ·simp [Value.ownBlock] at h hj; exact HSX.out.2.2.1 gx (by simp [Value.ownBlock]) (by rw [h2]; simp; omega)
         ·simp [Value.ownBlock] at hj; omega
       clear hown5 hgrow5 hat5 hlt5 hown'
       go_wp2
       go_roundw
       case rel => exact ⟨k + 1, q, P ++ [G % 10], vx, Mx, by first | rfl | rw [hqi], by go_num, by omega, hql, HGk2.out, HS2.out.1, HMx.out, ⟨_, _, _, rfl⟩, HN2.out, HS2.out.2, HSX.out.2.2.2.append (Digs.cons (by omega) Digs.nil), by unfold Hid; rw [List.length_append, HPl.out]; simp; omega, HC.out⟩
       case measure => simp [intOf]; omega
      ·have hk2 : k = 9 := by omega
       subst hk2
       have hG0' : G = 0 := by have := HGk.out; simpa using this
       have HD : Hid (le P + nv Mx * 10 ^ P.length = nv L) := by
        unfold Hid
        rw [HMx.out, HM4.out.1]
        exact digits_step HV.out HPl.out (by have := HPe.out; rw [hG0', HG0.out] at this; exact this)
       have HFI := hid (And.intro hstx (And.intro hownx (And.intro hapx hdgx)))
       have hln : nx = O.length + 9 := by have := HPl.out; omega
       clear hstx hownx hapx hdgx
       go_wp2
       go_roundw
       case rel => exact ⟨vx, Mx, P, HFI.out.1, ⟨_, _, _, rfl⟩, HFI.out.2.1, HFI.out.2.2.1, HFI.out.2.2.2, by rw [HMx.out]; exact HM4.out.2, by have := HPl.out; omega, HD.out⟩
       case measure => have := HND.out; simp only [lenOf]; omega)
end Go.Proofs.YtbkdaoicnobllabGreatDoor

namespace Go.Proofs.YtbkdaoicnobllabGreatDoor
set_option maxRecDepth 100000
set_option maxHeartbeats 1000000
open Go.RowKit

def BinPost (m : Nat) (pw : Int) (w w' : World) (b : Nat) (v : Value) (D : List Nat) (e : Int) : Prop :=
 DecAt w' b v D e ∧ (∀ K : Nat, -(K : Int) ≤ pw → val K D e = two K pw * m) ∧ w.heap.size ≤ b ∧ Below w.heap.size w w'
theorem fromBinary_any (m : Nat) (pw : Int) (w : World) (hm0 : 0 < m) (hm : m < 1152921504606846976) (hp1 : -1080 ≤ pw) (hp2 : pw ≤ 1080) :
  Calls Tryz.prog 99 #[.int .i64 m, .int .i64 pw] w fun r w' => ∃ b : Nat, r = .returned (.pointer (some ⟨b, 0, none⟩)) ∧ ∃ (v : Value) (D : List Nat) (e : Int), DecAt w' b v D e ∧ (-1080 ≤ e ∧ e ≤ 0) ∧ (∀ K : Nat, -(K : Int) ≤ pw → val K D e = two K pw * m) ∧ w.heap.size ≤ b ∧ Below w.heap.size w w' := by
 have HFI := hid (fromInt_any m w hm)
 clear hm
 by_cases hpw : 0 ≤ pw
 ·go_enter Tryz.func99, Tryz.ntmps99
  go_wp2_with fail
  refine HFI.out.mono ?_
  rintro r w1 ⟨rfl, ⟨v, L, hna, hnv, hlen, hbb, hfo⟩, hb1⟩
  have HB1 := hid hb1
  have HFO := hid hfo
  have HV := hid hnv
  clear HFI hnv hbb hfo hb1
  have HX := hid (shift_any w.heap.size pw v L w1 hna (by omega) (by omega))
  clear hna
  go_wp2_with fail
  refine HX.out.mono ?_
  rintro r w2 ⟨rfl, hp⟩
  obtain ⟨⟨v2, L2, hn2, hv2, hl2, hb2, hf2⟩, HB2⟩ := NewNat.post (B := w.heap.size) HB1.out HB1.out.size (Nat.le_refl _) HFO.out hp
  have hV2 : nv L2 = m * 2 ^ pw.toNat := by rw [hv2, HV.out]
  have hpos2 : 0 < L2.length := by
   apply Nat.pos_of_ne_zero; intro h0
   have := hn2.zero_iff.1 h0
   rw [hV2] at this
   have h1 : 0 < m * 2 ^ pw.toNat := Nat.mul_pos hm0 (Nat.pow_pos (by omega))
   omega
  have HY := hid (natDigits_any w.heap.size v2 L2 w2 hn2 hpos2 (by omega))
  have HB2' := hid HB2
  have HL2 := hid (And.intro hV2 hl2)
  clear hp hn2 hv2 hl2 hb2 hf2 hV2 hpos2 HX HB2
  go_wp2_with fail
  refine HY.out.mono ?_
  rintro r w3 ⟨v3, rfl, R, ho, hd, hh, hn, hl, hb3⟩
  have hR : 0 < R.length := by
   apply Nat.pos_of_ne_zero; intro h0
   rw [List.length_eq_zero_iff.1 h0, num_nil, HL2.out.1] at hn
   have h1 : 0 < m * 2 ^ pw.toNat := Nat.mul_pos hm0 (Nat.pow_pos (by omega))
   omega
  have hb3' : Below w.heap.size w w3 := HB2'.out.trans (hb3.mono HB2'.out.size)
  obtain ⟨ao, cp, hv3⟩ := ho.row.isSlice
  subst hv3
  have HF : Hid (DecAt (w3.alloc (.cells #[.slice ao R.length cp, .int .i64 0] 156)) w3.heap.size (.slice ao R.length cp) R 0 ∧ (-1080 ≤ (0 : Int) ∧ (0 : Int) ≤ 0) ∧ (∀ K : Nat, -(K : Int) ≤ pw → val K R 0 = two K pw * m) ∧ w.heap.size ≤ w3.heap.size ∧ Below w.heap.size w (w3.alloc (.cells #[.slice ao R.length cp, .int .i64 0] 156))) := by
   refine ⟨⟨by simp [go_sem], by simp [go_sem], ho.row.below ((Below.refl _ _).alloc (Nat.le_refl _) _) (Nat.le_refl _), hd, hh, hR, by have := HL2.out.2; omega, by omega, by omega⟩, by omega, fun K hK => ?_, hb3'.size, hb3'.alloc hb3'.size _⟩
   unfold val two
   rw [hn, HL2.out.1, if_pos hpw]
   simp only [Int.zero_add, Int.toNat_natCast]; rw [Nat.mul_assoc, Nat.mul_comm m]
  clear ho hd hh hn hl hb3 hR hb3' HY
  go_wp2
  go_ret
  exact ⟨_, rfl, _, _, _, HF.out⟩
 ·obtain ⟨q, hq⟩ : ∃ q : Nat, -pw = (q : Int) := ⟨(-pw).toNat, by omega⟩
  go_enter Tryz.func99, Tryz.ntmps99
  go_wp2_with fail
  refine HFI.out.mono ?_
  rintro r w1 ⟨rfl, ⟨v, L, hna, hnv, hlen, hbb, hfo⟩, hb1⟩
  have HB1 := hid hb1
  have HFO := hid hfo
  have HV := hid hnv
  clear HFI hnv hbb hfo hb1
  have HX := hid (mulFive_any w.heap.size q v L w1 hna (by omega) (by omega))
  clear hna
  go_wp2_with fail
  refine HX.out.mono ?_
  rintro r w2 ⟨rfl, hp⟩
  obtain ⟨⟨v2, L2, hn2, hv2, hl2, hb2, hf2⟩, HB2⟩ := NewNat.post (B := w.heap.size) HB1.out HB1.out.size (Nat.le_refl _) HFO.out hp
  have hV2 : nv L2 = m * 5 ^ q := by rw [hv2, HV.out]
  have hpos2 : 0 < L2.length := by
   apply Nat.pos_of_ne_zero; intro h0
   have := hn2.zero_iff.1 h0
   rw [hV2] at this
   have h1 : 0 < m * 5 ^ q := Nat.mul_pos hm0 (Nat.pow_pos (by omega))
   omega
  have HY := hid (natDigits_any w.heap.size v2 L2 w2 hn2 hpos2 (by omega))
  have HB2' := hid HB2
  have HL2 := hid (And.intro hV2 hl2)
  clear hp hn2 hv2 hl2 hb2 hf2 hV2 hpos2 HX HB2
  go_wp2_with fail
  refine HY.out.mono ?_
  rintro r w3 ⟨v3, rfl, R, ho, hd, hh, hn, hl, hb3⟩
  have hR : 0 < R.length := by
   apply Nat.pos_of_ne_zero; intro h0
   rw [List.length_eq_zero_iff.1 h0, num_nil, HL2.out.1] at hn
   have h1 : 0 < m * 5 ^ q := Nat.mul_pos hm0 (Nat.pow_pos (by omega))
   omega
  have hb3' : Below w.heap.size w w3 := HB2'.out.trans (hb3.mono HB2'.out.size)
  obtain ⟨ao, cp, hv3⟩ := ho.row.isSlice
  subst hv3
  have HF : Hid (DecAt (w3.alloc (.cells #[.slice ao R.length cp, .int .i64 pw] 156)) w3.heap.size (.slice ao R.length cp) R pw ∧ (-1080 ≤ (pw : Int) ∧ (pw : Int) ≤ 0) ∧ (∀ K : Nat, -(K : Int) ≤ pw → val K R pw = two K pw * m) ∧ w.heap.size ≤ w3.heap.size ∧ Below w.heap.size w (w3.alloc (.cells #[.slice ao R.length cp, .int .i64 pw] 156))) := by
   refine ⟨⟨by simp [go_sem], by simp [go_sem], ho.row.below ((Below.refl _ _).alloc (Nat.le_refl _) _) (Nat.le_refl _), hd, hh, hR, by have := HL2.out.2; omega, by omega, by omega⟩, by omega, fun K hK => ?_, hb3'.size, hb3'.alloc hb3'.size _⟩
   unfold val two
   rw [hn, HL2.out.1, if_neg (by omega)]
   rw [show (-pw).toNat = q from by omega, show pw + (K : Int) = K + pw from by omega, Nat.mul_assoc, Nat.mul_comm m]
  clear ho hd hh hn hl hb3 hR hb3' HY
  go_wp2
  go_ret
  exact ⟨_, rfl, _, _, _, HF.out⟩
end Go.Proofs.YtbkdaoicnobllabGreatDoor

namespace Go.Proofs.YtbkdaoicnobllabGreatDoor
set_option maxRecDepth 100000
set_option maxHeartbeats 1000000
open Go.RowKit

theorem expB_length (D : List Nat) (n : Nat) : (expB D n).length ≤ 2 * n := by
 induction n with
 | zero => simp [expB]
 | succ n ih => simp only [expB]; split <;> simp <;> omega
theorem hexD_small (d : Nat) (h : d < 10) : hexD d = UInt8.ofNat (48 + d) := by unfold hexD; rw [if_pos h]
theorem wexp_any (g off cap n : Nat) (D : List Nat) (pw : Int) (w : World) (htab : Tab w) (hn : D.length = n) (h0 : 0 < n) (hl : n ≤ 2000) (hcap : n ≤ cap) (hc2 : cap ≤ 9223372036854775807) (hg : g < w.heap.size) (hce : ∀ j, j < n → w.cell? ⟨g, off + j, none⟩ = some (.int .i64 (D.getD j 0 : Nat))) (hd : Digs D) (hp1 : -100000 ≤ pw) (hp2 : pw ≤ 100000) :
  Calls Tryz.prog 97 #[.slice (some ⟨g, off, none⟩) n cap, .int .i64 pw] w fun r w' => r = .returned (.string (str (expB D n ++ (101 :: Lib.itoa pw)))) ∧ Below w.heap.size w w' := by
 have H4 := hid hce
 have HN := hid hn
 have HD := hid hd
 have HTAB := hid htab
 obtain ⟨ui0, uhi, uhz0, uhz1, uhz2⟩ := info_parts Tryz.info_u8
 clear hce hn hd htab
 go_enter Tryz.func97, Tryz.ntmps97
 go_wp2
 go_loopw [5, 11] (fun tt ii wr => ∃ k : Nat, ii = .int .i64 k ∧ k ≤ n ∧ (∃ g c cp, tt = .slice (some ⟨g, 0, none⟩) c cp) ∧ OwnB wr w.heap.size tt (expB D k) ∧ Below w.heap.size w wr) (fun _ ii _ => n - (intOf ii).toNat)
 case atStart => exact ⟨0, rfl, Nat.zero_le _, ⟨_, _, _, rfl⟩, OwnB.empty w, (Below.refl _ _).alloc (Nat.le_refl _) _⟩
 case round =>
  obtain ⟨k, rfl, hk, hsm, hown, hb⟩ := hrel
  obtain ⟨g2, cp2, rfl, hg2, hc1, hc3⟩ := hown.form hsm
  have hsz := hb.size
  have hel := expB_length D k
  obtain ⟨m, hm⟩ : ∃ m, (expB D k).length = m := ⟨_, rfl⟩
  rw [hm] at hown hc1 hel ⊢
  unfold maxLen at hc3
  have HM := hid hm
  clear hsm hm
  by_cases hlt : k < n
  ·obtain ⟨x, hx⟩ : ∃ x, x = D.getD k 0 := ⟨_, rfl⟩
   have hx9 : x ≤ 9 := by rw [hx]; exact HD.out.getD k
   have cx : wr.cell? ⟨g, off + k, none⟩ = some (.int .i64 x) := by
    rw [hx, hb.cell (p := ⟨g, off + k, none⟩) (by show g < _; omega)]; exact H4.out k hlt
   obtain ⟨z, hz⟩ : ∃ z : Int, z = ((hexD x).toNat : Nat) := ⟨_, rfl⟩
   have HDB : Hid (∀ w, Calls Tryz.prog 101 #[.int .i64 x] w fun e w' => e = .returned (.int .u8 z) ∧ w' = w) := fun w => by rw [hz]; exact digitByte_any x (by omega) w
   have HZ := hid hz
   have HXD : Hid (hexD x = UInt8.ofNat (48 + D.getD k 0)) := by unfold Hid; rw [hexD_small x (by omega), hx]
   have hown' : wr.ownsRow w.heap.size 5 1 (.slice (some ⟨g2, 0, none⟩) m cp2) m (byts (expB D k)) := hown.owns HM.out
   clear hown hz hx
   by_cases h1 : k = 1
   ·subst h1
    go_wp2_with (at_builtin; refine wpList_append_own _ rfl (.tmp 18) (.tmp 19) 53 rfl w.heap.size 5 ui0 (.int .u8 0) 1 1 Tryz.underlying53 uhi uhz0 uhz1 uhz2 rfl (by decide) _ _ _ rfl (hown'.alloc _) ⟨wr.heap.size, 0, none⟩ 1 1 [.int .u8 46] rfl rfl (cell_one_new _ _ _) (by intro u hu; simp at hu; subst hu; rfl) (by unfold maxLen; omega) (by omega) (by simp; omega) ?_)
    intro v' w1 hown1 hgrow _
    have hb1 : Below w.heap.size w w1 := (hb.alloc (by omega) _).grown hgrow (by simp; omega) (fun k hk => (hown'.lt k hk).1)
    have hownb : OwnB w1 w.heap.size v' (expB D 1 ++ [46]) := OwnB.snoc hown1 HM.out rfl
    have hsm := hownb.someS (by simp)
    obtain ⟨g3, cp3, rfl, hg3, hc4, hc5⟩ := hownb.form hsm
    have hlen : (expB D 1 ++ [46]).length = m + 1 := by rw [List.length_append, HM.out]; rfl
    rw [hlen] at hownb hc4 ⊢
    unfold maxLen at hc5
    have hownc : w1.ownsRow w.heap.size 5 1 (.slice (some ⟨g3, 0, none⟩) (m + 1) cp3) (m + 1) (byts (expB D 1 ++ [46])) := hownb.owns hlen
    have HLE := hid hlen
    have hsz1 := hb1.size
    clear hown' hgrow hown1 hb hownb hsm cx hlen
    go_wp2_with fail
    refine (HDB.out _).mono ?_
    rintro r w2 ⟨rfl, rfl⟩
    go_wp2_with (at_builtin; refine wpList_append_own _ rfl (.tmp 21) (.tmp 24) 53 rfl w.heap.size 5 ui0 (.int .u8 0) 1 1 Tryz.underlying53 uhi uhz0 uhz1 uhz2 rfl (by decide) _ _ _ rfl (hownc.alloc _) ⟨w2.heap.size, 0, none⟩ 1 1 [.int .u8 z] rfl rfl (cell_one_new _ _ _) (by intro u hu; simp at hu; subst hu; rfl) (by unfold maxLen; omega) (by omega) (by simp; omega) ?_)
    intro v2 w3 hown3 hgrow3 _
    have hb3 : Hid (Below w.heap.size w w3) := (hb1.alloc (by omega) _).grown hgrow3 (by simp; omega) (fun k hk => (hownc.lt k hk).1)
    have hown4 : Hid (OwnB w3 w.heap.size v2 (expB D 2)) := by
     unfold Hid
     have := OwnB.snoc (d := hexD x) hown3 HLE.out HZ.out
     rw [HXD.out] at this; exact this
    clear hownc hgrow3 hown3 hb1
    go_wp2
    go_roundw
    case rel => exact ⟨2, by go_num, by omega, hown4.out.someS (by simp [expB]), hown4.out, hb3.out⟩
    case measure => simp [intOf]; omega
   ·have t1 : ((k : Int) == 1) = false := by rw [beq_eq_false_iff_ne]; omega
    go_wp2_with fail
    refine (HDB.out _).mono ?_
    rintro r w2 ⟨rfl, rfl⟩
    go_wp2_with (at_builtin; refine wpList_append_own _ rfl (.tmp 21) (.tmp 24) 53 rfl w.heap.size 5 ui0 (.int .u8 0) 1 1 Tryz.underlying53 uhi uhz0 uhz1 uhz2 rfl (by decide) _ _ _ rfl (hown'.alloc _) ⟨w2.heap.size, 0, none⟩ 1 1 [.int .u8 z] rfl rfl (cell_one_new _ _ _) (by intro u hu; simp at hu; subst hu; rfl) (by unfold maxLen; omega) (by omega) (by simp; omega) ?_)
    intro v' w1 hown1 hgrow _
    have hb1 : Hid (Below w.heap.size w w1) := (hb.alloc (by omega) _).grown hgrow (by simp; omega) (fun k hk => (hown'.lt k hk).1)
    have hown4 : Hid (OwnB w1 w.heap.size v' (expB D (k + 1))) := by
     unfold Hid
     have := OwnB.snoc (d := hexD x) hown1 HM.out HZ.out
     rw [HXD.out] at this
     rw [expB, if_neg h1, List.append_nil]; exact this
    clear hown' hgrow hown1 hb cx
    go_wp2
    go_roundw
    case rel => exact ⟨k + 1, by go_num, by omega, hown4.out.someS (by simp [expB]; omega), hown4.out, hb1.out⟩
    case measure => simp [intOf]; omega
  ·have hkn : k = n := by omega
   subst hkn
   have HHB : Hid (HeldB wr w.heap.size (.slice (some ⟨g2, 0, none⟩) m cp2) (expB D k)) := ⟨hown, HTAB.out.below hb⟩
   have HBR := hid hb
   have HIT : Hid (∀ wx, Tab wx → Calls Tryz.prog 102 #[.int .i64 pw] wx fun e w' => e = .returned (.string (str (Lib.itoa pw))) ∧ Below wx.heap.size wx w') := fun wx hx => itoa_any pw (by omega) (by omega) wx hx
   have hts : (str (expB D k)).size ≤ 4000 := by rw [str_size, HM.out]; omega
   have his : (str (Lib.itoa pw)).size ≤ 100 := by rw [str_size]; have := Lib.itoa_length_le pw (by omega) (by omega); omega
   have hs1 : (str (expB D k) ++ ⟨#[101]⟩).size ≤ 4001 := by rw [ByteArray.size_append]; have : (⟨#[101]⟩ : ByteArray).size = 1 := rfl; omega
   have r1 : ∀ W : World, (Op.stringOp .add (str (expB D k)) ⟨#[101]⟩).run Tryz.prog W = .ok (.string (str (expB D k) ++ ⟨#[101]⟩)) W := fun W => run_string_add_sum W _ _ (by have : (⟨#[101]⟩ : ByteArray).size = 1 := rfl; omega)
   have r2 : ∀ W : World, (Op.stringOp .add (str (expB D k) ++ ⟨#[101]⟩) (str (Lib.itoa pw))).run Tryz.prog W = .ok (.string (str (expB D k) ++ ⟨#[101]⟩ ++ str (Lib.itoa pw))) W := fun W => run_string_add_sum W _ _ (by omega)
   have HSS : Hid (str (expB D k) ++ ⟨#[101]⟩ ++ str (Lib.itoa pw) = str (expB D k ++ (101 :: Lib.itoa pw))) := by
    unfold Hid
    rw [show (101 :: Lib.itoa pw : List UInt8) = [101] ++ Lib.itoa pw from rfl, ← List.append_assoc, ← str_append, ← str_append]; rfl
   clear hown hb hs1 hts his
   go_wp2_with fail
   go_region_held3 (fun w' => HeldB w' w.heap.size (.slice (some ⟨g2, 0, none⟩) m cp2) (expB D k) ∧ (convert 53 9 (.slice (some ⟨g2, 0, none⟩) m cp2)).run Tryz.prog w' = .ok (.string (str (expB D k))) w')
    (first | exact ⟨HHB.out.next ((Below.refl _ _).drew), (HHB.out.next ((Below.refl _ _).drew)).1.conv HM.out⟩ | exact ⟨HeldB.next (by assumption) hb4, (HeldB.next (by assumption) hb4).1.conv HM.out⟩ | go_keep)
    ((go_at_call 102; refine (HIT.out _ (HeldB.tab (base := w.heap.size) (v := .slice (some ⟨g2, 0, none⟩) m cp2) (T := expB D k) (by assumption))).mono ?_; rintro e w4 ⟨rfl, hb4⟩))
   have HB4 : Hid (Below w.heap.size w w4) := HBR.out.drew.trans (hb4.mono HBR.out.size)
   clear hb4
   go_wp2
   go_ret
   exact ⟨ret_str HSS.out, HB4.out⟩
end Go.Proofs.YtbkdaoicnobllabGreatDoor
