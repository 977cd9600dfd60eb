import Derived.Test.YtbkdaoicnobllabGreatDoorProg
import Derived.Test.YtbkdaoicnobllabGreatDoorG01
import Derived.Test.YtbkdaoicnobllabGreatDoorG00
import Derived.Deep.QuietTactic
import Derived.BigQuiet
import Derived.Deep.AppendLies

namespace Go.Proofs.YtbkdaoicnobllabGreatDoor
set_option maxRecDepth 100000
set_option maxHeartbeats 1000000
open Go.RowKit

theorem order_any (a b : Int) (w : World) : Calls Tryz.prog 146 #[.int .i64 a, .int .i64 b] w fun e w' => e = .returned (.int .i64 (if a < b then -1 else if a = b then 0 else 1)) ∧ w' = w := by
 by_cases h : a < b
 ·go_enter Tryz.func146, Tryz.ntmps146
  go_wp2
  go_ret
  exact ⟨ret_int (by simp), rfl⟩
 ·by_cases h2 : b < a
  ·go_enter Tryz.func146, Tryz.ntmps146
   go_wp2
   go_ret
   exact ⟨ret_int (by simp), rfl⟩
  ·have he : a = b := by omega
   subst he
   go_enter Tryz.func146, Tryz.ntmps146
   go_wp2
   go_ret
   exact ⟨ret_int (by simp), rfl⟩

theorem isZero_any (b : Nat) (v : Value) (L : List Nat) (w : World) (h : NatAt w b v L) :
  Calls Tryz.prog 140 #[.pointer (some ⟨b, 0, none⟩)] w fun e w' => e = .returned (.bool (decide (L.length = 0))) ∧ w' = w := by
 obtain ⟨ao, cap, hv⟩ := h.own.row.isSlice
 subst hv
 have hc := h.cell
 clear h
 obtain ⟨n, hn⟩ : ∃ n, n = L.length := ⟨_, rfl⟩
 rw [← hn] at hc ⊢
 clear hn
 go_enter Tryz.func140, Tryz.ntmps140
 go_wp2
 go_ret
 exact ⟨congrArg (fun b => Ending.returned (Value.bool b)) (by rw [Bool.eq_iff_iff]; simp), rfl⟩

theorem trim_any (b : Nat) (v : Value) (L : List Nat) (w : World) (hc : w.cell? ⟨b, 0, none⟩ = some v) (hf : w.frozen? ⟨b, 0, none⟩ = false) (ho : Own w 0 v L) (hap : v.ownBlock ≠ some b) (hl : Lim L) (hlen : L.length ≤ 100000) :
  Calls Tryz.prog 145 #[.pointer (some ⟨b, 0, none⟩)] w fun e w' => e = .returned (.tuple #[]) ∧ NatPost w w' b v (nv L) L.length := by
 have HO := hid (And.intro ho (And.intro hap hl))
 rcases ho.form with ⟨h0, hv⟩ | ⟨g, cap, hv, hg1, hg2, hg3, hg4⟩
 ·subst hv
  have H0 := hid h0
  clear ho hap hl h0 hlen
  go_enter Tryz.func145, Tryz.ntmps145
  go_wp2
  go_loop [2] (fun t => t = .int .i64 0) (fun _ => 0)
  case atStart => rfl
  case round =>
   subst hrel
   go_wp2
   go_end0
   exact ⟨rfl, NatPost.of_set (NatAt.mk_set hc hf HO.out.1 HO.out.2.1 HO.out.2.2 (fun h => by rw [H0.out] at h; simp at h)) rfl (Nat.le_refl _) rfl⟩
 ·obtain ⟨n, hn⟩ : ∃ n, n = L.length := ⟨_, rfl⟩
  rw [← hn] at hv hlen hg3
  subst hv
  have HN := hid hn
  unfold maxLen at hg4
  clear ho hap hl hn hg1 hg2
  go_enter Tryz.func145, Tryz.ntmps145
  go_wp2
  go_loop [2] (fun t => ∃ m : Nat, m ≤ n ∧ t = .int .i64 m ∧ Hid (∀ j, m ≤ j → j < n → L.getD j 0 = 0)) (fun t => (intOf t).toNat)
  case atStart => exact ⟨n, Nat.le_refl _, rfl, fun j h1 h2 => by omega⟩
  case round =>
   obtain ⟨m, hm, rfl, HZ⟩ := hrel
   by_cases hpos : 0 < m
   ·have cx := HO.out.1.cell HN.out.symm (m - 1) (by omega)
    obtain ⟨x, hx⟩ : ∃ x, x = L.getD (m - 1) 0 := ⟨_, rfl⟩
    rw [← hx] at cx
    have HX := hid hx
    clear hx
    by_cases hx0 : x = 0
    ·have hb : ((x : Int) == 0) = true := by simp [hx0]
     have HX0 := hid hx0
     clear hx0
     go_wp2
     go_round
     case rel => exact ⟨m - 1, by omega, by go_num, fun j h1 h2 => if h : j = m - 1 then by rw [h, ← HX.out]; exact HX0.out else HZ.out j (by omega) h2⟩
     case measure => simp [intOf]; omega
    ·have hb : ((x : Int) == 0) = false := by rw [beq_eq_false_iff_ne]; omega
     have HX0 := hid hx0
     clear hx0
     go_wp2
     go_end0
     refine ⟨rfl, NatPost.of_set (L := L.take m) (NatAt.mk_set hc hf (HO.out.1.cutTo HN.out.symm m hm) HO.out.2.1 (HO.out.2.2.take m) (fun _ => ?_)) (nv_take_zeros L m (fun j h1 h2 => HZ.out j h1 (by rw [HN.out]; exact h2))) (by rw [List.length_take, ← HN.out]; omega) rfl⟩
     rw [List.length_take, Nat.min_eq_left (by rw [← HN.out]; exact hm), List.getD_eq_getElem?_getD, List.getElem?_take_of_lt (by omega), ← List.getD_eq_getElem?_getD, ← HX.out]
     exact HX0.out
   ·have hm0 : m = 0 := by omega
    subst hm0
    go_wp2
    go_end0
    exact ⟨rfl, NatPost.of_set (L := L.take 0) (NatAt.mk_set hc hf (HO.out.1.cutTo HN.out.symm 0 hm) HO.out.2.1 (HO.out.2.2.take 0) (fun h => by simp at h)) (nv_take_zeros L 0 (fun j h1 h2 => HZ.out j h1 (by rw [HN.out]; exact h2))) (by simp) rfl⟩

end Go.Proofs.YtbkdaoicnobllabGreatDoor

namespace Go.Proofs.YtbkdaoicnobllabGreatDoor
set_option maxRecDepth 100000
set_option maxHeartbeats 1000000
open Go.RowKit

theorem NatPost.after {w W w' : World} {b : Nat} {v v1 : Value} {V len : Nat} (h : NatPost W w' b v1 V len) (ht : Turn (Foot b v) w W) (hv : v1.ownBlock = v.ownBlock ∨ ∃ g, v1.ownBlock = some g ∧ w.heap.size ≤ g) : NatPost w w' b v V len := by
 obtain ⟨v', L', h1, h2, h3, h4, h5⟩ := h
 refine ⟨v', L', h1, h2, h3, ht.trans h4 (fun j hj hf => ?_), ?_⟩
 ·rcases hf with hf | hf
  ·exact .inl hf
  ·rcases hv with hv | ⟨g, hv, hg⟩
   ·exact .inr (hv ▸ hf)
   ·rw [hv] at hf; cases hf; omega
 ·rcases h5 with h5 | ⟨g, h5, hg⟩
  ·rcases hv with hv | ⟨g, hv, hg⟩
   ·exact .inl (h5.trans hv)
   ·exact .inr ⟨g, h5.trans hv, hg⟩
  ·exact .inr ⟨g, h5, Nat.le_trans ht.size hg⟩
theorem NatPost.widen {w w' : World} {b : Nat} {v : Value} {V V2 len len2 : Nat} (h : NatPost w w' b v V len) (hv : V = V2) (hl : len ≤ len2) : NatPost w w' b v V2 len2 := by
 obtain ⟨v', L', h1, h2, h3, h4⟩ := h
 exact ⟨v', L', h1, h2.trans hv, Nat.le_trans h3 hl, h4⟩
theorem take_eq_self {M : List Nat} {n : Nat} (h : M.length = n) : M.take n = M := List.take_of_length_le (by omega)

theorem mul_end {L M : List Nat} {f a c n : Nat} (hM : M.length = n) (hL : L.length = n) (h : nv (M.take n) + c * 1073741824 ^ n = nv (L.take n) * f + a) : nv (M ++ [c]) = nv L * f + a ∧ (c = 0 → nv M = nv L * f + a) := by
 rw [take_eq_self hM, take_eq_self hL] at h
 refine ⟨by rw [nv_snoc, hM, Nat.mul_comm (1073741824 ^ n)]; exact h, fun h0 => by rw [h0] at h; simpa using h⟩

theorem mulAdd_some (b g cap n f a : Nat) (L : List Nat) (w : World) (h : NatAt w b (.slice (some ⟨g, 0, none⟩) n cap) L) (hn : L.length = n) (hlen : n ≤ 90000) (hf : f < 1073741824) (ha : a < 1073741824) :
  Calls Tryz.prog 131 #[.pointer (some ⟨b, 0, none⟩), .int .i64 f, .int .i64 a] w fun e w' => e = .returned (.tuple #[]) ∧ NatPost w w' b (.slice (some ⟨g, 0, none⟩) n cap) (nv L * f + a) (n + 1) := by
 have hgb : g ≠ b := fun e => h.apart (by rw [e]; rfl)
 have hc := h.cell
 have HN := hid hn
 have HH := hid h
 obtain ⟨i0, hi, hz0, hz1, hz2⟩ := info_parts Tryz.info_int
 have hcap : n ≤ cap ∧ cap ≤ 9223372036854775807 := by
  rcases h.own.form with ⟨_, h2⟩ | ⟨g', cap', hv, _, _, h3, h4⟩
  ·cases h2
  ·simp only [Value.slice.injEq] at hv
   unfold maxLen at h4
   obtain ⟨_, _, h5⟩ := hv
   omega
 have hbl : b < w.heap.size := World.block_lt_of_cell? w _ hc
 clear h hn
 go_enter Tryz.func131, Tryz.ntmps131
 go_wp2
 go_loopw [6, 15] (fun cc ii wr => ∃ i c : Nat, ∃ M : List Nat, cc = .int .i64 c ∧ c < 1073741824 ∧ ii = .int .i64 i ∧ i ≤ n ∧ Hid (M.length = n) ∧ Own wr 0 (.slice (some ⟨g, 0, none⟩) n cap) M ∧ Hid (∀ j, i ≤ j → M.getD j 0 = L.getD j 0) ∧ Lim M ∧
   Hid (nv (M.take i) + c * 1073741824 ^ i = nv (L.take i) * f + a) ∧ Turn (Foot b (.slice (some ⟨g, 0, none⟩) n cap)) w wr ∧ wr.cell? ⟨b, 0, none⟩ = some (.slice (some ⟨g, 0, none⟩) n cap) ∧ wr.frozen? ⟨b, 0, none⟩ = false) (fun _ ii _ => n - (intOf ii).toNat)
 case atStart => exact ⟨0, a, L, rfl, ha, rfl, Nat.zero_le _, HN.out, HH.out.own, fun _ _ => rfl, HH.out.lim, by simp [Hid, nv], Turn.refl _ _, hc, HH.out.frozen⟩
 case round =>
  clear hc
  obtain ⟨i, c, M, rfl, hcc, rfl, hin, HM, hown, HR, hlim, HE, ht, hcb, hfb⟩ := hrel
  by_cases hlt : i < n
  ·obtain ⟨x, hx⟩ : ∃ x, x = L.getD i 0 := ⟨_, rfl⟩
   have hx30 : x < 1073741824 := by rw [hx]; exact HH.out.lim.getD i
   have cx : wr.cell? ⟨g, i, none⟩ = some (.int .i64 x) := by rw [hown.cell HM.out i hlt, HR.out i (Nat.le_refl _), hx]
   have fx := hown.frozen HM.out i
   have hp1 : (0 : Int) ≤ (x : Int) * f := Int.mul_nonneg (by omega) (by omega)
   have hp0 : x * f ≤ 1073741823 * 1073741823 := Nat.mul_le_mul (by omega) (by omega)
   have hp2 : (x : Int) * f ≤ 1152921502459363329 := by
    have h3 : ((x * f : Nat) : Int) ≤ ((1073741823 * 1073741823 : Nat) : Int) := by omega
    simpa using h3
   have hst := mul_step L M i f c a (by rw [HN.out]; exact hlt) (by rw [HM.out, HN.out]) HE.out
   rw [← hx] at hst
   have HST := hid hst
   obtain ⟨y, hy⟩ : ∃ y, y = (x * f + c) % 1073741824 := ⟨_, rfl⟩
   have hyi : ((x : Int) * f + c) % 1073741824 = (y : Int) := by rw [hy]; simp
   have hy30 : y < 1073741824 := by rw [hy]; exact Nat.mod_lt _ (by omega)
   have hown2 := hid (hown.store HM.out i y)
   have ht2 := hid (ht.setCell ⟨g, i, none⟩ (.int .i64 (y : Nat)) (.inr rfl))
   have hcb2 : Hid ((wr.setCell ⟨g, i, none⟩ (.int .i64 (y : Nat))).cell? ⟨b, 0, none⟩ = some (.slice (some ⟨g, 0, none⟩) n cap)) := by unfold Hid; rw [World.cell?_setCell_other _ _ _ _ (by simp <;> omega)]; exact hcb
   have hfb2 : Hid ((wr.setCell ⟨g, i, none⟩ (.int .i64 (y : Nat))).frozen? ⟨b, 0, none⟩ = false) := by unfold Hid; rw [show (wr.setCell ⟨g, i, none⟩ (.int .i64 (y : Nat))).frozen? ⟨b, 0, none⟩ = wr.frozen? ⟨b, 0, none⟩ from by simp [go_sem]]; exact hfb
   have HY := hid hy
   have HXX := hid hx
   clear hx hst hy hown ht
   go_wp2
   go_roundw
   case rel =>
    rw [← HY.out] at HST
    have hq : ((x : Int) * f + c) / 1073741824 = (((x * f + c) / 1073741824 : Nat) : Int) := by simp
    refine ⟨i + 1, (x * f + c) / 1073741824, M.set i y, by rw [hq], by omega, by go_num, by omega, by unfold Hid; rw [List.length_set]; exact HM.out, hown2.out, fun j hj => ?_, hlim.set i y hy30, HST.out, ht2.out, hcb2.out, hfb2.out⟩
    rw [getD_set M i j y (by rw [HM.out]; exact hlt), if_neg (by omega)]; exact HR.out j (by omega)
   case measure => simp [intOf]; omega
  ·have hin2 : i = n := by omega
   subst hin2
   have hme := hid (mul_end HM.out HN.out HE.out)
   by_cases hc0 : 0 < c
   ·have HO := hid hown
    have hown' : wr.ownsRow 0 3 1 (.slice (some ⟨g, 0, none⟩) i cap) i (ints M) := by have := hown; unfold Own at this; rwa [HM.out] at this
    have hbw : b < wr.heap.size := World.block_lt_of_cell? wr _ hcb
    have hgw : g < wr.heap.size := (hown'.lt g rfl).2
    clear hown
    go_wp2_with (at_builtin; refine wpList_append_lies _ rfl (.tmp 46) (.tmp 48) 69 rfl 0 3 i0 (.int .i64 0) 1 8 Tryz.underlying69 hi hz0 hz1 hz2 rfl (by decide) _ _ _ rfl (hown'.alloc _) ⟨wr.heap.size, 0, none⟩ 1 1 [.int .i64 (c : Int)] rfl rfl ?c1 ?c2 (by omega) ?c3 ?c4 ?c5 (wr.heap.size + 1) (by simp) ?_)
    case c1 => exact cell_one_new _ _ _
    case c2 => intro u hu; simp at hu; subst hu; rfl
    case c3 => unfold maxLen; omega
    case c4 => omega
    case c5 => omega
    intro g2 cap2 w1 hown1 hgrow hat hlt2
    have ht1 := (ht.below ((Below.refl wr.heap.size wr).alloc (Nat.le_refl _) (.cells #[.int .i64 (c : Int)] 3))).grown hgrow (fun k hk _ => .inr (by simpa [Value.ownBlock] using hk))
    have hcb1 : w1.cell? ⟨b, 0, none⟩ = some (.slice (some ⟨g, 0, none⟩) i cap) := by
     rw [hgrow.cell_far ⟨b, 0, none⟩ (by simp; omega) (by simp [Value.ownBlock]; omega), World.cell?_alloc_past _ _ _ hbw]; exact hcb
    have hfb1 : w1.frozen? ⟨b, 0, none⟩ = false := by
     rw [hgrow.frozen_far ⟨b, 0, none⟩ (by simp; omega) (by simp [Value.ownBlock]; omega)]; simp [go_sem, hbw]; exact hfb
    have hown2 : Own w1 0 (.slice (some ⟨g2, 0, none⟩) (i + 1) cap2) (M ++ [c]) := Own.snoc hown1 HM.out rfl
    have hg2b : g2 ≠ b := by
     rcases hat with hat | hat
     ·simp [Value.ownBlock] at hat; omega
     ·omega
    have hfr : (Value.slice (some ⟨g2, 0, none⟩) (i + 1) cap2).ownBlock = (Value.slice (some ⟨g, 0, none⟩) i cap).ownBlock ∨ ∃ g', (Value.slice (some ⟨g2, 0, none⟩) (i + 1) cap2).ownBlock = some g' ∧ w.heap.size ≤ g' := by
     rcases hat with hat | hat
     ·exact .inl (by rw [hat]; rfl)
     ·exact .inr ⟨g2, rfl, by have := ht.size; omega⟩
    have hst1 := hid (NatAt.mk_set (w := w1) hcb1 hfb1 hown2 (by simp [Value.ownBlock]; exact hg2b) (hlim.snoc c hcc) (fun _ => by rw [List.length_append, HM.out, List.length_singleton, Nat.add_sub_cancel, List.getD_eq_getElem?_getD, List.getElem?_append_right (by rw [HM.out]; exact Nat.le_refl _), HM.out]; simp; omega))
    have ht2 := hid (ht1.setCell ⟨b, 0, none⟩ (.slice (some ⟨g2, 0, none⟩) (i + 1) cap2) (.inl rfl))
    have HFR := hid hfr
    clear hown' hgrow hat hown1 ht1 hown2 hcb hfb ht hfr
    go_wp2_with fail
    have hs1 := hst1.out
    refine (trim_any b _ (M ++ [c]) _ hs1.cell hs1.frozen hs1.own hs1.apart hs1.lim (by rw [List.length_append, HM.out]; simp; omega)).mono ?_
    rintro e w' ⟨rfl, hpost⟩
    have hfin := hid ((hpost.after ht2.out HFR.out).widen hme.out.1 (by rw [List.length_append, HM.out]; simp : (M ++ [c]).length ≤ i + 1))
    clear hpost hcb1 hfb1 hs1
    go_wp2
    go_end0
    exact ⟨rfl, hfin.out⟩
   ·have hcz : c = 0 := by omega
    subst hcz
    have hm2 := hid (hme.out.2 rfl)
    clear hme
    have HO := hid hown
    go_wp2_with fail
    refine (trim_any b _ M wr hcb hfb HO.out HH.out.apart hlim (by rw [HM.out]; omega)).mono ?_
    rintro e w' ⟨rfl, hpost⟩
    have hfin := hid ((hpost.after ht (.inl rfl)).widen hm2.out (by rw [HM.out]; omega : M.length ≤ i + 1))
    clear hpost hcb hfb hown
    go_wp2
    go_end0
    exact ⟨rfl, hfin.out⟩

theorem mulAdd_nil (b f a : Nat) (w : World) (h : NatAt w b (.slice none 0 0) []) (_hf : f < 1073741824) (ha : a < 1073741824) :
  Calls Tryz.prog 131 #[.pointer (some ⟨b, 0, none⟩), .int .i64 f, .int .i64 a] w fun e w' => e = .returned (.tuple #[]) ∧ NatPost w w' b (.slice none 0 0) a 1 := by
 have hc := h.cell
 have hfz := h.frozen
 have HH := hid h
 obtain ⟨i0, hi, hz0, hz1, hz2⟩ := info_parts Tryz.info_int
 have hbl : b < w.heap.size := World.block_lt_of_cell? w _ hc
 clear h
 go_enter Tryz.func131, Tryz.ntmps131
 go_wp2
 go_loop [6, 15] (fun cc ii => cc = .int .i64 a ∧ ii = .int .i64 0) (fun _ _ => 0)
 case atStart => exact ⟨rfl, rfl⟩
 case round =>
  obtain ⟨rfl, rfl⟩ := hrel
  by_cases hc0 : 0 < a
  ·have hown' : w.ownsRow 0 3 1 (.slice none 0 0) 0 (ints []) := World.ownsRow_nil _ _ _ _
   go_wp2_with (at_builtin; refine wpList_append_lies _ rfl (.tmp 46) (.tmp 48) 69 rfl 0 3 i0 (.int .i64 0) 1 8 Tryz.underlying69 hi hz0 hz1 hz2 rfl (by decide) _ _ _ rfl (hown'.alloc _) ⟨w.heap.size, 0, none⟩ 1 1 [.int .i64 (a : Int)] rfl rfl ?c1 ?c2 (by omega) ?c3 ?c4 ?c5 (w.heap.size + 1) (by simp) ?_)
   case c2 => rfl
   case c3 => unfold maxLen; omega
   intro g2 cap2 w1 hown1 hgrow hat hlt2
   have ht1 := ((Turn.refl (Foot b (.slice none 0 0)) w).below ((Below.refl w.heap.size w).alloc (Nat.le_refl _) (.cells #[.int .i64 (a : Int)] 3))).grown hgrow (fun k hk _ => by simp [Value.ownBlock] at hk)
   have hcb1 : w1.cell? ⟨b, 0, none⟩ = some (.slice none 0 0) := by
    rw [hgrow.cell_far ⟨b, 0, none⟩ (by simp; omega) (by simp [Value.ownBlock]), World.cell?_alloc_past _ _ _ hbl]; exact hc
   have hfb1 : w1.frozen? ⟨b, 0, none⟩ = false := by
    rw [hgrow.frozen_far ⟨b, 0, none⟩ (by simp; omega) (by simp [Value.ownBlock])]; simp [go_sem, hbl]; exact hfz
   have hown2 : Own w1 0 (.slice (some ⟨g2, 0, none⟩) (0 + 1) cap2) ([] ++ [a]) := Own.snoc hown1 rfl rfl
   have hg2 : g2 = w.heap.size + 1 := by
    rcases hat with hat | hat
    ·simp [Value.ownBlock] at hat
    ·exact hat
   have hst1 := hid (NatAt.mk_set (w := w1) hcb1 hfb1 hown2 (by simp [Value.ownBlock]; omega) (show Lim ([] ++ [a]) from fun x hx => by rw [List.mem_singleton.1 hx]; exact ha) (fun _ => by simp; omega))
   have ht2 := hid (ht1.setCell ⟨b, 0, none⟩ (.slice (some ⟨g2, 0, none⟩) (0 + 1) cap2) (.inl rfl))
   have HG := hid hg2
   clear hown' hgrow hat hown1 ht1 hown2 hg2
   go_wp2_with fail
   have hs1 := hst1.out
   refine (trim_any b _ ([] ++ [a]) _ hs1.cell hs1.frozen hs1.own hs1.apart hs1.lim (by simp)).mono ?_
   rintro e w' ⟨rfl, hpost⟩
   have hfin := hid ((hpost.after ht2.out (.inr ⟨g2, rfl, by rw [HG.out]; omega⟩)).widen (V2 := a) (by simp [nv]) (Nat.le_refl 1))
   clear hpost hcb1 hfb1 hs1
   go_wp2
   go_end0
   exact ⟨rfl, hfin.out⟩
  ·have hcz : a = 0 := by omega
   subst hcz
   go_wp2_with fail
   refine (trim_any b _ [] w hc hfz HH.out.own HH.out.apart HH.out.lim (by simp)).mono ?_
   rintro e w' ⟨rfl, hpost⟩
   have hfin := hid (hpost.widen (show nv [] = 0 from rfl) (by simp : ([] : List Nat).length ≤ 1))
   clear hpost
   go_wp2
   go_end0
   exact ⟨rfl, hfin.out⟩

theorem mulAdd_any (b f a : Nat) (v : Value) (L : List Nat) (w : World) (h : NatAt w b v L) (hlen : L.length ≤ 90000) (hf : f < 1073741824) (ha : a < 1073741824) :
  Calls Tryz.prog 131 #[.pointer (some ⟨b, 0, none⟩), .int .i64 f, .int .i64 a] w fun e w' => e = .returned (.tuple #[]) ∧ NatPost w w' b v (nv L * f + a) (L.length + 1) := by
 rcases h.own.form with ⟨h0, hv⟩ | ⟨g, cap, hv, _⟩
 ·subst hv h0
  have := mulAdd_nil b f a w h hf ha
  refine this.mono ?_
  rintro e w' ⟨rfl, hp⟩
  exact ⟨rfl, hp.widen (by simp [nv]) (by simp)⟩
 ·subst hv
  exact mulAdd_some b g cap L.length f a L w h rfl hlen hf ha

end Go.Proofs.YtbkdaoicnobllabGreatDoor

namespace Go.Proofs.YtbkdaoicnobllabGreatDoor
set_option maxRecDepth 100000
set_option maxHeartbeats 1000000
open Go.RowKit

theorem NatPost.refl {w : World} {b : Nat} {v : Value} {L : List Nat} (h : NatAt w b v L) : NatPost w w b v (nv L) L.length := ⟨v, L, h, rfl, Nat.le_refl _, Turn.refl _ _, .inl rfl⟩
theorem NatPost.chain {w w1 w2 : World} {b : Nat} {v v1 : Value} {V V2 len len2 : Nat} {L1 : List Nat} (_h : NatAt w1 b v1 L1) (ht : Turn (Foot b v) w w1) (hv : v1.ownBlock = v.ownBlock ∨ ∃ g, v1.ownBlock = some g ∧ w.heap.size ≤ g) (h2 : NatPost w1 w2 b v1 V len) (hV : V = V2) (hl : len ≤ len2) : NatPost w w2 b v V2 len2 :=
 (h2.after ht hv).widen hV hl

theorem mulFive_any (b p : Nat) (v : Value) (L : List Nat) (w : World) (h : NatAt w b v L) (hlen : L.length ≤ 40000) (hp : p ≤ 40000) :
  Calls Tryz.prog 109 #[.pointer (some ⟨b, 0, none⟩), .int .i64 p] w fun e w' => e = .returned (.tuple #[]) ∧ NatPost w w' b v (nv L * 5 ^ p) (L.length + p) := by
 have HH := hid (NatPost.refl h)
 clear h
 go_enter Tryz.func109, Tryz.ntmps109
 go_wp2
 go_loopw [1] (fun q wr => ∃ k : Nat, k ≤ p ∧ q = .int .i64 k ∧ NatPost w wr b v (nv L * 5 ^ (p - k)) (L.length + (p - k))) (fun q _ => (intOf q).toNat)
 case atStart => exact ⟨p, Nat.le_refl _, rfl, HH.out.widen (by simp) (by omega)⟩
 case round =>
  obtain ⟨k, hk, rfl, hpost⟩ := hrel
  by_cases hge : 12 ≤ k
  ·obtain ⟨v1, L1, hN, hV, hl1, ht, hv⟩ := hpost
   have hx := mulAdd_any b 244140625 0 v1 L1 wr hN (by omega) (by omega) (by omega)
   rw [show ((244140625 : Nat) : Int) = 244140625 from rfl, show ((0 : Nat) : Int) = 0 from rfl] at hx
   have HS := hid (And.intro hN (And.intro hV (And.intro ht hv)))
   clear hN hV ht hv
   go_wp2_with fail
   refine hx.mono ?_
   rintro e w1 ⟨rfl, hp1⟩
   have hfin := hid (NatPost.chain (V2 := nv L * 5 ^ (p - (k - 12))) (len2 := L.length + (p - (k - 12))) HS.out.1 HS.out.2.2.1 HS.out.2.2.2 hp1 (by rw [HS.out.2.1, Nat.add_zero, show p - (k - 12) = p - k + 12 from by omega, Nat.pow_add, ← Nat.mul_assoc]) (by omega))
   clear hp1 hx
   go_wp2
   go_roundw
   case rel => exact ⟨k - 12, by omega, by go_num, hfin.out⟩
   case measure => simp [intOf]; omega
  ·have HP := hid hpost
   clear hpost
   go_wp2
   go_loopw [1] (fun q wr => ∃ k : Nat, k ≤ p ∧ q = .int .i64 k ∧ NatPost w wr b v (nv L * 5 ^ (p - k)) (L.length + (p - k))) (fun q _ => (intOf q).toNat)
   case atStart => exact ⟨k, hk, rfl, HP.out⟩
   case round =>
    clear hge HP
    obtain ⟨k, hk, rfl, hpost⟩ := hrel
    by_cases hge : 0 < k
    ·obtain ⟨v1, L1, hN, hV, hl1, ht, hv⟩ := hpost
     have hx := mulAdd_any b 5 0 v1 L1 wr hN (by omega) (by omega) (by omega)
     rw [show ((5 : Nat) : Int) = 5 from rfl, show ((0 : Nat) : Int) = 0 from rfl] at hx
     have HS := hid (And.intro hN (And.intro hV (And.intro ht hv)))
     clear hN hV ht hv
     go_wp2_with fail
     refine hx.mono ?_
     rintro e w1 ⟨rfl, hp1⟩
     have hfin := hid (NatPost.chain (V2 := nv L * 5 ^ (p - (k - 1))) (len2 := L.length + (p - (k - 1))) HS.out.1 HS.out.2.2.1 HS.out.2.2.2 hp1 (by rw [HS.out.2.1, Nat.add_zero, show p - (k - 1) = p - k + 1 from by omega, Nat.pow_succ, ← Nat.mul_assoc]) (by omega))
     clear hp1 hx
     go_wp2
     go_roundw
     case rel => exact ⟨k - 1, by omega, by go_num, hfin.out⟩
     case measure => simp [intOf]; omega
    ·have hk0 : k = 0 := by omega
     subst hk0
     have HP := hid hpost
     clear hpost
     go_wp2
     go_end0
     exact ⟨rfl, HP.out⟩

theorem nv_zeros (c : Nat) (L : List Nat) : nv (List.replicate c 0 ++ L) = 1073741824 ^ c * nv L := by
 induction c with
 | zero => simp
 | succ c ih => rw [List.replicate_succ, List.cons_append, nv, ih, Nat.pow_succ]; grind

theorem shiftLimbs_zero (b : Nat) (c : Int) (w : World) (hc : c ≤ 0) :
  Calls Tryz.prog 139 #[.pointer (some ⟨b, 0, none⟩), .int .i64 c] w fun e w' => e = .returned (.tuple #[]) ∧ w' = w := by
 go_enter Tryz.func139, Tryz.ntmps139
 go_wp2
 exact bodyPost_ret (v := .tuple #[]) (by simp [results, Tryz.results139]) rfl ⟨rfl, rfl⟩

theorem shift_set (c i n : Nat) (L : List Nat) (hn : L.length = n) (hi : i < n) : (List.replicate c 0 ++ (L.take i ++ List.replicate (n - i) 0)).set (c + i) (L.getD i 0) = List.replicate c 0 ++ (L.take (i + 1) ++ List.replicate (n - (i + 1)) 0) := by
 obtain ⟨m, hm⟩ : ∃ m, n - i = m + 1 := ⟨n - i - 1, by omega⟩
 rw [List.set_append_right _ _ (by simp), List.length_replicate, Nat.add_sub_cancel_left, List.set_append_right _ _ (by simp; omega), List.length_take, Nat.min_eq_left (by omega), Nat.sub_self, hm, List.replicate_succ, List.set_cons_zero, take_succ_getD L i (by omega), show n - (i + 1) = m from by omega]
 simp

theorem shiftLimbs_pos (b g cap n c : Nat) (L : List Nat) (w : World) (h : NatAt w b (.slice (some ⟨g, 0, none⟩) n cap) L) (hn : L.length = n) (hlen : n ≤ 40000) (hcp : 0 < c) (hc2 : c ≤ 40000) (hn0 : 0 < n) :
  Calls Tryz.prog 139 #[.pointer (some ⟨b, 0, none⟩), .int .i64 c] w fun e w' => e = .returned (.tuple #[]) ∧ NatPost w w' b (.slice (some ⟨g, 0, none⟩) n cap) (nv L * 1073741824 ^ c) (n + c) := by
 have hcb := h.cell
 have hfb := h.frozen
 have HH := hid h
 have HN := hid hn
 obtain ⟨i0, hi, hz0, hz1, hz2⟩ := info_parts Tryz.info_int
 have hbl : b < w.heap.size := World.block_lt_of_cell? w _ hcb
 clear h hn
 go_enter Tryz.func139, Tryz.ntmps139
 go_wp2_with (at_make; refine wpList_make_full _ rfl (.tmp 16) (.tmp 16) 69 rfl 0 3 i0 (.int .i64 0) 1 Tryz.underlying69 hi hz0 hz1 .i64 .i64 _ _ (c + n) rfl rfl ?hL ?hC ?b2 ?b3 ?b4 ?_)
 case hL => show (c : Int) + n = _; omega
 case hC => show (c : Int) + n = _; omega
 case b2 => rw [hz2]; omega
 case b3 => unfold maxLen; omega
 case b4 => omega
 intro w1 hown0 hgrow
 have hown : Own w1 0 (.slice (some ⟨w.heap.size, 0, none⟩) (c + n) (c + n)) (List.replicate (c + n) 0) := by
  unfold Own; rw [List.length_replicate, ← ints_replicate, ← toList_madeCells_one, ← Nat.mul_one (c + n)]
  simpa using hown0
 have hb1 : Below w.heap.size w w1 := (Below.refl _ _).grown hgrow (Nat.le_refl _) (fun k hk => by cases hk)
 clear hown0 hgrow
 go_wp2
 go_loopw [20] (fun ii wr => ∃ i : Nat, ii = .int .i64 i ∧ i ≤ n ∧ Own wr 0 (.slice (some ⟨w.heap.size, 0, none⟩) (c + n) (c + n)) (List.replicate c 0 ++ (L.take i ++ List.replicate (n - i) 0)) ∧ Below w.heap.size w wr) (fun ii _ => n - (intOf ii).toNat)
 case atStart => exact ⟨0, rfl, Nat.zero_le _, by rw [List.take_zero, List.nil_append, List.replicate_append_replicate]; exact hown, hb1⟩
 case round =>
  clear hown hb1
  obtain ⟨i, rfl, hin, hown, hb⟩ := hrel
  have hsz := hb.size
  have hlenM : (List.replicate c 0 ++ (L.take i ++ List.replicate (n - i) 0)).length = c + n := by simp [HN.out]; omega
  by_cases hlt : i < n
  ·obtain ⟨x, hx⟩ : ∃ x, x = L.getD i 0 := ⟨_, rfl⟩
   have cx : wr.cell? ⟨g, i, none⟩ = some (.int .i64 x) := by
    rw [keep_cell' hb (HH.out.own.cell HN.out i hlt), hx]
   have cy := hown.cell hlenM (c + i) (by omega)
   have fy := hown.frozen hlenM (c + i)
   have hown2 := hown.store hlenM (c + i) x
   rw [hx, shift_set c i n L HN.out hlt, ← hx] at hown2
   have HO2 := hid hown2
   have hb2 := hid (hb.setCell (p := ⟨w.heap.size, c + i, none⟩) (by show w.heap.size ≤ w.heap.size; omega) (.int .i64 (x : Nat)))
   have HX := hid hx
   have hgb : g < wr.heap.size := World.block_lt_of_cell? wr _ cx
   have hgw : ¬ g = w.heap.size := by have := World.block_lt_of_cell? w _ (HH.out.own.cell HN.out i hlt); simp at this; omega
   clear hx hown hown2 hb hlenM
   go_wp2
   go_roundw
   case rel => exact ⟨i + 1, by go_num, by omega, HO2.out, hb2.out⟩
   case measure => simp [intOf]; omega
  ·have hin2 : i = n := by omega
   subst hin2
   have hcb1 := keep_cell' hb hcb
   have hfb1 : wr.frozen? ⟨b, 0, none⟩ = false := (hb.frozen (p := ⟨b, 0, none⟩) hbl).trans hfb
   rw [Nat.sub_self, List.replicate_zero, List.append_nil, take_eq_self HN.out] at hown
   have hst := hid (NatAt.mk_set (w := wr) hcb1 hfb1 hown (by simp [Value.ownBlock]; omega) (fun x hx => by
    rcases List.mem_append.1 hx with hx | hx
    ·rw [List.eq_of_mem_replicate hx]; omega
    ·exact HH.out.lim x hx) (fun _ => by
    rw [List.length_append, List.length_replicate, HN.out, List.getD_eq_getElem?_getD, List.getElem?_append_right (by simp; omega), List.length_replicate, show c + i - 1 - c = i - 1 from by omega, ← List.getD_eq_getElem?_getD, ← HN.out]
    exact HH.out.nrm (by rw [HN.out]; exact hn0)))
   have ht := hid (((Turn.refl (Foot b (.slice (some ⟨g, 0, none⟩) i cap)) w).below hb).setCell ⟨b, 0, none⟩ (.slice (some ⟨w.heap.size, 0, none⟩) (c + i) (c + i)) (.inl rfl))
   clear hown hb hlenM
   go_wp2
   go_end0
   exact ⟨rfl, _, _, hst.out, by rw [nv_zeros, Nat.mul_comm], by simp [HN.out]; omega, ht.out, .inr ⟨w.heap.size, rfl, Nat.le_refl _⟩⟩

end Go.Proofs.YtbkdaoicnobllabGreatDoor

namespace Go.Proofs.YtbkdaoicnobllabGreatDoor
set_option maxRecDepth 100000
set_option maxHeartbeats 1000000
open Go.RowKit

theorem nv_pos {L : List Nat} (h : 0 < L.length) (hn : L.getD (L.length - 1) 0 ≠ 0) : 0 < nv L := by
 have e : L.take (L.length - 1 + 1) = L := List.take_of_length_le (by omega)
 have := nv_take_succ L (L.length - 1) (by omega)
 rw [e] at this
 rw [this]
 exact Nat.lt_of_lt_of_le (Nat.mul_pos (Nat.pow_pos (by omega)) (Nat.pos_of_ne_zero hn)) (Nat.le_add_left _ _)
theorem NatAt.zero_iff {w : World} {b : Nat} {v : Value} {L : List Nat} (h : NatAt w b v L) : L.length = 0 ↔ nv L = 0 := by
 constructor
 ·intro h0; rw [List.length_eq_zero_iff.1 h0]; rfl
 ·intro h0
  apply Nat.eq_zero_of_not_pos; intro hp
  have := nv_pos hp (h.nrm hp); omega
theorem pow30 (a : Nat) : 1073741824 ^ a = 2 ^ (30 * a) := by rw [Nat.pow_mul]

theorem shift_any (b : Nat) (p : Int) (v : Value) (L : List Nat) (w : World) (h : NatAt w b v L) (hlen : L.length ≤ 30000) (hp : p ≤ 30000) :
  Calls Tryz.prog 125 #[.pointer (some ⟨b, 0, none⟩), .int .i64 p] w fun e w' => e = .returned (.tuple #[]) ∧ NatPost w w' b v (nv L * 2 ^ p.toNat) (L.length + 1 + p.toNat) := by
 obtain ⟨ao, cap, hv⟩ := h.own.row.isSlice
 by_cases hp0 : p ≤ 0
 ·have HF := hid ((NatPost.refl h).widen (V2 := nv L * 2 ^ p.toNat) (len2 := L.length + 1 + p.toNat) (by rw [show p.toNat = 0 from by omega]; simp) (by omega))
  clear h hv
  go_enter Tryz.func125, Tryz.ntmps125
  go_wp2
  exact bodyPost_ret (v := .tuple #[]) (by simp [results, Tryz.results125]) rfl ⟨rfl, HF.out⟩
 ·obtain ⟨q, hq⟩ := Int.eq_ofNat_of_zero_le (show 0 ≤ p by omega)
  subst hq
  rw [Int.toNat_natCast]
  have hd0 : decide ((q : Int) ≤ 0) = false := decide_eq_false hp0
  by_cases hL : L.length = 0
  ·have hz := h.zero_iff.1 hL
   have HF := hid ((NatPost.refl h).widen (V2 := nv L * 2 ^ q) (len2 := L.length + 1 + q) (by rw [hz]; simp) (by omega))
   have hc := h.cell
   rw [hv, hL] at hc
   clear h hv hL hz hlen
   go_enter Tryz.func125, Tryz.ntmps125
   go_wp2
   exact bodyPost_ret (v := .tuple #[]) (by simp [results, Tryz.results125]) rfl ⟨rfl, HF.out⟩
  ·have hc := h.cell
   rw [hv] at hc
   have hn0 : ((L.length : Int) == 0) = false := by rw [beq_eq_false_iff_ne]; omega
   have HH := hid h
   have hp1 : (0 : Int) < q := by omega
   clear h hp0
   go_enter Tryz.func125, Tryz.ntmps125
   go_wp2
   go_loop [5, 6] (fun ff ii => ∃ i F : Nat, ii = .int .i64 i ∧ (i : Int) ≤ (q : Int) % 30 ∧ ff = .int .i64 F ∧ F ≤ 536870912 ∧ Hid (F = 2 ^ i)) (fun _ ii => 30 - (intOf ii).toNat)
   case atStart => exact ⟨0, 1, rfl, by omega, rfl, by omega, rfl⟩
   case round =>
    obtain ⟨i, F, rfl, hi, rfl, hF, HF⟩ := hrel
    by_cases hlt : (i : Int) < (q : Int) % 30
    ·have hF2 : F ≤ 268435456 := by
      rw [HF.out]; exact Nat.le_trans (Nat.pow_le_pow_right (by omega) (show i ≤ 28 by omega)) (by decide)
     go_wp2
     go_round
     case rel => exact ⟨i + 1, F * 2, by go_num, by omega, by go_num, by omega, by unfold Hid; rw [HF.out, Nat.pow_succ]⟩
     case measure => simp [intOf]; omega
    ·have hiq : i = q % 30 := by omega
     have HIQ := hid hiq
     clear hiq
     go_wp2_with fail
     have hx := mulAdd_any b F 0 v L w HH.out (by omega) (by omega) (by omega)
     rw [show ((0 : Nat) : Int) = 0 from rfl] at hx
     refine hx.mono ?_
     rintro e w1 ⟨rfl, v1, L1, hN1, hV1, hl1, ht1, hv1⟩
     have hpos1 : 0 < L1.length := by
      apply Nat.pos_of_ne_zero; intro h0
      have h2 := hN1.zero_iff.1 h0
      rw [hV1] at h2
      have h3 := nv_pos (by omega) (HH.out.nrm (by omega))
      have h4 : 0 < F := by rw [HF.out]; exact Nat.pow_pos (by omega)
      have := Nat.mul_pos h3 h4; omega
     have HS := hid (And.intro hN1 (And.intro hV1 (And.intro ht1 hv1)))
     by_cases hq30 : q / 30 = 0
     ·have hfin := hid (NatPost.chain (V2 := nv L * 2 ^ q) (len2 := L.length + 1 + q) HS.out.1 HS.out.2.2.1 HS.out.2.2.2 (NatPost.refl HS.out.1) (by rw [HS.out.2.1, HF.out, HIQ.out, Nat.add_zero, show q % 30 = q from by omega]) (by omega))
      clear hx hN1 hV1 ht1 hv1 hc
      go_wp2_with fail
      refine (shiftLimbs_zero b _ _ (by omega)).mono ?_
      rintro e w2 ⟨rfl, rfl⟩
      go_wp2
      go_end0
      exact ⟨rfl, hfin.out⟩
     ·rcases hN1.own.form with ⟨h0, _⟩ | ⟨g1, cap1, hvv, _⟩
      ·rw [h0] at hpos1; simp at hpos1
      ·subst hvv
       have hsl := shiftLimbs_pos b g1 cap1 L1.length (q / 30) L1 w1 hN1 rfl (by omega) (by omega) (by omega) hpos1
       clear hx hN1 hV1 ht1 hv1 hc
       go_wp2_with fail
       rw [show (q : Int) / 30 = ((q / 30 : Nat) : Int) from by omega]
       refine hsl.mono ?_
       rintro e w2 ⟨rfl, hp2⟩
       have hfin := hid (NatPost.chain (V2 := nv L * 2 ^ q) (len2 := L.length + 1 + q) HS.out.1 HS.out.2.2.1 HS.out.2.2.2 hp2 (by
        rw [HS.out.2.1, HF.out, HIQ.out, Nat.add_zero, pow30, Nat.mul_assoc, ← Nat.pow_add]; congr 2; omega) (by omega))
       clear hp2 hsl
       go_wp2
       go_end0
       exact ⟨rfl, hfin.out⟩

end Go.Proofs.YtbkdaoicnobllabGreatDoor

namespace Go.Proofs.YtbkdaoicnobllabGreatDoor
open Go.RowKit

theorem nv_drop (L : List Nat) (i : Nat) (h : i < L.length) : nv (L.drop i) = L.getD i 0 + 1073741824 * nv (L.drop (i + 1)) := by
 rw [List.drop_eq_getElem_cons h, nv, List.getD_eq_getElem?_getD, List.getElem?_eq_getElem h]; rfl
theorem bill_step (L M : List Nat) (i o : Nat) (hi : i < L.length) (hM : M.length = L.length) (h : nv (M.drop (i + 1)) * 1000000000 + o = nv (L.drop (i + 1))) :
  nv ((M.set i ((o * 1073741824 + L.getD i 0) / 1000000000)).drop i) * 1000000000 + (o * 1073741824 + L.getD i 0) % 1000000000 = nv (L.drop i) := by
 have e1 : (M.set i ((o * 1073741824 + L.getD i 0) / 1000000000)).drop (i + 1) = M.drop (i + 1) := by
  rw [List.drop_set]; simp
 rw [nv_drop _ i (by simp; omega), e1, getD_set M i i _ (by omega), if_pos rfl, nv_drop L i hi, ← h]
 generalize nv (M.drop (i + 1)) = A at *
 have h2 : (o * 1073741824 + L.getD i 0) % 1000000000 + 1000000000 * ((o * 1073741824 + L.getD i 0) / 1000000000) = o * 1073741824 + L.getD i 0 := Nat.mod_add_div _ _
 generalize (o * 1073741824 + L.getD i 0) % 1000000000 = r at *
 generalize (o * 1073741824 + L.getD i 0) / 1000000000 = q at *
 grind
theorem bill_lt (o x : Nat) (ho : o < 1000000000) (hx : x < 1073741824) : (o * 1073741824 + x) / 1000000000 < 1073741824 := by omega
theorem bill_end {L M : List Nat} {o : Nat} (ho : o < 1000000000) (h : nv M * 1000000000 + o = nv L) : nv M = nv L / 1000000000 ∧ o = nv L % 1000000000 := by omega

theorem le_take_succ (O : List Nat) (i : Nat) (h : i < O.length) : le (O.take (i + 1)) = le (O.take i) + O.getD i 0 * 10 ^ i := by
 rw [take_succ_getD O i h, le_append, List.length_take, Nat.min_eq_left (by omega)]
 simp only [le]; rw [Nat.mul_comm]; simp
def TurnSt (O R : List Nat) (i : Nat) : Prop := Digs R ∧ Headed R ∧ num R * 10 ^ i + le (O.take i) = le O
theorem TurnSt.start (O : List Nat) : TurnSt O [] O.length := ⟨Digs.nil, fun h => by simp at h, by rw [List.take_length, num_nil]; simp⟩
theorem TurnSt.put {O R : List Nat} {i : Nat} (hO : Digs O) (h : TurnSt O R (i + 1)) (hi : i < O.length) (h0 : 0 < O.getD i 0 ∨ 0 < R.length) : TurnSt O (R ++ [O.getD i 0]) i := by
 obtain ⟨h1, h2, h3⟩ := h
 refine ⟨h1.append (Digs.cons (hO.getD i) Digs.nil), fun hl => ?_, ?_⟩
 ·cases R with
  | nil => simp at h0; simp; omega
  | cons a r => have := h2 (by simp); simpa using this
 ·rw [num_snoc, ← h3, le_take_succ O i hi, Nat.pow_succ]; grind
theorem TurnSt.pass {O R : List Nat} {i : Nat} (h : TurnSt O R (i + 1)) (hi : i < O.length) (h0 : O.getD i 0 = 0) (hR : R = []) : TurnSt O R i := by
 obtain ⟨h1, h2, h3⟩ := h
 refine ⟨h1, h2, ?_⟩
 rw [← h3, le_take_succ O i hi, h0, hR, num_nil]; simp
theorem TurnSt.done {O R : List Nat} (h : TurnSt O R 0) : num R = le O := by
 have := h.2.2; simpa [le] using this
theorem digits_more {O : List Nat} {N V n : Nat} (h : le O + N * 10 ^ O.length = V) (hV : V < 1073741824 ^ n) (hN : 0 < N) : O.length < 10 * n := by
 apply Nat.lt_of_not_le; intro hle
 have h1 : 10 ^ (10 * n) ≤ 10 ^ O.length := Nat.pow_le_pow_right (by omega) hle
 have h2 : 1 * 10 ^ O.length ≤ N * 10 ^ O.length := Nat.mul_le_mul_right _ hN
 have h3 : 1073741824 ^ n ≤ (10 ^ 10) ^ n := Nat.pow_le_pow_left (by omega) n
 rw [← Nat.pow_mul] at h3
 omega
theorem digits_step {O O' : List Nat} {N V : Nat} (h : le O + N * 10 ^ O.length = V) (hl : O'.length = O.length + 9) (h2 : le O' + 0 * 10 ^ O'.length = le O + N % 1000000000 * 10 ^ O.length) : le O' + N / 1000000000 * 10 ^ O'.length = V := by
 rw [← h, hl, Nat.pow_add, show (10 : Nat) ^ 9 = 1000000000 from by decide]
 have h3 : N % 1000000000 + 1000000000 * (N / 1000000000) = N := Nat.mod_add_div _ _
 generalize 10 ^ O.length = P at *
 generalize N % 1000000000 = r at *
 generalize N / 1000000000 = q at *
 have : le O' = le O + r * P := by omega
 rw [this, ← h3]; grind
theorem word_step (L : List Nat) (x V : Nat) (h : nv L + x * 1073741824 ^ L.length = V) : nv (L ++ [x % 1073741824]) + x / 1073741824 * 1073741824 ^ (L ++ [x % 1073741824]).length = V := by
 rw [nv_snoc, List.length_append, List.length_singleton, Nat.pow_succ, ← h]
 have h2 : x % 1073741824 + 1073741824 * (x / 1073741824) = x := Nat.mod_add_div _ _
 generalize x % 1073741824 = r at *
 generalize x / 1073741824 = q at *
 generalize 1073741824 ^ L.length = P at *
 rw [← h2]; grind
end Go.Proofs.YtbkdaoicnobllabGreatDoor

namespace Go.Proofs.YtbkdaoicnobllabGreatDoor
set_option maxRecDepth 100000
set_option maxHeartbeats 1000000
open Go.RowKit

theorem toNat_succ (j : Nat) : ((j : Int) + 1).toNat = j + 1 := by omega

theorem bill_some (b g cap n : Nat) (L : List Nat) (w : World) (hA : NatAt w b (.slice (some ⟨g, 0, none⟩) n cap) L) (hn : L.length = n) (hlen : n ≤ 90000) :
  Calls Tryz.prog 141 #[.pointer (some ⟨b, 0, none⟩)] w fun e w' => e = .returned (.int .i64 (nv L % 1000000000 : Nat)) ∧ NatPost w w' b (.slice (some ⟨g, 0, none⟩) n cap) (nv L / 1000000000) n := by
 have hgb : g ≠ b := fun e => hA.apart (by rw [e]; rfl)
 have hc := hA.cell
 have HN := hid hn
 have HA := hid hA
 clear hA hn
 go_enter Tryz.func141, Tryz.ntmps141
 go_wp2
 go_loopw [3, 4] (fun oo ii wr => ∃ (z : Int) (o : Nat) (M : List Nat), oo = .int .i64 o ∧ o < 1000000000 ∧ ii = .int .i64 z ∧ -1 ≤ z ∧ z < n ∧ Hid (M.length = n) ∧ Own wr 0 (.slice (some ⟨g, 0, none⟩) n cap) M ∧ Hid (∀ j, j < (z + 1).toNat → M.getD j 0 = L.getD j 0) ∧ Lim M ∧
   Hid (nv (M.drop (z + 1).toNat) * 1000000000 + o = nv (L.drop (z + 1).toNat)) ∧ Turn (fun k => k = g) w wr) (fun _ ii _ => (intOf ii + 1).toNat)
 case atStart =>
  refine ⟨(n : Int) - 1, 0, L, rfl, by omega, rfl, by omega, by omega, HN.out, HA.out.own, fun _ _ => rfl, HA.out.lim, ?_, Turn.refl _ _⟩
  unfold Hid; rw [show ((n : Int) - 1 + 1).toNat = L.length from by rw [HN.out]; omega, List.drop_length]; simp [nv]
 case round =>
  clear hc
  obtain ⟨z, o, M, rfl, ho, rfl, hz1, hz2, HM, hown, HR, hlim, HE, ht⟩ := hrel
  have hA2 := cell_of_turn ht HA.out.cell (by simp; omega)
  by_cases hz : 0 ≤ z
  ·obtain ⟨j, rfl⟩ : ∃ j : Nat, z = j := ⟨z.toNat, by omega⟩
   have hlt : j < n := by omega
   rw [toNat_succ] at HR HE
   obtain ⟨x, hx⟩ : ∃ x, x = L.getD j 0 := ⟨_, rfl⟩
   have hx30 : x < 1073741824 := by rw [hx]; exact HA.out.lim.getD j
   have cx : wr.cell? ⟨g, j, none⟩ = some (.int .i64 x) := by rw [hown.cell HM.out j hlt, HR.out j (by omega), hx]
   have fx := hown.frozen HM.out j
   have hst := bill_step L M j o (by rw [HN.out]; exact hlt) (by rw [HM.out, HN.out]) HE.out
   rw [← hx] at hst
   have hy30 := bill_lt o x ho hx30
   obtain ⟨y, hy⟩ : ∃ y, y = (o * 1073741824 + x) / 1000000000 := ⟨_, rfl⟩
   obtain ⟨r, hr⟩ : ∃ r, r = (o * 1073741824 + x) % 1000000000 := ⟨_, rfl⟩
   rw [← hy] at hst hy30
   rw [← hr] at hst
   have HST := hid hst
   have hyi : ((o : Int) * 1073741824 + x) / 1000000000 = (y : Int) := by omega
   have hri : ((o : Int) * 1073741824 + x) % 1000000000 = (r : Int) := by omega
   have hr9 : r < 1000000000 := by omega
   have hown2 := hid (hown.store HM.out j y)
   have ht2 := hid (ht.setCell ⟨g, j, none⟩ (.int .i64 (y : Nat)) rfl)
   clear hx hst hy hr hown ht
   go_wp2
   go_roundw
   case rel =>
    refine ⟨(j : Int) - 1, r, M.set j y, by rw [hri], hr9, rfl, by omega, by omega, by unfold Hid; rw [List.length_set]; exact HM.out, hown2.out, fun k hk => ?_, hlim.set j y hy30, ?_, ht2.out⟩
    ·rw [getD_set M j k y (by rw [HM.out]; exact hlt), if_neg (by omega)]; exact HR.out k (by omega)
    ·unfold Hid; rw [show ((j : Int) - 1 + 1).toNat = j from by omega]; exact HST.out
   case measure => simp [intOf]
  ·have hz0 : z = -1 := by omega
   subst hz0
   have hse := hid (bill_end ho (by have := HE.out; simpa using this : nv M * 1000000000 + o = nv L))
   have hf2 : wr.frozen? ⟨b, 0, none⟩ = false := by
    rw [World.frozen?_of_block (w := w) (ht.block b (World.block_lt_of_cell? w _ HA.out.cell) (by omega))]; exact HA.out.frozen
   have HO := hid hown
   clear hown
   go_wp2_with fail
   refine (trim_any b _ M wr hA2 hf2 HO.out HA.out.apart hlim (by rw [HM.out]; omega)).mono ?_
   rintro e w' ⟨rfl, hpost⟩
   have hfin := hid ((hpost.after (ht.mono (fun j _ hj => .inr (by rw [hj]; rfl))) (.inl rfl)).widen hse.out.1 (by rw [HM.out]; exact Nat.le_refl _ : M.length ≤ n))
   clear hpost hA2 hf2
   go_wp2
   go_ret
   exact ⟨ret_int (by rw [hse.out.2]), hfin.out⟩
end Go.Proofs.YtbkdaoicnobllabGreatDoor

namespace Go.Proofs.YtbkdaoicnobllabGreatDoor
open Go.RowKit

theorem below_turn {B : Nat} {w wr w1 : World} {S : Nat → Prop} (hb : Below B w wr) (ht : Turn S wr w1) (hs : ∀ k, S k → B ≤ k) (hB : B ≤ wr.heap.size) : Below B w w1 :=
 hb.trans ⟨ht.os, ht.tape, ht.output, ht.size, fun k hk => ht.block k (Nat.lt_of_lt_of_le hk hB) (fun h => by have := hs k h; omega)⟩
def NewNat (B : Nat) (w : World) (b : Nat) (V len : Nat) : Prop := ∃ v L, NatAt w b v L ∧ nv L = V ∧ L.length ≤ len ∧ B ≤ b ∧ ∀ g, v.ownBlock = some g → B ≤ g
theorem NewNat.post {B : Nat} {w0 w w1 : World} {b : Nat} {v : Value} {V len : Nat} (hb : Below B w0 w) (hB : B ≤ w.heap.size) (hbb : B ≤ b) (hv : ∀ g, v.ownBlock = some g → B ≤ g) (hp : NatPost w w1 b v V len) : NewNat B w1 b V len ∧ Below B w0 w1 := by
 obtain ⟨v', L', h1, h2, h3, h4, h5⟩ := hp
 refine ⟨⟨v', L', h1, h2, h3, hbb, fun g hg => ?_⟩, below_turn hb h4 (fun k hk => (by
  rcases hk with rfl | hk
  ·exact hbb
  ·exact hv k hk)) hB⟩
 rcases h5 with h5 | ⟨g', h5, hg'⟩
 ·exact hv g (by rw [← h5]; exact hg)
 ·rw [h5] at hg; cases hg; omega

end Go.Proofs.YtbkdaoicnobllabGreatDoor
