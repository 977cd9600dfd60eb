import Derived.Test.YtbkdaoicnobllabDoorProg
import Derived.Test.YtbkdaoicnobllabDoorGMem
import Derived.Test.YtbkdaoicnobllabDoorGRefA
import Derived.Deep.QuietTactic
import Derived.BigQuiet
import Derived.Deep.AppendLies

namespace Go.Proofs.YtbkdaoicnobllabDoor
open Go.RowKit

set_option maxHeartbeats 400000 in
theorem isZero_any (b : Nat) (v : Value) (L : List Nat) (w : World) (h : NatAt w b v L) :
    Calls Tryd.prog 58 #[.pointer (some ⟨b, 0, none⟩)] w fun e w' => e = .returned (.bool (decide (L.length = 0))) ∧ w' = w := by
  obtain ⟨ao, cap, hv⟩ := h.own.row.isSlice
  subst hv
  have hc := h.cell
  clear h
  obtain ⟨n, hn⟩ : ∃ n, n = L.length := ⟨_, rfl⟩
  rw [← hn] at hc ⊢
  clear hn
  go_enter Tryd.func58, Tryd.ntmps58
  go_wp2
  go_ret
  exact ⟨congrArg (fun b => Ending.returned (Value.bool b)) (by rw [Bool.eq_iff_iff]; simp), rfl⟩

set_option maxRecDepth 100000 in
set_option maxHeartbeats 1000000 in
theorem trim_any (b : Nat) (v : Value) (L : List Nat) (w : World) (hc : w.cell? ⟨b, 0, none⟩ = some v) (hf : w.frozen? ⟨b, 0, none⟩ = false) (ho : Own w 0 v L) (hap : v.ownBlock ≠ some b) (hl : Lim L) (hlen : L.length ≤ 100000) :
    Calls Tryd.prog 64 #[.pointer (some ⟨b, 0, none⟩)] w fun e w' => e = .returned (.tuple #[]) ∧ NatPost w w' b v (nv L) L.length := by
  have HO := hid (And.intro ho (And.intro hap hl))
  rcases ho.form with ⟨h0, hv⟩ | ⟨g, cap, hv, hg1, hg2, hg3, hg4⟩
  · subst hv
    have H0 := hid h0
    clear ho hap hl h0 hlen
    go_enter Tryd.func64, Tryd.ntmps64
    go_wp2
    go_loop [2] (fun t => t = .int .i64 0) (fun _ => 0)
    case atStart => rfl
    case round =>
      subst hrel
      go_wp2
      go_end0
      exact ⟨rfl, NatPost.of_set (NatAt.mk_set hc hf HO.out.1 HO.out.2.1 HO.out.2.2 (fun h => by rw [H0.out] at h; simp at h)) rfl (Nat.le_refl _) rfl⟩
  · obtain ⟨n, hn⟩ : ∃ n, n = L.length := ⟨_, rfl⟩
    rw [← hn] at hv hlen hg3
    subst hv
    have HN := hid hn
    unfold maxLen at hg4
    clear ho hap hl hn hg1 hg2
    go_enter Tryd.func64, Tryd.ntmps64
    go_wp2
    go_loop [2] (fun t => ∃ m : Nat, m ≤ n ∧ t = .int .i64 m ∧ Hid (∀ j, m ≤ j → j < n → L.getD j 0 = 0)) (fun t => (intOf t).toNat)
    case atStart => exact ⟨n, Nat.le_refl _, rfl, fun j h1 h2 => by omega⟩
    case round =>
      obtain ⟨m, hm, rfl, HZ⟩ := hrel
      by_cases hpos : 0 < m
      · have cx := HO.out.1.cell HN.out.symm (m - 1) (by omega)
        obtain ⟨x, hx⟩ : ∃ x, x = L.getD (m - 1) 0 := ⟨_, rfl⟩
        rw [← hx] at cx
        have HX := hid hx
        clear hx
        by_cases hx0 : x = 0
        · have hb : ((x : Int) == 0) = true := by simp [hx0]
          have HX0 := hid hx0
          clear hx0
          go_wp2
          go_round
          case rel => exact ⟨m - 1, by omega, by go_num, fun j h1 h2 => if h : j = m - 1 then by rw [h, ← HX.out]; exact HX0.out else HZ.out j (by omega) h2⟩
          case measure => simp [intOf]; omega
        · have hb : ((x : Int) == 0) = false := by rw [beq_eq_false_iff_ne]; omega
          have HX0 := hid hx0
          clear hx0
          go_wp2
          go_end0
          refine ⟨rfl, NatPost.of_set (L := L.take m) (NatAt.mk_set hc hf (HO.out.1.cutTo HN.out.symm m hm) HO.out.2.1 (HO.out.2.2.take m) (fun _ => ?_)) (nv_take_zeros L m (fun j h1 h2 => HZ.out j h1 (by rw [HN.out]; exact h2))) (by rw [List.length_take, ← HN.out]; omega) rfl⟩
          rw [List.length_take, Nat.min_eq_left (by rw [← HN.out]; exact hm), List.getD_eq_getElem?_getD, List.getElem?_take_of_lt (by omega), ← List.getD_eq_getElem?_getD, ← HX.out]
          exact HX0.out
      · have hm0 : m = 0 := by omega
        subst hm0
        go_wp2
        go_end0
        exact ⟨rfl, NatPost.of_set (L := L.take 0) (NatAt.mk_set hc hf (HO.out.1.cutTo HN.out.symm 0 hm) HO.out.2.1 (HO.out.2.2.take 0) (fun h => by simp at h)) (nv_take_zeros L 0 (fun j h1 h2 => HZ.out j h1 (by rw [HN.out]; exact h2))) (by simp) rfl⟩

end Go.Proofs.YtbkdaoicnobllabDoor

namespace Go.Proofs.YtbkdaoicnobllabDoor
open Go.RowKit

theorem NatPost.after {w W w' : World} {b : Nat} {v v1 : Value} {V len : Nat} (h : NatPost W w' b v1 V len) (ht : Turn (Foot b v) w W) (hv : v1.ownBlock = v.ownBlock ∨ ∃ g, v1.ownBlock = some g ∧ w.heap.size ≤ g) : NatPost w w' b v V len := by
  obtain ⟨v', L', h1, h2, h3, h4, h5⟩ := h
  refine ⟨v', L', h1, h2, h3, ht.trans h4 (fun j hj hf => ?_), ?_⟩
  · rcases hf with hf | hf
    · exact .inl hf
    · rcases hv with hv | ⟨g, hv, hg⟩
      · exact .inr (hv ▸ hf)
      · rw [hv] at hf; cases hf; omega
  · rcases h5 with h5 | ⟨g, h5, hg⟩
    · rcases hv with hv | ⟨g, hv, hg⟩
      · exact .inl (h5.trans hv)
      · exact .inr ⟨g, h5.trans hv, hg⟩
    · exact .inr ⟨g, h5, Nat.le_trans ht.size hg⟩
theorem NatPost.widen {w w' : World} {b : Nat} {v : Value} {V V2 len len2 : Nat} (h : NatPost w w' b v V len) (hv : V = V2) (hl : len ≤ len2) : NatPost w w' b v V2 len2 := by
  obtain ⟨v', L', h1, h2, h3, h4⟩ := h
  exact ⟨v', L', h1, h2.trans hv, Nat.le_trans h3 hl, h4⟩
theorem take_eq_self {M : List Nat} {n : Nat} (h : M.length = n) : M.take n = M := List.take_of_length_le (by omega)

/-- What is left to do behind MulAdd's loop: the carry is laid at the end, and noughts are struck. -/
theorem mul_end {L M : List Nat} {f a c n : Nat} (hM : M.length = n) (hL : L.length = n) (h : nv (M.take n) + c * 1073741824 ^ n = nv (L.take n) * f + a) : nv (M ++ [c]) = nv L * f + a ∧ (c = 0 → nv M = nv L * f + a) := by
  rw [take_eq_self hM, take_eq_self hL] at h
  refine ⟨by rw [nv_snoc, hM, Nat.mul_comm (1073741824 ^ n)]; exact h, fun h0 => by rw [h0] at h; simpa using h⟩

set_option maxRecDepth 100000 in
set_option maxHeartbeats 1000000 in
theorem mulAdd_some (b g cap n f a : Nat) (L : List Nat) (w : World) (h : NatAt w b (.slice (some ⟨g, 0, none⟩) n cap) L) (hn : L.length = n) (hlen : n ≤ 90000) (hf : f < 1073741824) (ha : a < 1073741824) :
    Calls Tryd.prog 56 #[.pointer (some ⟨b, 0, none⟩), .int .i64 f, .int .i64 a] w fun e w' => e = .returned (.tuple #[]) ∧ NatPost w w' b (.slice (some ⟨g, 0, none⟩) n cap) (nv L * f + a) (n + 1) := by
  have hgb : g ≠ b := fun e => h.apart (by rw [e]; rfl)
  have hc := h.cell
  have HN := hid hn
  have HH := hid h
  obtain ⟨i0, hi, hz0, hz1, hz2⟩ := info_parts Tryd.info_int
  have hcap : n ≤ cap ∧ cap ≤ 9223372036854775807 := by
    rcases h.own.form with ⟨_, h2⟩ | ⟨g', cap', hv, _, _, h3, h4⟩
    · cases h2
    · simp only [Value.slice.injEq] at hv
      unfold maxLen at h4
      obtain ⟨_, _, h5⟩ := hv
      omega
  have hbl : b < w.heap.size := World.block_lt_of_cell? w _ hc
  clear h hn
  go_enter Tryd.func56, Tryd.ntmps56
  go_wp2
  go_loopw [6, 15] (fun cc ii wr => ∃ i c : Nat, ∃ M : List Nat, cc = .int .i64 c ∧ c < 1073741824 ∧ ii = .int .i64 i ∧ i ≤ n ∧ Hid (M.length = n) ∧ Own wr 0 (.slice (some ⟨g, 0, none⟩) n cap) M ∧ Hid (∀ j, i ≤ j → M.getD j 0 = L.getD j 0) ∧ Lim M ∧
      Hid (nv (M.take i) + c * 1073741824 ^ i = nv (L.take i) * f + a) ∧ Turn (Foot b (.slice (some ⟨g, 0, none⟩) n cap)) w wr ∧ wr.cell? ⟨b, 0, none⟩ = some (.slice (some ⟨g, 0, none⟩) n cap) ∧ wr.frozen? ⟨b, 0, none⟩ = false) (fun _ ii _ => n - (intOf ii).toNat)
  case atStart => exact ⟨0, a, L, rfl, ha, rfl, Nat.zero_le _, HN.out, HH.out.own, fun _ _ => rfl, HH.out.lim, by simp [Hid, nv], Turn.refl _ _, hc, HH.out.frozen⟩
  case round =>
    clear hc
    obtain ⟨i, c, M, rfl, hcc, rfl, hin, HM, hown, HR, hlim, HE, ht, hcb, hfb⟩ := hrel
    by_cases hlt : i < n
    · obtain ⟨x, hx⟩ : ∃ x, x = L.getD i 0 := ⟨_, rfl⟩
      have hx30 : x < 1073741824 := by rw [hx]; exact HH.out.lim.getD i
      have cx : wr.cell? ⟨g, i, none⟩ = some (.int .i64 x) := by rw [hown.cell HM.out i hlt, HR.out i (Nat.le_refl _), hx]
      have fx := hown.frozen HM.out i
      have hp1 : (0 : Int) ≤ (x : Int) * f := Int.mul_nonneg (by omega) (by omega)
      have hp0 : x * f ≤ 1073741823 * 1073741823 := Nat.mul_le_mul (by omega) (by omega)
      have hp2 : (x : Int) * f ≤ 1152921502459363329 := by
        have h3 : ((x * f : Nat) : Int) ≤ ((1073741823 * 1073741823 : Nat) : Int) := by omega
        simpa using h3
      have hst := mul_step L M i f c a (by rw [HN.out]; exact hlt) (by rw [HM.out, HN.out]) HE.out
      rw [← hx] at hst
      have HST := hid hst
      obtain ⟨y, hy⟩ : ∃ y, y = (x * f + c) % 1073741824 := ⟨_, rfl⟩
      have hyi : ((x : Int) * f + c) % 1073741824 = (y : Int) := by rw [hy]; simp
      have hy30 : y < 1073741824 := by rw [hy]; exact Nat.mod_lt _ (by omega)
      have hown2 := hid (hown.store HM.out i y)
      have ht2 := hid (ht.setCell ⟨g, i, none⟩ (.int .i64 (y : Nat)) (.inr rfl))
      have hcb2 : Hid ((wr.setCell ⟨g, i, none⟩ (.int .i64 (y : Nat))).cell? ⟨b, 0, none⟩ = some (.slice (some ⟨g, 0, none⟩) n cap)) := by unfold Hid; rw [World.cell?_setCell_other _ _ _ _ (by simp <;> omega)]; exact hcb
      have hfb2 : Hid ((wr.setCell ⟨g, i, none⟩ (.int .i64 (y : Nat))).frozen? ⟨b, 0, none⟩ = false) := by unfold Hid; rw [show (wr.setCell ⟨g, i, none⟩ (.int .i64 (y : Nat))).frozen? ⟨b, 0, none⟩ = wr.frozen? ⟨b, 0, none⟩ from by simp [go_sem]]; exact hfb
      have HY := hid hy
      have HXX := hid hx
      clear hx hst hy hown ht
      go_wp2
      go_roundw
      case rel =>
        rw [← HY.out] at HST
        have hq : ((x : Int) * f + c) / 1073741824 = (((x * f + c) / 1073741824 : Nat) : Int) := by simp
        refine ⟨i + 1, (x * f + c) / 1073741824, M.set i y, by rw [hq], by omega, by go_num, by omega, by unfold Hid; rw [List.length_set]; exact HM.out, hown2.out, fun j hj => ?_, hlim.set i y hy30, HST.out, ht2.out, hcb2.out, hfb2.out⟩
        rw [getD_set M i j y (by rw [HM.out]; exact hlt), if_neg (by omega)]; exact HR.out j (by omega)
      case measure => simp [intOf]; omega
    · have hin2 : i = n := by omega
      subst hin2
      have hme := hid (mul_end HM.out HN.out HE.out)
      by_cases hc0 : 0 < c
      · have HO := hid hown
        have hown' : wr.ownsRow 0 3 1 (.slice (some ⟨g, 0, none⟩) i cap) i (ints M) := by have := hown; unfold Own at this; rwa [HM.out] at this
        have hbw : b < wr.heap.size := World.block_lt_of_cell? wr _ hcb
        have hgw : g < wr.heap.size := (hown'.lt g rfl).2
        clear hown
        go_wp2_with (at_builtin; refine wpList_append_lies _ rfl (.tmp 46) (.tmp 48) 66 rfl 0 3 i0 (.int .i64 0) 1 8 Tryd.underlying66 hi hz0 hz1 hz2 rfl (by decide) _ _ _ rfl (hown'.alloc _) ⟨wr.heap.size, 0, none⟩ 1 1 [.int .i64 (c : Int)] rfl rfl ?c1 ?c2 (by omega) ?c3 ?c4 ?c5 (wr.heap.size + 1) (by simp) ?_)
        case c1 => exact cell_one_new _ _ _
        case c2 => intro u hu; simp at hu; subst hu; rfl
        case c3 => unfold maxLen; omega
        case c4 => omega
        case c5 => omega
        intro g2 cap2 w1 hown1 hgrow hat hlt2
        have ht1 := (ht.below ((Below.refl wr.heap.size wr).alloc (Nat.le_refl _) (.cells #[.int .i64 (c : Int)] 3))).grown hgrow (fun k hk _ => .inr (by simpa [Value.ownBlock] using hk))
        have hcb1 : w1.cell? ⟨b, 0, none⟩ = some (.slice (some ⟨g, 0, none⟩) i cap) := by
          rw [hgrow.cell_far ⟨b, 0, none⟩ (by simp; omega) (by simp [Value.ownBlock]; omega), World.cell?_alloc_past _ _ _ hbw]; exact hcb
        have hfb1 : w1.frozen? ⟨b, 0, none⟩ = false := by
          rw [hgrow.frozen_far ⟨b, 0, none⟩ (by simp; omega) (by simp [Value.ownBlock]; omega)]; simp [go_sem, hbw]; exact hfb
        have hown2 : Own w1 0 (.slice (some ⟨g2, 0, none⟩) (i + 1) cap2) (M ++ [c]) := Own.snoc hown1 HM.out rfl
        have hg2b : g2 ≠ b := by
          rcases hat with hat | hat
          · simp [Value.ownBlock] at hat; omega
          · omega
        have hfr : (Value.slice (some ⟨g2, 0, none⟩) (i + 1) cap2).ownBlock = (Value.slice (some ⟨g, 0, none⟩) i cap).ownBlock ∨ ∃ g', (Value.slice (some ⟨g2, 0, none⟩) (i + 1) cap2).ownBlock = some g' ∧ w.heap.size ≤ g' := by
          rcases hat with hat | hat
          · exact .inl (by rw [hat]; rfl)
          · exact .inr ⟨g2, rfl, by have := ht.size; omega⟩
        have hst1 := hid (NatAt.mk_set (w := w1) hcb1 hfb1 hown2 (by simp [Value.ownBlock]; exact hg2b) (hlim.snoc c hcc) (fun _ => by rw [List.length_append, HM.out, List.length_singleton, Nat.add_sub_cancel, List.getD_eq_getElem?_getD, List.getElem?_append_right (by rw [HM.out]; exact Nat.le_refl _), HM.out]; simp; omega))
        have ht2 := hid (ht1.setCell ⟨b, 0, none⟩ (.slice (some ⟨g2, 0, none⟩) (i + 1) cap2) (.inl rfl))
        have HFR := hid hfr
        clear hown' hgrow hat hown1 ht1 hown2 hcb hfb ht hfr
        go_wp2_with fail
        have hs1 := hst1.out
        refine (trim_any b _ (M ++ [c]) _ hs1.cell hs1.frozen hs1.own hs1.apart hs1.lim (by rw [List.length_append, HM.out]; simp; omega)).mono ?_
        rintro e w' ⟨rfl, hpost⟩
        have hfin := hid ((hpost.after ht2.out HFR.out).widen hme.out.1 (by rw [List.length_append, HM.out]; simp : (M ++ [c]).length ≤ i + 1))
        clear hpost hcb1 hfb1 hs1
        go_wp2
        go_end0
        exact ⟨rfl, hfin.out⟩
      · have hcz : c = 0 := by omega
        subst hcz
        have hm2 := hid (hme.out.2 rfl)
        clear hme
        have HO := hid hown
        go_wp2_with fail
        refine (trim_any b _ M wr hcb hfb HO.out HH.out.apart hlim (by rw [HM.out]; omega)).mono ?_
        rintro e w' ⟨rfl, hpost⟩
        have hfin := hid ((hpost.after ht (.inl rfl)).widen hm2.out (by rw [HM.out]; omega : M.length ≤ i + 1))
        clear hpost hcb hfb hown
        go_wp2
        go_end0
        exact ⟨rfl, hfin.out⟩

set_option maxRecDepth 100000 in
set_option maxHeartbeats 1000000 in
theorem mulAdd_nil (b f a : Nat) (w : World) (h : NatAt w b (.slice none 0 0) []) (_hf : f < 1073741824) (ha : a < 1073741824) :
    Calls Tryd.prog 56 #[.pointer (some ⟨b, 0, none⟩), .int .i64 f, .int .i64 a] w fun e w' => e = .returned (.tuple #[]) ∧ NatPost w w' b (.slice none 0 0) a 1 := by
  have hc := h.cell
  have hfz := h.frozen
  have HH := hid h
  obtain ⟨i0, hi, hz0, hz1, hz2⟩ := info_parts Tryd.info_int
  have hbl : b < w.heap.size := World.block_lt_of_cell? w _ hc
  clear h
  go_enter Tryd.func56, Tryd.ntmps56
  go_wp2
  go_loop [6, 15] (fun cc ii => cc = .int .i64 a ∧ ii = .int .i64 0) (fun _ _ => 0)
  case atStart => exact ⟨rfl, rfl⟩
  case round =>
    obtain ⟨rfl, rfl⟩ := hrel
    by_cases hc0 : 0 < a
    · have hown' : w.ownsRow 0 3 1 (.slice none 0 0) 0 (ints []) := World.ownsRow_nil _ _ _ _
      go_wp2_with (at_builtin; refine wpList_append_lies _ rfl (.tmp 46) (.tmp 48) 66 rfl 0 3 i0 (.int .i64 0) 1 8 Tryd.underlying66 hi hz0 hz1 hz2 rfl (by decide) _ _ _ rfl (hown'.alloc _) ⟨w.heap.size, 0, none⟩ 1 1 [.int .i64 (a : Int)] rfl rfl ?c1 ?c2 (by omega) ?c3 ?c4 ?c5 (w.heap.size + 1) (by simp) ?_)
      case c2 => rfl
      case c3 => unfold maxLen; omega
      intro g2 cap2 w1 hown1 hgrow hat hlt2
      have ht1 := ((Turn.refl (Foot b (.slice none 0 0)) w).below ((Below.refl w.heap.size w).alloc (Nat.le_refl _) (.cells #[.int .i64 (a : Int)] 3))).grown hgrow (fun k hk _ => by simp [Value.ownBlock] at hk)
      have hcb1 : w1.cell? ⟨b, 0, none⟩ = some (.slice none 0 0) := by
        rw [hgrow.cell_far ⟨b, 0, none⟩ (by simp; omega) (by simp [Value.ownBlock]), World.cell?_alloc_past _ _ _ hbl]; exact hc
      have hfb1 : w1.frozen? ⟨b, 0, none⟩ = false := by
        rw [hgrow.frozen_far ⟨b, 0, none⟩ (by simp; omega) (by simp [Value.ownBlock])]; simp [go_sem, hbl]; exact hfz
      have hown2 : Own w1 0 (.slice (some ⟨g2, 0, none⟩) (0 + 1) cap2) ([] ++ [a]) := Own.snoc hown1 rfl rfl
      have hg2 : g2 = w.heap.size + 1 := by
        rcases hat with hat | hat
        · simp [Value.ownBlock] at hat
        · exact hat
      have hst1 := hid (NatAt.mk_set (w := w1) hcb1 hfb1 hown2 (by simp [Value.ownBlock]; omega) (show Lim ([] ++ [a]) from fun x hx => by rw [List.mem_singleton.1 hx]; exact ha) (fun _ => by simp; omega))
      have ht2 := hid (ht1.setCell ⟨b, 0, none⟩ (.slice (some ⟨g2, 0, none⟩) (0 + 1) cap2) (.inl rfl))
      have HG := hid hg2
      clear hown' hgrow hat hown1 ht1 hown2 hg2
      go_wp2_with fail
      have hs1 := hst1.out
      refine (trim_any b _ ([] ++ [a]) _ hs1.cell hs1.frozen hs1.own hs1.apart hs1.lim (by simp)).mono ?_
      rintro e w' ⟨rfl, hpost⟩
      have hfin := hid ((hpost.after ht2.out (.inr ⟨g2, rfl, by rw [HG.out]; omega⟩)).widen (V2 := a) (by simp [nv]) (Nat.le_refl 1))
      clear hpost hcb1 hfb1 hs1
      go_wp2
      go_end0
      exact ⟨rfl, hfin.out⟩
    · have hcz : a = 0 := by omega
      subst hcz
      go_wp2_with fail
      refine (trim_any b _ [] w hc hfz HH.out.own HH.out.apart HH.out.lim (by simp)).mono ?_
      rintro e w' ⟨rfl, hpost⟩
      have hfin := hid (hpost.widen (show nv [] = 0 from rfl) (by simp : ([] : List Nat).length ≤ 1))
      clear hpost
      go_wp2
      go_end0
      exact ⟨rfl, hfin.out⟩

/-- 'MulAdd': times f and a more. -/
theorem mulAdd_any (b f a : Nat) (v : Value) (L : List Nat) (w : World) (h : NatAt w b v L) (hlen : L.length ≤ 90000) (hf : f < 1073741824) (ha : a < 1073741824) :
    Calls Tryd.prog 56 #[.pointer (some ⟨b, 0, none⟩), .int .i64 f, .int .i64 a] w fun e w' => e = .returned (.tuple #[]) ∧ NatPost w w' b v (nv L * f + a) (L.length + 1) := by
  rcases h.own.form with ⟨h0, hv⟩ | ⟨g, cap, hv, _⟩
  · subst hv h0
    have := mulAdd_nil b f a w h hf ha
    refine this.mono ?_
    rintro e w' ⟨rfl, hp⟩
    exact ⟨rfl, hp.widen (by simp [nv]) (by simp)⟩
  · subst hv
    exact mulAdd_some b g cap L.length f a L w h rfl hlen hf ha

end Go.Proofs.YtbkdaoicnobllabDoor

namespace Go.Proofs.YtbkdaoicnobllabDoor
open Go.RowKit

theorem below_turn {B : Nat} {w wr w1 : World} {S : Nat → Prop} (hb : Below B w wr) (ht : Turn S wr w1) (hs : ∀ k, S k → B ≤ k) (hB : B ≤ wr.heap.size) : Below B w w1 :=
  hb.trans ⟨ht.os, ht.tape, ht.output, ht.size, fun k hk => ht.block k (Nat.lt_of_lt_of_le hk hB) (fun h => by have := hs k h; omega)⟩
/-- A Nat in blocks from B on, with the number V. -/
def NewNat (B : Nat) (w : World) (b : Nat) (V len : Nat) : Prop := ∃ v L, NatAt w b v L ∧ nv L = V ∧ L.length ≤ len ∧ B ≤ b ∧ ∀ g, v.ownBlock = some g → B ≤ g
theorem NewNat.post {B : Nat} {w0 w w1 : World} {b : Nat} {v : Value} {V len : Nat} (hb : Below B w0 w) (hB : B ≤ w.heap.size) (hbb : B ≤ b) (hv : ∀ g, v.ownBlock = some g → B ≤ g) (hp : NatPost w w1 b v V len) : NewNat B w1 b V len ∧ Below B w0 w1 := by
  obtain ⟨v', L', h1, h2, h3, h4, h5⟩ := hp
  refine ⟨⟨v', L', h1, h2, h3, hbb, fun g hg => ?_⟩, below_turn hb h4 (fun k hk => (by
    rcases hk with rfl | hk
    · exact hbb
    · exact hv k hk)) hB⟩
  rcases h5 with h5 | ⟨g', h5, hg'⟩
  · exact hv g (by rw [← h5]; exact hg)
  · rw [h5] at hg; cases hg; omega

end Go.Proofs.YtbkdaoicnobllabDoor
