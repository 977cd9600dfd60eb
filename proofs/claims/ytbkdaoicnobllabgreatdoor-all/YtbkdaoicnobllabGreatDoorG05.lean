import Derived.Test.YtbkdaoicnobllabGreatDoorG03
import Derived.Test.YtbkdaoicnobllabGreatDoorG02

namespace Go.Proofs.YtbkdaoicnobllabGreatDoor
set_option maxRecDepth 100000
set_option maxHeartbeats 1000000
open Go.RowKit

def IsLen (n bl : Nat) : Prop := (n = 0 ∧ bl = 0) ∨ (0 < bl ∧ 2 ^ (bl - 1) ≤ n ∧ n < 2 ^ bl)
theorem len_top {L : List Nat} {x j : Nat} (hl : Lim L) (hp : 0 < L.length) (hx : x = L.getD (L.length - 1) 0) (hj : 0 < j) (h1 : 2 ^ (j - 1) ≤ x) (h2 : x < 2 ^ j) : IsLen (nv L) (30 * (L.length - 1) + j) := by
 have e : L.take (L.length - 1 + 1) = L := List.take_of_length_le (by omega)
 have hs := nv_take_any L (L.length - 1)
 rw [e, ← hx] at hs
 have a := nv_lt (hl.take (L.length - 1))
 rw [List.length_take, Nat.min_eq_left (by omega)] at a
 rw [pow30] at hs a
 refine .inr ⟨by omega, ?_, ?_⟩
 ·rw [hs, show 30 * (L.length - 1) + j - 1 = 30 * (L.length - 1) + (j - 1) from by omega, Nat.pow_add]
  exact Nat.le_trans (Nat.mul_le_mul_left _ h1) (Nat.le_add_left _ _)
 ·rw [hs, Nat.pow_add]
  have : 2 ^ (30 * (L.length - 1)) * (x + 1) ≤ 2 ^ (30 * (L.length - 1)) * 2 ^ j := Nat.mul_le_mul_left _ h2
  rw [Nat.mul_add, Nat.mul_one] at this
  omega

theorem bitLength_any (b : Nat) (v : Value) (L : List Nat) (w : World) (h : NatAt w b v L) (hlen : L.length ≤ 90000) :
  Calls Tryz.prog 132 #[.pointer (some ⟨b, 0, none⟩)] w fun e w' => Still w w' ∧ ∃ bl : Nat, e = .returned (.int .i64 bl) ∧ IsLen (nv L) bl ∧ bl ≤ 30 * L.length := by
 have hc := h.cell
 have HH := hid h
 rcases h.own.form with ⟨h0, hv⟩ | ⟨g, cap, hv, _, _, hc1, hc2⟩
 ·subst hv h0
  clear h
  go_enter Tryz.func132, Tryz.ntmps132
  go_wp2
  go_ret
  exact ⟨Still.refl w, 0, rfl, .inl ⟨rfl, rfl⟩, Nat.zero_le _⟩
 ·obtain ⟨n, hn⟩ : ∃ n, n = L.length := ⟨_, rfl⟩
  subst hv
  unfold maxLen at hc2
  rw [← hn] at hc hc1 hlen
  by_cases hn0 : n = 0
  ·have hz := h.zero_iff.1 (by omega)
   have HZ := hid hz
   subst hn0
   clear h hn hz
   go_enter Tryz.func132, Tryz.ntmps132
   go_wp2
   go_ret
   exact ⟨Still.refl w, 0, rfl, .inl ⟨HZ.out, rfl⟩, Nat.zero_le _⟩
  ·have hb0 : ((n : Int) == 0) = false := by rw [beq_eq_false_iff_ne]; omega
   obtain ⟨x, hx⟩ : ∃ x, x = L.getD (n - 1) 0 := ⟨_, rfl⟩
   have cx : w.cell? ⟨g, n - 1, none⟩ = some (.int .i64 x) := by rw [hx]; exact (hn ▸ h.own : Own w 0 (.slice (some ⟨g, 0, none⟩) n cap) L).cell hn.symm (n - 1) (by omega)
   have hxp : x ≠ 0 := by rw [hx, hn]; exact h.nrm (by omega)
   have hx30 : x < 1073741824 := by rw [hx]; exact h.lim.getD _
   have HX := hid hx
   have HN := hid hn
   have i0 : (0 : Int) ≤ (n : Int) - 1 := by omega
   have i1 : (n : Int) - 1 < (n : Int) := by omega
   clear h hn hx
   go_enter Tryz.func132, Tryz.ntmps132
   go_wp2
   go_quiet (fail)
   go_wp2
   go_loop [3, 4] (fun ll tt => ∃ j t : Nat, ll = .int .i64 (((n : Int) - 1) * 30 + j) ∧ tt = .int .i64 t ∧ j ≤ 30 ∧ t ≤ x ∧ Hid (t = x / 2 ^ j) ∧ Hid (j = 0 ∨ 2 ^ (j - 1) ≤ x)) (fun _ tt => (intOf tt).toNat)
   case atStart => exact ⟨0, x, by simp, rfl, by omega, Nat.le_refl _, by simp [Hid], .inl rfl⟩
   case round =>
    obtain ⟨j, t, rfl, rfl, hj, htx, HT, HJ⟩ := hrel
    by_cases hpos : 0 < t
    ·have hle : 2 ^ j ≤ x := by
      have := HT.out
      apply Nat.le_of_not_lt; intro hlt
      rw [Nat.div_eq_of_lt hlt] at this; omega
     have hj30 : j < 30 := by
      apply Nat.lt_of_not_le; intro hge
      have : 2 ^ 30 ≤ 2 ^ j := Nat.pow_le_pow_right (by omega) hge
      omega
     have HLE := hid hle
     clear hle
     go_wp2
     go_round
     case rel => exact ⟨j + 1, t / 2, by go_num, by go_num, by omega, by omega, by unfold Hid; rw [HT.out, Nat.pow_succ, Nat.div_div_eq_div_mul], .inr HLE.out⟩
     case measure => simp [intOf]; omega
    ·have ht0 : t = 0 := by omega
     subst ht0
     have hlt : x < 2 ^ j := by
      have := HT.out
      rcases (Nat.div_eq_zero_iff).1 this.symm with h | h
      ·have : 0 < 2 ^ j := Nat.pow_pos (by omega); omega
      ·exact h
     have hj0 : 0 < j := by
      apply Nat.pos_of_ne_zero; intro h0; rw [h0] at hlt; simp at hlt; omega
     have hjl : 2 ^ (j - 1) ≤ x := by
      rcases HJ.out with h | h
      ·omega
      ·exact h
     have HLT := hid (And.intro hlt (And.intro hj0 hjl))
     clear hlt hj0 hjl
     go_wp2
     go_ret
     refine ⟨(Still.refl w).drewN _, 30 * (n - 1) + j, ret_int ?_, ?_, ?_⟩
     ·show ((n : Int) - 1) * 30 + j = _; omega
     ·have hnn := HN.out
      have := len_top (L := L) (x := x) (j := j) HH.out.lim (by omega) (by rw [← hnn]; exact HX.out) HLT.out.2.1 HLT.out.2.2 HLT.out.1
      rw [← hnn] at this
      exact this
     ·have hnn := HN.out; omega

end Go.Proofs.YtbkdaoicnobllabGreatDoor

namespace Go.Proofs.YtbkdaoicnobllabGreatDoor
set_option maxRecDepth 100000
set_option maxHeartbeats 1000000
open Go.RowKit

def numB (B : Nat) (D : List Nat) : Nat := D.foldl (fun a d => a * B + d) 0
theorem numB_snoc (B : Nat) (D : List Nat) (d : Nat) : numB B (D ++ [d]) = numB B D * B + d := by simp [numB]
theorem fromDigits10 (bd off cap n : Nat) (D : List Nat) (w : World) (hn : D.length = n) (hlen : n ≤ 1000) (_hcap : n ≤ cap) (_hc2 : cap ≤ maxLen) (_hbd : bd < w.heap.size) (hce : ∀ j, j < n → w.cell? ⟨bd, off + j, none⟩ = some (.int .i64 (D.getD j 0 : Nat))) (hdg : ∀ d, d ∈ D → d < 10) :
  Calls Tryz.prog 105 #[.slice (some ⟨bd, off, none⟩) n cap, .int .i64 10] w fun e w' => e = .returned (.pointer (some ⟨w.heap.size, 0, none⟩)) ∧ NewNat w.heap.size w' w.heap.size (numB 10 D) (n + 1) ∧ Below w.heap.size w w' := by
 have HN := hid hn
 have HC : Hid (∀ j, j < n → w.cell? ⟨bd, off + j, none⟩ = some (.int .i64 (D.getD j 0 : Nat))) := hce
 have HD := hid hdg
 unfold maxLen at _hc2
 clear hn hce hdg
 go_enter Tryz.func105, Tryz.ntmps105
 go_wp2
 go_loopw [6, 7, 14] (fun gg ss ii wr => ∃ i sc gr : Nat, gg = .int .i64 gr ∧ ss = .int .i64 sc ∧ ii = .int .i64 i ∧ i ≤ n ∧ gr < sc ∧ 1 ≤ sc ∧ sc < 1073741824 ∧ Below w.heap.size w wr ∧ w.heap.size < wr.heap.size ∧
   ∃ v L, NatAt wr w.heap.size v L ∧ L.length ≤ i ∧ (∀ g, v.ownBlock = some g → w.heap.size ≤ g) ∧ Hid (nv L * sc + gr = numB 10 (D.take i))) (fun _ _ ii _ => n - (intOf ii).toNat)
 case atStart =>
  refine ⟨0, 1, 0, rfl, rfl, rfl, Nat.zero_le _, by omega, by omega, by omega, (Below.refl _ _).alloc (Nat.le_refl _) _, by simp, .slice none 0 0, [], ⟨by simp [go_sem], by simp [go_sem], Own.nil _ _, by simp [Value.ownBlock], fun x hx => by simp at hx, fun h => by simp at h⟩, by simp, fun g hg => by simp [Value.ownBlock] at hg, by simp [Hid, nv, numB]⟩
 case round =>
  obtain ⟨i, sc, gr, rfl, rfl, rfl, hin, hgs, hs1, hs2, hb, hws, v, L, hN, hl, hv, HE⟩ := hrel
  by_cases hlt : i < n
  ·obtain ⟨x, hx⟩ : ∃ x, x = D.getD i 0 := ⟨_, rfl⟩
   have hxb : x < 10 := by
    rw [hx, List.getD_eq_getElem?_getD, List.getElem?_eq_getElem (by rw [HN.out]; exact hlt)]
    exact HD.out _ (List.getElem_mem _)
   have cx : wr.cell? ⟨bd, off + i, none⟩ = some (.int .i64 x) := by rw [hx]; exact keep_cell' hb (HC.out i hlt)
   have hsn : Hid (numB 10 (D.take (i + 1)) = numB 10 (D.take i) * 10 + x) := by unfold Hid; rw [take_succ_getD D i (by rw [HN.out]; exact hlt), numB_snoc, ← hx]
   clear hx
   have HBG := hid (And.intro hgs (And.intro hs1 hs2))
   have i1 : (sc : Int) ≤ 1073741823 := by omega
   have i2 : (gr : Int) ≤ 1073741823 := by omega
   by_cases hbig : 1073741824 ≤ sc * 10
   ·have hx2 := mulAdd_any w.heap.size sc gr v L wr hN (by omega) hs2 (by omega)
    have HX2 := hid hx2
    have HV := hid hv
    have HBB := hid hbig
    have t1 : decide ((1073741824 : Int) ≤ (sc : Int) * 10) = true := by simp; omega
    clear hN hv hx2 hbig hgs hs1 hs2
    go_wp2_with fail
    refine HX2.out.mono ?_
    rintro e w1 ⟨rfl, hp1⟩
    obtain ⟨⟨v1, L1, g1, g2, g3, g4, g5⟩, hb1⟩ := NewNat.post hb (Nat.le_of_lt hws) (Nat.le_refl _) HV.out hp1
    have hsz := hb1.size
    have hws1 := World.block_lt_of_cell? w1 _ g1.cell
    have HST := hid (And.intro g1 (And.intro g2 g5))
    clear hp1 g1 g2 g5 g4 hb HX2 cx
    go_wp2
    go_roundw
    case rel =>
     exact ⟨i + 1, 10, x, by go_num, rfl, by go_num, by omega, hxb, by omega, by omega, hb1, hws1, v1, L1, HST.out.1, by omega, HST.out.2.2, by unfold Hid; rw [HST.out.2.1, HE.out, hsn.out]⟩
    case measure => simp [intOf]; omega
   ·have HST := hid (And.intro hN hv)
    have HBB := hid hbig
    have t1 : decide ((1073741824 : Int) ≤ (sc : Int) * 10) = false := by simp; omega
    clear hN hv hbig hgs hs1 hs2
    go_wp2
    go_roundw
    case rel =>
     have h0 := HBG.out
     have h9 := HBB.out
     exact ⟨i + 1, sc * 10, gr * 10 + x, by go_num, by go_num, by go_num, by omega, by omega, by omega, by omega, hb, hws, v, L, HST.out.1, by omega, HST.out.2, by unfold Hid; rw [hsn.out, ← HE.out]; grind⟩
    case measure => simp [intOf]; omega
  ·have hin2 : i = n := by omega
   subst hin2
   have HX2 := hid (mulAdd_any w.heap.size sc gr v L wr hN (by omega) hs2 (by omega))
   have HV := hid hv
   have i1 : (sc : Int) ≤ 1073741823 := by omega
   have i2 : (gr : Int) ≤ 1073741823 := by omega
   clear hN hv hgs hs1 hs2
   go_wp2_with fail
   refine HX2.out.mono ?_
   rintro e w1 ⟨rfl, hp1⟩
   obtain ⟨h1, hb1⟩ := NewNat.post hb (Nat.le_of_lt hws) (Nat.le_refl _) HV.out hp1
   have hfin : Hid (NewNat w.heap.size w1 w.heap.size (numB 10 D) (i + 1)) := by
    obtain ⟨v1, L1, q1, q2, q3, q4⟩ := h1
    have he := HE.out
    rw [take_eq_self HN.out] at he
    exact ⟨v1, L1, q1, q2.trans he, by omega, q4⟩
   clear hp1 h1 hb HX2
   go_wp2
   go_ret
   exact ⟨rfl, hfin.out, hb1⟩

theorem fromDigits16 (bd off cap n : Nat) (D : List Nat) (w : World) (hn : D.length = n) (hlen : n ≤ 1000) (_hcap : n ≤ cap) (_hc2 : cap ≤ maxLen) (_hbd : bd < w.heap.size) (hce : ∀ j, j < n → w.cell? ⟨bd, off + j, none⟩ = some (.int .i64 (D.getD j 0 : Nat))) (hdg : ∀ d, d ∈ D → d < 16) :
  Calls Tryz.prog 105 #[.slice (some ⟨bd, off, none⟩) n cap, .int .i64 16] w fun e w' => e = .returned (.pointer (some ⟨w.heap.size, 0, none⟩)) ∧ NewNat w.heap.size w' w.heap.size (numB 16 D) (n + 1) ∧ Below w.heap.size w w' := by
 have HN := hid hn
 have HC : Hid (∀ j, j < n → w.cell? ⟨bd, off + j, none⟩ = some (.int .i64 (D.getD j 0 : Nat))) := hce
 have HD := hid hdg
 unfold maxLen at _hc2
 clear hn hce hdg
 go_enter Tryz.func105, Tryz.ntmps105
 go_wp2
 go_loopw [6, 7, 14] (fun gg ss ii wr => ∃ i sc gr : Nat, gg = .int .i64 gr ∧ ss = .int .i64 sc ∧ ii = .int .i64 i ∧ i ≤ n ∧ gr < sc ∧ 1 ≤ sc ∧ sc < 1073741824 ∧ Below w.heap.size w wr ∧ w.heap.size < wr.heap.size ∧
   ∃ v L, NatAt wr w.heap.size v L ∧ L.length ≤ i ∧ (∀ g, v.ownBlock = some g → w.heap.size ≤ g) ∧ Hid (nv L * sc + gr = numB 16 (D.take i))) (fun _ _ ii _ => n - (intOf ii).toNat)
 case atStart =>
  refine ⟨0, 1, 0, rfl, rfl, rfl, Nat.zero_le _, by omega, by omega, by omega, (Below.refl _ _).alloc (Nat.le_refl _) _, by simp, .slice none 0 0, [], ⟨by simp [go_sem], by simp [go_sem], Own.nil _ _, by simp [Value.ownBlock], fun x hx => by simp at hx, fun h => by simp at h⟩, by simp, fun g hg => by simp [Value.ownBlock] at hg, by simp [Hid, nv, numB]⟩
 case round =>
  obtain ⟨i, sc, gr, rfl, rfl, rfl, hin, hgs, hs1, hs2, hb, hws, v, L, hN, hl, hv, HE⟩ := hrel
  by_cases hlt : i < n
  ·obtain ⟨x, hx⟩ : ∃ x, x = D.getD i 0 := ⟨_, rfl⟩
   have hxb : x < 16 := by
    rw [hx, List.getD_eq_getElem?_getD, List.getElem?_eq_getElem (by rw [HN.out]; exact hlt)]
    exact HD.out _ (List.getElem_mem _)
   have cx : wr.cell? ⟨bd, off + i, none⟩ = some (.int .i64 x) := by rw [hx]; exact keep_cell' hb (HC.out i hlt)
   have hsn : Hid (numB 16 (D.take (i + 1)) = numB 16 (D.take i) * 16 + x) := by unfold Hid; rw [take_succ_getD D i (by rw [HN.out]; exact hlt), numB_snoc, ← hx]
   clear hx
   have HBG := hid (And.intro hgs (And.intro hs1 hs2))
   have i1 : (sc : Int) ≤ 1073741823 := by omega
   have i2 : (gr : Int) ≤ 1073741823 := by omega
   by_cases hbig : 1073741824 ≤ sc * 16
   ·have hx2 := mulAdd_any w.heap.size sc gr v L wr hN (by omega) hs2 (by omega)
    have HX2 := hid hx2
    have HV := hid hv
    have HBB := hid hbig
    have t1 : decide ((1073741824 : Int) ≤ (sc : Int) * 16) = true := by simp; omega
    clear hN hv hx2 hbig hgs hs1 hs2
    go_wp2_with fail
    refine HX2.out.mono ?_
    rintro e w1 ⟨rfl, hp1⟩
    obtain ⟨⟨v1, L1, g1, g2, g3, g4, g5⟩, hb1⟩ := NewNat.post hb (Nat.le_of_lt hws) (Nat.le_refl _) HV.out hp1
    have hsz := hb1.size
    have hws1 := World.block_lt_of_cell? w1 _ g1.cell
    have HST := hid (And.intro g1 (And.intro g2 g5))
    clear hp1 g1 g2 g5 g4 hb HX2 cx
    go_wp2
    go_roundw
    case rel =>
     exact ⟨i + 1, 16, x, by go_num, rfl, by go_num, by omega, hxb, by omega, by omega, hb1, hws1, v1, L1, HST.out.1, by omega, HST.out.2.2, by unfold Hid; rw [HST.out.2.1, HE.out, hsn.out]⟩
    case measure => simp [intOf]; omega
   ·have HST := hid (And.intro hN hv)
    have HBB := hid hbig
    have t1 : decide ((1073741824 : Int) ≤ (sc : Int) * 16) = false := by simp; omega
    clear hN hv hbig hgs hs1 hs2
    go_wp2
    go_roundw
    case rel =>
     have h0 := HBG.out
     have h9 := HBB.out
     exact ⟨i + 1, sc * 16, gr * 16 + x, by go_num, by go_num, by go_num, by omega, by omega, by omega, by omega, hb, hws, v, L, HST.out.1, by omega, HST.out.2, by unfold Hid; rw [hsn.out, ← HE.out]; grind⟩
    case measure => simp [intOf]; omega
  ·have hin2 : i = n := by omega
   subst hin2
   have HX2 := hid (mulAdd_any w.heap.size sc gr v L wr hN (by omega) hs2 (by omega))
   have HV := hid hv
   have i1 : (sc : Int) ≤ 1073741823 := by omega
   have i2 : (gr : Int) ≤ 1073741823 := by omega
   clear hN hv hgs hs1 hs2
   go_wp2_with fail
   refine HX2.out.mono ?_
   rintro e w1 ⟨rfl, hp1⟩
   obtain ⟨h1, hb1⟩ := NewNat.post hb (Nat.le_of_lt hws) (Nat.le_refl _) HV.out hp1
   have hfin : Hid (NewNat w.heap.size w1 w.heap.size (numB 16 D) (i + 1)) := by
    obtain ⟨v1, L1, q1, q2, q3, q4⟩ := h1
    have he := HE.out
    rw [take_eq_self HN.out] at he
    exact ⟨v1, L1, q1, q2.trans he, by omega, q4⟩
   clear hp1 h1 hb HX2
   go_wp2
   go_ret
   exact ⟨rfl, hfin.out, hb1⟩

end Go.Proofs.YtbkdaoicnobllabGreatDoor

namespace Go.Proofs.YtbkdaoicnobllabGreatDoor
open Go.RowKit

theorem NatAt.foot_lt {w : World} {b : Nat} {v : Value} {L : List Nat} (h : NatAt w b v L) (k : Nat) (hk : Foot b v k) : k < w.heap.size := by
 rcases hk with rfl | hk
 ·exact World.block_lt_of_cell? w _ h.cell
 ·rcases h.own.form with ⟨_, hv⟩ | ⟨g, cap, hv, _, hg, _⟩
  ·rw [hv] at hk; simp [Value.ownBlock] at hk
  ·rw [hv] at hk; simp only [Value.ownBlock, Option.some.injEq] at hk; omega

structure TwoAt (S : Nat → Prop) (w : World) (bo bu : Nat) (vo vu : Value) (Lo Lu : List Nat) : Prop where
 over : NatAt w bo vo Lo
 under : NatAt w bu vu Lu
 apart : Apart bo vo bu vu
 keep : ∀ k, S k → k < w.heap.size
 so : ∀ k, Foot bo vo k → ¬ S k
 su : ∀ k, Foot bu vu k → ¬ S k
def TwoN (S : Nat → Prop) (w : World) (bo bu V U l1 l2 : Nat) : Prop :=
 ∃ vo Lo vu Lu, TwoAt S w bo bu vo vu Lo Lu ∧ nv Lo = V ∧ nv Lu = U ∧ Lo.length ≤ l1 ∧ Lu.length ≤ l2
def Kept (S : Nat → Prop) (w w' : World) : Prop := Turn (fun k => ¬ S k) w w'
theorem Kept.refl (S : Nat → Prop) (w : World) : Kept S w w := Turn.refl _ _
theorem Kept.trans {S : Nat → Prop} {w w1 w2 : World} (h : Kept S w w1) (k : Kept S w1 w2) : Kept S w w2 := Turn.trans h k (fun _ _ h => h)
theorem Kept.mono {S S2 : Nat → Prop} {w w1 : World} (h : Kept S w w1) (hs : ∀ k, S2 k → S k) : Kept S2 w w1 := Turn.mono h (fun k _ hn h2 => hn (hs k h2))
theorem Kept.cell {S : Nat → Prop} {w w1 : World} (h : Kept S w w1) {a : Addr} {v : Value} (hc : w.cell? a = some v) (hs : S a.block) : w1.cell? a = some v := cell_of_turn h hc (fun hn => hn hs)
theorem Kept.below {B : Nat} {w w1 : World} (h : Kept (fun k => k < B) w w1) : B ≤ w.heap.size → Below B w w1 := fun hB =>
 ⟨h.os, h.tape, h.output, h.size, fun k hk => h.block k (Nat.lt_of_lt_of_le hk hB) (fun hn => hn hk)⟩
theorem Below.kept {B : Nat} {S : Nat → Prop} {w w1 : World} (h : Below B w w1) (hs : ∀ k, S k → k < B) : Kept S w w1 :=
 ⟨h.os, h.tape, h.output, h.size, fun k _ hn => h.block k (hs k (Classical.not_not.1 hn))⟩
theorem TwoN.swap {S : Nat → Prop} {w : World} {bo bu V U l1 l2 : Nat} (h : TwoN S w bo bu V U l1 l2) : TwoN S w bu bo U V l2 l1 := by
 obtain ⟨vo, Lo, vu, Lu, h1, h2, h3, h4, h5⟩ := h
 exact ⟨vu, Lu, vo, Lo, ⟨h1.under, h1.over, fun k a b => h1.apart k b a, h1.keep, h1.su, h1.so⟩, h3, h2, h5, h4⟩
theorem TwoN.widen {S : Nat → Prop} {w : World} {bo bu V U l1 l2 l3 l4 : Nat} (h : TwoN S w bo bu V U l1 l2) (h3 : l1 ≤ l3) (h4 : l2 ≤ l4) : TwoN S w bo bu V U l3 l4 := by
 obtain ⟨vo, Lo, vu, Lu, k1, k2, k3, k4, k5⟩ := h
 exact ⟨vo, Lo, vu, Lu, k1, k2, k3, by omega, by omega⟩
theorem TwoAt.post {S : Nat → Prop} {w w1 : World} {bo bu : Nat} {vo vu : Value} {Lo Lu : List Nat} {V len : Nat} (h : TwoAt S w bo bu vo vu Lo Lu) (hp : NatPost w w1 bo vo V len) : TwoN S w1 bo bu V (nv Lu) len Lu.length ∧ Kept S w w1 := by
 obtain ⟨v', L', h1, h2, h3, h4, h5⟩ := hp
 have hf : ∀ k, Foot bo v' k → Foot bo vo k ∨ w.heap.size ≤ k := by
  intro k hk
  rcases hk with rfl | hk
  ·exact .inl (.inl rfl)
  ·rcases h5 with h5 | ⟨g, h5, hg⟩
   ·exact .inl (.inr (by rw [← h5]; exact hk))
   ·rw [h5] at hk; cases hk; exact .inr hg
 refine ⟨⟨v', L', vu, Lu, ⟨h1, h.under.turn h4 (fun k a b => h.apart k b a), ?_, fun k hk => Nat.lt_of_lt_of_le (h.keep k hk) h4.size, ?_, h.su⟩, h2, rfl, h3, Nat.le_refl _⟩, ?_⟩
 ·intro k hk hu
  rcases hf k hk with h6 | h6
  ·exact h.apart k h6 hu
  ·have := h.under.foot_lt k hu; omega
 ·intro k hk hs
  rcases hf k hk with h6 | h6
  ·exact h.so k h6 hs
  ·have := h.keep k hs; omega
 ·exact Turn.mono h4 (fun k _ hk => h.so k hk)
theorem TwoAt.still {S : Nat → Prop} {w w1 : World} {bo bu : Nat} {vo vu : Value} {Lo Lu : List Nat} (h : TwoAt S w bo bu vo vu Lo Lu) (hs : Still w w1) : TwoAt S w1 bo bu vo vu Lo Lu :=
 ⟨hs.natAt h.over, hs.natAt h.under, h.apart, fun k hk => by rw [hs.heap]; exact h.keep k hk, h.so, h.su⟩
theorem TwoN.make {S : Nat → Prop} {B : Nat} {w1 w2 : World} {b1 b2 V U l1 l2 : Nat} (hS : ∀ k, S k → k < B) (hB : B ≤ w1.heap.size) (h1 : NewNat B w1 b1 V l1) (hb : Below w1.heap.size w1 w2) (h2 : NewNat w1.heap.size w2 b2 U l2) : TwoN S w2 b1 b2 V U l1 l2 := by
 obtain ⟨v, L, a1, a2, a3, a4, a5⟩ := h1
 obtain ⟨v2, L2, c1, c2, c3, c4, c5⟩ := h2
 have f1 : ∀ k, Foot b1 v k → B ≤ k := fun k hk => (by
  rcases hk with rfl | hk
  ·exact a4
  ·exact a5 k hk)
 have f2 : ∀ k, Foot b2 v2 k → w1.heap.size ≤ k := fun k hk => (by
  rcases hk with rfl | hk
  ·exact c4
  ·exact c5 k hk)
 have ht : Turn (fun k => w1.heap.size ≤ k) w1 w2 := ⟨hb.os, hb.tape, hb.output, hb.size, fun k hk _ => hb.block k hk⟩
 refine ⟨v, L, v2, L2, ⟨a1.turn ht (fun k hk hn => ?_), c1, fun k hk h2 => ?_, fun k hk => ?_, fun k hk hs => ?_, fun k hk hs => ?_⟩, a2, c2, a3, c3⟩
 ·have := a1.foot_lt k hk; omega
 ·have := a1.foot_lt k hk; have := f2 k h2; omega
 ·have := hS k hk; have := hb.size; omega
 ·have := f1 k hk; have := hS k hs; omega
 ·have := f2 k hk; have := hS k hs; omega

theorem shiftO {S : Nat → Prop} {w : World} {bo bu V U l1 l2 : Nat} (h : TwoN S w bo bu V U l1 l2) (p : Int) (hl : l1 ≤ 30000) (hp : p ≤ 30000) :
  Calls Tryz.prog 125 #[.pointer (some ⟨bo, 0, none⟩), .int .i64 p] w fun e w' => e = .returned (.tuple #[]) ∧ TwoN S w' bo bu (V * 2 ^ p.toNat) U (l1 + 1 + p.toNat) l2 ∧ Kept S w w' := by
 obtain ⟨vo, Lo, vu, Lu, h1, rfl, rfl, h4, h5⟩ := h
 refine (shift_any bo p vo Lo w h1.over (by omega) hp).mono ?_
 rintro e w1 ⟨he, hp1⟩
 obtain ⟨k1, k2⟩ := h1.post hp1
 exact ⟨he, k1.widen (by omega) h5, k2⟩
theorem shiftU {S : Nat → Prop} {w : World} {bo bu V U l1 l2 : Nat} (h : TwoN S w bo bu V U l1 l2) (p : Int) (hl : l2 ≤ 30000) (hp : p ≤ 30000) :
  Calls Tryz.prog 125 #[.pointer (some ⟨bu, 0, none⟩), .int .i64 p] w fun e w' => e = .returned (.tuple #[]) ∧ TwoN S w' bo bu V (U * 2 ^ p.toNat) l1 (l2 + 1 + p.toNat) ∧ Kept S w w' := by
 refine (shiftO h.swap p hl hp).mono ?_
 rintro e w1 ⟨he, h1, h2⟩
 exact ⟨he, h1.swap, h2⟩
theorem fiveO {S : Nat → Prop} {w : World} {bo bu V U l1 l2 : Nat} (h : TwoN S w bo bu V U l1 l2) (p : Nat) (hl : l1 ≤ 40000) (hp : p ≤ 40000) :
  Calls Tryz.prog 109 #[.pointer (some ⟨bo, 0, none⟩), .int .i64 p] w fun e w' => e = .returned (.tuple #[]) ∧ TwoN S w' bo bu (V * 5 ^ p) U (l1 + p) l2 ∧ Kept S w w' := by
 obtain ⟨vo, Lo, vu, Lu, h1, rfl, rfl, h4, h5⟩ := h
 refine (mulFive_any bo p vo Lo w h1.over (by omega) hp).mono ?_
 rintro e w1 ⟨he, hp1⟩
 obtain ⟨k1, k2⟩ := h1.post hp1
 exact ⟨he, k1.widen (by omega) h5, k2⟩
theorem fiveU {S : Nat → Prop} {w : World} {bo bu V U l1 l2 : Nat} (h : TwoN S w bo bu V U l1 l2) (p : Nat) (hl : l2 ≤ 40000) (hp : p ≤ 40000) :
  Calls Tryz.prog 109 #[.pointer (some ⟨bu, 0, none⟩), .int .i64 p] w fun e w' => e = .returned (.tuple #[]) ∧ TwoN S w' bo bu V (U * 5 ^ p) l1 (l2 + p) ∧ Kept S w w' := by
 refine (fiveO h.swap p hl hp).mono ?_
 rintro e w1 ⟨he, h1, h2⟩
 exact ⟨he, h1.swap, h2⟩
theorem subO {S : Nat → Prop} {w : World} {bo bu V U l1 l2 : Nat} (h : TwoN S w bo bu V U l1 l2) (hl : l1 ≤ 90000) (hu : 0 < U) (hle : U ≤ V) :
  Calls Tryz.prog 134 #[.pointer (some ⟨bo, 0, none⟩), .pointer (some ⟨bu, 0, none⟩)] w fun e w' => e = .returned (.tuple #[]) ∧ TwoN S w' bo bu (V - U) U l1 l2 ∧ Kept S w w' := by
 obtain ⟨vo, Lo, vu, Lu, h1, rfl, rfl, h4, h5⟩ := h
 have hz := h1.under.zero_iff
 refine (sub_any bo bu vo vu Lo Lu w h1.over h1.under h1.apart hle (by omega) (by omega)).mono ?_
 rintro e w1 ⟨he, hp1⟩
 obtain ⟨k1, k2⟩ := h1.post hp1
 exact ⟨he, k1.widen h4 h5, k2⟩
theorem compareT {S : Nat → Prop} {w : World} {bo bu V U l1 l2 : Nat} (h : TwoN S w bo bu V U l1 l2) (hl : l1 ≤ 90000) (hl2 : l2 ≤ 90000) :
  Calls Tryz.prog 133 #[.pointer (some ⟨bo, 0, none⟩), .pointer (some ⟨bu, 0, none⟩)] w fun e w' => e = .returned (.int .i64 (cmpN V U)) ∧ TwoN S w' bo bu V U l1 l2 ∧ Kept S w w' := by
 obtain ⟨vo, Lo, vu, Lu, h1, rfl, rfl, h4, h5⟩ := h
 refine (compare_any bo bu vo vu Lo Lu w h1.over h1.under (by omega) (by omega)).mono ?_
 rintro e w1 ⟨he, hs⟩
 exact ⟨he, ⟨vo, Lo, vu, Lu, h1.still hs, rfl, rfl, h4, h5⟩, hs.turn _⟩
theorem bitsO {S : Nat → Prop} {w : World} {bo bu V U l1 l2 : Nat} (h : TwoN S w bo bu V U l1 l2) (hl : l1 ≤ 90000) :
  Calls Tryz.prog 132 #[.pointer (some ⟨bo, 0, none⟩)] w fun e w' => ∃ bl : Nat, e = .returned (.int .i64 bl) ∧ Hid (IsLen V bl) ∧ bl ≤ 30 * l1 ∧ TwoN S w' bo bu V U l1 l2 ∧ Kept S w w' := by
 obtain ⟨vo, Lo, vu, Lu, h1, rfl, rfl, h4, h5⟩ := h
 refine (bitLength_any bo vo Lo w h1.over (by omega)).mono ?_
 rintro e w1 ⟨hs, bl, he, h6, h7⟩
 exact ⟨bl, he, h6, by omega, ⟨vo, Lo, vu, Lu, h1.still hs, rfl, rfl, h4, h5⟩, hs.turn _⟩
theorem bitsU {S : Nat → Prop} {w : World} {bo bu V U l1 l2 : Nat} (h : TwoN S w bo bu V U l1 l2) (hl : l2 ≤ 90000) :
  Calls Tryz.prog 132 #[.pointer (some ⟨bu, 0, none⟩)] w fun e w' => ∃ bl : Nat, e = .returned (.int .i64 bl) ∧ Hid (IsLen U bl) ∧ bl ≤ 30 * l2 ∧ TwoN S w' bo bu V U l1 l2 ∧ Kept S w w' := by
 refine (bitsO h.swap hl).mono ?_
 rintro e w1 ⟨bl, he, h6, h7, h8, h9⟩
 exact ⟨bl, he, h6, h7, h8.swap, h9⟩
theorem zeroO {S : Nat → Prop} {w : World} {bo bu V U l1 l2 : Nat} (h : TwoN S w bo bu V U l1 l2) :
  Calls Tryz.prog 140 #[.pointer (some ⟨bo, 0, none⟩)] w fun e w' => e = .returned (.bool (decide (V = 0))) ∧ w' = w := by
 obtain ⟨vo, Lo, vu, Lu, h1, rfl, rfl, h4, h5⟩ := h
 refine (isZero_any bo vo Lo w h1.over).mono ?_
 rintro e w1 ⟨he, hs⟩
 exact ⟨by rw [he, decide_eq_decide.2 h1.over.zero_iff], hs⟩
end Go.Proofs.YtbkdaoicnobllabGreatDoor

namespace Go.Proofs.YtbkdaoicnobllabGreatDoor
set_option maxRecDepth 100000
set_option maxHeartbeats 1000000
open Go.RowKit

structure FracAt (S : Nat → Prop) (w : World) (p bo bu V U : Nat) (pw : Int) (l : Nat) : Prop where
 c0 : w.cell? ⟨p, 0, none⟩ = some (.pointer (some ⟨bo, 0, none⟩))
 c1 : w.cell? ⟨p, 1, none⟩ = some (.pointer (some ⟨bu, 0, none⟩))
 c2 : w.cell? ⟨p, 2, none⟩ = some (.int .i64 pw)
 fz : w.frozen? ⟨p, 2, none⟩ = false
 out : ¬ S p
 two : TwoN (fun k => S k ∨ k = p) w bo bu V U l l
def Frac (S : Nat → Prop) (w : World) (p V U : Nat) (pw : Int) (l : Nat) : Prop := ∃ bo bu, FracAt S w p bo bu V U pw l
def SameVal (V U : Nat) (pw : Int) (V' U' : Nat) (pw' : Int) : Prop := ∃ a b : Nat, V' = V * 2 ^ a ∧ U' = U * 2 ^ b ∧ pw' + a = pw + b
theorem TwoN.alloc {S : Nat → Prop} {w : World} {bo bu V U l1 l2 : Nat} (h : TwoN S w bo bu V U l1 l2) (o : Obj) : TwoN (fun k => S k ∨ k = w.heap.size) (w.alloc o) bo bu V U l1 l2 := by
 obtain ⟨vo, Lo, vu, Lu, h1, h2⟩ := h
 have hb : Below w.heap.size w (w.alloc o) := (Below.refl _ _).alloc (Nat.le_refl _) _
 have ht : Turn (fun k => w.heap.size ≤ k) w (w.alloc o) := ⟨hb.os, hb.tape, hb.output, hb.size, fun k hk _ => hb.block k hk⟩
 have hf : ∀ k, Foot bo vo k → k < w.heap.size := fun k hk => h1.over.foot_lt k hk
 have hg : ∀ k, Foot bu vu k → k < w.heap.size := fun k hk => h1.under.foot_lt k hk
 refine ⟨vo, Lo, vu, Lu, ⟨h1.over.turn ht (fun k hk hn => ?_), h1.under.turn ht (fun k hk hn => ?_), h1.apart, fun k hk => ?_, fun k hk hs => ?_, fun k hk hs => ?_⟩, h2⟩
 ·have := hf k hk; omega
 ·have := hg k hk; omega
 ·rcases hk with hk | rfl
  ·have := h1.keep k hk; have := hb.size; omega
  ·simp
 ·rcases hs with hs | rfl
  ·exact h1.so k hk hs
  ·have := hf _ hk; omega
 ·rcases hs with hs | rfl
  ·exact h1.su k hk hs
  ·have := hg _ hk; omega
theorem TwoN.keep {S : Nat → Prop} {w : World} {bo bu V U l1 l2 : Nat} (h : TwoN S w bo bu V U l1 l2) : ∀ k, S k → k < w.heap.size := by
 obtain ⟨vo, Lo, vu, Lu, h1, _⟩ := h
 exact h1.keep
theorem Frac.make {S : Nat → Prop} {w : World} {bo bu V U l : Nat} {pw : Int} (h : TwoN S w bo bu V U l l) (t : Nat) : Frac S (w.alloc (.cells #[.pointer (some ⟨bo, 0, none⟩), .pointer (some ⟨bu, 0, none⟩), .int .i64 pw] t)) w.heap.size V U pw l ∧ Kept S w (w.alloc (.cells #[.pointer (some ⟨bo, 0, none⟩), .pointer (some ⟨bu, 0, none⟩), .int .i64 pw] t)) := by
 have hk := h.keep
 refine ⟨⟨bo, bu, by simp [go_sem], by simp [go_sem], by simp [go_sem], by simp [go_sem], fun hs => ?_, h.alloc _⟩, ?_⟩
 ·have := hk _ hs; omega
 ·exact Below.kept ((Below.refl _ _).alloc (Nat.le_refl _) _) hk
theorem IsLen.le {n b m : Nat} (h : IsLen n b) (hn : n < 2 ^ m) : b ≤ m := by
 rcases h with ⟨_, rfl⟩ | ⟨h0, h1, _⟩
 ·omega
 ·have : 2 ^ (b - 1) < 2 ^ m := by omega
  have := (Nat.pow_lt_pow_iff_right (by omega)).1 this
  omega
theorem IsLen.shift {n b a : Nat} (h : IsLen n b) (hn : 0 < n) : 2 ^ (b + a - 1) ≤ n * 2 ^ a ∧ n * 2 ^ a < 2 ^ (b + a) ∧ 0 < b := by
 rcases h with ⟨h0, _⟩ | ⟨h0, h1, h2⟩
 ·omega
 ·refine ⟨?_, ?_, h0⟩
  ·rw [show b + a - 1 = (b - 1) + a from by omega, Nat.pow_add]; exact Nat.mul_le_mul_right _ h1
  ·rw [Nat.pow_add]; exact Nat.mul_lt_mul_of_pos_right h2 (Nat.pow_pos (by omega))
theorem red_same {V U b1 b2 : Nat} {d : Int} (h1 : IsLen V b1) (h2 : IsLen U b2) (hV : 0 < V) (hU : 0 < U) (hd : d = (b1 : Int) - b2) :
  V * 2 ^ (-d).toNat < 2 * (U * 2 ^ d.toNat) ∧ U * 2 ^ d.toNat < 2 * (V * 2 ^ (-d).toNat) := by
 have s1 := h1.shift (a := (-d).toNat) hV
 have s2 := h2.shift (a := d.toNat) hU
 have e : b1 + (-d).toNat = b2 + d.toNat := by omega
 rw [e] at s1
 have hp : 2 ^ (b2 + d.toNat) = 2 * 2 ^ (b2 + d.toNat - 1) := by
  rw [← Nat.pow_succ']; congr 1; omega
 omega

theorem pOne_any (w : World) :
  Calls Tryz.prog 106 #[] w fun e w' => e = .returned (.pointer (some ⟨w.heap.size + 1, 0, none⟩)) ∧ NewNat w.heap.size w' (w.heap.size + 1) 1 2 ∧ Below w.heap.size w w' := by
 have HX := hid (fromDigits10 w.heap.size 0 1 1 [1] (w.alloc (.cells #[.int .i64 1] 3)) rfl (by omega) (by omega) (by unfold maxLen; omega) (by simp) (fun j hj => by rw [show j = 0 from by omega]; simp [go_sem]) (by simp))
 go_enter Tryz.func106, Tryz.ntmps106
 go_wp2_with fail
 refine HX.out.mono ?_
 rintro e w1 ⟨rfl, h1, h2⟩
 simp only [World.size_alloc] at *
 have hf : Hid (NewNat w.heap.size w1 (w.heap.size + 1) 1 2 ∧ Below w.heap.size w w1) := by
  obtain ⟨v, L, a1, a2, a3, a4, a5⟩ := h1
  refine ⟨⟨v, L, a1, a2, a3, by omega, fun g hg => by have := a5 g hg; omega⟩, ?_⟩
  exact ((Below.refl _ _).alloc (Nat.le_refl _) _).trans (h2.mono (by omega))
 clear h1 h2 HX
 go_wp2
 go_ret
 exact ⟨rfl, hf.out⟩

theorem reduced_any (S : Nat → Prop) (bo bu V U l : Nat) (pw : Int) (w : World) (h : TwoN S w bo bu V U l l) (hV : 0 < V) (hU : 0 < U) (hV2 : V < 2 ^ 6000) (hU2 : U < 2 ^ 6000) (hl : l ≤ 1500) (hp1 : -100000000 ≤ pw) (hp2 : pw ≤ 100000000) :
  Calls Tryz.prog 107 #[.pointer (some ⟨bo, 0, none⟩), .pointer (some ⟨bu, 0, none⟩), .int .i64 pw] w fun e w' => ∃ p V' U' pw', e = .returned (.pointer (some ⟨p, 0, none⟩)) ∧ Frac S w' p V' U' pw' 8000 ∧ SameVal V U pw V' U' pw' ∧ U' ≤ V' ∧ V' < 2 * U' ∧ 0 < U' ∧ pw - 6001 ≤ pw' ∧ pw' ≤ pw + 6000 ∧ Kept S w w' := by
 have HX := hid (bitsO h (by omega))
 have HP := hid (And.intro hV hU)
 have HV2 := hid hV2
 have HU2 := hid hU2
 clear h hV hU hV2 hU2
 go_enter Tryz.func107, Tryz.ntmps107
 go_wp2_with fail
 refine HX.out.mono ?_
 rintro e w1 ⟨b1, rfl, hb1, _, h1, k1⟩
 have hb2 := hb1.out.le HV2.out
 have HX1 := hid (bitsU h1 (by omega))
 have HK1 := hid k1
 clear h1 k1 HX
 go_wp2_with fail
 refine HX1.out.mono ?_
 rintro e w2 ⟨b2, rfl, hc1, _, h2, k2⟩
 have hc2 := hc1.out.le HU2.out
 have HX2 := hid (shiftO h2 (-((b1 : Int) - b2)) (by omega) (by omega))
 have HK2 := hid (HK1.out.trans k2)
 clear h2 k2 HX1 HK1
 go_wp2_with fail
 refine HX2.out.mono ?_
 rintro e w3 ⟨rfl, h3, k3⟩
 have HX3 := hid (shiftU h3 ((b1 : Int) - b2) (by omega) (by omega))
 have HK3 := hid (HK2.out.trans k3)
 clear h3 k3 HX2 HK2
 go_wp2_with fail
 refine HX3.out.mono ?_
 rintro e w4 ⟨rfl, h4, k4⟩
 have HX4 := hid (compareT h4 (by omega) (by omega))
 have HK4 := hid (HK3.out.trans k4)
 have HR := hid (red_same hb1.out hc1.out HP.out.1 HP.out.2 rfl)
 have HUP : Hid (0 < U * 2 ^ ((b1 : Int) - b2).toNat) := Nat.mul_pos HP.out.2 (Nat.pow_pos (by omega))
 clear h4 k4 HX3 HK3
 go_wp2_with fail
 refine HX4.out.mono ?_
 rintro e w5 ⟨rfl, h5, k5⟩
 have HK5 := hid (HK4.out.trans k5)
 clear k5 HX4 HK4
 by_cases hlt : V * 2 ^ (-((b1 : Int) - b2)).toNat < U * 2 ^ ((b1 : Int) - b2).toNat
 ·have hc := cmpN_lt hlt
  have HX5 := hid (shiftO h5 1 (by omega) (by omega))
  have HLT := hid hlt
  have HC := hid hc
  clear h5 hlt hc
  generalize hcc : cmpN (V * 2 ^ (-((b1 : Int) - b2)).toNat) (U * 2 ^ ((b1 : Int) - b2).toNat) = cc
  rw [HC.out] at hcc
  subst hcc
  clear HC
  go_wp2_with fail
  refine HX5.out.mono ?_
  rintro e w6 ⟨rfl, h6, k6⟩
  have HK6 := hid (HK5.out.trans k6)
  have H6 := hid h6
  clear h6 k6 HX5 HK5
  go_wp2
  go_ret
  obtain ⟨f1, f2⟩ := Frac.make (pw := pw + ((b1 : Int) - b2) - 1) (H6.out.widen (l3 := 8000) (l4 := 8000) (by omega) (by omega)) 145
  have hr := HR.out
  have hl2 := HLT.out
  refine ⟨_, _, _, _, rfl, f1, ⟨(-((b1 : Int) - b2)).toNat + 1, ((b1 : Int) - b2).toNat, by rw [Nat.pow_succ, Nat.mul_assoc]; rfl, rfl, by omega⟩, ?_, ?_, HUP.out, by omega, by omega, HK6.out.trans f2⟩
  ·show _ ≤ _ * 2; omega
  ·show _ * 2 < _; omega
 ·have HLT := hid hlt
  have hcc2 : ∃ cc : Int, cmpN (V * 2 ^ (-((b1 : Int) - b2)).toNat) (U * 2 ^ ((b1 : Int) - b2).toNat) = cc ∧ 0 ≤ cc := by
   refine ⟨_, rfl, ?_⟩
   unfold cmpN; rw [if_neg hlt]; split <;> omega
  obtain ⟨cc, hcc, hc0⟩ := hcc2
  rw [hcc]
  have H5 := hid h5
  clear h5 hlt hcc
  go_wp2
  go_ret
  obtain ⟨f1, f2⟩ := Frac.make (pw := pw + ((b1 : Int) - b2)) (H5.out.widen (l3 := 8000) (l4 := 8000) (by omega) (by omega)) 145
  have hr := HR.out
  have hl2 := HLT.out
  exact ⟨_, _, _, _, rfl, f1, ⟨(-((b1 : Int) - b2)).toNat, ((b1 : Int) - b2).toNat, rfl, rfl, by omega⟩, by omega, hr.1, HUP.out, by omega, by omega, HK5.out.trans f2⟩
end Go.Proofs.YtbkdaoicnobllabGreatDoor

namespace Go.Proofs.YtbkdaoicnobllabGreatDoor
set_option maxRecDepth 100000
set_option maxHeartbeats 1000000
open Go.RowKit

def FracPost (S : Nat → Prop) (w w' : World) (e : Ending) (Q : Nat → Nat → Int → Prop) : Prop :=
 ∃ p V U pw, e = .returned (.pointer (some ⟨p, 0, none⟩)) ∧ Frac S w' p V U pw 8000 ∧ U ≤ V ∧ V < 2 * U ∧ 0 < U ∧ -110000000 ≤ pw ∧ pw ≤ 110000000 ∧ Kept S w w' ∧ Q V U pw
theorem numB_acc (B : Nat) (D : List Nat) (h : ∀ d, d ∈ D → d < B) (a : Nat) : D.foldl (fun a d => a * B + d) a + 1 ≤ (a + 1) * B ^ D.length := by
 induction D generalizing a with
 | nil => simp
 | cons d r ih =>
  have h1 := ih (fun x hx => h x (List.mem_cons_of_mem _ hx)) (a * B + d)
  have h2 := h d List.mem_cons_self
  rw [List.foldl_cons, List.length_cons, Nat.pow_succ']
  refine Nat.le_trans h1 ?_
  rw [← Nat.mul_assoc]
  refine Nat.mul_le_mul_right _ ?_
  rw [Nat.add_mul]; omega
theorem numB_lt (B : Nat) (D : List Nat) (h : ∀ d, d ∈ D → d < B) : numB B D < B ^ D.length := by
 have := numB_acc B D h 0
 unfold numB; omega
theorem pow_le_two (B k n m : Nat) (h : B ≤ 2 ^ k) (hm : k * n ≤ m) : B ^ n ≤ 2 ^ m :=
 Nat.le_trans (Nat.pow_le_pow_left h n) (by rw [← Nat.pow_mul]; exact Nat.pow_le_pow_right (by omega) hm)
theorem mul_two_pow {a b x y z : Nat} (hz : x + y = z) (h1 : a < 2 ^ x) (h2 : b ≤ 2 ^ y) : a * b < 2 ^ z := by
 subst hz
 rw [Nat.pow_add]
 exact Nat.lt_of_le_of_lt (Nat.mul_le_mul_left a h2) (Nat.mul_lt_mul_of_pos_right h1 (Nat.pow_pos (by decide)))
theorem dec_lt (D : List Nat) (m : Nat) (hd : ∀ d, d ∈ D → d < 10) (hn : D.length ≤ 900) (hm : m ≤ 800) : numB 10 D * 5 ^ m < 2 ^ 6000 :=
 mul_two_pow (x := 3600) (y := 2400) (z := 6000) rfl (Nat.lt_of_lt_of_le (numB_lt 10 D hd) (pow_le_two 10 4 _ 3600 (by decide) (by omega))) (pow_le_two 5 3 _ 2400 (by decide) (by omega))
theorem five_lt (m : Nat) (hm : m ≤ 1900) : 1 * 5 ^ m < 2 ^ 6000 :=
 mul_two_pow (x := 1) (y := 5999) (z := 6000) rfl (by decide) (pow_le_two 5 3 _ 5999 (by decide) (by omega))

theorem powerOfTwo_any (pw : Int) (hp1 : -6000 ≤ pw) (hp2 : pw ≤ 6000) (w : World) :
  Calls Tryz.prog 108 #[.int .i64 pw] w fun e w' => FracPost (fun k => k < w.heap.size) w w' e (fun V U q => V = 1 ∧ U = 1 ∧ q = pw) := by
 have HX := hid (pOne_any w)
 go_enter Tryz.func108, Tryz.ntmps108
 go_wp2_with fail
 refine HX.out.mono ?_
 rintro e w1 ⟨rfl, h1, h2⟩
 have HX1 := hid (pOne_any w1)
 have H1 := hid h1
 have H2 := hid h2
 clear h1 h2 HX
 go_wp2_with fail
 refine HX1.out.mono ?_
 rintro e w2 ⟨rfl, h3, h4⟩
 have HT := hid (TwoN.make (S := fun k => k < w.heap.size) (fun _ h => h) H2.out.size H1.out h4 h3)
 have HB := hid (H2.out.trans (h4.mono H2.out.size))
 clear h3 h4 HX1
 go_wp2
 go_ret
 obtain ⟨f1, f2⟩ := Frac.make (pw := pw) (HT.out.widen (l3 := 8000) (l4 := 8000) (by omega) (by omega)) 145
 exact ⟨_, 1, 1, pw, rfl, f1, by omega, by omega, by omega, by omega, by omega, (Below.kept HB.out (fun _ h => h)).trans f2, rfl, rfl, rfl⟩

theorem fromHex_any (bd off cap n : Nat) (D : List Nat) (pw : Int) (w : World) (hn : D.length = n) (hlen : n ≤ 900) (hcap : n ≤ cap) (hc2 : cap ≤ maxLen) (hbd : bd < w.heap.size) (hce : ∀ j, j < n → w.cell? ⟨bd, off + j, none⟩ = some (.int .i64 (D.getD j 0 : Nat))) (hdg : ∀ d, d ∈ D → d < 16) (hpos : 0 < numB 16 D) (hp1 : -100000000 ≤ pw) (hp2 : pw ≤ 100000000) :
  Calls Tryz.prog 64 #[.slice (some ⟨bd, off, none⟩) n cap, .int .i64 pw] w fun e w' => FracPost (fun k => k < w.heap.size) w w' e (fun V U q => SameVal (numB 16 D) 1 pw V U q) := by
 have HX := hid (fromDigits16 bd off cap n D w hn (by omega) hcap hc2 hbd hce hdg)
 have HP := hid hpos
 have HLT : Hid (numB 16 D < 2 ^ 6000) := Nat.lt_of_lt_of_le (numB_lt 16 D hdg) (pow_le_two 16 4 _ 6000 (by omega) (by omega))
 clear hn hce hdg hpos hc2
 go_enter Tryz.func64, Tryz.ntmps64
 go_wp2_with fail
 refine HX.out.mono ?_
 rintro e w1 ⟨rfl, h1, h2⟩
 have HX1 := hid (pOne_any w1)
 have H1 := hid h1
 have H2 := hid h2
 clear h1 h2 HX
 go_wp2_with fail
 refine HX1.out.mono ?_
 rintro e w2 ⟨rfl, h3, h4⟩
 have HT := TwoN.make (S := fun k => k < w.heap.size) (fun _ h => h) H2.out.size H1.out h4 h3
 have HB := hid (H2.out.trans (h4.mono H2.out.size))
 have HX2 := hid (reduced_any _ _ _ _ _ _ pw w2 (HT.widen (l3 := 1500) (l4 := 1500) (by omega) (by omega)) HP.out Nat.one_pos HLT.out (Nat.one_lt_two_pow (n := 6000) (by decide)) (Nat.le_refl _) hp1 hp2)
 clear h3 h4 HX1 HT
 go_wp2_with fail
 refine HX2.out.mono ?_
 rintro e w3 ⟨p, V, U, q, rfl, g1, g2, g3, g4, g5, g6, g7, g8⟩
 have HG : Hid (Frac _ w3 p V U q 8000 ∧ SameVal (numB 16 D) 1 pw V U q ∧ Kept _ w2 w3) := ⟨g1, g2, g8⟩
 clear g1 g2 g8 HX2
 go_wp2
 go_ret
 exact ⟨p, V, U, q, rfl, HG.out.1, g3, g4, g5, by omega, by omega, (Below.kept HB.out (fun _ h => h)).trans HG.out.2.2, HG.out.2.1⟩

theorem fromDecimal_far (bd off cap n : Nat) (pw : Int) (w : World) (hlen : n ≤ 900) (hp1 : -100000000 ≤ pw) (hp2 : pw ≤ 100000000) (hf : 400 < pw + n - 1 ∨ pw + n - 1 < -400) :
  Calls Tryz.prog 65 #[.slice (some ⟨bd, off, none⟩) n cap, .int .i64 pw] w fun e w' => FracPost (fun k => k < w.heap.size) w w' e (fun V U q => V = 1 ∧ U = 1 ∧ q = if 400 < pw + n - 1 then 5000 else -5000) := by
 go_enter Tryz.func65, Tryz.ntmps65
 by_cases hb : 400 < pw + n - 1
 ·have HX := hid (powerOfTwo_any 5000 (by omega) (by omega) w)
  go_wp2_with fail
  refine HX.out.mono ?_
  rintro e w1 ⟨p, V, U, q, rfl, h1⟩
  have H1 := hid h1
  clear h1 HX
  go_wp2
  go_ret
  exact ⟨p, V, U, q, rfl, H1.out⟩
 ·have HX := hid (powerOfTwo_any (-5000) (by omega) (by omega) w)
  have hb2 : pw + n - 1 < -400 := by omega
  go_wp2_with fail
  refine HX.out.mono ?_
  rintro e w1 ⟨p, V, U, q, rfl, h1⟩
  have H1 := hid h1
  clear h1 HX
  go_wp2
  go_ret
  exact ⟨p, V, U, q, rfl, H1.out⟩

theorem fromDecimal_near (bd off cap n : Nat) (D : List Nat) (pw : Int) (w : World) (hn : D.length = n) (hlen : n ≤ 900) (hcap : n ≤ cap) (hc2 : cap ≤ maxLen) (hbd : bd < w.heap.size) (hce : ∀ j, j < n → w.cell? ⟨bd, off + j, none⟩ = some (.int .i64 (D.getD j 0 : Nat))) (hdg : ∀ d, d ∈ D → d < 10) (hpos : 0 < numB 10 D) (hf1 : pw + n - 1 ≤ 400) (hf2 : -400 ≤ pw + n - 1) :
  Calls Tryz.prog 65 #[.slice (some ⟨bd, off, none⟩) n cap, .int .i64 pw] w fun e w' => FracPost (fun k => k < w.heap.size) w w' e (fun V U q => SameVal (numB 10 D * 5 ^ pw.toNat) (5 ^ (-pw).toNat) pw V U q) := by
 have HX := hid (fromDigits10 bd off cap n D w hn (by omega) hcap hc2 hbd hce hdg)
 have HP := hid hpos
 have hn0 : 0 < n := by
  rcases Nat.eq_zero_or_pos n with h0 | h0
  ·rw [h0] at hn; rw [List.length_eq_zero_iff.1 hn] at hpos; simp [numB] at hpos
  ·exact h0
 have HLT : Hid (numB 10 D * 5 ^ pw.toNat < 2 ^ 6000) := dec_lt D _ hdg (by omega) (by omega)
 clear hn hce hdg hpos hc2
 go_enter Tryz.func65, Tryz.ntmps65
 go_wp2_with fail
 refine HX.out.mono ?_
 rintro e w1 ⟨rfl, h1, h2⟩
 have HX1 := hid (pOne_any w1)
 have H1 := hid h1
 have H2 := hid h2
 clear h1 h2 HX
 go_wp2_with fail
 refine HX1.out.mono ?_
 rintro e w2 ⟨rfl, h3, h4⟩
 have HT := (TwoN.make (S := fun k => k < w.heap.size) (fun _ h => h) H2.out.size H1.out h4 h3).widen (l3 := 1000) (l4 := 2) (by omega) (by omega)
 have HB := hid (Below.kept (S := fun k => k < w.heap.size) (H2.out.trans (h4.mono H2.out.size)) (fun _ h => h))
 clear h3 h4 HX1
 by_cases hp0 : 0 ≤ pw
 ·obtain ⟨m, rfl⟩ : ∃ m : Nat, pw = m := ⟨pw.toNat, by omega⟩
  have HX2 := hid (fiveO HT m (by omega) (by omega))
  clear HT
  simp only [Int.toNat_natCast] at HLT
  go_wp2_with fail
  refine HX2.out.mono ?_
  rintro e w3 ⟨rfl, h5, k5⟩
  have HX3 := hid (reduced_any _ _ _ _ _ _ (m : Int) w3 (h5.widen (l3 := 1500) (l4 := 1500) (by omega) (by omega)) (Nat.mul_pos HP.out (Nat.pow_pos (by omega))) Nat.one_pos HLT.out (Nat.one_lt_two_pow (n := 6000) (by decide)) (Nat.le_refl _) (by omega) (by omega))
  have HB2 := hid (HB.out.trans k5)
  clear h5 k5 HX2 HB
  go_wp2_with fail
  refine HX3.out.mono ?_
  rintro e w4 ⟨p, V, U, q, rfl, g1, g2, g3, g4, g5, g6, g7, g8⟩
  have HG : Hid (Frac _ w4 p V U q 8000 ∧ SameVal (numB 10 D * 5 ^ m) 1 m V U q ∧ Kept _ w3 w4) := ⟨g1, g2, g8⟩
  clear g1 g2 g8 HX3
  go_wp2
  go_ret
  refine ⟨p, V, U, q, rfl, HG.out.1, g3, g4, g5, by omega, by omega, HB2.out.trans HG.out.2.2, ?_⟩
  rw [show (-(m : Int)).toNat = 0 from by omega, Int.toNat_natCast]
  exact HG.out.2.1
 ·obtain ⟨m, rfl⟩ : ∃ m : Nat, pw = -(m : Int) := ⟨(-pw).toNat, by omega⟩
  have HX2 := hid (fiveU HT m (by omega) (by omega))
  clear HT
  have hm : m ≤ 1900 := by omega
  have HLU := hid (five_lt m hm)
  have h00 : (-(m : Int)).toNat = 0 := by omega
  rw [h00, Nat.pow_zero, Nat.mul_one] at HLT
  have H00 := hid h00
  clear h00
  go_wp2_with fail
  refine HX2.out.mono ?_
  rintro e w3 ⟨rfl, h5, k5⟩
  have HX3 := hid (reduced_any _ _ _ _ _ _ (-(m : Int)) w3 (h5.widen (l3 := 1500) (l4 := 1500) (by omega) (by omega)) HP.out (Nat.mul_pos Nat.one_pos (Nat.pow_pos (by omega))) HLT.out HLU.out (Nat.le_refl _) (by omega) (by omega))
  have HB2 := hid (HB.out.trans k5)
  clear h5 k5 HX2 HB
  go_wp2_with fail
  refine HX3.out.mono ?_
  rintro e w4 ⟨p, V, U, q, rfl, g1, g2, g3, g4, g5, g6, g7, g8⟩
  have HG : Hid (Frac _ w4 p V U q 8000 ∧ SameVal (numB 10 D) (1 * 5 ^ m) (-(m : Int)) V U q ∧ Kept _ w3 w4) := ⟨g1, g2, g8⟩
  clear g1 g2 g8 HX3
  go_wp2
  go_ret
  refine ⟨p, V, U, q, rfl, HG.out.1, g3, g4, g5, by omega, by omega, HB2.out.trans HG.out.2.2, ?_⟩
  have h9 := HG.out.2.1
  rw [Nat.one_mul] at h9
  rw [H00.out, Nat.pow_zero, Nat.mul_one, Int.neg_neg, Int.toNat_natCast]
  exact h9
end Go.Proofs.YtbkdaoicnobllabGreatDoor
