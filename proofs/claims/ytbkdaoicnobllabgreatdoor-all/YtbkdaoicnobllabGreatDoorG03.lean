import Derived.Test.YtbkdaoicnobllabGreatDoorG02
import Derived.Test.YtbkdaoicnobllabGreatDoorG00
import Derived.Test.YtbkdaoicnobllabGreatDoorG01
import Derived.Test.YtbkdaoicnobllabGreatDoorShelf

namespace Go.Proofs.YtbkdaoicnobllabGreatDoor
set_option maxRecDepth 100000
set_option maxHeartbeats 1000000
open Go.RowKit

def lenOf : Value → Nat
 | .slice _ n _ => n
 | _ => 0
theorem Own.empty (w : World) : Own (w.alloc (.cells #[] 3)) w.heap.size (.slice (some ⟨w.heap.size, 0, none⟩) 0 0) [] :=
 ⟨rfl, .inr ⟨w.heap.size, 0, #[], rfl, Nat.le_refl _, by show (w.heap.push _)[w.heap.size]? = _; simp, Nat.le_refl _, Nat.zero_le _, rfl, rfl⟩⟩
theorem turned_some (b off cap n : Nat) (O : List Nat) (w : World) (hn : O.length = n) (_h1 : n ≤ cap) (_h2 : cap ≤ maxLen) (h3 : b < w.heap.size)
  (h4 : ∀ j, j < n → w.cell? ⟨b, off + j, none⟩ = some (.int .i64 (O.getD j 0 : Nat))) (hd : Digs O) (hl : n ≤ 100000) :
  Calls Tryz.prog 142 #[.slice (some ⟨b, off, none⟩) n cap] w fun r w' => ∃ v' : Value, r = .returned v' ∧ ∃ R : List Nat, Own w' w.heap.size v' R ∧ Digs R ∧ Headed R ∧ num R = le O ∧ R.length ≤ n ∧ Below w.heap.size w w' := by
 unfold maxLen at _h2
 have HN := hid hn
 have H4 := hid h4
 have HD := hid hd
 obtain ⟨i0, hi, hz0, hz1, hz2⟩ := info_parts Tryz.info_int
 clear hn h4 hd
 go_enter Tryz.func142, Tryz.ntmps142
 go_wp2
 go_loopw [3, 4] (fun l ii wr => ∃ (z : Int) (R : List Nat), ii = .int .i64 z ∧ -1 ≤ z ∧ z < n ∧ Own wr w.heap.size l R ∧ Hid (TurnSt O R (z + 1).toNat) ∧ (R.length : Int) ≤ n - 1 - z ∧ Below w.heap.size w wr) (fun _ ii _ => (intOf ii + 1).toNat)
 case atStart =>
  refine ⟨(n : Int) - 1, [], rfl, by omega, by omega, ?_, ?_, by simp, ?_⟩
  ·exact Own.empty w
  ·unfold Hid; rw [show ((n : Int) - 1 + 1).toNat = O.length from by rw [HN.out]; omega]; exact TurnSt.start O
  ·first | exact Below.refl _ _ | exact (Below.refl _ _).alloc (Nat.le_refl _) _
 case round =>
  obtain ⟨z, R, rfl, hz, hzn, hown, HT, hRl, hb⟩ := hrel
  have hsz := hb.size
  by_cases hge : 0 ≤ z
  ·obtain ⟨j, rfl⟩ : ∃ j : Nat, z = j := ⟨z.toNat, by omega⟩
   rw [toNat_succ] at HT
   obtain ⟨x, hx⟩ : ∃ x, x = O.getD j 0 := ⟨_, rfl⟩
   have hx9 : x ≤ 9 := by rw [hx]; exact HD.out.getD _
   have cx : wr.cell? ⟨b, off + j, none⟩ = some (.int .i64 x) := by
    rw [hx, hb.cell (p := ⟨b, off + j, none⟩) (by show b < _; omega)]; exact H4.out j (by omega)
   obtain ⟨ao, cp, hv⟩ := hown.row.isSlice
   subst hv
   obtain ⟨m, hm⟩ : ∃ m, m = R.length := ⟨_, rfl⟩
   have HRm : Hid (R.length = m) := hm.symm
   rw [← hm] at hown hRl ⊢
   have hown' : wr.ownsRow w.heap.size 3 1 (.slice ao m cp) m (ints R) := by have := hown; unfold Own at this; rwa [HRm.out] at this
   by_cases hpos : 0 < x
   ·have HP := hid (hx ▸ TurnSt.put HD.out HT.out (by rw [HN.out]; omega) (.inl (by rw [← hx]; exact hpos)) : TurnSt O (R ++ [x]) j)
    have t1 : decide (0 < x) = true := by simp; omega
    clear hx hm hown HT
    go_wp2_with (at_builtin; refine wpList_append_own _ rfl (.tmp 23) (.tmp 28) 69 rfl w.heap.size 3 i0 (.int .i64 0) 1 8 Tryz.underlying69 hi hz0 hz1 hz2 rfl (by decide) _ _ _ rfl (hown'.alloc _) ⟨wr.heap.size, 0, none⟩ 1 1 [.int .i64 (x : Int)] rfl rfl ?c1 ?c2 ?c3 ?c4 ?c5 ?_)
    case c1 => exact cell_one_new _ _ _
    case c2 => intro u hu; simp at hu; subst hu; rfl
    case c3 => unfold maxLen; omega
    case c4 => omega
    case c5 => simp; omega
    intro v' w1 hown1 hgrow _
    have hb1 : Hid (Below w.heap.size w w1) := (hb.alloc (by omega) _).grown hgrow (by simp; omega) (fun k hk => (hown'.lt k hk).1)
    have hown2 : Hid (Own w1 w.heap.size v' (R ++ [x])) := Own.snoc hown1 HRm.out rfl
    clear hown' hgrow hown1 hb cx
    go_wp2
    go_roundw
    case rel => exact ⟨(j : Int) - 1, R ++ [x], rfl, by omega, by omega, hown2.out, by unfold Hid; rw [show ((j : Int) - 1 + 1).toNat = j from by omega]; exact HP.out, by rw [List.length_append, HRm.out, List.length_singleton]; omega, hb1.out⟩
    case measure => simp [intOf]
   ·have hx0 : x = 0 := by omega
    by_cases hm0 : 0 < m
    ·have HP := hid (hx ▸ TurnSt.put HD.out HT.out (by rw [HN.out]; omega) (.inr (by rw [HRm.out]; exact hm0)) : TurnSt O (R ++ [x]) j)
     have t1 : decide (0 < x) = false := by simp; omega
     have t2 : decide (0 < m) = true := by simp; omega
     clear hx hm hown HT hpos hx0
     go_wp2_with (at_builtin; refine wpList_append_own _ rfl (.tmp 23) (.tmp 28) 69 rfl w.heap.size 3 i0 (.int .i64 0) 1 8 Tryz.underlying69 hi hz0 hz1 hz2 rfl (by decide) _ _ _ rfl (hown'.alloc _) ⟨wr.heap.size, 0, none⟩ 1 1 [.int .i64 (x : Int)] rfl rfl ?c1 ?c2 ?c3 ?c4 ?c5 ?_)
     case c1 => exact cell_one_new _ _ _
     case c2 => intro u hu; simp at hu; subst hu; rfl
     case c3 => unfold maxLen; omega
     case c4 => omega
     case c5 => simp; omega
     intro v' w1 hown1 hgrow _
     have hb1 : Hid (Below w.heap.size w w1) := (hb.alloc (by omega) _).grown hgrow (by simp; omega) (fun k hk => (hown'.lt k hk).1)
     have hown2 : Hid (Own w1 w.heap.size v' (R ++ [x])) := Own.snoc hown1 HRm.out rfl
     clear hown' hgrow hown1 hb cx
     go_wp2
     go_roundw
     case rel => exact ⟨(j : Int) - 1, R ++ [x], rfl, by omega, by omega, hown2.out, by unfold Hid; rw [show ((j : Int) - 1 + 1).toNat = j from by omega]; exact HP.out, by rw [List.length_append, HRm.out, List.length_singleton]; omega, hb1.out⟩
     case measure => simp [intOf]
    ·have hR : R = [] := List.length_eq_zero_iff.1 (by rw [HRm.out]; omega)
     have HP := hid (TurnSt.pass HT.out (by rw [HN.out]; omega) (by rw [← hx]; exact hx0) hR : TurnSt O R j)
     have t1 : decide (0 < x) = false := by simp; omega
     have t2 : decide (0 < m) = false := by simp; omega
     have HO := hid hown
     clear hx hm hown HT hpos hx0 hown' hR
     go_wp2
     go_roundw
     case rel => exact ⟨(j : Int) - 1, R, rfl, by omega, by omega, HO.out, by unfold Hid; rw [show ((j : Int) - 1 + 1).toNat = j from by omega]; exact HP.out, by rw [HRm.out]; omega, hb⟩
     case measure => simp [intOf]
  ·have hz1' : z = -1 := by omega
   subst hz1'
   have HO := hid hown
   have HE := hid (show TurnSt O R 0 from HT.out)
   have HB := hid hb
   clear hown HT hb
   go_wp2
   go_ret
   exact ⟨_, rfl, R, HO.out, HE.out.1, HE.out.2.1, HE.out.done, by omega, HB.out⟩
end Go.Proofs.YtbkdaoicnobllabGreatDoor

namespace Go.Proofs.YtbkdaoicnobllabGreatDoor
set_option maxRecDepth 100000
set_option maxHeartbeats 1000000
open Go.RowKit

theorem nv_take_any (L : List Nat) (i : Nat) : nv (L.take (i + 1)) = nv (L.take i) + 1073741824 ^ i * L.getD i 0 := by
 by_cases h : i < L.length
 ·exact nv_take_succ L i h
 ·rw [List.take_of_length_le (by omega), List.take_of_length_le (by omega), List.getD_eq_getElem?_getD, List.getElem?_eq_none (by omega)]; simp
theorem sub_step (L1 L2 M : List Nat) (i o y o' : Nat) (hi : i < M.length) (h : nv (M.take i) + nv (L2.take i) = nv (L1.take i) + o * 1073741824 ^ i) (hy : y + L2.getD i 0 + o = L1.getD i 0 + o' * 1073741824) :
  nv ((M.set i y).take (i + 1)) + nv (L2.take (i + 1)) = nv (L1.take (i + 1)) + o' * 1073741824 ^ (i + 1) := by
 have e1 : (M.set i y).take i = M.take i := by rw [List.take_set]; exact List.set_eq_of_length_le (by rw [List.length_take]; omega)
 rw [nv_take_any, e1, getD_set M i i _ hi, if_pos rfl, nv_take_any, nv_take_any, Nat.pow_succ]
 generalize 1073741824 ^ i = P at *
 generalize L2.getD i 0 = a at *
 generalize L1.getD i 0 = c at *
 have h2 : P * y + P * a + P * o = P * c + o' * (P * 1073741824) := by
  have : P * (y + a + o) = P * (c + o' * 1073741824) := by rw [hy]
  grind
 have h3 : o * P = P * o := Nat.mul_comm _ _
 omega
theorem sub_end {L1 L2 M : List Nat} {o n : Nat} (hM : M.length = n) (h1 : L1.length = n) (h2 : L2.length ≤ n) (hl : Lim M) (hle : nv L2 ≤ nv L1) (h : nv (M.take n) + nv (L2.take n) = nv (L1.take n) + o * 1073741824 ^ n) : nv M = nv L1 - nv L2 := by
 rw [take_eq_self hM, take_eq_self h1, List.take_of_length_le h2] at h
 have h3 := nv_lt hl
 rw [hM] at h3
 cases o with
 | zero => omega
 | succ o => rw [Nat.succ_mul] at h; omega
theorem len_le_of_nv {L1 L2 : List Nat} (h1 : Lim L1) (h2 : 0 < L2.length → L2.getD (L2.length - 1) 0 ≠ 0) (hle : nv L2 ≤ nv L1) : L2.length ≤ L1.length := by
 apply Nat.le_of_not_lt; intro hlt
 have hp : 0 < L2.length := by omega
 have a := nv_lt h1
 have b : 1073741824 ^ (L2.length - 1) ≤ nv L2 := by
  have e : L2.take (L2.length - 1 + 1) = L2 := List.take_of_length_le (by omega)
  have := nv_take_any L2 (L2.length - 1)
  rw [e] at this
  rw [this]
  have h3 := h2 hp
  have : 1073741824 ^ (L2.length - 1) * 1 ≤ 1073741824 ^ (L2.length - 1) * L2.getD (L2.length - 1) 0 := Nat.mul_le_mul_left _ (by omega)
  omega
 have c : 1073741824 ^ L1.length ≤ 1073741824 ^ (L2.length - 1) := Nat.pow_le_pow_right (by omega) (by omega)
 omega
def Apart (b1 : Nat) (v1 : Value) (b2 : Nat) (v2 : Value) : Prop := ∀ k, Foot b1 v1 k → ¬ Foot b2 v2 k

theorem sub_some (b1 b2 g1 g2 cap1 cap2 n1 n2 : Nat) (L1 L2 : List Nat) (w : World) (hA : NatAt w b1 (.slice (some ⟨g1, 0, none⟩) n1 cap1) L1) (hB : NatAt w b2 (.slice (some ⟨g2, 0, none⟩) n2 cap2) L2) (hn1 : L1.length = n1) (hn2 : L2.length = n2)
  (hap : Apart b1 (.slice (some ⟨g1, 0, none⟩) n1 cap1) b2 (.slice (some ⟨g2, 0, none⟩) n2 cap2)) (hle : nv L2 ≤ nv L1) (hlen : n1 ≤ 90000) :
  Calls Tryz.prog 134 #[.pointer (some ⟨b1, 0, none⟩), .pointer (some ⟨b2, 0, none⟩)] w fun e w' => e = .returned (.tuple #[]) ∧ NatPost w w' b1 (.slice (some ⟨g1, 0, none⟩) n1 cap1) (nv L1 - nv L2) n1 := by
 have hgb : g1 ≠ b1 := fun e => hA.apart (by rw [e]; rfl)
 have n21 : n2 ≤ n1 := by rw [← hn1, ← hn2]; exact len_le_of_nv hA.lim hB.nrm hle
 have q1 : b1 ≠ b2 := fun e => hap b1 (.inl rfl) (.inl e)
 have q2 : b1 ≠ g2 := fun e => hap b1 (.inl rfl) (.inr (by rw [e]; rfl))
 have q3 : g1 ≠ b2 := fun e => hap g1 (.inr rfl) (.inl e)
 have q4 : g1 ≠ g2 := fun e => hap g1 (.inr rfl) (.inr (by rw [e]; rfl))
 have hc := hA.cell
 have HN1 := hid hn1
 have HN2 := hid hn2
 have HA := hid hA
 have HB := hid hB
 have HLE := hid hle
 clear hA hB hn1 hn2 hap hle
 go_enter Tryz.func134, Tryz.ntmps134
 go_wp2
 go_loopw [4, 12] (fun oo ii wr => ∃ i o : Nat, ∃ M : List Nat, oo = .int .i64 o ∧ o ≤ 1 ∧ ii = .int .i64 i ∧ i ≤ n1 ∧ Hid (M.length = n1) ∧ Own wr 0 (.slice (some ⟨g1, 0, none⟩) n1 cap1) M ∧ Hid (∀ j, i ≤ j → M.getD j 0 = L1.getD j 0) ∧ Lim M ∧
   Hid (nv (M.take i) + nv (L2.take i) = nv (L1.take i) + o * 1073741824 ^ i) ∧ Turn (fun k => k = g1) w wr) (fun _ ii _ => n1 - (intOf ii).toNat)
 case atStart => exact ⟨0, 0, L1, rfl, by omega, rfl, Nat.zero_le _, HN1.out, HA.out.own, fun _ _ => rfl, HA.out.lim, by simp [Hid, nv], Turn.refl _ _⟩
 case round =>
  clear hc
  obtain ⟨i, o, M, rfl, ho, rfl, hin, HM, hown, HR, hlim, HE, ht⟩ := hrel
  have hA2 := cell_of_turn ht HA.out.cell (by simp; omega)
  have hBn := HB.out.turn ht (fun k hk => by rcases hk with rfl | hk <;> intro e <;> simp [Value.ownBlock] at * <;> omega)
  have hB2 := hBn.cell
  by_cases hlt : i < n1
  ·obtain ⟨x, hx⟩ : ∃ x, x = L1.getD i 0 := ⟨_, rfl⟩
   obtain ⟨z, hz⟩ : ∃ z, z = L2.getD i 0 := ⟨_, rfl⟩
   have hx30 : x < 1073741824 := by rw [hx]; exact HA.out.lim.getD i
   have hz30 : z < 1073741824 := by rw [hz]; exact HB.out.lim.getD i
   have cx : wr.cell? ⟨g1, i, none⟩ = some (.int .i64 x) := by rw [hown.cell HM.out i hlt, HR.out i (Nat.le_refl _), hx]
   have fx := hown.frozen HM.out i
   have hz0 : ¬ i < n2 → z = 0 := fun h => by rw [hz, List.getD_eq_getElem?_getD, List.getElem?_eq_none (by rw [HN2.out]; omega)]; rfl
   have HX := hid hx
   have HZ := hid hz
   have cz : i < n2 → wr.cell? ⟨g2, i, none⟩ = some (.int .i64 z) := fun h => by rw [hBn.own.cell HN2.out i h, HZ.out]
   clear hx hz
   by_cases hi2 : i < n2
   ·have cz := cz hi2
    by_cases hneg : (x : Int) - o - z < 0
    ·
     obtain ⟨y, hy⟩ : ∃ y : Nat, (y : Int) = (x : Int) - o - z + 1073741824 := ⟨((x : Int) - o - z + 1073741824).toNat, by omega⟩
     have HST := hid (sub_step L1 L2 M i o y 1 (by rw [HM.out]; exact hlt) HE.out (by rw [← HX.out, ← HZ.out]; omega))
     have hy30 : y < 1073741824 := by omega
     have hown2 := hid (hown.store HM.out i y)
     have ht2 := hid (ht.setCell ⟨g1, i, none⟩ (.int .i64 (y : Nat)) rfl)
     have hyi : (x : Int) - o - z + 1073741824 = (y : Int) := by omega
     clear hy hown ht hBn
     go_wp2
     go_roundw
     case rel =>
      refine ⟨i + 1, 1, M.set i y, rfl, by omega, by go_num, by omega, by unfold Hid; rw [List.length_set]; exact HM.out, hown2.out, fun j hj => ?_, hlim.set i y hy30, HST.out, ht2.out⟩
      rw [getD_set M i j y (by rw [HM.out]; exact hlt), if_neg (by omega)]; exact HR.out j (by omega)
     case measure => simp [intOf]; omega
    ·
     obtain ⟨y, hy⟩ : ∃ y : Nat, (y : Int) = (x : Int) - o - z := ⟨((x : Int) - o - z).toNat, by omega⟩
     have HST := hid (sub_step L1 L2 M i o y 0 (by rw [HM.out]; exact hlt) HE.out (by rw [← HX.out, ← HZ.out]; omega))
     have hy30 : y < 1073741824 := by omega
     have hown2 := hid (hown.store HM.out i y)
     have ht2 := hid (ht.setCell ⟨g1, i, none⟩ (.int .i64 (y : Nat)) rfl)
     have hyi : (x : Int) - o - z = (y : Int) := by omega
     clear hy hown ht hBn
     go_wp2
     go_roundw
     case rel =>
      refine ⟨i + 1, 0, M.set i y, rfl, by omega, by go_num, by omega, by unfold Hid; rw [List.length_set]; exact HM.out, hown2.out, fun j hj => ?_, hlim.set i y hy30, HST.out, ht2.out⟩
      rw [getD_set M i j y (by rw [HM.out]; exact hlt), if_neg (by omega)]; exact HR.out j (by omega)
     case measure => simp [intOf]; omega
   ·have hzz := hz0 hi2
    clear cz hz0
    by_cases hneg : (x : Int) - o < 0
    ·
     obtain ⟨y, hy⟩ : ∃ y : Nat, (y : Int) = (x : Int) - o - z + 1073741824 := ⟨((x : Int) - o - z + 1073741824).toNat, by omega⟩
     have HST := hid (sub_step L1 L2 M i o y 1 (by rw [HM.out]; exact hlt) HE.out (by rw [← HX.out, ← HZ.out]; omega))
     have hy30 : y < 1073741824 := by omega
     have hown2 := hid (hown.store HM.out i y)
     have ht2 := hid (ht.setCell ⟨g1, i, none⟩ (.int .i64 (y : Nat)) rfl)
     have hyi : (x : Int) - o + 1073741824 = (y : Int) := by omega
     clear hy hown ht hBn
     go_wp2
     go_roundw
     case rel =>
      refine ⟨i + 1, 1, M.set i y, rfl, by omega, by go_num, by omega, by unfold Hid; rw [List.length_set]; exact HM.out, hown2.out, fun j hj => ?_, hlim.set i y hy30, HST.out, ht2.out⟩
      rw [getD_set M i j y (by rw [HM.out]; exact hlt), if_neg (by omega)]; exact HR.out j (by omega)
     case measure => simp [intOf]; omega
    ·
     obtain ⟨y, hy⟩ : ∃ y : Nat, (y : Int) = (x : Int) - o - z := ⟨((x : Int) - o - z).toNat, by omega⟩
     have HST := hid (sub_step L1 L2 M i o y 0 (by rw [HM.out]; exact hlt) HE.out (by rw [← HX.out, ← HZ.out]; omega))
     have hy30 : y < 1073741824 := by omega
     have hown2 := hid (hown.store HM.out i y)
     have ht2 := hid (ht.setCell ⟨g1, i, none⟩ (.int .i64 (y : Nat)) rfl)
     have hyi : (x : Int) - o = (y : Int) := by omega
     clear hy hown ht hBn
     go_wp2
     go_roundw
     case rel =>
      refine ⟨i + 1, 0, M.set i y, rfl, by omega, by go_num, by omega, by unfold Hid; rw [List.length_set]; exact HM.out, hown2.out, fun j hj => ?_, hlim.set i y hy30, HST.out, ht2.out⟩
      rw [getD_set M i j y (by rw [HM.out]; exact hlt), if_neg (by omega)]; exact HR.out j (by omega)
     case measure => simp [intOf]; omega
  ·have hin2 : i = n1 := by omega
   subst hin2
   have hse := hid (sub_end HM.out HN1.out (by rw [HN2.out]; exact n21) hlim HLE.out HE.out)
   have hf2 : wr.frozen? ⟨b1, 0, none⟩ = false := by
    rw [World.frozen?_of_block (w := w) (ht.block b1 (World.block_lt_of_cell? w _ HA.out.cell) (by omega))]; exact HA.out.frozen
   have HO := hid hown
   clear hown hBn hB2
   go_wp2_with fail
   refine (trim_any b1 _ M wr hA2 hf2 HO.out HA.out.apart hlim (by rw [HM.out]; omega)).mono ?_
   rintro e w' ⟨rfl, hpost⟩
   have hfin := hid ((hpost.after (ht.mono (fun j _ hj => .inr (by rw [hj]; rfl))) (.inl rfl)).widen hse.out (by rw [HM.out]; exact Nat.le_refl _ : M.length ≤ i))
   clear hpost hA2 hf2
   go_wp2
   go_end0
   exact ⟨rfl, hfin.out⟩

theorem sub_any (b1 b2 : Nat) (v1 v2 : Value) (L1 L2 : List Nat) (w : World) (hA : NatAt w b1 v1 L1) (hB : NatAt w b2 v2 L2) (hap : Apart b1 v1 b2 v2) (hle : nv L2 ≤ nv L1) (h2 : 0 < L2.length) (hlen : L1.length ≤ 90000) :
  Calls Tryz.prog 134 #[.pointer (some ⟨b1, 0, none⟩), .pointer (some ⟨b2, 0, none⟩)] w fun e w' => e = .returned (.tuple #[]) ∧ NatPost w w' b1 v1 (nv L1 - nv L2) L1.length := by
 have h21 := len_le_of_nv hA.lim hB.nrm hle
 rcases hA.own.form with ⟨h0, _⟩ | ⟨g1, cap1, hv1, _⟩
 ·rw [h0] at h21; simp at h21; rw [h21] at h2; simp at h2
 ·rcases hB.own.form with ⟨h0, _⟩ | ⟨g2, cap2, hv2, _⟩
  ·rw [h0] at h2; simp at h2
  ·subst hv1 hv2
   exact sub_some b1 b2 g1 g2 cap1 cap2 L1.length L2.length L1 L2 w hA hB rfl rfl hap hle hlen

end Go.Proofs.YtbkdaoicnobllabGreatDoor

namespace Go.Proofs.YtbkdaoicnobllabGreatDoor
set_option maxRecDepth 100000
set_option maxHeartbeats 2000000
open Go.RowKit

structure Still (w w' : World) : Prop where
 drew : ∃ m, w' = w.drewN m
theorem Still.heap {w w' : World} (h : Still w w') : w'.heap = w.heap := by obtain ⟨m, rfl⟩ := h.drew; rfl
theorem Still.os {w w' : World} (h : Still w w') : w'.os = w.os := by obtain ⟨m, rfl⟩ := h.drew; rfl
theorem Still.tape {w w' : World} (h : Still w w') : w'.tape = w.tape := by obtain ⟨m, rfl⟩ := h.drew; rfl
theorem Still.output {w w' : World} (h : Still w w') : w'.output = w.output := by obtain ⟨m, rfl⟩ := h.drew; rfl
theorem Still.refl (w : World) : Still w w := ⟨0, rfl⟩
theorem Still.drewN {w w1 : World} (h : Still w w1) (n : Nat) : Still w (w1.drewN n) := by
 obtain ⟨m, rfl⟩ := h.drew
 exact ⟨_, World.drewN_drewN ..⟩
theorem Still.trans {w w1 w2 : World} (h : Still w w1) (k : Still w1 w2) : Still w w2 := by
 obtain ⟨m, rfl⟩ := k.drew
 exact h.drewN m
theorem Still.below {w w1 : World} (h : Still w w1) (B : Nat) : Below B w w1 := ⟨h.os, h.tape, h.output, by rw [h.heap]; exact Nat.le_refl _, fun k _ => by rw [h.heap]⟩
theorem Still.cell {w w1 : World} (h : Still w w1) (a : Addr) : w1.cell? a = w.cell? a := World.cell?_of_block (by rw [h.heap])
theorem Still.turn {w w1 : World} (h : Still w w1) (S : Nat → Prop) : Turn S w w1 := ⟨h.os, h.tape, h.output, by rw [h.heap]; exact Nat.le_refl _, fun k _ _ => by rw [h.heap]⟩
theorem Still.natAt {w w1 : World} (h : Still w w1) {b : Nat} {v : Value} {L : List Nat} (hn : NatAt w b v L) : NatAt w1 b v L := hn.turn (h.turn (fun _ => False)) (fun _ _ h => h)

theorem nv_len_lt {L1 L2 : List Nat} (h1 : Lim L1) (h2 : 0 < L2.length → L2.getD (L2.length - 1) 0 ≠ 0) (h : L1.length < L2.length) : nv L1 < nv L2 := by
 apply Nat.lt_of_not_le; intro hle
 have := len_le_of_nv h1 h2 hle; omega
theorem nv_split (L : List Nat) (i : Nat) (hi : i ≤ L.length) : nv L = nv (L.take i) + 1073741824 ^ i * nv (L.drop i) := by
 conv => lhs; rw [← List.take_append_drop i L]
 rw [nv_append, List.length_take, Nat.min_eq_left hi]
theorem nv_at_lt {L1 L2 : List Nat} {i : Nat} (hl1 : Lim L1) (hi1 : i < L1.length) (hi2 : i < L2.length) (hd : L1.drop (i + 1) = L2.drop (i + 1)) (h : L1.getD i 0 < L2.getD i 0) : nv L1 < nv L2 := by
 rw [nv_split L1 (i + 1) (by omega), nv_split L2 (i + 1) (by omega), hd, nv_take_any, nv_take_any]
 have a := nv_lt (hl1.take i)
 rw [List.length_take, Nat.min_eq_left (by omega)] at a
 have b : 1073741824 ^ i * (L1.getD i 0 + 1) ≤ 1073741824 ^ i * L2.getD i 0 := Nat.mul_le_mul_left _ h
 rw [Nat.mul_add, Nat.mul_one] at b
 omega
theorem drop_eq_step {L1 L2 : List Nat} {i : Nat} (hi1 : i < L1.length) (hi2 : i < L2.length) (hd : L1.drop (i + 1) = L2.drop (i + 1)) (h : L1.getD i 0 = L2.getD i 0) : L1.drop i = L2.drop i := by
 rw [List.drop_eq_getElem_cons hi1, List.drop_eq_getElem_cons hi2, hd]
 rw [List.getD_eq_getElem?_getD, List.getElem?_eq_getElem hi1, List.getD_eq_getElem?_getD, List.getElem?_eq_getElem hi2] at h
 have h2 : L1[i] = L2[i] := by simpa using h
 rw [h2]

theorem compare_any (b1 b2 : Nat) (v1 v2 : Value) (L1 L2 : List Nat) (w : World) (hA : NatAt w b1 v1 L1) (hB : NatAt w b2 v2 L2) (hl1 : L1.length ≤ 90000) (_hl2 : L2.length ≤ 90000) :
  Calls Tryz.prog 133 #[.pointer (some ⟨b1, 0, none⟩), .pointer (some ⟨b2, 0, none⟩)] w fun e w' => e = .returned (.int .i64 (cmpN (nv L1) (nv L2))) ∧ Still w w' := by
 obtain ⟨a1, c1, hv1⟩ := hA.own.row.isSlice
 obtain ⟨a2, c2, hv2⟩ := hB.own.row.isSlice
 subst hv1 hv2
 have hc1 := hA.cell
 have hc2 := hB.cell
 have HA := hid hA
 have HB := hid hB
 by_cases hlen : L1.length = L2.length
 ·obtain ⟨n, hn⟩ : ∃ n, n = L1.length := ⟨_, rfl⟩
  rw [← hlen, ← hn] at hc2
  rw [← hn] at hc1
  have hself : (((n : Nat) : Int) != ((n : Nat) : Int)) = false := by simp
  by_cases hn0 : n = 0
  ·have HC : Hid (cmpN (nv L1) (nv L2) = 0) := cmpN_eq (by rw [hA.zero_iff.1 (by omega), hB.zero_iff.1 (by omega)])
   subst hn0
   clear hA hB hlen hn hself
   go_enter Tryz.func133, Tryz.ntmps133
   go_wp2
   go_quiet (fail)
   go_wp2
   go_loop [5] (fun i => i = .int .i64 (-1)) (fun _ => 0)
   case atStart => rfl
   case round =>
    subst hrel
    go_wp2
    go_ret
    exact ⟨ret_int HC.out.symm, (Still.refl w).drewN _⟩
  ·rcases hA.own.form with ⟨h0, _⟩ | ⟨g1, cap1, hv1, _⟩
   ·rw [h0] at hn; simp at hn; omega
   ·rcases hB.own.form with ⟨h0, _⟩ | ⟨g2, cap2, hv2, _⟩
    ·rw [h0] at hlen; simp at hlen; rw [hlen] at hn; simp at hn; omega
    ·rw [← hn] at hv1
     rw [← hlen, ← hn] at hv2
     simp only [Value.slice.injEq] at hv1 hv2
     obtain ⟨rfl, _, rfl⟩ := hv1
     obtain ⟨rfl, _, rfl⟩ := hv2
     have HN1 : Hid (L1.length = n) := hn.symm
     have HN2 : Hid (L2.length = n) := by unfold Hid; rw [← hlen]; exact hn.symm
     have hn9 : n ≤ 90000 := by omega
     rw [HN1.out] at HA
     rw [HN2.out] at HB
     have hcap1 : n ≤ c1 ∧ c1 ≤ 9223372036854775807 := by
      rcases HA.out.own.form with ⟨h0, _⟩ | ⟨_, _, hv, _, _, h3, h4⟩
      ·rw [h0] at HN1; have := HN1.out; simp at this; omega
      ·simp only [Value.slice.injEq] at hv; unfold maxLen at h4; have := HN1.out; omega
     have hcap2 : n ≤ c2 ∧ c2 ≤ 9223372036854775807 := by
      rcases HB.out.own.form with ⟨h0, _⟩ | ⟨_, _, hv, _, _, h3, h4⟩
      ·rw [h0] at HN2; have := HN2.out; simp at this; omega
      ·simp only [Value.slice.injEq] at hv; unfold maxLen at h4; have := HN2.out; omega
     clear hA hB hlen hn hl1 _hl2
     go_enter Tryz.func133, Tryz.ntmps133
     go_wp2
     go_quiet (fail)
     go_wp2
     have hst := (Still.refl w).drewN nq
     have hc1' := (hst.cell _).trans hc1
     have hc2' := (hst.cell _).trans hc2
     have HST := hid hst
     clear hc1 hc2 hst
     generalize w.drewN nq = w1 at *
     go_wp2
     go_loopw [5] (fun ii wr => ∃ k : Nat, k ≤ n ∧ ii = .int .i64 ((k : Int) - 1) ∧ Hid (L1.drop k = L2.drop k) ∧ Still w wr) (fun ii _ => (intOf ii + 1).toNat)
     case atStart => exact ⟨n, Nat.le_refl _, rfl, by unfold Hid; rw [List.drop_eq_nil_of_le (by rw [HN1.out]; exact Nat.le_refl _), List.drop_eq_nil_of_le (by rw [HN2.out]; exact Nat.le_refl _)], HST.out⟩
     case round =>
      clear hc1' hc2' HST
      obtain ⟨k, hk, rfl, HD, hst⟩ := hrel
      by_cases hpos : 0 < k
      ·obtain ⟨j, rfl⟩ : ∃ j, k = j + 1 := ⟨k - 1, by omega⟩
       rw [show ((j + 1 : Nat) : Int) - 1 = (j : Int) from by omega]
       have hA1 := hst.natAt HA.out
       have hB1 := hst.natAt HB.out
       have d1 := hA1.cell
       have d2 := hB1.cell
       obtain ⟨x, hx⟩ : ∃ x, x = L1.getD j 0 := ⟨_, rfl⟩
       obtain ⟨y, hy⟩ : ∃ y, y = L2.getD j 0 := ⟨_, rfl⟩
       have cx : wr.cell? ⟨g1, j, none⟩ = some (.int .i64 x) := by rw [hA1.own.cell HN1.out j (by omega), hx]
       have cy : wr.cell? ⟨g2, j, none⟩ = some (.int .i64 y) := by rw [hB1.own.cell HN2.out j (by omega), hy]
       have j0 : (0 : Int) ≤ (j : Int) := by omega
       have j1 : (j : Int) < (n : Int) := by omega
       have HX := hid (And.intro hx hy)
       have HST := hid hst
       clear hx hy hA1 hB1 hst
       by_cases hxy : x = y
       ·have hb : (((x : Nat) : Int) != ((y : Nat) : Int)) = false := by simp [hxy]
        have HXY := hid hxy
        clear hxy
        go_wp2
        go_quiet (fail)
        go_wp2
        go_roundw
        case rel => exact ⟨j, by omega, rfl, drop_eq_step (by rw [HN1.out]; omega) (by rw [HN2.out]; omega) HD.out (by rw [← HX.out.1, ← HX.out.2]; exact HXY.out), HST.out.drewN _⟩
        case measure => simp [intOf]
       ·have hb : (((x : Nat) : Int) != ((y : Nat) : Int)) = true := by simp; omega
        have HC : Hid ((if (x : Int) < (y : Int) then (-1 : Int) else if (x : Int) = (y : Int) then 0 else 1) = cmpN (nv L1) (nv L2)) := by
         unfold Hid
         by_cases hlt : x < y
         ·rw [if_pos (by omega), cmpN_lt (nv_at_lt HA.out.lim (by rw [HN1.out]; omega) (by rw [HN2.out]; omega) HD.out (by rw [← HX.out.1, ← HX.out.2]; exact hlt))]
         ·rw [if_neg (by omega), if_neg (by omega), cmpN_gt (nv_at_lt HB.out.lim (by rw [HN2.out]; omega) (by rw [HN1.out]; omega) HD.out.symm (by rw [← HX.out.1, ← HX.out.2]; omega))]
        obtain ⟨V, hV⟩ : ∃ V, V = (if (x : Int) < (y : Int) then (-1 : Int) else if (x : Int) = (y : Int) then 0 else 1) := ⟨_, rfl⟩
        have hord : ∀ W, Calls Tryz.prog 146 #[.int .i64 (x : Int), .int .i64 (y : Int)] W fun e w' => e = .returned (.int .i64 V) ∧ w' = W := fun W => by rw [hV]; exact order_any _ _ W
        rw [← hV] at HC
        have HORD := hid hord
        clear hV hord hxy
        go_wp2
        go_quiet (fail)
        go_wp2
        have hst2 := (Still.refl wr).drewN nq
        have d1' := (hst2.cell _).trans d1
        have d2' := (hst2.cell _).trans d2
        have cx' := (hst2.cell _).trans cx
        have cy' := (hst2.cell _).trans cy
        have HST2 := hid (HST.out.trans hst2)
        clear d1 d2 cx cy hst2
        generalize wr.drewN nq = w2 at *
        go_quiet ((go_at_call 146; exact Calls.quiet_of_same (HORD.out _)))
        go_wp2
        go_ret
        exact ⟨ret_int HC.out, HST2.out.drewN _⟩
      ·have hk0 : k = 0 := by omega
       subst hk0
       have HC : Hid (cmpN (nv L1) (nv L2) = 0) := cmpN_eq (by have := HD.out; simp at this; rw [this])
       clear HD
       go_wp2
       go_ret
       exact ⟨ret_int HC.out.symm, hst⟩
 ·have hbn : (((L1.length : Nat) : Int) != ((L2.length : Nat) : Int)) = true := by simp; omega
  have HC : Hid ((if (L1.length : Int) < (L2.length : Int) then (-1 : Int) else if (L1.length : Int) = (L2.length : Int) then 0 else 1) = cmpN (nv L1) (nv L2)) := by
   unfold Hid
   by_cases hlt : L1.length < L2.length
   ·rw [if_pos (by omega), cmpN_lt (nv_len_lt hA.lim hB.nrm hlt)]
   ·rw [if_neg (by omega), if_neg (by omega), cmpN_gt (nv_len_lt hB.lim hA.nrm (by omega))]
  obtain ⟨n1, hn1⟩ : ∃ n1, n1 = L1.length := ⟨_, rfl⟩
  obtain ⟨n2, hn2⟩ : ∃ n2, n2 = L2.length := ⟨_, rfl⟩
  rw [← hn1] at hc1 hbn HC hl1
  rw [← hn2] at hc2 hbn HC _hl2
  clear hA hB hlen hn1 hn2
  go_enter Tryz.func133, Tryz.ntmps133
  go_wp2
  go_quiet (fail)
  go_wp2
  have hst := (Still.refl w).drewN nq
  have hc1' := (hst.cell _).trans hc1
  have hc2' := (hst.cell _).trans hc2
  have HST := hid hst
  clear hc1 hc2 hst
  generalize w.drewN nq = w1 at *
  obtain ⟨V, hV⟩ : ∃ V, V = (if (n1 : Int) < (n2 : Int) then (-1 : Int) else if (n1 : Int) = (n2 : Int) then 0 else 1) := ⟨_, rfl⟩
  have hord : ∀ W, Calls Tryz.prog 146 #[.int .i64 (n1 : Int), .int .i64 (n2 : Int)] W fun e w' => e = .returned (.int .i64 V) ∧ w' = W := fun W => by rw [hV]; exact order_any _ _ W
  rw [← hV] at HC
  have HORD := hid hord
  clear hV hord
  go_quiet ((go_at_call 146; exact Calls.quiet_of_same (HORD.out _)))
  go_wp2
  go_ret
  exact ⟨ret_int HC.out, HST.out.drewN _⟩

end Go.Proofs.YtbkdaoicnobllabGreatDoor

namespace Go.Proofs.YtbkdaoicnobllabGreatDoor
set_option maxRecDepth 100000
set_option maxHeartbeats 1000000
open Go.RowKit

theorem Tryz.info_u8 : (Tryz.prog.info? 5).map (fun i => (i.zero, i.size, i.bytes)) = some (some (.int .u8 0), 1, 1) := by kernel_rfl
def byts (T : List UInt8) : List Value := T.map fun b => Value.int .u8 (b.toNat : Nat)
theorem byts_append (a b : List UInt8) : byts (a ++ b) = byts a ++ byts b := by simp [byts]
theorem byts_length (a : List UInt8) : (byts a).length = a.length := by simp [byts]
def OwnB (w : World) (base : Nat) (v : Value) (T : List UInt8) : Prop := w.ownsRow base 5 1 v T.length (byts T)
theorem OwnB.empty (w : World) : OwnB (w.alloc (.cells #[] 5)) w.heap.size (.slice (some ⟨w.heap.size, 0, none⟩) 0 0) [] :=
 ⟨rfl, .inr ⟨w.heap.size, 0, #[], rfl, Nat.le_refl _, by show (w.heap.push _)[w.heap.size]? = _; simp, Nat.le_refl _, Nat.zero_le _, rfl, rfl⟩⟩
theorem OwnB.owns {w : World} {base : Nat} {v : Value} {T : List UInt8} (h : OwnB w base v T) {k : Nat} (hk : T.length = k) : w.ownsRow base 5 1 v k (byts T) := by subst hk; exact h
theorem OwnB.snoc {w : World} {base : Nat} {v : Value} {T : List UInt8} {k : Nat} {z : Int} {d : UInt8} (h : w.ownsRow base 5 1 v (k + 1) (byts T ++ [.int .u8 z])) (hT : T.length = k) (hz : z = (d.toNat : Nat)) : OwnB w base v (T ++ [d]) := by
 subst hz; unfold OwnB; rw [byts_append]; simp only [List.length_append, List.length_singleton]; rw [hT]; exact h
theorem OwnB.below {w w' : World} {base : Nat} {v : Value} {T : List UInt8} (h : OwnB w base v T) {B : Nat} (hb : Below B w w') (hB : w.heap.size ≤ B) : OwnB w' base v T := by
 refine ⟨h.1, ?_⟩
 rcases h.2 with h2 | ⟨g, cap, cur, hv, hg, hh, r⟩
 ·exact .inl h2
 ·exact .inr ⟨g, cap, cur, hv, hg, by rw [hb.block g (Nat.lt_of_lt_of_le (Array.getElem?_eq_some_iff.1 hh).1 hB)]; exact hh, r⟩
theorem OwnB.form {w : World} {base : Nat} {v : Value} {T : List UInt8} (h : OwnB w base v T) (hs : ∃ g n cp, v = .slice (some ⟨g, 0, none⟩) n cp) : ∃ g cap, v = .slice (some ⟨g, 0, none⟩) T.length cap ∧ base ≤ g ∧ T.length ≤ cap ∧ cap ≤ maxLen := by
 obtain ⟨g, n, cp, rfl⟩ := hs
 rcases h.2 with ⟨h2, _⟩ | ⟨g', cap, cur, hv, hb, hg, h1, h2, _⟩
 ·cases h2
 ·exact ⟨g', cap, hv, hb, h1, h2⟩
theorem OwnB.someS {w : World} {base : Nat} {v : Value} {T : List UInt8} (h : OwnB w base v T) (hl : 0 < T.length) : ∃ g n cp, v = .slice (some ⟨g, 0, none⟩) n cp := by
 rcases h.2 with ⟨_, h2⟩ | ⟨g', cap, cur, hv, _⟩
 ·omega
 ·exact ⟨g', _, cap, hv⟩
theorem byts_getElem? (T : List UInt8) (j : Nat) (h : j < T.length) : (byts T)[j]? = some (.int .u8 (T[j].toNat : Nat)) := by
 unfold byts; rw [List.getElem?_map, List.getElem?_eq_getElem h]; rfl
theorem OwnB.conv {w : World} {base g n cap : Nat} {T : List UInt8} (h : OwnB w base (.slice (some ⟨g, 0, none⟩) n cap) T) (hn : T.length = n) :
  (convert 53 9 (.slice (some ⟨g, 0, none⟩) n cap)).run Tryz.prog w = .ok (.string (str T)) w := by
 subst hn
 exact run_convert_bytes_back (P := Tryz.prog) w 53 9 5 ⟨g, 0, none⟩ cap T Tryz.underlying53 Tryz.underlying5 Tryz.underlying9 (fun j hj => by
  have h1 := World.ownsRow.cellAt h j (by omega)
  rw [byts_getElem? T j hj] at h1
  have e : (Addr.add ⟨g, 0, none⟩ j) = ⟨g, j, none⟩ := by unfold Addr.add; by_cases h0 : j = 0 <;> simp [h0]
  rw [e]; exact h1)
def Tab (w : World) : Prop := Lib.TabIs Tryz.prog w "internal/strconv.uint64pow10" .u64 Lib.pow10Tab
theorem Tab.below {w w' : World} (h : Tab w) (hb : Below w.heap.size w w') : Tab w' := by
 unfold Tab Lib.TabIs World.var? at h ⊢
 rw [show Tryz.prog.globalNamed "internal/strconv.uint64pow10" = some 0 from by kernel_rfl] at h ⊢
 simp only [Option.bind_some] at h ⊢
 have hlt : 0 < w.heap.size := by
  rcases Nat.lt_or_ge 0 w.heap.size with h' | h'
  ·exact h'
  ·rw [Array.getElem?_eq_none h'] at h; cases h
 rw [hb.block _ hlt]; exact h
theorem grow_below (w : World) (k : Nat) (os : Array Obj) : Below w.heap.size w (Sort.grow (w.drewN k) os) :=
 ⟨rfl, rfl, rfl, by show w.heap.size ≤ (w.heap ++ os).size; simp, fun j hj => by show (w.heap ++ os)[j]? = _; rw [Array.getElem?_append_left hj]⟩
theorem itoa_any (n : Int) (h0 : -9223372036854775808 ≤ n) (h1 : n ≤ 9223372036854775807) (w : World) (ht : Tab w) : Calls Tryz.prog 102 #[.int .i64 n] w fun e w' => e = .returned (.string (str (Lib.itoa n))) ∧ Below w.heap.size w w' := by
 refine (Tryz.strconv_Itoa n h0 h1 w ht).mono ?_
 rintro e w' ⟨rfl, k, os, rfl⟩
 exact ⟨rfl, grow_below w k os⟩
theorem hexD_toNat (d : Nat) (h : d < 16) : (hexD d).toNat = if d < 10 then 48 + d else 87 + d := by
 unfold hexD
 split <;> simp <;> omega
theorem digitByte_any (d : Nat) (hd : d < 16) (w : World) : Calls Tryz.prog 101 #[.int .i64 d] w fun e w' => e = .returned (.int .u8 ((hexD d).toNat : Nat)) ∧ w' = w := by
 have HT := hid (hexD_toNat d hd)
 by_cases h : d < 10
 ·rw [if_pos h] at HT
  go_enter Tryz.func101, Tryz.ntmps101
  go_wp2
  go_ret
  exact ⟨ret_int (by rw [HT.out]; simp), rfl⟩
 ·rw [if_neg h] at HT
  go_enter Tryz.func101, Tryz.ntmps101
  go_wp2
  go_ret
  exact ⟨ret_int (by rw [HT.out]; simp; omega), rfl⟩
end Go.Proofs.YtbkdaoicnobllabGreatDoor
