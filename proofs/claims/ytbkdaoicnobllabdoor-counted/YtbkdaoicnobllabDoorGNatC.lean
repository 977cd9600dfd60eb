import Derived.Test.YtbkdaoicnobllabDoorGNatB
import Derived.Test.YtbkdaoicnobllabDoorGMem
import Derived.Test.YtbkdaoicnobllabDoorGNatA

namespace Go.Proofs.YtbkdaoicnobllabDoor
open Go.RowKit

theorem toNat_succ (j : Nat) : ((j : Int) + 1).toNat = j + 1 := by omega

set_option maxRecDepth 100000 in
set_option maxHeartbeats 1000000 in
theorem bill_some (b g cap n : Nat) (L : List Nat) (w : World) (hA : NatAt w b (.slice (some ⟨g, 0, none⟩) n cap) L) (hn : L.length = n) (hlen : n ≤ 90000) :
    Calls Tryd.prog 59 #[.pointer (some ⟨b, 0, none⟩)] w fun e w' => e = .returned (.int .i64 (nv L % 1000000000 : Nat)) ∧ NatPost w w' b (.slice (some ⟨g, 0, none⟩) n cap) (nv L / 1000000000) n := by
  have hgb : g ≠ b := fun e => hA.apart (by rw [e]; rfl)
  have hc := hA.cell
  have HN := hid hn
  have HA := hid hA
  clear hA hn
  go_enter Tryd.func59, Tryd.ntmps59
  go_wp2
  go_loopw [3, 4] (fun oo ii wr => ∃ (z : Int) (o : Nat) (M : List Nat), oo = .int .i64 o ∧ o < 1000000000 ∧ ii = .int .i64 z ∧ -1 ≤ z ∧ z < n ∧ Hid (M.length = n) ∧ Own wr 0 (.slice (some ⟨g, 0, none⟩) n cap) M ∧ Hid (∀ j, j < (z + 1).toNat → M.getD j 0 = L.getD j 0) ∧ Lim M ∧
      Hid (nv (M.drop (z + 1).toNat) * 1000000000 + o = nv (L.drop (z + 1).toNat)) ∧ Turn (fun k => k = g) w wr) (fun _ ii _ => (intOf ii + 1).toNat)
  case atStart =>
    refine ⟨(n : Int) - 1, 0, L, rfl, by omega, rfl, by omega, by omega, HN.out, HA.out.own, fun _ _ => rfl, HA.out.lim, ?_, Turn.refl _ _⟩
    unfold Hid; rw [show ((n : Int) - 1 + 1).toNat = L.length from by rw [HN.out]; omega, List.drop_length]; simp [nv]
  case round =>
    clear hc
    obtain ⟨z, o, M, rfl, ho, rfl, hz1, hz2, HM, hown, HR, hlim, HE, ht⟩ := hrel
    have hA2 := cell_of_turn ht HA.out.cell (by simp; omega)
    by_cases hz : 0 ≤ z
    · obtain ⟨j, rfl⟩ : ∃ j : Nat, z = j := ⟨z.toNat, by omega⟩
      have hlt : j < n := by omega
      rw [toNat_succ] at HR HE
      obtain ⟨x, hx⟩ : ∃ x, x = L.getD j 0 := ⟨_, rfl⟩
      have hx30 : x < 1073741824 := by rw [hx]; exact HA.out.lim.getD j
      have cx : wr.cell? ⟨g, j, none⟩ = some (.int .i64 x) := by rw [hown.cell HM.out j hlt, HR.out j (by omega), hx]
      have fx := hown.frozen HM.out j
      have hst := bill_step L M j o (by rw [HN.out]; exact hlt) (by rw [HM.out, HN.out]) HE.out
      rw [← hx] at hst
      have hy30 := bill_lt o x ho hx30
      obtain ⟨y, hy⟩ : ∃ y, y = (o * 1073741824 + x) / 1000000000 := ⟨_, rfl⟩
      obtain ⟨r, hr⟩ : ∃ r, r = (o * 1073741824 + x) % 1000000000 := ⟨_, rfl⟩
      rw [← hy] at hst hy30
      rw [← hr] at hst
      have HST := hid hst
      have hyi : ((o : Int) * 1073741824 + x) / 1000000000 = (y : Int) := by omega
      have hri : ((o : Int) * 1073741824 + x) % 1000000000 = (r : Int) := by omega
      have hr9 : r < 1000000000 := by omega
      have hown2 := hid (hown.store HM.out j y)
      have ht2 := hid (ht.setCell ⟨g, j, none⟩ (.int .i64 (y : Nat)) rfl)
      clear hx hst hy hr hown ht
      go_wp2
      go_roundw
      case rel =>
        refine ⟨(j : Int) - 1, r, M.set j y, by rw [hri], hr9, rfl, by omega, by omega, by unfold Hid; rw [List.length_set]; exact HM.out, hown2.out, fun k hk => ?_, hlim.set j y hy30, ?_, ht2.out⟩
        · rw [getD_set M j k y (by rw [HM.out]; exact hlt), if_neg (by omega)]; exact HR.out k (by omega)
        · unfold Hid; rw [show ((j : Int) - 1 + 1).toNat = j from by omega]; exact HST.out
      case measure => simp [intOf]
    · have hz0 : z = -1 := by omega
      subst hz0
      have hse := hid (bill_end ho (by have := HE.out; simpa using this : nv M * 1000000000 + o = nv L))
      have hf2 : wr.frozen? ⟨b, 0, none⟩ = false := by
        rw [World.frozen?_of_block (w := w) (ht.block b (World.block_lt_of_cell? w _ HA.out.cell) (by omega))]; exact HA.out.frozen
      have HO := hid hown
      clear hown
      go_wp2_with fail
      refine (trim_any b _ M wr hA2 hf2 HO.out HA.out.apart hlim (by rw [HM.out]; omega)).mono ?_
      rintro e w' ⟨rfl, hpost⟩
      have hfin := hid ((hpost.after (ht.mono (fun j _ hj => .inr (by rw [hj]; rfl))) (.inl rfl)).widen hse.out.1 (by rw [HM.out]; exact Nat.le_refl _ : M.length ≤ n))
      clear hpost hA2 hf2
      go_wp2
      go_ret
      exact ⟨ret_int (by rw [hse.out.2]), hfin.out⟩
end Go.Proofs.YtbkdaoicnobllabDoor

namespace Go.Proofs.YtbkdaoicnobllabDoor
open Go.RowKit

/-- The length of a slice. -/
def lenOf : Value → Nat
  | .slice _ n _ => n
  | _ => 0
theorem Own.empty (w : World) : Own (w.alloc (.cells #[] 3)) w.heap.size (.slice (some ⟨w.heap.size, 0, none⟩) 0 0) [] :=
  ⟨rfl, .inr ⟨w.heap.size, 0, #[], rfl, Nat.le_refl _, by show (w.heap.push _)[w.heap.size]? = _; simp, Nat.le_refl _, Nat.zero_le _, rfl, rfl⟩⟩
set_option maxRecDepth 100000 in
set_option maxHeartbeats 1000000 in
theorem turned_some (b off cap n : Nat) (O : List Nat) (w : World) (hn : O.length = n) (_h1 : n ≤ cap) (_h2 : cap ≤ maxLen) (h3 : b < w.heap.size)
    (h4 : ∀ j, j < n → w.cell? ⟨b, off + j, none⟩ = some (.int .i64 (O.getD j 0 : Nat))) (hd : Digs O) (hl : n ≤ 100000) :
    Calls Tryd.prog 60 #[.slice (some ⟨b, off, none⟩) n cap] w fun r w' => ∃ v' : Value, r = .returned v' ∧ ∃ R : List Nat, Own w' w.heap.size v' R ∧ Digs R ∧ Headed R ∧ num R = le O ∧ R.length ≤ n ∧ Below w.heap.size w w' := by
  unfold maxLen at _h2
  have HN := hid hn
  have H4 := hid h4
  have HD := hid hd
  obtain ⟨i0, hi, hz0, hz1, hz2⟩ := info_parts Tryd.info_int
  clear hn h4 hd
  go_enter Tryd.func60, Tryd.ntmps60
  go_wp2
  go_loopw [3, 4] (fun l ii wr => ∃ (z : Int) (R : List Nat), ii = .int .i64 z ∧ -1 ≤ z ∧ z < n ∧ Own wr w.heap.size l R ∧ Hid (TurnSt O R (z + 1).toNat) ∧ (R.length : Int) ≤ n - 1 - z ∧ Below w.heap.size w wr) (fun _ ii _ => (intOf ii + 1).toNat)
  case atStart =>
    refine ⟨(n : Int) - 1, [], rfl, by omega, by omega, ?_, ?_, by simp, ?_⟩
    · exact Own.empty w
    · unfold Hid; rw [show ((n : Int) - 1 + 1).toNat = O.length from by rw [HN.out]; omega]; exact TurnSt.start O
    · first | exact Below.refl _ _ | exact (Below.refl _ _).alloc (Nat.le_refl _) _
  case round =>
    obtain ⟨z, R, rfl, hz, hzn, hown, HT, hRl, hb⟩ := hrel
    have hsz := hb.size
    by_cases hge : 0 ≤ z
    · obtain ⟨j, rfl⟩ : ∃ j : Nat, z = j := ⟨z.toNat, by omega⟩
      rw [toNat_succ] at HT
      obtain ⟨x, hx⟩ : ∃ x, x = O.getD j 0 := ⟨_, rfl⟩
      have hx9 : x ≤ 9 := by rw [hx]; exact HD.out.getD _
      have cx : wr.cell? ⟨b, off + j, none⟩ = some (.int .i64 x) := by
        rw [hx, hb.cell (p := ⟨b, off + j, none⟩) (by show b < _; omega)]; exact H4.out j (by omega)
      obtain ⟨ao, cp, hv⟩ := hown.row.isSlice
      subst hv
      obtain ⟨m, hm⟩ : ∃ m, m = R.length := ⟨_, rfl⟩
      have HRm : Hid (R.length = m) := hm.symm
      rw [← hm] at hown hRl ⊢
      have hown' : wr.ownsRow w.heap.size 3 1 (.slice ao m cp) m (ints R) := by have := hown; unfold Own at this; rwa [HRm.out] at this
      by_cases hpos : 0 < x
      · have HP := hid (hx ▸ TurnSt.put HD.out HT.out (by rw [HN.out]; omega) (.inl (by rw [← hx]; exact hpos)) : TurnSt O (R ++ [x]) j)
        have t1 : decide (0 < x) = true := by simp; omega
        clear hx hm hown HT
        go_wp2_with (at_builtin; refine wpList_append_own _ rfl (.tmp 23) (.tmp 28) 66 rfl w.heap.size 3 i0 (.int .i64 0) 1 8 Tryd.underlying66 hi hz0 hz1 hz2 rfl (by decide) _ _ _ rfl (hown'.alloc _) ⟨wr.heap.size, 0, none⟩ 1 1 [.int .i64 (x : Int)] rfl rfl ?c1 ?c2 ?c3 ?c4 ?c5 ?_)
        case c1 => exact cell_one_new _ _ _
        case c2 => intro u hu; simp at hu; subst hu; rfl
        case c3 => unfold maxLen; omega
        case c4 => omega
        case c5 => simp; omega
        intro v' w1 hown1 hgrow _
        have hb1 : Hid (Below w.heap.size w w1) := (hb.alloc (by omega) _).grown hgrow (by simp; omega) (fun k hk => (hown'.lt k hk).1)
        have hown2 : Hid (Own w1 w.heap.size v' (R ++ [x])) := Own.snoc hown1 HRm.out rfl
        clear hown' hgrow hown1 hb cx
        go_wp2
        go_roundw
        case rel => exact ⟨(j : Int) - 1, R ++ [x], rfl, by omega, by omega, hown2.out, by unfold Hid; rw [show ((j : Int) - 1 + 1).toNat = j from by omega]; exact HP.out, by rw [List.length_append, HRm.out, List.length_singleton]; omega, hb1.out⟩
        case measure => simp [intOf]
      · have hx0 : x = 0 := by omega
        by_cases hm0 : 0 < m
        · have HP := hid (hx ▸ TurnSt.put HD.out HT.out (by rw [HN.out]; omega) (.inr (by rw [HRm.out]; exact hm0)) : TurnSt O (R ++ [x]) j)
          have t1 : decide (0 < x) = false := by simp; omega
          have t2 : decide (0 < m) = true := by simp; omega
          clear hx hm hown HT hpos hx0
          go_wp2_with (at_builtin; refine wpList_append_own _ rfl (.tmp 23) (.tmp 28) 66 rfl w.heap.size 3 i0 (.int .i64 0) 1 8 Tryd.underlying66 hi hz0 hz1 hz2 rfl (by decide) _ _ _ rfl (hown'.alloc _) ⟨wr.heap.size, 0, none⟩ 1 1 [.int .i64 (x : Int)] rfl rfl ?c1 ?c2 ?c3 ?c4 ?c5 ?_)
          case c1 => exact cell_one_new _ _ _
          case c2 => intro u hu; simp at hu; subst hu; rfl
          case c3 => unfold maxLen; omega
          case c4 => omega
          case c5 => simp; omega
          intro v' w1 hown1 hgrow _
          have hb1 : Hid (Below w.heap.size w w1) := (hb.alloc (by omega) _).grown hgrow (by simp; omega) (fun k hk => (hown'.lt k hk).1)
          have hown2 : Hid (Own w1 w.heap.size v' (R ++ [x])) := Own.snoc hown1 HRm.out rfl
          clear hown' hgrow hown1 hb cx
          go_wp2
          go_roundw
          case rel => exact ⟨(j : Int) - 1, R ++ [x], rfl, by omega, by omega, hown2.out, by unfold Hid; rw [show ((j : Int) - 1 + 1).toNat = j from by omega]; exact HP.out, by rw [List.length_append, HRm.out, List.length_singleton]; omega, hb1.out⟩
          case measure => simp [intOf]
        · have hR : R = [] := List.length_eq_zero_iff.1 (by rw [HRm.out]; omega)
          have HP := hid (TurnSt.pass HT.out (by rw [HN.out]; omega) (by rw [← hx]; exact hx0) hR : TurnSt O R j)
          have t1 : decide (0 < x) = false := by simp; omega
          have t2 : decide (0 < m) = false := by simp; omega
          have HO := hid hown
          clear hx hm hown HT hpos hx0 hown' hR
          go_wp2
          go_roundw
          case rel => exact ⟨(j : Int) - 1, R, rfl, by omega, by omega, HO.out, by unfold Hid; rw [show ((j : Int) - 1 + 1).toNat = j from by omega]; exact HP.out, by rw [HRm.out]; omega, hb⟩
          case measure => simp [intOf]
    · have hz1' : z = -1 := by omega
      subst hz1'
      have HO := hid hown
      have HE := hid (show TurnSt O R 0 from HT.out)
      have HB := hid hb
      clear hown HT hb
      go_wp2
      go_ret
      exact ⟨_, rfl, R, HO.out, HE.out.1, HE.out.2.1, HE.out.done, by omega, HB.out⟩
end Go.Proofs.YtbkdaoicnobllabDoor
