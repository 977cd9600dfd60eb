import Derived.Test.YtbkdaoicnobllabDoorG03
import Derived.Test.YtbkdaoicnobllabDoorG02
import Derived.Test.YtbkdaoicnobllabDoorG01
import Derived.Test.YtbkdaoicnobllabDoorShelf
import Derived.Deep.RegionHeld3

namespace Go.Proofs.YtbkdaoicnobllabDoor
open Go.RowKit

/-- The length of a slice. -/
def lenOf : Value → Nat
  | .slice _ n _ => n
  | _ => 0
theorem Own.empty (w : World) : Own (w.alloc (.cells #[] 3)) w.heap.size (.slice (some ⟨w.heap.size, 0, none⟩) 0 0) [] :=
  ⟨rfl, .inr ⟨w.heap.size, 0, #[], rfl, Nat.le_refl _, by show (w.heap.push _)[w.heap.size]? = _; simp, Nat.le_refl _, Nat.zero_le _, rfl, rfl⟩⟩
set_option maxRecDepth 100000 in
set_option maxHeartbeats 1000000 in
theorem turned_some (b off cap n : Nat) (O : List Nat) (w : World) (hn : O.length = n) (_h1 : n ≤ cap) (_h2 : cap ≤ maxLen) (h3 : b < w.heap.size)
    (h4 : ∀ j, j < n → w.cell? ⟨b, off + j, none⟩ = some (.int .i64 (O.getD j 0 : Nat))) (hd : Digs O) (hl : n ≤ 100000) :
    Calls Tryd.prog 60 #[.slice (some ⟨b, off, none⟩) n cap] w fun r w' => ∃ v' : Value, r = .returned v' ∧ ∃ R : List Nat, Own w' w.heap.size v' R ∧ Digs R ∧ Headed R ∧ num R = le O ∧ R.length ≤ n ∧ Below w.heap.size w w' := by
  unfold maxLen at _h2
  have HN := hid hn
  have H4 := hid h4
  have HD := hid hd
  obtain ⟨i0, hi, hz0, hz1, hz2⟩ := info_parts Tryd.info_int
  clear hn h4 hd
  go_enter Tryd.func60, Tryd.ntmps60
  go_wp2
  go_loopw [3, 4] (fun l ii wr => ∃ (z : Int) (R : List Nat), ii = .int .i64 z ∧ -1 ≤ z ∧ z < n ∧ Own wr w.heap.size l R ∧ Hid (TurnSt O R (z + 1).toNat) ∧ (R.length : Int) ≤ n - 1 - z ∧ Below w.heap.size w wr) (fun _ ii _ => (intOf ii + 1).toNat)
  case atStart =>
    refine ⟨(n : Int) - 1, [], rfl, by omega, by omega, ?_, ?_, by simp, ?_⟩
    · exact Own.empty w
    · unfold Hid; rw [show ((n : Int) - 1 + 1).toNat = O.length from by rw [HN.out]; omega]; exact TurnSt.start O
    · first | exact Below.refl _ _ | exact (Below.refl _ _).alloc (Nat.le_refl _) _
  case round =>
    obtain ⟨z, R, rfl, hz, hzn, hown, HT, hRl, hb⟩ := hrel
    have hsz := hb.size
    by_cases hge : 0 ≤ z
    · obtain ⟨j, rfl⟩ : ∃ j : Nat, z = j := ⟨z.toNat, by omega⟩
      rw [toNat_succ] at HT
      obtain ⟨x, hx⟩ : ∃ x, x = O.getD j 0 := ⟨_, rfl⟩
      have hx9 : x ≤ 9 := by rw [hx]; exact HD.out.getD _
      have cx : wr.cell? ⟨b, off + j, none⟩ = some (.int .i64 x) := by
        rw [hx, hb.cell (p := ⟨b, off + j, none⟩) (by show b < _; omega)]; exact H4.out j (by omega)
      obtain ⟨ao, cp, hv⟩ := hown.row.isSlice
      subst hv
      obtain ⟨m, hm⟩ : ∃ m, m = R.length := ⟨_, rfl⟩
      have HRm : Hid (R.length = m) := hm.symm
      rw [← hm] at hown hRl ⊢
      have hown' : wr.ownsRow w.heap.size 3 1 (.slice ao m cp) m (ints R) := by have := hown; unfold Own at this; rwa [HRm.out] at this
      by_cases hpos : 0 < x
      · have HP := hid (hx ▸ TurnSt.put HD.out HT.out (by rw [HN.out]; omega) (.inl (by rw [← hx]; exact hpos)) : TurnSt O (R ++ [x]) j)
        have t1 : decide (0 < x) = true := by simp; omega
        clear hx hm hown HT
        go_wp2_with (at_builtin; refine wpList_append_own _ rfl (.tmp 23) (.tmp 28) 66 rfl w.heap.size 3 i0 (.int .i64 0) 1 8 Tryd.underlying66 hi hz0 hz1 hz2 rfl (by decide) _ _ _ rfl (hown'.alloc _) ⟨wr.heap.size, 0, none⟩ 1 1 [.int .i64 (x : Int)] rfl rfl ?c1 ?c2 ?c3 ?c4 ?c5 ?_)
        case c1 => exact cell_one_new _ _ _
        case c2 => intro u hu; simp at hu; subst hu; rfl
        case c3 => unfold maxLen; omega
        case c4 => omega
        case c5 => simp; omega
        intro v' w1 hown1 hgrow _
        have hb1 : Hid (Below w.heap.size w w1) := (hb.alloc (by omega) _).grown hgrow (by simp; omega) (fun k hk => (hown'.lt k hk).1)
        have hown2 : Hid (Own w1 w.heap.size v' (R ++ [x])) := Own.snoc hown1 HRm.out rfl
        clear hown' hgrow hown1 hb cx
        go_wp2
        go_roundw
        case rel => exact ⟨(j : Int) - 1, R ++ [x], rfl, by omega, by omega, hown2.out, by unfold Hid; rw [show ((j : Int) - 1 + 1).toNat = j from by omega]; exact HP.out, by rw [List.length_append, HRm.out, List.length_singleton]; omega, hb1.out⟩
        case measure => simp [intOf]
      · have hx0 : x = 0 := by omega
        by_cases hm0 : 0 < m
        · have HP := hid (hx ▸ TurnSt.put HD.out HT.out (by rw [HN.out]; omega) (.inr (by rw [HRm.out]; exact hm0)) : TurnSt O (R ++ [x]) j)
          have t1 : decide (0 < x) = false := by simp; omega
          have t2 : decide (0 < m) = true := by simp; omega
          clear hx hm hown HT hpos hx0
          go_wp2_with (at_builtin; refine wpList_append_own _ rfl (.tmp 23) (.tmp 28) 66 rfl w.heap.size 3 i0 (.int .i64 0) 1 8 Tryd.underlying66 hi hz0 hz1 hz2 rfl (by decide) _ _ _ rfl (hown'.alloc _) ⟨wr.heap.size, 0, none⟩ 1 1 [.int .i64 (x : Int)] rfl rfl ?c1 ?c2 ?c3 ?c4 ?c5 ?_)
          case c1 => exact cell_one_new _ _ _
          case c2 => intro u hu; simp at hu; subst hu; rfl
          case c3 => unfold maxLen; omega
          case c4 => omega
          case c5 => simp; omega
          intro v' w1 hown1 hgrow _
          have hb1 : Hid (Below w.heap.size w w1) := (hb.alloc (by omega) _).grown hgrow (by simp; omega) (fun k hk => (hown'.lt k hk).1)
          have hown2 : Hid (Own w1 w.heap.size v' (R ++ [x])) := Own.snoc hown1 HRm.out rfl
          clear hown' hgrow hown1 hb cx
          go_wp2
          go_roundw
          case rel => exact ⟨(j : Int) - 1, R ++ [x], rfl, by omega, by omega, hown2.out, by unfold Hid; rw [show ((j : Int) - 1 + 1).toNat = j from by omega]; exact HP.out, by rw [List.length_append, HRm.out, List.length_singleton]; omega, hb1.out⟩
          case measure => simp [intOf]
        · have hR : R = [] := List.length_eq_zero_iff.1 (by rw [HRm.out]; omega)
          have HP := hid (TurnSt.pass HT.out (by rw [HN.out]; omega) (by rw [← hx]; exact hx0) hR : TurnSt O R j)
          have t1 : decide (0 < x) = false := by simp; omega
          have t2 : decide (0 < m) = false := by simp; omega
          have HO := hid hown
          clear hx hm hown HT hpos hx0 hown' hR
          go_wp2
          go_roundw
          case rel => exact ⟨(j : Int) - 1, R, rfl, by omega, by omega, HO.out, by unfold Hid; rw [show ((j : Int) - 1 + 1).toNat = j from by omega]; exact HP.out, by rw [HRm.out]; omega, hb⟩
          case measure => simp [intOf]
    · have hz1' : z = -1 := by omega
      subst hz1'
      have HO := hid hown
      have HE := hid (show TurnSt O R 0 from HT.out)
      have HB := hid hb
      clear hown HT hb
      go_wp2
      go_ret
      exact ⟨_, rfl, R, HO.out, HE.out.1, HE.out.2.1, HE.out.done, by omega, HB.out⟩
end Go.Proofs.YtbkdaoicnobllabDoor

namespace Go.Proofs.YtbkdaoicnobllabDoor
open Go.RowKit

theorem nv_take_any (L : List Nat) (i : Nat) : nv (L.take (i + 1)) = nv (L.take i) + 1073741824 ^ i * L.getD i 0 := by
  by_cases h : i < L.length
  · exact nv_take_succ L i h
  · rw [List.take_of_length_le (by omega), List.take_of_length_le (by omega), List.getD_eq_getElem?_getD, List.getElem?_eq_none (by omega)]; simp
/-- A limb's step of a difference. -/
theorem sub_step (L1 L2 M : List Nat) (i o y o' : Nat) (hi : i < M.length) (h : nv (M.take i) + nv (L2.take i) = nv (L1.take i) + o * 1073741824 ^ i) (hy : y + L2.getD i 0 + o = L1.getD i 0 + o' * 1073741824) :
    nv ((M.set i y).take (i + 1)) + nv (L2.take (i + 1)) = nv (L1.take (i + 1)) + o' * 1073741824 ^ (i + 1) := by
  have e1 : (M.set i y).take i = M.take i := by rw [List.take_set]; exact List.set_eq_of_length_le (by rw [List.length_take]; omega)
  rw [nv_take_any, e1, getD_set M i i _ hi, if_pos rfl, nv_take_any, nv_take_any, Nat.pow_succ]
  generalize 1073741824 ^ i = P at *
  generalize L2.getD i 0 = a at *
  generalize L1.getD i 0 = c at *
  have h2 : P * y + P * a + P * o = P * c + o' * (P * 1073741824) := by
    have : P * (y + a + o) = P * (c + o' * 1073741824) := by rw [hy]
    grind
  have h3 : o * P = P * o := Nat.mul_comm _ _
  omega
theorem sub_end {L1 L2 M : List Nat} {o n : Nat} (hM : M.length = n) (h1 : L1.length = n) (h2 : L2.length ≤ n) (hl : Lim M) (hle : nv L2 ≤ nv L1) (h : nv (M.take n) + nv (L2.take n) = nv (L1.take n) + o * 1073741824 ^ n) : nv M = nv L1 - nv L2 := by
  rw [take_eq_self hM, take_eq_self h1, List.take_of_length_le h2] at h
  have h3 := nv_lt hl
  rw [hM] at h3
  cases o with
  | zero => omega
  | succ o => rw [Nat.succ_mul] at h; omega
theorem len_le_of_nv {L1 L2 : List Nat} (h1 : Lim L1) (h2 : 0 < L2.length → L2.getD (L2.length - 1) 0 ≠ 0) (hle : nv L2 ≤ nv L1) : L2.length ≤ L1.length := by
  apply Nat.le_of_not_lt; intro hlt
  have hp : 0 < L2.length := by omega
  have a := nv_lt h1
  have b : 1073741824 ^ (L2.length - 1) ≤ nv L2 := by
    have e : L2.take (L2.length - 1 + 1) = L2 := List.take_of_length_le (by omega)
    have := nv_take_any L2 (L2.length - 1)
    rw [e] at this
    rw [this]
    have h3 := h2 hp
    have : 1073741824 ^ (L2.length - 1) * 1 ≤ 1073741824 ^ (L2.length - 1) * L2.getD (L2.length - 1) 0 := Nat.mul_le_mul_left _ (by omega)
    omega
  have c : 1073741824 ^ L1.length ≤ 1073741824 ^ (L2.length - 1) := Nat.pow_le_pow_right (by omega) (by omega)
  omega
/-- Two Nats that share no block. -/
def Apart (b1 : Nat) (v1 : Value) (b2 : Nat) (v2 : Value) : Prop := ∀ k, Foot b1 v1 k → ¬ Foot b2 v2 k

end Go.Proofs.YtbkdaoicnobllabDoor

namespace Go.Proofs.YtbkdaoicnobllabDoor
open Go.RowKit

/-- Only draws. -/
structure Still (w w' : World) : Prop where
  drew : ∃ m, w' = w.drewN m
theorem Still.heap {w w' : World} (h : Still w w') : w'.heap = w.heap := by obtain ⟨m, rfl⟩ := h.drew; rfl
theorem Still.os {w w' : World} (h : Still w w') : w'.os = w.os := by obtain ⟨m, rfl⟩ := h.drew; rfl
theorem Still.tape {w w' : World} (h : Still w w') : w'.tape = w.tape := by obtain ⟨m, rfl⟩ := h.drew; rfl
theorem Still.output {w w' : World} (h : Still w w') : w'.output = w.output := by obtain ⟨m, rfl⟩ := h.drew; rfl
theorem Still.refl (w : World) : Still w w := ⟨0, rfl⟩
theorem Still.drewN {w w1 : World} (h : Still w w1) (n : Nat) : Still w (w1.drewN n) := by
  obtain ⟨m, rfl⟩ := h.drew
  exact ⟨_, World.drewN_drewN ..⟩
theorem Still.trans {w w1 w2 : World} (h : Still w w1) (k : Still w1 w2) : Still w w2 := by
  obtain ⟨m, rfl⟩ := k.drew
  exact h.drewN m
theorem Still.below {w w1 : World} (h : Still w w1) (B : Nat) : Below B w w1 := ⟨h.os, h.tape, h.output, by rw [h.heap]; exact Nat.le_refl _, fun k _ => by rw [h.heap]⟩
theorem Still.cell {w w1 : World} (h : Still w w1) (a : Addr) : w1.cell? a = w.cell? a := World.cell?_of_block (by rw [h.heap])
theorem Still.turn {w w1 : World} (h : Still w w1) (S : Nat → Prop) : Turn S w w1 := ⟨h.os, h.tape, h.output, by rw [h.heap]; exact Nat.le_refl _, fun k _ _ => by rw [h.heap]⟩
theorem Still.natAt {w w1 : World} (h : Still w w1) {b : Nat} {v : Value} {L : List Nat} (hn : NatAt w b v L) : NatAt w1 b v L := hn.turn (h.turn (fun _ => False)) (fun _ _ h => h)

theorem nv_len_lt {L1 L2 : List Nat} (h1 : Lim L1) (h2 : 0 < L2.length → L2.getD (L2.length - 1) 0 ≠ 0) (h : L1.length < L2.length) : nv L1 < nv L2 := by
  apply Nat.lt_of_not_le; intro hle
  have := len_le_of_nv h1 h2 hle; omega
theorem nv_split (L : List Nat) (i : Nat) (hi : i ≤ L.length) : nv L = nv (L.take i) + 1073741824 ^ i * nv (L.drop i) := by
  conv => lhs; rw [← List.take_append_drop i L]
  rw [nv_append, List.length_take, Nat.min_eq_left hi]
theorem nv_at_lt {L1 L2 : List Nat} {i : Nat} (hl1 : Lim L1) (hi1 : i < L1.length) (hi2 : i < L2.length) (hd : L1.drop (i + 1) = L2.drop (i + 1)) (h : L1.getD i 0 < L2.getD i 0) : nv L1 < nv L2 := by
  rw [nv_split L1 (i + 1) (by omega), nv_split L2 (i + 1) (by omega), hd, nv_take_any, nv_take_any]
  have a := nv_lt (hl1.take i)
  rw [List.length_take, Nat.min_eq_left (by omega)] at a
  have b : 1073741824 ^ i * (L1.getD i 0 + 1) ≤ 1073741824 ^ i * L2.getD i 0 := Nat.mul_le_mul_left _ h
  rw [Nat.mul_add, Nat.mul_one] at b
  omega
theorem drop_eq_step {L1 L2 : List Nat} {i : Nat} (hi1 : i < L1.length) (hi2 : i < L2.length) (hd : L1.drop (i + 1) = L2.drop (i + 1)) (h : L1.getD i 0 = L2.getD i 0) : L1.drop i = L2.drop i := by
  rw [List.drop_eq_getElem_cons hi1, List.drop_eq_getElem_cons hi2, hd]
  rw [List.getD_eq_getElem?_getD, List.getElem?_eq_getElem hi1, List.getD_eq_getElem?_getD, List.getElem?_eq_getElem hi2] at h
  have h2 : L1[i] = L2[i] := by simpa using h
  rw [h2]

end Go.Proofs.YtbkdaoicnobllabDoor

namespace Go.Proofs.YtbkdaoicnobllabDoor
open Go.RowKit

theorem Tryd.info_u8 : (Tryd.prog.info? 5).map (fun i => (i.zero, i.size, i.bytes)) = some (some (.int .u8 0), 1, 1) := by kernel_rfl
/-- Bytes as values. -/
def byts (T : List UInt8) : List Value := T.map fun b => Value.int .u8 (b.toNat : Nat)
theorem byts_append (a b : List UInt8) : byts (a ++ b) = byts a ++ byts b := by simp [byts]
theorem byts_length (a : List UInt8) : (byts a).length = a.length := by simp [byts]
/-- A row of bytes that the call owns. -/
def OwnB (w : World) (base : Nat) (v : Value) (T : List UInt8) : Prop := w.ownsRow base 5 1 v T.length (byts T)
theorem OwnB.empty (w : World) : OwnB (w.alloc (.cells #[] 5)) w.heap.size (.slice (some ⟨w.heap.size, 0, none⟩) 0 0) [] :=
  ⟨rfl, .inr ⟨w.heap.size, 0, #[], rfl, Nat.le_refl _, by show (w.heap.push _)[w.heap.size]? = _; simp, Nat.le_refl _, Nat.zero_le _, rfl, rfl⟩⟩
theorem OwnB.owns {w : World} {base : Nat} {v : Value} {T : List UInt8} (h : OwnB w base v T) {k : Nat} (hk : T.length = k) : w.ownsRow base 5 1 v k (byts T) := by subst hk; exact h
theorem OwnB.snoc {w : World} {base : Nat} {v : Value} {T : List UInt8} {k : Nat} {z : Int} {d : UInt8} (h : w.ownsRow base 5 1 v (k + 1) (byts T ++ [.int .u8 z])) (hT : T.length = k) (hz : z = (d.toNat : Nat)) : OwnB w base v (T ++ [d]) := by
  subst hz; unfold OwnB; rw [byts_append]; simp only [List.length_append, List.length_singleton]; rw [hT]; exact h
theorem OwnB.below {w w' : World} {base : Nat} {v : Value} {T : List UInt8} (h : OwnB w base v T) {B : Nat} (hb : Below B w w') (hB : w.heap.size ≤ B) : OwnB w' base v T := by
  refine ⟨h.1, ?_⟩
  rcases h.2 with h2 | ⟨g, cap, cur, hv, hg, hh, r⟩
  · exact .inl h2
  · exact .inr ⟨g, cap, cur, hv, hg, by rw [hb.block g (Nat.lt_of_lt_of_le (Array.getElem?_eq_some_iff.1 hh).1 hB)]; exact hh, r⟩
theorem OwnB.form {w : World} {base : Nat} {v : Value} {T : List UInt8} (h : OwnB w base v T) (hs : ∃ g n cp, v = .slice (some ⟨g, 0, none⟩) n cp) : ∃ g cap, v = .slice (some ⟨g, 0, none⟩) T.length cap ∧ base ≤ g ∧ T.length ≤ cap ∧ cap ≤ maxLen := by
  obtain ⟨g, n, cp, rfl⟩ := hs
  rcases h.2 with ⟨h2, _⟩ | ⟨g', cap, cur, hv, hb, hg, h1, h2, _⟩
  · cases h2
  · exact ⟨g', cap, hv, hb, h1, h2⟩
theorem OwnB.someS {w : World} {base : Nat} {v : Value} {T : List UInt8} (h : OwnB w base v T) (hl : 0 < T.length) : ∃ g n cp, v = .slice (some ⟨g, 0, none⟩) n cp := by
  rcases h.2 with ⟨_, h2⟩ | ⟨g', cap, cur, hv, _⟩
  · omega
  · exact ⟨g', _, cap, hv⟩
theorem byts_getElem? (T : List UInt8) (j : Nat) (h : j < T.length) : (byts T)[j]? = some (.int .u8 (T[j].toNat : Nat)) := by
  unfold byts; rw [List.getElem?_map, List.getElem?_eq_getElem h]; rfl
/-- A row of bytes as a string. -/
theorem OwnB.conv {w : World} {base g n cap : Nat} {T : List UInt8} (h : OwnB w base (.slice (some ⟨g, 0, none⟩) n cap) T) (hn : T.length = n) :
    (convert 72 9 (.slice (some ⟨g, 0, none⟩) n cap)).run Tryd.prog w = .ok (.string (str T)) w := by
  subst hn
  exact run_convert_bytes_back (P := Tryd.prog) w 72 9 5 ⟨g, 0, none⟩ cap T Tryd.underlying72 Tryd.underlying5 Tryd.underlying9 (fun j hj => by
    have h1 := World.ownsRow.cellAt h j (by omega)
    rw [byts_getElem? T j hj] at h1
    have e : (Addr.add ⟨g, 0, none⟩ j) = ⟨g, j, none⟩ := by unfold Addr.add; by_cases h0 : j = 0 <;> simp [h0]
    rw [e]; exact h1)
/-- The table of the library's. -/
def Tab (w : World) : Prop := Lib.TabIs Tryd.prog w "internal/strconv.uint64pow10" .u64 Lib.pow10Tab
theorem Tab.below {w w' : World} (h : Tab w) (hb : Below w.heap.size w w') : Tab w' := by
  unfold Tab Lib.TabIs World.var? at h ⊢
  rw [show Tryd.prog.globalNamed "internal/strconv.uint64pow10" = some 0 from by kernel_rfl] at h ⊢
  simp only [Option.bind_some] at h ⊢
  have hlt : 0 < w.heap.size := by
    rcases Nat.lt_or_ge 0 w.heap.size with h' | h'
    · exact h'
    · rw [Array.getElem?_eq_none h'] at h; cases h
  rw [hb.block _ hlt]; exact h
theorem grow_below (w : World) (k : Nat) (os : Array Obj) : Below w.heap.size w (Sort.grow (w.drewN k) os) :=
  ⟨rfl, rfl, rfl, by show w.heap.size ≤ (w.heap ++ os).size; simp, fun j hj => by show (w.heap ++ os)[j]? = _; rw [Array.getElem?_append_left hj]⟩
theorem itoa_any (n : Int) (h0 : -9223372036854775808 ≤ n) (h1 : n ≤ 9223372036854775807) (w : World) (ht : Tab w) : Calls Tryd.prog 41 #[.int .i64 n] w fun e w' => e = .returned (.string (str (Lib.itoa n))) ∧ Below w.heap.size w w' := by
  refine (Tryd.strconv_Itoa n h0 h1 w ht).mono ?_
  rintro e w' ⟨rfl, k, os, rfl⟩
  exact ⟨rfl, grow_below w k os⟩
theorem hexD_toNat (d : Nat) (h : d < 16) : (hexD d).toNat = if d < 10 then 48 + d else 87 + d := by
  unfold hexD
  split <;> simp <;> omega
set_option maxRecDepth 100000 in
set_option maxHeartbeats 1000000 in
theorem digitByte_any (d : Nat) (hd : d < 16) (w : World) : Calls Tryd.prog 40 #[.int .i64 d] w fun e w' => e = .returned (.int .u8 ((hexD d).toNat : Nat)) ∧ w' = w := by
  have HT := hid (hexD_toNat d hd)
  by_cases h : d < 10
  · rw [if_pos h] at HT
    go_enter Tryd.func40, Tryd.ntmps40
    go_wp2
    go_ret
    exact ⟨ret_int (by rw [HT.out]; simp), rfl⟩
  · rw [if_neg h] at HT
    go_enter Tryd.func40, Tryd.ntmps40
    go_wp2
    go_ret
    exact ⟨ret_int (by rw [HT.out]; simp; omega), rfl⟩
end Go.Proofs.YtbkdaoicnobllabDoor

namespace Go.Proofs.YtbkdaoicnobllabDoor
open Go.RowKit

/-- A row of bytes, and the library's table. -/
def HeldB (w : World) (base : Nat) (v : Value) (T : List UInt8) : Prop := OwnB w base v T ∧ Tab w
theorem HeldB.next {w w' : World} {base : Nat} {v : Value} {T : List UInt8} (h : HeldB w base v T) (hb : Below w.heap.size w w') : HeldB w' base v T := ⟨h.1.below hb (Nat.le_refl _), h.2.below hb⟩
theorem HeldB.tab {w : World} {base : Nat} {v : Value} {T : List UInt8} (h : HeldB w base v T) : Tab w := h.2
theorem tdiv_eq (a b : Int) (h : 0 ≤ a) : a.tdiv b = a / b := Int.tdiv_eq_ediv_of_nonneg h
theorem tmod_eq (a b : Int) (h : 0 ≤ a) : a.tmod b = a % b := Int.tmod_eq_emod_of_nonneg h
set_option maxRecDepth 100000 in
set_option maxHeartbeats 1000000 in
theorem whex_any (m0 : Nat) (p0 : Int) (w : World) (htab : Tab w) (h0 : 0 < m0) (hm : m0 < 9007199254740992) (hp1 : -3000 ≤ p0) (hp2 : p0 ≤ 3000) :
    Calls Tryd.prog 28 #[.int .i64 m0, .int .i64 p0] w fun r w' => ∃ s : ByteArray, r = .returned (.string s) ∧ ∃ (T : List UInt8) (E : Int), HexText m0 p0 T E ∧ s = str (hexS T E) ∧ T.length ≤ 13 ∧ -4000 ≤ E ∧ E ≤ 4000 ∧ Below w.heap.size w w' := by
  obtain ⟨M0, hM0⟩ : ∃ M0 : Int, M0 = (m0 : Int) := ⟨_, rfl⟩
  rw [← hM0]
  have H0 := hid h0
  have HM0 := hid hM0
  have HTAB := hid htab
  have hM1 : 0 < M0 := by omega
  have hM2 : M0 < 9007199254740992 := by omega
  have hMle : ¬ M0 ≤ 0 := by omega
  obtain ⟨ui0, uhi, uhz0, uhz1, uhz2⟩ := info_parts Tryd.info_u8
  clear h0 hM0 hm htab
  go_enter Tryd.func28, Tryd.ntmps28
  go_wp2
  go_loop [1, 5] (fun pp uu => ∃ (U : Int) (k : Nat), pp = .int .i64 (p0 + k) ∧ uu = .int .i64 U ∧ 0 < U ∧ U ≤ M0 ∧ k ≤ 53 ∧ Hid (((2 ^ k : Nat) : Int) = U)) (fun _ uu => (M0 - intOf uu).toNat)
  case atStart => exact ⟨1, 0, by simp, rfl, by omega, by omega, Nat.zero_le _, rfl⟩
  case round =>
    obtain ⟨U, k, rfl, rfl, hU0, hUM, hk, HU⟩ := hrel
    by_cases hgo : U ≤ M0 / 2
    · have HK : Hid (((2 ^ (k + 1) : Nat) : Int) = U * 2) := by unfold Hid; rw [Nat.pow_succ]; have := HU.out; omega
      have hk2 : k + 1 < 53 := by
        have h1 := HK.out
        exact pow_gt (m := 1) (M := (U * 2).toNat) (by omega) (by omega) (by rw [show (2 : Nat) ^ 53 = 9007199254740992 from by decide]; omega)
      go_wp2
      go_round
      case rel => exact ⟨U * 2, k + 1, by go_num, rfl, by omega, by omega, by omega, HK.out⟩
      case measure => simp [intOf]; omega
    · obtain ⟨u, hu⟩ : ∃ u : Nat, (u : Int) = U := ⟨U.toNat, by omega⟩
      have HUU : Hid (u = 2 ^ k) := by unfold Hid; have := HU.out; omega
      have hk2 : k ≤ 52 := by
        have h1 := HU.out
        have := pow_gt (m := 1) (M := U.toNat) (k := k) (B := 53) (by omega) (by omega) (by rw [show (2 : Nat) ^ 53 = 9007199254740992 from by decide]; omega)
        omega
      obtain ⟨r, hr⟩ : ∃ r : Nat, (r : Int) = M0 - U := ⟨(M0 - U).toNat, by omega⟩
      have hru : r < u := by omega
      have HJ : Hid (∀ n, HexEnd u r n → HexText m0 p0 (hexP u r n) (p0 + k)) := fun n hn => by
        rw [HUU.out] at hn hru ⊢
        have := hex_join (m0 := m0) (k := 0) (j := k) (r := r) (n := n) (e0 := p0) (by have := HM0.out; have := HU.out; rw [Nat.add_zero]; simp only [Nat.pow_zero, Nat.mul_one]; omega) (by simpa using hru) (by simpa using hn)
        simpa using this
      obtain ⟨R0, hR0⟩ : ∃ R0 : Int, R0 = (r : Int) := ⟨_, rfl⟩
      have hrm : M0 % U = R0 := by
        have h1 : M0 = U + R0 := by omega
        rw [h1, Int.add_emod_left, Int.emod_eq_of_lt (by omega) (by omega)]
      have hrt : M0.tmod U = R0 := by rw [tmod_eq _ _ (by omega)]; exact hrm
      have hUne : (U == 0) = false := by rw [beq_eq_false_iff_ne]; omega
      have hUn : ¬ U = 0 := by omega
      have hR1 : 0 ≤ R0 := by omega
      have hR2 : R0 < U := by omega
      have HR0 := hid hR0
      have HUI : Hid ((u : Int) = U) := hu
      clear hr hR0 hu
      go_wp2
      go_loopw [6, 7] (fun tt rr wr => ∃ (X : Int) (n : Nat), rr = .int .i64 X ∧ (∃ g c cp, tt = .slice (some ⟨g, 0, none⟩) c cp) ∧ OwnB wr w.heap.size tt (hexP u r n) ∧ 0 ≤ X ∧ X < U ∧ n ≤ 13 ∧ Hid ((hexR u r n : Int) = X ∧ ∀ i, i < n → hexR u r i ≠ 0) ∧ Below w.heap.size w wr) (fun tt _ _ => 14 - lenOf tt)
      case atStart => exact ⟨R0, 0, rfl, ⟨_, _, _, rfl⟩, OwnB.empty w, hR1, hR2, Nat.zero_le _, ⟨by rw [hexR_zero _ _ hru]; exact HR0.out.symm, fun i hi => by omega⟩, (Below.refl _ _).alloc (Nat.le_refl _) _⟩
      case round =>
        clear hR1 hR2 hrm hrt
        obtain ⟨X, n, rfl, hsm, hown, hX1, hX2, hn, HX, hb⟩ := hrel
        obtain ⟨g2, cp2, rfl, hg2, hc1, hc2⟩ := hown.form hsm
        rw [hexP_length] at hown hc1 ⊢
        unfold maxLen at hc2
        have hsz := hb.size
        by_cases hX0 : 0 < X
        · obtain ⟨d, hd⟩ : ∃ d : Nat, (d : Int) = X * 16 / U := ⟨(X * 16 / U).toNat, by have := Int.ediv_nonneg (a := X * 16) (b := U) (by omega) (by omega); omega⟩
          have hd16 : d < 16 := by
            have : X * 16 / U < 16 := Int.ediv_lt_of_lt_mul (by omega) (by omega)
            omega
          obtain ⟨Y, hY⟩ : ∃ Y : Int, Y = X * 16 % U := ⟨_, rfl⟩
          have hY1 : 0 ≤ Y := by rw [hY]; exact Int.emod_nonneg _ (by omega)
          have hY2 : Y < U := by rw [hY]; exact Int.emod_lt_of_pos _ hU0
          have HR : Hid (hexR u r n = X.toNat) := by unfold Hid; have := HX.out.1; omega
          have HY : Hid ((hexR u r (n + 1) : Int) = Y) := by
            unfold Hid; rw [hexR_succ, HR.out, hY, ← HUI.out]
            have : X = (X.toNat : Int) := by omega
            generalize X.toNat = x at *
            subst this; simp
          have hn13 : n < 13 := by
            refine hexR_more k r n hk2 ?_
            rw [← HUU.out, HR.out]; omega
          have HT : Hid (hexP u r n ++ [hexD d] = hexP u r (n + 1)) := by
            unfold Hid
            show _ = hexP u r n ++ [hexD (hexR u r n * 16 / u)]
            rw [HR.out]
            congr 3
            have h3 : X = (X.toNat : Int) := by omega
            rw [← HUI.out] at hd
            generalize X.toNat = x at *
            subst h3
            have h4 : ((d : Nat) : Int) = ((x * 16 / u : Nat) : Int) := by rw [hd]; simp
            omega
          have HZ : Hid (hexR u r n ≠ 0) := by unfold Hid; rw [HR.out]; omega
          have hdi : X * 16 / U = (d : Int) := hd.symm
          have hdt : (X * 16).tdiv U = (d : Int) := by rw [tdiv_eq _ _ (by omega)]; exact hdi
          have hYi : X * 16 % U = Y := hY.symm
          have hYt : (X * 16).tmod U = Y := by rw [tmod_eq _ _ (by omega)]; exact hYi
          have HX2 := hid (digitByte_any d hd16 wr)
          obtain ⟨z, hz⟩ : ∃ z : Int, z = ((hexD d).toNat : Nat) := ⟨_, rfl⟩
          rw [← hz] at HX2
          have hown' : wr.ownsRow w.heap.size 5 1 (.slice (some ⟨g2, 0, none⟩) n cp2) n (byts (hexP u r n)) := hown.owns (hexP_length _ _ _)
          have HZZ := hid hz
          clear hown hd hY hsm hz
          go_wp2_with fail
          refine HX2.out.mono ?_
          rintro r1 w0 ⟨rfl, rfl⟩
          clear HX2
          go_wp2_with (at_builtin; refine wpList_append_own _ rfl (.tmp 29) (.tmp 35) 72 rfl w.heap.size 5 ui0 (.int .u8 0) 1 1 Tryd.underlying72 uhi uhz0 uhz1 uhz2 rfl (by decide) _ _ _ rfl (hown'.alloc _) ⟨w0.heap.size, 0, none⟩ 1 1 [.int .u8 z] rfl rfl (cell_one_new _ _ _) (by intro u hu; simp at hu; subst hu; rfl) (by unfold maxLen; omega) (by omega) (by simp; omega) ?_)
          intro v' w1 hown1 hgrow _
          have hb1 : Hid (Below w.heap.size w w1) := (hb.alloc (by omega) _).grown hgrow (by simp; omega) (fun k hk => (hown'.lt k hk).1)
          have hown2 : Hid (OwnB w1 w.heap.size v' (hexP u r (n + 1))) := by unfold Hid; rw [← HT.out]; exact OwnB.snoc hown1 (hexP_length _ _ _) HZZ.out
          have hsm2 : Hid (∃ g c cp, v' = .slice (some ⟨g, 0, none⟩) c cp) := hown2.out.someS (by rw [hexP_length]; omega)
          have hln : Hid (lenOf v' = n + 1) := by
            obtain ⟨g', cp', hv', _⟩ := hown2.out.form hsm2.out
            unfold Hid; rw [hv', hexP_length]; rfl
          clear hown' hgrow hown1 hb
          go_wp2
          go_roundw
          case rel => exact ⟨Y, n + 1, rfl, hsm2.out, hown2.out, hY1, hY2, by omega, ⟨HY.out, fun i hi => if h : i = n then h ▸ HZ.out else HX.out.2 i (by omega)⟩, hb1.out⟩
          case measure => rw [hln.out]; simp only [lenOf]; omega
        · have hX00 : X = 0 := by omega
          subst hX00
          have HE : Hid (HexEnd u r n) := ⟨by have := HX.out.1; omega, HX.out.2⟩
          clear hX0 hX1 hX2 hsm
          by_cases hn0 : n = 0
          · skip
            have HSS : Hid ((⟨#[48, 120, 49]⟩ : ByteArray) ++ ⟨#[]⟩ ++ str (hexP u r n) ++ ⟨#[112]⟩ ++ str (Lib.itoa (p0 + k)) = str (hexS (hexP u r n) (p0 + k))) := by
              unfold Hid hexS ptd
              rw [if_pos (List.length_eq_zero_iff.1 (by rw [hexP_length]; exact hn0))]
              apply ByteArray.ext
              simp only [ByteArray.data_append, str]
              simp [List.length_eq_zero_iff.1 (by rw [hexP_length]; exact hn0 : (hexP u r n).length = 0)]
            have t0 : decide (0 < n) = false := by simp; omega
            clear hn0
            have HHB : Hid (HeldB wr w.heap.size (.slice (some ⟨g2, 0, none⟩) n cp2) (hexP u r n)) := ⟨hown, HTAB.out.below hb⟩
            have HBR := hid hb
            have HIT : Hid (∀ wx, Tab wx → Calls Tryd.prog 41 #[.int .i64 (p0 + k)] wx fun e w' => e = .returned (.string (str (Lib.itoa (p0 + k)))) ∧ Below wx.heap.size wx w') := fun wx hx => itoa_any (p0 + k) (by omega) (by omega) wx hx
            have hts : (str (hexP u r n)).size ≤ 100 := by rw [str_size, hexP_length]; omega
            have his : (str (Lib.itoa (p0 + k))).size ≤ 100 := by rw [str_size]; have := Lib.itoa_length_le (p0 + k) (by omega) (by omega); omega
            have hs1 : ((⟨#[48, 120, 49]⟩ : ByteArray) ++ ⟨#[]⟩ ++ str (hexP u r n)).size ≤ 200 := by
              simp only [ByteArray.size_append]
              have : (⟨#[48, 120, 49]⟩ : ByteArray).size = 3 := rfl
              have hpt : (⟨#[]⟩ : ByteArray).size ≤ 1 := by decide
              omega
            have hs2 : ((⟨#[48, 120, 49]⟩ : ByteArray) ++ ⟨#[]⟩ ++ str (hexP u r n) ++ ⟨#[112]⟩).size ≤ 201 := by rw [ByteArray.size_append]; have : (⟨#[112]⟩ : ByteArray).size = 1 := rfl; omega
            have r1 : ∀ W : World, (Op.stringOp .add ((⟨#[48, 120, 49]⟩ : ByteArray) ++ ⟨#[]⟩) (str (hexP u r n))).run Tryd.prog W = .ok (.string ((⟨#[48, 120, 49]⟩ : ByteArray) ++ ⟨#[]⟩ ++ str (hexP u r n))) W := fun W => run_string_add_sum W _ _ (by rw [ByteArray.size_append] at hs1; omega)
            have r2 : ∀ W : World, (Op.stringOp .add ((⟨#[48, 120, 49]⟩ : ByteArray) ++ ⟨#[]⟩ ++ str (hexP u r n)) ⟨#[112]⟩).run Tryd.prog W = .ok (.string ((⟨#[48, 120, 49]⟩ : ByteArray) ++ ⟨#[]⟩ ++ str (hexP u r n) ++ ⟨#[112]⟩)) W := fun W => run_string_add_sum W _ _ (by have : (⟨#[112]⟩ : ByteArray).size = 1 := rfl; omega)
            have r3 : ∀ W : World, (Op.stringOp .add ((⟨#[48, 120, 49]⟩ : ByteArray) ++ ⟨#[]⟩ ++ str (hexP u r n) ++ ⟨#[112]⟩) (str (Lib.itoa (p0 + k)))).run Tryd.prog W = .ok (.string ((⟨#[48, 120, 49]⟩ : ByteArray) ++ ⟨#[]⟩ ++ str (hexP u r n) ++ ⟨#[112]⟩ ++ str (Lib.itoa (p0 + k)))) W := fun W => run_string_add_sum W _ _ (by omega)
            clear hown hb hs1 hs2 hts his
            go_wp2_with fail
            go_region_held3 (fun w' => HeldB w' w.heap.size (.slice (some ⟨g2, 0, none⟩) n cp2) (hexP u r n) ∧ (convert 72 9 (.slice (some ⟨g2, 0, none⟩) n cp2)).run Tryd.prog w' = .ok (.string (str (hexP u r n))) w')
              (first | exact ⟨HHB.out.next ((Below.refl _ _).drew), (HHB.out.next ((Below.refl _ _).drew)).1.conv (hexP_length _ _ _)⟩ | exact ⟨HeldB.next (by assumption) hb4, (HeldB.next (by assumption) hb4).1.conv (hexP_length _ _ _)⟩ | go_keep)
              ((go_at_call 41; refine (HIT.out _ (HeldB.tab (base := w.heap.size) (v := .slice (some ⟨g2, 0, none⟩) n cp2) (T := hexP u r n) (by assumption))).mono ?_; rintro e w4 ⟨rfl, hb4⟩))
            have HB4 : Hid (Below w.heap.size w w4) := HBR.out.drew.trans (hb4.mono HBR.out.size)
            clear hb4
            go_wp2
            go_ret
            exact ⟨_, rfl, _, _, HJ.out n HE.out, HSS.out, by rw [hexP_length]; exact hn, by omega, by omega, HB4.out⟩
          · skip
            have HSS : Hid ((⟨#[48, 120, 49]⟩ : ByteArray) ++ ⟨#[46]⟩ ++ str (hexP u r n) ++ ⟨#[112]⟩ ++ str (Lib.itoa (p0 + k)) = str (hexS (hexP u r n) (p0 + k))) := by
              unfold Hid hexS ptd
              rw [if_neg (fun h => hn0 (by rw [← hexP_length u r n, h]; rfl))]
              apply ByteArray.ext
              simp only [ByteArray.data_append, str]
              simp
            have t0 : decide (0 < n) = true := by simp; omega
            clear hn0
            have HHB : Hid (HeldB wr w.heap.size (.slice (some ⟨g2, 0, none⟩) n cp2) (hexP u r n)) := ⟨hown, HTAB.out.below hb⟩
            have HBR := hid hb
            have HIT : Hid (∀ wx, Tab wx → Calls Tryd.prog 41 #[.int .i64 (p0 + k)] wx fun e w' => e = .returned (.string (str (Lib.itoa (p0 + k)))) ∧ Below wx.heap.size wx w') := fun wx hx => itoa_any (p0 + k) (by omega) (by omega) wx hx
            have hts : (str (hexP u r n)).size ≤ 100 := by rw [str_size, hexP_length]; omega
            have his : (str (Lib.itoa (p0 + k))).size ≤ 100 := by rw [str_size]; have := Lib.itoa_length_le (p0 + k) (by omega) (by omega); omega
            have hs1 : ((⟨#[48, 120, 49]⟩ : ByteArray) ++ ⟨#[46]⟩ ++ str (hexP u r n)).size ≤ 200 := by
              simp only [ByteArray.size_append]
              have : (⟨#[48, 120, 49]⟩ : ByteArray).size = 3 := rfl
              have hpt : (⟨#[46]⟩ : ByteArray).size ≤ 1 := by decide
              omega
            have hs2 : ((⟨#[48, 120, 49]⟩ : ByteArray) ++ ⟨#[46]⟩ ++ str (hexP u r n) ++ ⟨#[112]⟩).size ≤ 201 := by rw [ByteArray.size_append]; have : (⟨#[112]⟩ : ByteArray).size = 1 := rfl; omega
            have r1 : ∀ W : World, (Op.stringOp .add ((⟨#[48, 120, 49]⟩ : ByteArray) ++ ⟨#[46]⟩) (str (hexP u r n))).run Tryd.prog W = .ok (.string ((⟨#[48, 120, 49]⟩ : ByteArray) ++ ⟨#[46]⟩ ++ str (hexP u r n))) W := fun W => run_string_add_sum W _ _ (by rw [ByteArray.size_append] at hs1; omega)
            have r2 : ∀ W : World, (Op.stringOp .add ((⟨#[48, 120, 49]⟩ : ByteArray) ++ ⟨#[46]⟩ ++ str (hexP u r n)) ⟨#[112]⟩).run Tryd.prog W = .ok (.string ((⟨#[48, 120, 49]⟩ : ByteArray) ++ ⟨#[46]⟩ ++ str (hexP u r n) ++ ⟨#[112]⟩)) W := fun W => run_string_add_sum W _ _ (by have : (⟨#[112]⟩ : ByteArray).size = 1 := rfl; omega)
            have r3 : ∀ W : World, (Op.stringOp .add ((⟨#[48, 120, 49]⟩ : ByteArray) ++ ⟨#[46]⟩ ++ str (hexP u r n) ++ ⟨#[112]⟩) (str (Lib.itoa (p0 + k)))).run Tryd.prog W = .ok (.string ((⟨#[48, 120, 49]⟩ : ByteArray) ++ ⟨#[46]⟩ ++ str (hexP u r n) ++ ⟨#[112]⟩ ++ str (Lib.itoa (p0 + k)))) W := fun W => run_string_add_sum W _ _ (by omega)
            clear hown hb hs1 hs2 hts his
            go_wp2_with fail
            go_region_held3 (fun w' => HeldB w' w.heap.size (.slice (some ⟨g2, 0, none⟩) n cp2) (hexP u r n) ∧ (convert 72 9 (.slice (some ⟨g2, 0, none⟩) n cp2)).run Tryd.prog w' = .ok (.string (str (hexP u r n))) w')
              (first | exact ⟨HHB.out.next ((Below.refl _ _).drew), (HHB.out.next ((Below.refl _ _).drew)).1.conv (hexP_length _ _ _)⟩ | exact ⟨HeldB.next (by assumption) hb4, (HeldB.next (by assumption) hb4).1.conv (hexP_length _ _ _)⟩ | go_keep)
              ((go_at_call 41; refine (HIT.out _ (HeldB.tab (base := w.heap.size) (v := .slice (some ⟨g2, 0, none⟩) n cp2) (T := hexP u r n) (by assumption))).mono ?_; rintro e w4 ⟨rfl, hb4⟩))
            have HB4 : Hid (Below w.heap.size w w4) := HBR.out.drew.trans (hb4.mono HBR.out.size)
            clear hb4
            go_wp2
            go_ret
            exact ⟨_, rfl, _, _, HJ.out n HE.out, HSS.out, by rw [hexP_length]; exact hn, by omega, by omega, HB4.out⟩
set_option maxRecDepth 100000 in
set_option maxHeartbeats 1000000 in
theorem whex_zero (p0 : Int) (w : World) : Calls Tryd.prog 28 #[.int .i64 0, .int .i64 p0] w fun r w' => r = .returned (.string (str [48, 120, 48, 112, 48])) ∧ w' = w := by
  go_enter Tryd.func28, Tryd.ntmps28
  go_wp2
  go_ret
  exact ⟨rfl, rfl⟩
end Go.Proofs.YtbkdaoicnobllabDoor

namespace Go.Proofs.YtbkdaoicnobllabDoor
open Go.RowKit

/-- A Decimal at block b. -/
structure DecAt (w : World) (b : Nat) (v : Value) (D : List Nat) (e : Int) : Prop where
  c0 : w.cell? ⟨b, 0, none⟩ = some v
  c1 : w.cell? ⟨b, 1, none⟩ = some (.int .i64 e)
  row : Row w v D
  digs : Digs D
  head : Headed D
  pos : 0 < D.length
  len : D.length ≤ 20000
  elo : -20000 ≤ e
  ehi : e ≤ 20000
theorem DecAt.below {w w' : World} {b : Nat} {v : Value} {D : List Nat} {e : Int} (h : DecAt w b v D e) (hb : Below w.heap.size w w') : DecAt w' b v D e :=
  ⟨keep_cell' hb h.c0, keep_cell' hb h.c1, h.row.below hb (Nat.le_refl _), h.digs, h.head, h.pos, h.len, h.elo, h.ehi⟩
/-- Its form: a slice that is not empty. -/
theorem DecAt.form {w : World} {b : Nat} {v : Value} {D : List Nat} {e : Int} (h : DecAt w b v D e) : ∃ g off cap, v = .slice (some ⟨g, off, none⟩) D.length cap ∧ D.length ≤ cap ∧ cap ≤ maxLen ∧ g < w.heap.size ∧ ∀ j, j < D.length → w.cell? ⟨g, off + j, none⟩ = some (.int .i64 (D.getD j 0 : Nat)) := by
  rcases h.row with ⟨h0, _⟩ | ⟨g, off, cap, hv, h1, h2, h3, h4⟩
  · have := h.pos; rw [h0] at this; simp at this
  · exact ⟨g, off, cap, hv, h1, h2, h3, h4⟩
set_option maxRecDepth 100000 in
set_option maxHeartbeats 1000000 in
theorem firstPower_any (b : Nat) (v : Value) (D : List Nat) (e : Int) (w : World) (h : DecAt w b v D e) :
    Calls Tryd.prog 35 #[.pointer (some ⟨b, 0, none⟩)] w fun r w' => r = .returned (.int .i64 (e + D.length - 1)) ∧ Still w w' := by
  obtain ⟨g, off, cap, rfl, _⟩ := h.form
  have c0 := h.c0
  have c1 := h.c1
  have h1 := h.len
  have h2 := h.elo
  have h3 := h.ehi
  obtain ⟨n, hn⟩ : ∃ n, n = D.length := ⟨_, rfl⟩
  rw [← hn] at c0 h1 ⊢
  clear h hn
  go_enter Tryd.func35, Tryd.ntmps35
  go_wp2
  go_quiet (fail)
  go_wp2
  go_ret
  exact ⟨rfl, (Still.refl w).drewN _⟩
set_option maxRecDepth 100000 in
set_option maxHeartbeats 1000000 in
theorem lastPower_any (b : Nat) (v : Value) (D : List Nat) (e : Int) (w : World) (h : DecAt w b v D e) :
    Calls Tryd.prog 33 #[.pointer (some ⟨b, 0, none⟩)] w fun r w' => r = .returned (.int .i64 e) ∧ w' = w := by
  have c1 := h.c1
  clear h
  go_enter Tryd.func33, Tryd.ntmps33
  go_wp2
  go_ret
  exact ⟨rfl, rfl⟩
set_option maxRecDepth 100000 in
set_option maxHeartbeats 1000000 in
theorem digitAt_any (b : Nat) (v : Value) (D : List Nat) (e i : Int) (w : World) (h : DecAt w b v D e) :
    Calls Tryd.prog 55 #[.pointer (some ⟨b, 0, none⟩), .int .i64 i] w fun r w' => r = .returned (.int .i64 (dAt D i : Nat)) ∧ w' = w := by
  obtain ⟨g, off, cap, rfl, h4, h5, _, h7⟩ := h.form
  unfold maxLen at h5
  have c0 := h.c0
  have h1 := h.len
  obtain ⟨n, hn⟩ : ∃ n, n = D.length := ⟨_, rfl⟩
  rw [← hn] at c0 h1 h4 h7
  by_cases hi : i < 0
  · have HD : Hid (dAt D i = 0) := by unfold Hid dAt; rw [if_pos hi]
    clear h hn h7
    go_enter Tryd.func55, Tryd.ntmps55
    go_wp2
    all_goals go_ret
    all_goals exact ⟨ret_int (by rw [HD.out]; rfl), rfl⟩
  · by_cases hi2 : (n : Int) ≤ i
    · have HD : Hid (dAt D i = 0) := by unfold Hid dAt; rw [if_neg hi, List.getD_eq_getElem?_getD, List.getElem?_eq_none (by omega)]; rfl
      clear h hn h7
      go_enter Tryd.func55, Tryd.ntmps55
      go_wp2
      all_goals go_ret
      all_goals exact ⟨ret_int (by rw [HD.out]; rfl), rfl⟩
    · obtain ⟨j, rfl⟩ : ∃ j : Nat, i = j := ⟨i.toNat, by omega⟩
      have HD : Hid (dAt D (j : Int) = D.getD j 0) := by unfold Hid dAt; rw [if_neg hi]; simp
      have cj := h7 j (by omega)
      have hjn : j < n := by omega
      clear h hn h7
      go_enter Tryd.func55, Tryd.ntmps55
      go_wp2
      all_goals go_ret
      all_goals exact ⟨ret_int (by rw [HD.out]; simp), rfl⟩
end Go.Proofs.YtbkdaoicnobllabDoor

namespace Go.Proofs.YtbkdaoicnobllabDoor
open Go.RowKit

/-- A slice that is not nil. -/
def SomeS (v : Value) : Prop := ∃ g n cp, v = .slice (some ⟨g, 0, none⟩) n cp
theorem Own.someS {w : World} {b : Nat} {v : Value} {L : List Nat} (h : Own w b v L) (hl : L ≠ []) : SomeS v := by
  rcases h.form with ⟨h0, _⟩ | ⟨g, cap, hv, _⟩
  · exact absurd h0 hl
  · exact ⟨g, _, cap, hv⟩
set_option maxRecDepth 100000 in
set_option maxHeartbeats 1000000 in
theorem first_any (b : Nat) (v : Value) (D : List Nat) (e count : Int) (w : World) (h : DecAt w b v D e) (hc : count ≤ 30000) :
    Calls Tryd.prog 43 #[.pointer (some ⟨b, 0, none⟩), .int .i64 count] w fun r w' => ∃ v' : Value, r = .returned v' ∧ SomeS v' ∧ Own w' w.heap.size v' (firstL D count.toNat) ∧ Below w.heap.size w w' := by
  obtain ⟨i0, hi, hz0, hz1, hz2⟩ := info_parts Tryd.info_int
  have HH := hid h
  clear h
  go_enter Tryd.func43, Tryd.ntmps43
  go_wp2
  go_loopw [5, 6] (fun l ii wr => ∃ k : Nat, ii = .int .i64 k ∧ k ≤ count.toNat ∧ SomeS l ∧ Own wr w.heap.size l (firstL D k) ∧ Below w.heap.size w wr) (fun _ ii _ => count.toNat - (intOf ii).toNat)
  case atStart => exact ⟨0, rfl, Nat.zero_le _, ⟨_, _, _, rfl⟩, Own.empty w, (Below.refl _ _).alloc (Nat.le_refl _) _⟩
  case round =>
    obtain ⟨k, rfl, hk, hsm, hown, hb⟩ := hrel
    have hsz := hb.size
    by_cases hlt : (k : Int) < count
    · have HX := hid (digitAt_any b v D e k wr (HH.out.below hb))
      obtain ⟨x, hx⟩ : ∃ x, x = dAt D (k : Int) := ⟨_, rfl⟩
      rw [← hx] at HX
      have hx9 : x ≤ 9 := by rw [hx]; exact dAt_le HH.out.digs _
      have HS : Hid (firstL D (k + 1) = firstL D k ++ [x]) := by unfold Hid; rw [firstL_succ, hx]; unfold dAt; rw [if_neg (by omega)]; simp
      have hown' : wr.ownsRow w.heap.size 3 1 u5 k (ints (firstL D k)) := by have := hown; unfold Own at this; rwa [firstL_length] at this
      clear hown hx hsm
      go_wp2_with fail
      refine HX.out.mono ?_
      rintro r w0 ⟨rfl, rfl⟩
      clear HX
      go_wp2_with (at_builtin; refine wpList_append_own _ rfl (.tmp 17) (.tmp 19) 66 rfl w.heap.size 3 i0 (.int .i64 0) 1 8 Tryd.underlying66 hi hz0 hz1 hz2 rfl (by decide) _ _ _ rfl (hown'.alloc _) ⟨w0.heap.size, 0, none⟩ 1 1 [.int .i64 (x : Int)] rfl rfl (cell_one_new _ _ _) (by intro u hu; simp at hu; subst hu; rfl) (by unfold maxLen; omega) (by omega) (by simp; omega) ?_)
      intro v' w1 hown1 hgrow _
      have hb1 : Hid (Below w.heap.size w w1) := (hb.alloc (by omega) _).grown hgrow (by simp; omega) (fun k hk => (hown'.lt k hk).1)
      have hown2 : Hid (Own w1 w.heap.size v' (firstL D (k + 1))) := by unfold Hid; rw [HS.out]; exact Own.snoc hown1 (firstL_length D k) rfl
      clear hown' hgrow hown1 hb HS
      go_wp2
      go_roundw
      case rel => exact ⟨k + 1, by go_num, by omega, hown2.out.someS (by rw [firstL_succ]; simp), hown2.out, hb1.out⟩
      case measure => simp [intOf]; omega
    · have HK : Hid (count.toNat = k) := by unfold Hid; omega
      have HO := hid (And.intro hsm (And.intro hown hb))
      clear hown hb hsm
      go_wp2
      go_ret
      exact ⟨_, rfl, HO.out.1, by rw [HK.out]; exact HO.out.2.1, HO.out.2.2⟩

set_option maxRecDepth 100000 in
set_option maxHeartbeats 1000000 in
theorem noughts_any (count : Int) (w : World) (hc : count ≤ 30000) :
    Calls Tryd.prog 37 #[.int .i64 count] w fun r w' => ∃ v' : Value, r = .returned v' ∧ SomeS v' ∧ Own w' w.heap.size v' (List.replicate count.toNat 0) ∧ Below w.heap.size w w' := by
  obtain ⟨i0, hi, hz0, hz1, hz2⟩ := info_parts Tryd.info_int
  go_enter Tryd.func37, Tryd.ntmps37
  go_wp2
  go_loopw [3, 4] (fun l ii wr => ∃ k : Nat, ii = .int .i64 k ∧ k ≤ count.toNat ∧ SomeS l ∧ Own wr w.heap.size l (List.replicate k 0) ∧ Below w.heap.size w wr) (fun _ ii _ => count.toNat - (intOf ii).toNat)
  case atStart => exact ⟨0, rfl, Nat.zero_le _, ⟨_, _, _, rfl⟩, Own.empty w, (Below.refl _ _).alloc (Nat.le_refl _) _⟩
  case round =>
    obtain ⟨k, rfl, hk, hsm, hown, hb⟩ := hrel
    have hsz := hb.size
    by_cases hlt : (k : Int) < count
    · have hown' : wr.ownsRow w.heap.size 3 1 u3 k (ints (List.replicate k 0)) := by have := hown; unfold Own at this; rwa [List.length_replicate] at this
      clear hown hsm
      go_wp2_with (at_builtin; refine wpList_append_own _ rfl (.tmp 11) (.tmp 12) 66 rfl w.heap.size 3 i0 (.int .i64 0) 1 8 Tryd.underlying66 hi hz0 hz1 hz2 rfl (by decide) _ _ _ rfl (hown'.alloc _) ⟨wr.heap.size, 0, none⟩ 1 1 [.int .i64 0] rfl rfl (cell_one_new _ _ _) (by intro u hu; simp at hu; subst hu; rfl) (by unfold maxLen; omega) (by omega) (by simp; omega) ?_)
      intro v' w1 hown1 hgrow _
      have hb1 : Hid (Below w.heap.size w w1) := (hb.alloc (by omega) _).grown hgrow (by simp; omega) (fun k hk => (hown'.lt k hk).1)
      have hown2 : Hid (Own w1 w.heap.size v' (List.replicate (k + 1) 0)) := by unfold Hid; rw [List.replicate_succ']; exact Own.snoc hown1 List.length_replicate rfl
      clear hown' hgrow hown1 hb
      go_wp2
      go_roundw
      case rel => exact ⟨k + 1, by go_num, by omega, hown2.out.someS (by rw [List.replicate_succ']; simp), hown2.out, hb1.out⟩
      case measure => simp [intOf]; omega
    · have HK : Hid (count.toNat = k) := by unfold Hid; omega
      have HO := hid (And.intro hsm (And.intro hown hb))
      clear hown hb hsm
      go_wp2
      go_ret
      exact ⟨_, rfl, HO.out.1, by rw [HK.out]; exact HO.out.2.1, HO.out.2.2⟩
end Go.Proofs.YtbkdaoicnobllabDoor
