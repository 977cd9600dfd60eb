import Derived.Test.YtbkdaoicnobllabGreatDoorG24
import Derived.Test.YtbkdaoicnobllabGreatDoorG27
import Derived.Test.YtbkdaoicnobllabGreatDoorG07

/- Plain mathematics: the span of an amount. -/
namespace Go.Proofs.YtbkdaoicnobllabGreatDoor

def lowS (q a : Nat) : Nat := if mA q a = 2 ^ q ∧ 2 ^ q < a then 4 * mA q a - 1 else 4 * mA q a - 2
theorem valA_up (K : Nat) (f : Int) (a : Nat) (hK : 1100 ≤ K) : valA K f (a + 1) = valA K f a + two K (fE f + xA (fQ f) a) := by
  have hp : 0 < 2 ^ fQ f := Nat.pow_pos (by omega)
  have ha : a = a / 2 ^ fQ f * 2 ^ fQ f + a % 2 ^ fQ f := by rw [Nat.mul_comm]; exact (Nat.div_add_mod a _).symm
  have hm : a % 2 ^ fQ f < 2 ^ fQ f := Nat.mod_lt _ hp
  have e1 := valA_at K f (a / 2 ^ fQ f) (a % 2 ^ fQ f) (by omega) hK
  have e2 := valA_at K f (a / 2 ^ fQ f) (a % 2 ^ fQ f + 1) (by omega) hK
  rw [← ha] at e1
  rw [← Nat.add_assoc, ← ha] at e2
  rw [e1, e2]
  unfold xA
  split
  · rename_i h0
    rw [h0, show fE f + ((0 - 1 : Nat) : Int) = fE f from by simp, Nat.mul_add, Nat.mul_one]
  · rw [← Nat.add_assoc, Nat.mul_add, Nat.mul_one]
theorem x_down (q a : Nat) (h : 0 < a) : xA q (a - 1) = if mA q a = 2 ^ q ∧ 2 ^ q < a then xA q a - 1 else xA q a := by
  have hp : 0 < 2 ^ q := Nat.pow_pos (by omega)
  have ha : a = 2 ^ q * (a / 2 ^ q) + a % 2 ^ q := (Nat.div_add_mod a _).symm
  have hm : a % 2 ^ q < 2 ^ q := Nat.mod_lt _ hp
  have hd : ∀ l r, a - 1 = 2 ^ q * l + r → r < 2 ^ q → (a - 1) / 2 ^ q = l := fun l r e hr => by
    rw [e, Nat.mul_add_div hp, Nat.div_eq_of_lt hr, Nat.add_zero]
  unfold xA mA
  by_cases h0 : a % 2 ^ q = 0
  · rw [h0, Nat.add_zero] at ha
    have hq : 0 < a / 2 ^ q := by
      apply Nat.pos_of_ne_zero; intro e; rw [e] at ha; omega
    obtain ⟨l, hl⟩ : ∃ l, a / 2 ^ q = l + 1 := ⟨a / 2 ^ q - 1, by omega⟩
    have he : (a - 1) / 2 ^ q = l := hd l (2 ^ q - 1) (by rw [ha, hl, Nat.mul_add]; omega) (by omega)
    have hmA : (if a / 2 ^ q = 0 then a % 2 ^ q else a % 2 ^ q + 2 ^ q) = 2 ^ q := by rw [if_neg (by omega), h0, Nat.zero_add]
    rw [he, hmA, hl]
    rw [hl] at ha
    by_cases hl0 : l = 0
    · subst hl0
      rw [if_neg (by omega)]
    · have : 2 ^ q * 1 < 2 ^ q * (l + 1) := Nat.mul_lt_mul_of_pos_left (by omega) hp
      rw [if_pos (by omega)]; rfl
  · have he : (a - 1) / 2 ^ q = a / 2 ^ q := hd (a / 2 ^ q) (a % 2 ^ q - 1) (by omega) (by omega)
    rw [he, if_neg]
    rintro ⟨h1, h2⟩
    split at h1 <;> omega
theorem span_num (f : Int) (a : Nat) (pw : Int) (hp : pw + 2 = fE f + xA (fQ f) a) (hk : -(3000 : Int) ≤ pw) : two 3000 pw * (4 * mA (fQ f) a) = valA 3000 f a := by
  unfold valA
  rw [← hp, show pw + 2 = pw + ((2 : Nat) : Int) from rfl, two_mul 3000 pw hk 2, Nat.mul_assoc]
theorem span_high (f : Int) (a : Nat) (pw : Int) (hp : pw + 2 = fE f + xA (fQ f) a) (hk : -(3000 : Int) ≤ pw) : two 3000 pw * (4 * mA (fQ f) a + 2) * 2 = valA 3000 f a + valA 3000 f (a + 1) := by
  have h1 := span_num f a pw hp hk
  have h2 : two 3000 (fE f + xA (fQ f) a) = two 3000 pw * 4 := by
    rw [← hp, show pw + 2 = pw + ((2 : Nat) : Int) from rfl, two_mul 3000 pw hk 2]
  rw [valA_up 3000 f a (by omega), h2, ← h1, Nat.mul_add]
  omega
theorem span_low (f : Int) (a : Nat) (pw : Int) (h0 : 0 < a) (hp : pw + 2 = fE f + xA (fQ f) a) (hk : -(3000 : Int) ≤ pw) : two 3000 pw * lowS (fQ f) a * 2 = valA 3000 f (a - 1) + valA 3000 f a := by
  have h1 := span_num f a pw hp hk
  have h2 : two 3000 (fE f + xA (fQ f) a) = two 3000 pw * 4 := by
    rw [← hp, show pw + 2 = pw + ((2 : Nat) : Int) from rfl, two_mul 3000 pw hk 2]
  have hu := valA_up 3000 f (a - 1) (by omega)
  rw [show a - 1 + 1 = a from by omega, x_down _ a h0] at hu
  have hm := mA_pos (fQ f) a h0
  unfold lowS
  obtain ⟨m, hmm⟩ : ∃ m, mA (fQ f) a = m + 1 := ⟨mA (fQ f) a - 1, by omega⟩
  by_cases hb : mA (fQ f) a = 2 ^ fQ f ∧ 2 ^ fQ f < a
  · rw [if_pos hb] at hu ⊢
    have hx : 0 < xA (fQ f) a := by
      unfold xA
      have hpp : 0 < 2 ^ fQ f := Nat.pow_pos (by omega)
      have ha := Nat.div_add_mod a (2 ^ fQ f)
      have hmo := Nat.mod_lt a hpp
      apply Nat.pos_of_ne_zero; intro e
      have hm2 := hb.1
      unfold mA at hm2
      have hb2 := hb.2
      generalize a / 2 ^ fQ f = l at *
      split at hm2
      · omega
      · have : l = 1 := by omega
        rw [this] at ha; omega
    have h3 : two 3000 (fE f + ((xA (fQ f) a - 1 : Nat) : Int)) = two 3000 pw * 2 := by
      rw [show fE f + ((xA (fQ f) a - 1 : Nat) : Int) = pw + ((1 : Nat) : Int) from by omega, two_mul 3000 pw hk 1]
    rw [h3] at hu
    rw [hu] at h1 ⊢
    rw [hmm] at h1 ⊢
    rw [show 4 * (m + 1) - 1 = 4 * m + 3 from by omega]
    rw [Nat.mul_add, Nat.mul_add, Nat.mul_one] at h1
    rw [Nat.mul_add]
    omega
  · rw [if_neg hb] at hu ⊢
    rw [h2] at hu
    rw [hu] at h1 ⊢
    rw [hmm] at h1 ⊢
    rw [show 4 * (m + 1) - 2 = 4 * m + 2 from by omega]
    rw [Nat.mul_add, Nat.mul_add, Nat.mul_one] at h1
    rw [Nat.mul_add]
    omega
theorem span_hold (f : Int) (a : Nat) (pw : Int) (h0 : 0 < a) (hp : pw + 2 = fE f + xA (fQ f) a) (hk : -(3000 : Int) ≤ pw) :
    (fun X => holdB (decide (a % 2 = 0)) X (two 3000 pw * lowS (fQ f) a) (two 3000 pw * (4 * mA (fQ f) a + 2)) = true) = Hold 3000 f a := by
  have h1 := span_low f a pw h0 hp hk
  have h2 := span_high f a pw hp hk
  funext X
  apply propext
  rw [Hold.iff]
  unfold holdB
  by_cases h : a % 2 = 0
  · rw [show decide (a % 2 = 0) = true from decide_eq_true h, if_pos rfl, decide_eq_true_eq]
    constructor
    · intro hh; exact .inl ⟨h, by omega, by omega⟩
    · rintro (⟨_, a1, a2⟩ | ⟨a0, _⟩)
      · exact ⟨by omega, by omega⟩
      · exact absurd h a0
  · rw [show decide (a % 2 = 0) = false from decide_eq_false h, if_neg (by decide), decide_eq_true_eq]
    constructor
    · intro hh; exact .inr ⟨h, by omega, by omega⟩
    · rintro (⟨a0, _⟩ | ⟨_, a1, a2⟩)
      · exact absurd a0 h
      · exact ⟨by omega, by omega⟩
end Go.Proofs.YtbkdaoicnobllabGreatDoor

namespace Go.Proofs.YtbkdaoicnobllabGreatDoor
open Go.RowKit

/-- What the mode md makes of a number in steps of 10^p. -/
def nbV (D : List Nat) (e p : Int) (md : Int) (K : Nat) : Nat := rndN (awayB md false) (val K D e) (10 ^ (p + K).toNat) * 10 ^ (p + K).toNat
def FirstOf (hold : Nat → Bool) (D : List Nat) (e p md : Int) : Prop :=
  (md = 0 ∧ hold (nbV D e p 0 20000) = true) ∨ (md = 3 ∧ hold (nbV D e p 0 20000) = false ∧ hold (nbV D e p 3 20000) = true) ∨ (md = 2 ∧ hold (nbV D e p 0 20000) = false ∧ hold (nbV D e p 3 20000) = false ∧ hold (nbV D e p 2 20000) = true)
def NoneOf (hold : Nat → Bool) (D : List Nat) (e p : Int) : Prop := hold (nbV D e p 0 20000) = false ∧ hold (nbV D e p 3 20000) = false ∧ hold (nbV D e p 2 20000) = false
def TriedTo (hold : Nat → Bool) (D : List Nat) (e p : Int) (k : Nat) : Prop := (0 < k → hold (nbV D e p 0 20000) = false) ∧ (1 < k → hold (nbV D e p 3 20000) = false) ∧ (2 < k → hold (nbV D e p 2 20000) = false)
def NearPost (w w' : World) (r : Ending) (hold : Nat → Bool) (D : List Nat) (e p : Int) : Prop :=
  (∃ md : Int, FirstOf hold D e p md ∧ ∃ b : Nat, r = .returned (.tuple #[.pointer (some ⟨b, 0, none⟩), .bool true]) ∧ ∃ (v : Value) (D' : List Nat) (e' : Int), DecAt w' b v D' e' ∧ Norm D' ∧ (p ≤ e' ∧ e' + (D'.length : Int) ≤ 401) ∧ (∀ K : Nat, 2000 ≤ K → val K D' e' = nbV D e p md K) ∧ w.heap.size ≤ b ∧ Below w.heap.size w w') ∨
  (NoneOf hold D e p ∧ r = .returned (.tuple #[.pointer none, .bool false]) ∧ Below w.heap.size w w')
theorem index_arr (W : World) (i : Int) (x : Value) (h0 : 0 ≤ i ∧ i < (3 : Nat)) (hx : (#[.int .i64 0, .int .i64 3, .int .i64 2] : Array Value)[i.toNat]? = some x) : (Instr.index 166 (.agg #[.int .i64 0, .int .i64 3, .int .i64 2]) (.int .i64 i)).run Tryz.prog W = .ok x W := by
  simp [Instr.index, run_underlying Tryz.underlying166, asIntOf, go_sem]
  rw [if_pos (by omega), show ([.int .i64 0, .int .i64 3, .int .i64 2] : List Value)[i.toNat]? = some x from by simpa using hx]
  rfl
set_option maxRecDepth 100000 in
set_option maxHeartbeats 1000000 in
theorem nearest_any (l h b : Nat) (vl vh v : Value) (L H D : List Nat) (el eh e p : Int) (cl : Bool) (w : World) (hl : DecAt w l vl L el) (hh : DecAt w h vh H eh) (hd : DecAt w b v D e) (he : -2000 ≤ e) (ht : e + D.length ≤ 400) (hp1 : e ≤ p) (hp2 : p ≤ e + D.length - 1) :
    Calls Tryz.prog 121 #[.agg #[.pointer (some ⟨l, 0, none⟩), .pointer (some ⟨h, 0, none⟩), .bool cl], .pointer (some ⟨b, 0, none⟩), .int .i64 p] w fun r w' => NearPost w w' r (fun X => holdB cl X (val 20000 L el) (val 20000 H eh)) D e p := by
  have HNB : Hid (∀ (md : Int) (w1 : World), Below w.heap.size w w1 → Calls Tryz.prog 136 #[.pointer (some ⟨b, 0, none⟩), .int .i64 p, .int .i64 md] w1 fun r w' => NeighPost w1 w' r p (nbV D e p md)) := fun md w1 hb => neighbour_any b v D e p md w1 (hd.below hb) he ht hp1 hp2
  have HHO : Hid (∀ (d : Nat) (vd : Value) (Dd : List Nat) (ed : Int) (w1 : World), Below w.heap.size w w1 → DecAt w1 d vd Dd ed → Calls Tryz.prog 137 #[.agg #[.pointer (some ⟨l, 0, none⟩), .pointer (some ⟨h, 0, none⟩), .bool cl], .pointer (some ⟨d, 0, none⟩)] w1 fun r w' => r = .returned (.bool (holdB cl (val 20000 Dd ed) (val 20000 L el) (val 20000 H eh))) ∧ Below w1.heap.size w1 w') := fun d vd Dd ed w1 hb hx => hold_any l h d vl vh vd L H Dd el eh ed cl w1 (hl.below hb) (hh.below hb) hx
  obtain ⟨hold, hho⟩ : ∃ hold : Nat → Bool, hold = fun X => holdB cl X (val 20000 L el) (val 20000 H eh) := ⟨_, rfl⟩
  rw [← hho]
  have HHE := hid hho
  clear hl hh hd he ht hp1 hp2 hho
  have ix0 := fun W => index_arr W 0 (.int .i64 0) (by omega) rfl
  have ix1 := fun W => index_arr W 1 (.int .i64 3) (by omega) rfl
  have ix2 := fun W => index_arr W 2 (.int .i64 2) (by omega) rfl
  go_enter Tryz.func121, Tryz.ntmps121
  go_wp2_with fail
  obtain ⟨W, hW⟩ : ∃ W, W = w.alloc (.cells #[.pointer (some ⟨l, 0, none⟩), .pointer (some ⟨h, 0, none⟩), .bool cl] 152) := ⟨_, rfl⟩
  have hbx : Below w.heap.size w W := by rw [hW]; exact (Below.refl _ _).alloc (Nat.le_refl _) _
  have s0 : W.cell? ⟨w.heap.size, 0, none⟩ = some (.pointer (some ⟨l, 0, none⟩)) := by rw [hW]; simp [go_sem]
  have s1 : W.cell? ⟨w.heap.size, 1, none⟩ = some (.pointer (some ⟨h, 0, none⟩)) := by rw [hW]; simp [go_sem]
  have s2 : W.cell? ⟨w.heap.size, 2, none⟩ = some (.bool cl) := by rw [hW]; simp [go_sem]
  rw [← hW]
  have HBX := hid hbx
  clear hW hbx
  go_loopw [12] (fun ii wr => ∃ k : Nat, ii = .int .i64 k ∧ k ≤ 3 ∧ TriedTo hold D e p k ∧ Below W.heap.size W wr) (fun ii _ => 3 - (intOf ii).toNat)
  case atStart => exact ⟨0, rfl, by omega, ⟨fun h => by omega, fun h => by omega, fun h => by omega⟩, Below.refl _ _⟩
  case round =>
    obtain ⟨k, rfl, hk, htr, hbw⟩ := hrel
    have c0 := keep_cell' hbw s0
    have c1 := keep_cell' hbw s1
    have c2 := keep_cell' hbw s2
    have HT := hid htr
    have HB : Hid (Below W.heap.size W wr) := hbw
    have HBW : Hid (Below w.heap.size w wr) := HBX.out.trans (hbw.mono HBX.out.size)
    clear htr hbw s0 s1 s2
    rcases (by omega : k = 0 ∨ k = 1 ∨ k = 2 ∨ k = 3) with rfl | rfl | rfl | rfl
    · go_wp2_with fail
      refine (HNB.out 0 wr HBW.out).mono ?_
      rintro r w1 ⟨d, rfl, vd, Dd, ed, hdec, hnorm, hpe, hval, hbd, hb1⟩
      have HB1 : Hid (Below w.heap.size w w1) := HBW.out.trans (hb1.mono HBW.out.size)
      have d0 := keep_cell' hb1 c0
      have d1 := keep_cell' hb1 c1
      have d2 := keep_cell' hb1 c2
      obtain ⟨t, ht⟩ : ∃ t, t = hold (nbV D e p 0 20000) := ⟨_, rfl⟩
      have HHX : Hid (Calls Tryz.prog 137 #[.agg #[.pointer (some ⟨l, 0, none⟩), .pointer (some ⟨h, 0, none⟩), .bool cl], .pointer (some ⟨d, 0, none⟩)] w1 fun r w' => r = .returned (.bool t) ∧ Below w1.heap.size w1 w') := by
        have := HHO.out d vd Dd ed w1 HB1.out hdec
        rw [hval 20000 (by omega)] at this
        rw [ht, HHE.out]; exact this
      have HX := hid (And.intro hdec (And.intro hnorm (And.intro hpe (And.intro hval hbd))))
      have HBK : Hid (Below W.heap.size W w1) := HB.out.trans (hb1.mono HB.out.size)
      have HSZ := hid HBW.out.size
      clear hdec hnorm hpe hval hbd hb1 c0 c1 c2
      cases t
      · have HN : Hid (TriedTo hold D e p 1) := by
          have q := HT.out
          unfold Hid
          refine ⟨fun h => ?_, fun h => ?_, fun h => ?_⟩
          · exact ht.symm
          · omega
          · omega
        clear ht
        go_wp2_with fail
        refine HHX.out.mono ?_
        rintro r w2 ⟨rfl, hb2⟩
        have HB2 : Hid (Below W.heap.size W w2) := HBK.out.trans (hb2.mono HBK.out.size)
        clear hb2
        go_wp2
        go_roundw
        case rel => exact ⟨1, by go_num, by omega, HN.out, HB2.out⟩
        case measure => simp [intOf]
      · have HF : Hid (FirstOf hold D e p 0) := by
          have q := HT.out
          unfold Hid FirstOf
          exact .inl ⟨rfl, ht.symm⟩
        clear ht
        go_wp2_with fail
        refine HHX.out.mono ?_
        rintro r w2 ⟨rfl, hb2⟩
        have HP : Hid (NearPost w w2 (.returned (.tuple #[.pointer (some ⟨d, 0, none⟩), .bool true])) hold D e p) :=
          .inl ⟨0, HF.out, d, rfl, vd, Dd, ed, HX.out.1.below hb2, HX.out.2.1, HX.out.2.2.1, HX.out.2.2.2.1, by have := HX.out.2.2.2.2; have := HSZ.out; omega, HB1.out.trans (hb2.mono HB1.out.size)⟩
        clear hb2
        go_wp2
        go_ret2
        exact HP.out
    · go_wp2_with fail
      refine (HNB.out 3 wr HBW.out).mono ?_
      rintro r w1 ⟨d, rfl, vd, Dd, ed, hdec, hnorm, hpe, hval, hbd, hb1⟩
      have HB1 : Hid (Below w.heap.size w w1) := HBW.out.trans (hb1.mono HBW.out.size)
      have d0 := keep_cell' hb1 c0
      have d1 := keep_cell' hb1 c1
      have d2 := keep_cell' hb1 c2
      obtain ⟨t, ht⟩ : ∃ t, t = hold (nbV D e p 3 20000) := ⟨_, rfl⟩
      have HHX : Hid (Calls Tryz.prog 137 #[.agg #[.pointer (some ⟨l, 0, none⟩), .pointer (some ⟨h, 0, none⟩), .bool cl], .pointer (some ⟨d, 0, none⟩)] w1 fun r w' => r = .returned (.bool t) ∧ Below w1.heap.size w1 w') := by
        have := HHO.out d vd Dd ed w1 HB1.out hdec
        rw [hval 20000 (by omega)] at this
        rw [ht, HHE.out]; exact this
      have HX := hid (And.intro hdec (And.intro hnorm (And.intro hpe (And.intro hval hbd))))
      have HBK : Hid (Below W.heap.size W w1) := HB.out.trans (hb1.mono HB.out.size)
      have HSZ := hid HBW.out.size
      clear hdec hnorm hpe hval hbd hb1 c0 c1 c2
      cases t
      · have HN : Hid (TriedTo hold D e p 2) := by
          have q := HT.out
          unfold Hid
          refine ⟨fun h => ?_, fun h => ?_, fun h => ?_⟩
          · exact q.1 (by omega)
          · exact ht.symm
          · omega
        clear ht
        go_wp2_with fail
        refine HHX.out.mono ?_
        rintro r w2 ⟨rfl, hb2⟩
        have HB2 : Hid (Below W.heap.size W w2) := HBK.out.trans (hb2.mono HBK.out.size)
        clear hb2
        go_wp2
        go_roundw
        case rel => exact ⟨2, by go_num, by omega, HN.out, HB2.out⟩
        case measure => simp [intOf]
      · have HF : Hid (FirstOf hold D e p 3) := by
          have q := HT.out
          unfold Hid FirstOf
          exact .inr (.inl ⟨rfl, q.1 (by omega), ht.symm⟩)
        clear ht
        go_wp2_with fail
        refine HHX.out.mono ?_
        rintro r w2 ⟨rfl, hb2⟩
        have HP : Hid (NearPost w w2 (.returned (.tuple #[.pointer (some ⟨d, 0, none⟩), .bool true])) hold D e p) :=
          .inl ⟨3, HF.out, d, rfl, vd, Dd, ed, HX.out.1.below hb2, HX.out.2.1, HX.out.2.2.1, HX.out.2.2.2.1, by have := HX.out.2.2.2.2; have := HSZ.out; omega, HB1.out.trans (hb2.mono HB1.out.size)⟩
        clear hb2
        go_wp2
        go_ret2
        exact HP.out
    · go_wp2_with fail
      refine (HNB.out 2 wr HBW.out).mono ?_
      rintro r w1 ⟨d, rfl, vd, Dd, ed, hdec, hnorm, hpe, hval, hbd, hb1⟩
      have HB1 : Hid (Below w.heap.size w w1) := HBW.out.trans (hb1.mono HBW.out.size)
      have d0 := keep_cell' hb1 c0
      have d1 := keep_cell' hb1 c1
      have d2 := keep_cell' hb1 c2
      obtain ⟨t, ht⟩ : ∃ t, t = hold (nbV D e p 2 20000) := ⟨_, rfl⟩
      have HHX : Hid (Calls Tryz.prog 137 #[.agg #[.pointer (some ⟨l, 0, none⟩), .pointer (some ⟨h, 0, none⟩), .bool cl], .pointer (some ⟨d, 0, none⟩)] w1 fun r w' => r = .returned (.bool t) ∧ Below w1.heap.size w1 w') := by
        have := HHO.out d vd Dd ed w1 HB1.out hdec
        rw [hval 20000 (by omega)] at this
        rw [ht, HHE.out]; exact this
      have HX := hid (And.intro hdec (And.intro hnorm (And.intro hpe (And.intro hval hbd))))
      have HBK : Hid (Below W.heap.size W w1) := HB.out.trans (hb1.mono HB.out.size)
      have HSZ := hid HBW.out.size
      clear hdec hnorm hpe hval hbd hb1 c0 c1 c2
      cases t
      · have HN : Hid (TriedTo hold D e p 3) := by
          have q := HT.out
          unfold Hid
          refine ⟨fun h => ?_, fun h => ?_, fun h => ?_⟩
          · exact q.1 (by omega)
          · exact q.2.1 (by omega)
          · exact ht.symm
        clear ht
        go_wp2_with fail
        refine HHX.out.mono ?_
        rintro r w2 ⟨rfl, hb2⟩
        have HB2 : Hid (Below W.heap.size W w2) := HBK.out.trans (hb2.mono HBK.out.size)
        clear hb2
        go_wp2
        go_roundw
        case rel => exact ⟨3, by go_num, by omega, HN.out, HB2.out⟩
        case measure => simp [intOf]
      · have HF : Hid (FirstOf hold D e p 2) := by
          have q := HT.out
          unfold Hid FirstOf
          exact .inr (.inr ⟨rfl, q.1 (by omega), q.2.1 (by omega), ht.symm⟩)
        clear ht
        go_wp2_with fail
        refine HHX.out.mono ?_
        rintro r w2 ⟨rfl, hb2⟩
        have HP : Hid (NearPost w w2 (.returned (.tuple #[.pointer (some ⟨d, 0, none⟩), .bool true])) hold D e p) :=
          .inl ⟨2, HF.out, d, rfl, vd, Dd, ed, HX.out.1.below hb2, HX.out.2.1, HX.out.2.2.1, HX.out.2.2.2.1, by have := HX.out.2.2.2.2; have := HSZ.out; omega, HB1.out.trans (hb2.mono HB1.out.size)⟩
        clear hb2
        go_wp2
        go_ret2
        exact HP.out
    · have HP : Hid (NearPost w wr (.returned (.tuple #[.pointer none, .bool false])) hold D e p) := .inr ⟨⟨HT.out.1 (by omega), HT.out.2.1 (by omega), HT.out.2.2 (by omega)⟩, rfl, HBW.out⟩
      go_wp2
      go_ret2
      exact HP.out
end Go.Proofs.YtbkdaoicnobllabGreatDoor

namespace Go.Proofs.YtbkdaoicnobllabGreatDoor
open Go.RowKit

theorem hold_scale (cl : Bool) (X L H c : Nat) (hc : 0 < c) : holdB cl (X * c) (L * c) (H * c) = holdB cl X L H := by
  unfold holdB
  simp only [Nat.mul_le_mul_right_iff hc, Nat.mul_lt_mul_right hc]
set_option exponentiation.threshold 20000 in
theorem nbV_scale (D : List Nat) (e p md : Int) (he : -(3000 : Int) ≤ e) (hp : -(3000 : Int) ≤ p) : nbV D e p md 20000 = nbV D e p md 3000 * 10 ^ 17000 := by
  unfold nbV
  have h1 := val_more 3000 17000 D e he
  have h2 := pow_more 3000 17000 p hp
  rw [show (3000 : Nat) + 17000 = 20000 from rfl] at h1 h2
  rw [h1, h2, rndN_mul _ _ _ _ (Nat.pow_pos (by omega)), Nat.mul_assoc]
theorem hold_mid (cl : Bool) (t lo nu hi : Nat) (ht : 0 < t) (h1 : lo < nu) (h2 : nu < hi) : holdB cl (t * nu) (t * lo) (t * hi) = true := by
  have a := Nat.mul_lt_mul_of_pos_left h1 ht
  have b := Nat.mul_lt_mul_of_pos_left h2 ht
  unfold holdB; split <;> simp <;> omega
set_option exponentiation.threshold 20000 in
theorem near_hold {L H D : List Nat} {el eh e p md : Int} {cl : Bool} {lo nu hi : Nat} {pw : Int} (v1 : val 3000 D e = two 3000 pw * nu) (v2 : val 3000 L el = two 3000 pw * lo) (v3 : val 3000 H eh = two 3000 pw * hi) (k1 : -(3000 : Int) ≤ e) (k2 : -(3000 : Int) ≤ el) (k3 : -(3000 : Int) ≤ eh) (k4 : -(3000 : Int) ≤ p) :
    holdB cl (nbV D e p md 20000) (val 20000 L el) (val 20000 H eh) = holdB cl (rndN (awayB md false) (two 3000 pw * nu) (10 ^ (p + (3000 : Nat)).toNat) * 10 ^ (p + (3000 : Nat)).toNat) (two 3000 pw * lo) (two 3000 pw * hi) := by
  have h1 := val_more 3000 17000 L el k2
  have h2 := val_more 3000 17000 H eh k3
  rw [show (3000 : Nat) + 17000 = 20000 from rfl] at h1 h2
  rw [nbV_scale D e p md k1 k4, h1, h2, hold_scale _ _ _ _ _ (Nat.pow_pos (by omega)), v2, v3]
  unfold nbV
  rw [v1]
theorem near_yes {L H D : List Nat} {el eh e p md : Int} {cl : Bool} {lo nu hi : Nat} {pw : Int} (v1 : val 3000 D e = two 3000 pw * nu) (v2 : val 3000 L el = two 3000 pw * lo) (v3 : val 3000 H eh = two 3000 pw * hi) (k1 : -(3000 : Int) ≤ e) (k2 : -(3000 : Int) ≤ el) (k3 : -(3000 : Int) ≤ eh) (k4 : -(3000 : Int) ≤ p)
    (hs : holdB cl (two 3000 pw * nu) (two 3000 pw * lo) (two 3000 pw * hi) = true) (h : FirstOf (fun X => holdB cl X (val 20000 L el) (val 20000 H eh)) D e p md) :
    StepYes (fun X => holdB cl X (two 3000 pw * lo) (two 3000 pw * hi) = true) (two 3000 pw * nu) (10 ^ (p + (3000 : Nat)).toNat) (nbV D e p md 3000) := by
  have nh := fun md => near_hold (md := md) (cl := cl) v1 v2 v3 k1 k2 k3 k4
  have hn : nbV D e p md 3000 = rndN (awayB md false) (two 3000 pw * nu) (10 ^ (p + (3000 : Nat)).toNat) * 10 ^ (p + (3000 : Nat)).toNat := by unfold nbV; rw [v1]
  rw [hn]
  rcases h with ⟨rfl, a⟩ | ⟨rfl, a, b⟩ | ⟨rfl, a, b, c⟩
  · exact step_even ((nh 0).symm.trans a)
  · exact step_up hs (fun hh => Bool.noConfusion (((nh 0).symm.trans a).symm.trans hh)) ((nh 3).symm.trans b)
  · exact step_cut hs (fun hh => Bool.noConfusion (((nh 0).symm.trans a).symm.trans hh)) (fun hh => Bool.noConfusion (((nh 3).symm.trans b).symm.trans hh)) ((nh 2).symm.trans c)
theorem near_no {L H D : List Nat} {el eh e p : Int} {cl : Bool} {lo nu hi : Nat} {pw : Int} (v1 : val 3000 D e = two 3000 pw * nu) (v2 : val 3000 L el = two 3000 pw * lo) (v3 : val 3000 H eh = two 3000 pw * hi) (k1 : -(3000 : Int) ≤ e) (k2 : -(3000 : Int) ≤ el) (k3 : -(3000 : Int) ≤ eh) (k4 : -(3000 : Int) ≤ p)
    (hs : holdB cl (two 3000 pw * nu) (two 3000 pw * lo) (two 3000 pw * hi) = true) (h : NoneOf (fun X => holdB cl X (val 20000 L el) (val 20000 H eh)) D e p) :
    StepNo (fun X => holdB cl X (two 3000 pw * lo) (two 3000 pw * hi) = true) (two 3000 pw * nu) (10 ^ (p + (3000 : Nat)).toNat) := by
  have nh := fun md => near_hold (md := md) (cl := cl) v1 v2 v3 k1 k2 k3 k4
  obtain ⟨a, b, c⟩ := h
  exact step_none hs (fun hh => Bool.noConfusion (((nh 0).symm.trans a).symm.trans hh)) (fun hh => Bool.noConfusion (((nh 3).symm.trans b).symm.trans hh)) (fun hh => Bool.noConfusion (((nh 2).symm.trans c).symm.trans hh))
theorem exact_norm {D : List Nat} {e : Int} (hd : Digs D) (hh : Headed D) (hl : 0 < D.length) (he : -(3000 : Int) ≤ e) (h : 1 < D.length → val 3000 D e % 10 ^ (e + 1 + (3000 : Nat)).toNat ≠ 0) : Norm D := by
  refine ⟨hd, hh, fun hp => ?_⟩
  rcases (by omega : D.length = 1 ∨ 1 < D.length) with g | g
  · have := hh hp
    simpa [g] using this
  · intro h0
    apply h g
    have hk := num_digit hd (D.length - 1) (by omega)
    rw [List.getD_eq_getElem?_getD, List.getElem?_eq_getElem (by omega)] at hk
    rw [Nat.sub_self, Nat.pow_zero, Nat.div_one] at hk
    simp only [Option.getD_some] at hk
    rw [h0] at hk
    obtain ⟨x, hx⟩ : ∃ x, num D = 10 * x := ⟨num D / 10, by omega⟩
    unfold val
    rw [hx, show (e + 1 + ((3000 : Nat) : Int)).toNat = (e + (3000 : Nat)).toNat + 1 from by omega, Nat.pow_succ, Nat.mul_comm 10 x, Nat.mul_assoc, Nat.mul_comm 10]
    exact Nat.mul_mod_left _ _
def NoTo (lo nu hi : Nat) (pw : Int) (cl : Bool) (T q : Int) : Prop := ∀ q', q < q' → q' ≤ T → StepNo (fun X => holdB cl X (two 3000 pw * lo) (two 3000 pw * hi) = true) (two 3000 pw * nu) (10 ^ (q' + (3000 : Nat)).toNat)
/-- The decimal that the span has. -/
structure WithAt (lo nu hi : Nat) (pw : Int) (cl : Bool) (D : List Nat) (e p : Int) (X : Nat) : Prop where
  digs : Digs D
  headed : Headed D
  pos : 0 < D.length
  lo' : -1080 ≤ e
  val : val 3000 D e = two 3000 pw * nu
  le : p ≤ e + D.length - 1
  yes : StepYes (fun X => holdB cl X (two 3000 pw * lo) (two 3000 pw * hi) = true) (two 3000 pw * nu) (10 ^ (p + (3000 : Nat)).toNat) X
  no : ∀ q, p < q → q ≤ e + D.length - 1 → StepNo (fun X => holdB cl X (two 3000 pw * lo) (two 3000 pw * hi) = true) (two 3000 pw * nu) (10 ^ (q + (3000 : Nat)).toNat)
def WithPost (w w' : World) (r : Ending) (lo nu hi : Nat) (pw : Int) (cl : Bool) : Prop :=
  ∃ b : Nat, r = .returned (.pointer (some ⟨b, 0, none⟩)) ∧ ∃ (v : Value) (D' : List Nat) (e' : Int), DecAt w' b v D' e' ∧ Norm D' ∧ (-1080 ≤ e' ∧ e' + (D'.length : Int) ≤ 401) ∧ (∃ D e p, WithAt lo nu hi pw cl D e p (Go.Proofs.YtbkdaoicnobllabGreatDoor.val 3000 D' e')) ∧ Below w.heap.size w w'
set_option maxRecDepth 100000 in
set_option maxHeartbeats 1000000 in
theorem within_any (lo nu hi : Nat) (LO NU HI pw : Int) (cl : Bool) (w : World) (h1 : LO = (lo : Int)) (h2 : NU = (nu : Int)) (h3 : HI = (hi : Int)) (hl0 : 0 < lo) (hln : lo < nu) (hnh : nu < hi) (hh : hi < 1152921504606846976) (hp1 : -1080 ≤ pw) (hp2 : pw ≤ 1080) :
    Calls Tryz.prog 92 #[.agg #[.int .i64 LO, .int .i64 NU, .int .i64 HI, .int .i64 pw, .bool cl]] w fun r w' => WithPost w w' r lo nu hi pw cl := by
  have HF1 := hid (fun w => fromBinary_any nu pw w (by omega) (by omega) hp1 hp2)
  have HF2 := hid (fun w => fromBinary_any lo pw w (by omega) (by omega) hp1 hp2)
  have HF3 := hid (fun w => fromBinary_any hi pw w (by omega) (by omega) hp1 hp2)
  rw [← h2] at HF1
  rw [← h1] at HF2
  rw [← h3] at HF3
  have HLT := hid (And.intro hln (And.intro hnh (And.intro hl0 hh)))
  clear h1 h2 h3 hl0 hln hnh hh
  go_enter Tryz.func92, Tryz.ntmps92
  go_wp2_with fail
  obtain ⟨W, hW⟩ : ∃ W, W = w.alloc (.cells #[.int .i64 LO, .int .i64 NU, .int .i64 HI, .int .i64 pw, .bool cl] 125) := ⟨_, rfl⟩
  have hbx : Below w.heap.size w W := by rw [hW]; exact (Below.refl _ _).alloc (Nat.le_refl _) _
  have s0 : W.cell? ⟨w.heap.size, 0, none⟩ = some (.int .i64 LO) := by rw [hW]; simp [go_sem]
  have s1 : W.cell? ⟨w.heap.size, 1, none⟩ = some (.int .i64 NU) := by rw [hW]; simp [go_sem]
  have s2 : W.cell? ⟨w.heap.size, 2, none⟩ = some (.int .i64 HI) := by rw [hW]; simp [go_sem]
  have s3 : W.cell? ⟨w.heap.size, 3, none⟩ = some (.int .i64 pw) := by rw [hW]; simp [go_sem]
  have s4 : W.cell? ⟨w.heap.size, 4, none⟩ = some (.bool cl) := by rw [hW]; simp [go_sem]
  have HBX := hid hbx
  rw [← hW]
  clear hW hbx
  refine (HF1.out W).mono ?_
  rintro r w1 ⟨b1, rfl, v1, D1, e1, hd1, ⟨he1, he1'⟩, hv1, hb1, hbl1⟩
  have t0 := keep_cell' hbl1 s0
  have t2 := keep_cell' hbl1 s2
  have t3 := keep_cell' hbl1 s3
  have t4 := keep_cell' hbl1 s4
  have HB1 : Hid (Below w.heap.size w w1) := HBX.out.trans (hbl1.mono HBX.out.size)
  have HD1 := hid hd1
  have HV1 := hid hv1
  clear hd1 hv1 hbl1 hb1 s0 s1 s2 s3 s4 HF1
  go_wp2_with fail
  refine (HF2.out w1).mono ?_
  rintro r w2 ⟨b2, rfl, v2, D2, e2, hd2, ⟨he2, he2'⟩, hv2, hb2, hbl2⟩
  have u2 := keep_cell' hbl2 t2
  have u3 := keep_cell' hbl2 t3
  have u4 := keep_cell' hbl2 t4
  have HB2 : Hid (Below w.heap.size w w2) := HB1.out.trans (hbl2.mono HB1.out.size)
  have HD12 : Hid (DecAt w2 b1 v1 D1 e1) := HD1.out.below hbl2
  have HD2 := hid hd2
  have HV2 := hid hv2
  clear hd2 hv2 hbl2 hb2 t0 t2 t3 t4 HF2 HD1
  go_wp2_with fail
  refine (HF3.out w2).mono ?_
  rintro r w3 ⟨b3, rfl, v3, D3, e3, hd3, ⟨he3, he3'⟩, hv3, hb3, hbl3⟩
  have x4 := keep_cell' hbl3 u4
  have HB3 : Hid (Below w.heap.size w w3) := HB2.out.trans (hbl3.mono HB2.out.size)
  have HD13 : Hid (DecAt w3 b1 v1 D1 e1) := HD12.out.below hbl3
  have HD23 : Hid (DecAt w3 b2 v2 D2 e2) := HD2.out.below hbl3
  have HD3 := hid hd3
  have HV3 := hid hv3
  clear hd3 hv3 hbl3 hb3 u2 u3 u4 HF3 HD12 HD2
  go_wp2_with fail
  obtain ⟨W4, hW4⟩ : ∃ W4, W4 = w3.alloc (.cells #[.pointer (some ⟨b2, 0, none⟩), .pointer (some ⟨b3, 0, none⟩), .bool cl] 152) := ⟨_, rfl⟩
  have hb4 : Below w3.heap.size w3 W4 := by rw [hW4]; exact (Below.refl _ _).alloc (Nat.le_refl _) _
  have y0 : W4.cell? ⟨w3.heap.size, 0, none⟩ = some (.pointer (some ⟨b2, 0, none⟩)) := by rw [hW4]; simp [go_sem]
  have y1 : W4.cell? ⟨w3.heap.size, 1, none⟩ = some (.pointer (some ⟨b3, 0, none⟩)) := by rw [hW4]; simp [go_sem]
  have y2 : W4.cell? ⟨w3.heap.size, 2, none⟩ = some (.bool cl) := by rw [hW4]; simp [go_sem]
  rw [← hW4]
  have HB4 : Hid (Below w.heap.size w W4) := HB3.out.trans (hb4.mono HB3.out.size)
  have HE1 : Hid (DecAt W4 b1 v1 D1 e1) := HD13.out.below hb4
  have HE2 : Hid (DecAt W4 b2 v2 D2 e2) := HD23.out.below hb4
  have HE3 : Hid (DecAt W4 b3 v3 D3 e3) := HD3.out.below hb4
  clear hW4 hb4 x4 HD13 HD23 HD3
  refine (lastPower_any b1 v1 D1 e1 W4 HE1.out).mono ?_
  rintro r w5 ⟨rfl, rfl⟩
  obtain ⟨T, hT⟩ : ∃ T : Int, T = e1 + D1.length - 1 := ⟨_, rfl⟩
  have HV3 : Hid (val 3000 D3 e3 = two 3000 pw * hi) := HV3.out 3000 (by omega)
  have HV2 : Hid (val 3000 D2 e2 = two 3000 pw * lo) := HV2.out 3000 (by omega)
  have HV1 : Hid (val 3000 D1 e1 = two 3000 pw * nu) := HV1.out 3000 (by omega)
  have htop := small_top HE1.out.head HE1.out.pos (by omega) HV1.out (by have := HLT.out; omega) hp1 hp2
  have hT1 : e1 ≤ T := by have := HE1.out.pos; omega
  have hT2 : T ≤ 400 := by omega
  have HFP : Hid (Calls Tryz.prog 96 #[.pointer (some ⟨b1, 0, none⟩)] w5 fun r w' => r = .returned (.int .i64 T) ∧ Still w5 w') := by
    unfold Hid; rw [hT]; exact firstPower_any b1 v1 D1 e1 w5 HE1.out
  have HT := hid (And.intro hT htop)
  have HSELF : Hid (holdB cl (two 3000 pw * nu) (two 3000 pw * lo) (two 3000 pw * hi) = true) := hold_mid cl _ _ _ _ (two_pos _ _) HLT.out.1 HLT.out.2.1
  clear hT htop
  go_wp2_with fail
  refine HFP.out.mono ?_
  rintro r w6 ⟨rfl, hs6⟩
  have z0 := (hs6.cell _).trans y0
  have z1 := (hs6.cell _).trans y1
  have z2 := (hs6.cell _).trans y2
  have HB6 : Hid (Below w.heap.size w w6) := HB4.out.trans (hs6.below _)
  have HG1 : Hid (DecAt w6 b1 v1 D1 e1) := HE1.out.below (hs6.below _)
  have HG2 : Hid (DecAt w6 b2 v2 D2 e2) := HE2.out.below (hs6.below _)
  have HG3 : Hid (DecAt w6 b3 v3 D3 e3) := HE3.out.below (hs6.below _)
  clear hs6 y0 y1 y2 HE1 HE2 HE3 HFP HB4 HB3 HB2 HB1
  go_wp2
  go_loopw [8] (fun pp wr => ∃ q : Int, pp = .int .i64 q ∧ e1 ≤ q ∧ q ≤ T ∧ NoTo lo nu hi pw cl T q ∧ Below w6.heap.size w6 wr) (fun pp _ => (intOf pp - e1).toNat)
  case atStart => exact ⟨T, rfl, hT1, Int.le_refl _, fun q' a b => by omega, Below.refl _ _⟩
  case round =>
    obtain ⟨q, rfl, hq1, hq2, hno, hbw⟩ := hrel
    have HNO := hid hno
    have HBW := hid hbw
    have HBF : Hid (Below w.heap.size w wr) := HB6.out.trans (hbw.mono HB6.out.size)
    have c0 := keep_cell' hbw z0
    have c1 := keep_cell' hbw z1
    have c2 := keep_cell' hbw z2
    clear hno hbw z0 z1 z2
    by_cases hgt : e1 < q
    · have HNE := hid (nearest_any b2 b3 b1 v2 v3 v1 D2 D3 D1 e2 e3 e1 q cl wr (HG2.out.below HBW.out) (HG3.out.below HBW.out) (HG1.out.below HBW.out) (by omega) (by have := HT.out.2; omega) hq1 (by have := HT.out.1; omega))
      go_wp2_with fail
      refine HNE.out.mono ?_
      rintro r w7 (⟨md, hfirst, b, rfl, v', D', e', hdec, hnorm, hpe, hval, hbb, hb7⟩ | ⟨hnone, rfl, hb7⟩)
      · have HP : Hid (WithPost w w7 (.returned (.pointer (some ⟨b, 0, none⟩))) lo nu hi pw cl) := by
          refine ⟨b, rfl, v', D', e', hdec, hnorm, by omega, ⟨D1, e1, q, HG1.out.digs, HG1.out.head, HG1.out.pos, he1, HV1.out, by have := HT.out.1; omega, ?_, fun q' a c => HNO.out q' a (by have := HT.out.1; omega)⟩, HBF.out.trans (hb7.mono HBF.out.size)⟩
          rw [hval 3000 (by omega)]
          exact near_yes HV1.out HV2.out HV3.out (by omega) (by omega) (by omega) (by omega) HSELF.out hfirst
        clear hfirst hdec hnorm hpe hval hbb hb7 HNE
        go_wp2
        go_ret
        exact HP.out
      · have HN2 : Hid (NoTo lo nu hi pw cl T (q - 1)) := fun q' a c => by
          rcases (by omega : q' = q ∨ q < q') with g | g
          · rw [g]; exact near_no HV1.out HV2.out HV3.out (by omega) (by omega) (by omega) (by omega) HSELF.out hnone
          · exact HNO.out q' g c
        have HB7 : Hid (Below w6.heap.size w6 w7) := HBW.out.trans (hb7.mono HBW.out.size)
        clear hnone hb7 HNE
        go_wp2
        go_roundw
        case rel => exact ⟨q - 1, by go_num, by omega, by omega, HN2.out, HB7.out⟩
        case measure => simp [intOf]; omega
    · have hqe : q = e1 := by omega
      have HP : Hid (WithPost w wr (.returned (.pointer (some ⟨b1, 0, none⟩))) lo nu hi pw cl) := by
        have hd := HG1.out.below HBW.out
        have hno' : ∀ q', e1 < q' → q' ≤ e1 + D1.length - 1 → StepNo (fun X => holdB cl X (two 3000 pw * lo) (two 3000 pw * hi) = true) (two 3000 pw * nu) (10 ^ (q' + (3000 : Nat)).toNat) := fun q' a c => HNO.out q' (by omega) (by have := HT.out.1; omega)
        refine ⟨b1, rfl, v1, D1, e1, hd, ?_, (by have := HT.out.2; omega), ⟨D1, e1, e1, hd.digs, hd.head, hd.pos, he1, HV1.out, by have := HT.out.1; omega, ?_, hno'⟩, HBF.out⟩
        · refine exact_norm (e := e1) hd.digs hd.head hd.pos (by omega) (fun hl => ?_)
          rw [HV1.out]; exact (hno' (e1 + 1) (by omega) (by omega)).1
        · rw [HV1.out]
          refine .inl ⟨?_, rfl⟩
          rw [← HV1.out]; unfold val; exact Nat.mul_mod_left _ _
      clear hqe
      go_wp2
      go_ret
      exact HP.out
end Go.Proofs.YtbkdaoicnobllabGreatDoor
