import Derived.Test.YtbkdaoicnobllabGreatDoorG11
import Derived.Test.YtbkdaoicnobllabGreatDoorG08
import Derived.Test.YtbkdaoicnobllabGreatDoorG10

namespace Go.Proofs.YtbkdaoicnobllabGreatDoor
set_option maxRecDepth 100000
set_option maxHeartbeats 1000000
open Go.RowKit

def nbV (D : List Nat) (e p : Int) (md : Int) (K : Nat) : Nat := rndN (awayB md false) (val K D e) (10 ^ (p + K).toNat) * 10 ^ (p + K).toNat
def FirstOf (hold : Nat → Bool) (D : List Nat) (e p md : Int) : Prop :=
 (md = 0 ∧ hold (nbV D e p 0 20000) = true) ∨ (md = 3 ∧ hold (nbV D e p 0 20000) = false ∧ hold (nbV D e p 3 20000) = true) ∨ (md = 2 ∧ hold (nbV D e p 0 20000) = false ∧ hold (nbV D e p 3 20000) = false ∧ hold (nbV D e p 2 20000) = true)
def NoneOf (hold : Nat → Bool) (D : List Nat) (e p : Int) : Prop := hold (nbV D e p 0 20000) = false ∧ hold (nbV D e p 3 20000) = false ∧ hold (nbV D e p 2 20000) = false
def TriedTo (hold : Nat → Bool) (D : List Nat) (e p : Int) (k : Nat) : Prop := (0 < k → hold (nbV D e p 0 20000) = false) ∧ (1 < k → hold (nbV D e p 3 20000) = false) ∧ (2 < k → hold (nbV D e p 2 20000) = false)
def NearPost (w w' : World) (r : Ending) (hold : Nat → Bool) (D : List Nat) (e p : Int) : Prop :=
 (∃ md : Int, FirstOf hold D e p md ∧ ∃ b : Nat, r = .returned (.tuple #[.pointer (some ⟨b, 0, none⟩), .bool true]) ∧ ∃ (v : Value) (D' : List Nat) (e' : Int), DecAt w' b v D' e' ∧ Norm D' ∧ (p ≤ e' ∧ e' + (D'.length : Int) ≤ 401) ∧ (∀ K : Nat, 2000 ≤ K → val K D' e' = nbV D e p md K) ∧ w.heap.size ≤ b ∧ Below w.heap.size w w') ∨
 (NoneOf hold D e p ∧ r = .returned (.tuple #[.pointer none, .bool false]) ∧ Below w.heap.size w w')
theorem index_arr (W : World) (i : Int) (x : Value) (h0 : 0 ≤ i ∧ i < (3 : Nat)) (hx : (#[.int .i64 0, .int .i64 3, .int .i64 2] : Array Value)[i.toNat]? = some x) : (Instr.index 166 (.agg #[.int .i64 0, .int .i64 3, .int .i64 2]) (.int .i64 i)).run Tryz.prog W = .ok x W := by
 simp [Instr.index, run_underlying Tryz.underlying166, asIntOf, go_sem]
 rw [if_pos (by omega), show ([.int .i64 0, .int .i64 3, .int .i64 2] : List Value)[i.toNat]? = some x from by simpa using hx]
 rfl
theorem nearest_any (l h b : Nat) (vl vh v : Value) (L H D : List Nat) (el eh e p : Int) (cl : Bool) (w : World) (hl : DecAt w l vl L el) (hh : DecAt w h vh H eh) (hd : DecAt w b v D e) (he : -2000 ≤ e) (ht : e + D.length ≤ 400) (hp1 : e ≤ p) (hp2 : p ≤ e + D.length - 1) :
  Calls Tryz.prog 121 #[.agg #[.pointer (some ⟨l, 0, none⟩), .pointer (some ⟨h, 0, none⟩), .bool cl], .pointer (some ⟨b, 0, none⟩), .int .i64 p] w fun r w' => NearPost w w' r (fun X => holdB cl X (val 20000 L el) (val 20000 H eh)) D e p := by
 have HNB : Hid (∀ (md : Int) (w1 : World), Below w.heap.size w w1 → Calls Tryz.prog 136 #[.pointer (some ⟨b, 0, none⟩), .int .i64 p, .int .i64 md] w1 fun r w' => NeighPost w1 w' r p (nbV D e p md)) := fun md w1 hb => neighbour_any b v D e p md w1 (hd.below hb) he ht hp1 hp2
 have HHO : Hid (∀ (d : Nat) (vd : Value) (Dd : List Nat) (ed : Int) (w1 : World), Below w.heap.size w w1 → DecAt w1 d vd Dd ed → Calls Tryz.prog 137 #[.agg #[.pointer (some ⟨l, 0, none⟩), .pointer (some ⟨h, 0, none⟩), .bool cl], .pointer (some ⟨d, 0, none⟩)] w1 fun r w' => r = .returned (.bool (holdB cl (val 20000 Dd ed) (val 20000 L el) (val 20000 H eh))) ∧ Below w1.heap.size w1 w') := fun d vd Dd ed w1 hb hx => hold_any l h d vl vh vd L H Dd el eh ed cl w1 (hl.below hb) (hh.below hb) hx
 obtain ⟨hold, hho⟩ : ∃ hold : Nat → Bool, hold = fun X => holdB cl X (val 20000 L el) (val 20000 H eh) := ⟨_, rfl⟩
 rw [← hho]
 have HHE := hid hho
 clear hl hh hd he ht hp1 hp2 hho
 have ix0 := fun W => index_arr W 0 (.int .i64 0) (by omega) rfl
 have ix1 := fun W => index_arr W 1 (.int .i64 3) (by omega) rfl
 have ix2 := fun W => index_arr W 2 (.int .i64 2) (by omega) rfl
 go_enter Tryz.func121, Tryz.ntmps121
 go_wp2_with fail
 obtain ⟨W, hW⟩ : ∃ W, W = w.alloc (.cells #[.pointer (some ⟨l, 0, none⟩), .pointer (some ⟨h, 0, none⟩), .bool cl] 152) := ⟨_, rfl⟩
 have hbx : Below w.heap.size w W := by rw [hW]; exact (Below.refl _ _).alloc (Nat.le_refl _) _
 have s0 : W.cell? ⟨w.heap.size, 0, none⟩ = some (.pointer (some ⟨l, 0, none⟩)) := by rw [hW]; simp [go_sem]
 have s1 : W.cell? ⟨w.heap.size, 1, none⟩ = some (.pointer (some ⟨h, 0, none⟩)) := by rw [hW]; simp [go_sem]
 have s2 : W.cell? ⟨w.heap.size, 2, none⟩ = some (.bool cl) := by rw [hW]; simp [go_sem]
 rw [← hW]
 have HBX := hid hbx
 clear hW hbx
 go_loopw [12] (fun ii wr => ∃ k : Nat, ii = .int .i64 k ∧ k ≤ 3 ∧ TriedTo hold D e p k ∧ Below W.heap.size W wr) (fun ii _ => 3 - (intOf ii).toNat)
 case atStart => exact ⟨0, rfl, by omega, ⟨fun h => by omega, fun h => by omega, fun h => by omega⟩, Below.refl _ _⟩
 case round =>
  obtain ⟨k, rfl, hk, htr, hbw⟩ := hrel
  have c0 := keep_cell' hbw s0
  have c1 := keep_cell' hbw s1
  have c2 := keep_cell' hbw s2
  have HT := hid htr
  have HB : Hid (Below W.heap.size W wr) := hbw
  have HBW : Hid (Below w.heap.size w wr) := HBX.out.trans (hbw.mono HBX.out.size)
  clear htr hbw s0 s1 s2
  rcases (by omega : k = 0 ∨ k = 1 ∨ k = 2 ∨ k = 3) with rfl | rfl | rfl | rfl
  ·go_wp2_with fail
   refine (HNB.out 0 wr HBW.out).mono ?_
   rintro r w1 ⟨d, rfl, vd, Dd, ed, hdec, hnorm, hpe, hval, hbd, hb1⟩
   have HB1 : Hid (Below w.heap.size w w1) := HBW.out.trans (hb1.mono HBW.out.size)
   have d0 := keep_cell' hb1 c0
   have d1 := keep_cell' hb1 c1
   have d2 := keep_cell' hb1 c2
   obtain ⟨t, ht⟩ : ∃ t, t = hold (nbV D e p 0 20000) := ⟨_, rfl⟩
   have HHX : Hid (Calls Tryz.prog 137 #[.agg #[.pointer (some ⟨l, 0, none⟩), .pointer (some ⟨h, 0, none⟩), .bool cl], .pointer (some ⟨d, 0, none⟩)] w1 fun r w' => r = .returned (.bool t) ∧ Below w1.heap.size w1 w') := by
    have := HHO.out d vd Dd ed w1 HB1.out hdec
    rw [hval 20000 (by omega)] at this
    rw [ht, HHE.out]; exact this
   have HX := hid (And.intro hdec (And.intro hnorm (And.intro hpe (And.intro hval hbd))))
   have HBK : Hid (Below W.heap.size W w1) := HB.out.trans (hb1.mono HB.out.size)
   have HSZ := hid HBW.out.size
   clear hdec hnorm hpe hval hbd hb1 c0 c1 c2
   cases t
   ·have HN : Hid (TriedTo hold D e p 1) := by
     have q := HT.out
     unfold Hid
     refine ⟨fun h => ?_, fun h => ?_, fun h => ?_⟩
     ·exact ht.symm
     ·omega
     ·omega
    clear ht
    go_wp2_with fail
    refine HHX.out.mono ?_
    rintro r w2 ⟨rfl, hb2⟩
    have HB2 : Hid (Below W.heap.size W w2) := HBK.out.trans (hb2.mono HBK.out.size)
    clear hb2
    go_wp2
    go_roundw
    case rel => exact ⟨1, by go_num, by omega, HN.out, HB2.out⟩
    case measure => simp [intOf]
   ·have HF : Hid (FirstOf hold D e p 0) := by
     have q := HT.out
     unfold Hid FirstOf
     exact .inl ⟨rfl, ht.symm⟩
    clear ht
    go_wp2_with fail
    refine HHX.out.mono ?_
    rintro r w2 ⟨rfl, hb2⟩
    have HP : Hid (NearPost w w2 (.returned (.tuple #[.pointer (some ⟨d, 0, none⟩), .bool true])) hold D e p) :=
     .inl ⟨0, HF.out, d, rfl, vd, Dd, ed, HX.out.1.below hb2, HX.out.2.1, HX.out.2.2.1, HX.out.2.2.2.1, by have := HX.out.2.2.2.2; have := HSZ.out; omega, HB1.out.trans (hb2.mono HB1.out.size)⟩
    clear hb2
    go_wp2
    go_ret2
    exact HP.out
  ·go_wp2_with fail
   refine (HNB.out 3 wr HBW.out).mono ?_
   rintro r w1 ⟨d, rfl, vd, Dd, ed, hdec, hnorm, hpe, hval, hbd, hb1⟩
   have HB1 : Hid (Below w.heap.size w w1) := HBW.out.trans (hb1.mono HBW.out.size)
   have d0 := keep_cell' hb1 c0
   have d1 := keep_cell' hb1 c1
   have d2 := keep_cell' hb1 c2
   obtain ⟨t, ht⟩ : ∃ t, t = hold (nbV D e p 3 20000) := ⟨_, rfl⟩
   have HHX : Hid (Calls Tryz.prog 137 #[.agg #[.pointer (some ⟨l, 0, none⟩), .pointer (some ⟨h, 0, none⟩), .bool cl], .pointer (some ⟨d, 0, none⟩)] w1 fun r w' => r = .returned (.bool t) ∧ Below w1.heap.size w1 w') := by
    have := HHO.out d vd Dd ed w1 HB1.out hdec
    rw [hval 20000 (by omega)] at this
    rw [ht, HHE.out]; exact this
   have HX := hid (And.intro hdec (And.intro hnorm (And.intro hpe (And.intro hval hbd))))
   have HBK : Hid (Below W.heap.size W w1) := HB.out.trans (hb1.mono HB.out.size)
   have HSZ := hid HBW.out.size
   clear hdec hnorm hpe hval hbd hb1 c0 c1 c2
   cases t
   ·have HN : Hid (TriedTo hold D e p 2) := by
     have q := HT.out
     unfold Hid
     refine ⟨fun h => ?_, fun h => ?_, fun h => ?_⟩
     ·exact q.1 (by omega)
     ·exact ht.symm
     ·omega
    clear ht
    go_wp2_with fail
    refine HHX.out.mono ?_
    rintro r w2 ⟨rfl, hb2⟩
    have HB2 : Hid (Below W.heap.size W w2) := HBK.out.trans (hb2.mono HBK.out.size)
    clear hb2
    go_wp2
    go_roundw
    case rel => exact ⟨2, by go_num, by omega, HN.out, HB2.out⟩
    case measure => simp [intOf]
   ·have HF : Hid (FirstOf hold D e p 3) := by
     have q := HT.out
     unfold Hid FirstOf
     exact .inr (.inl ⟨rfl, q.1 (by omega), ht.symm⟩)
    clear ht
    go_wp2_with fail
    refine HHX.out.mono ?_
    rintro r w2 ⟨rfl, hb2⟩
    have HP : Hid (NearPost w w2 (.returned (.tuple #[.pointer (some ⟨d, 0, none⟩), .bool true])) hold D e p) :=
     .inl ⟨3, HF.out, d, rfl, vd, Dd, ed, HX.out.1.below hb2, HX.out.2.1, HX.out.2.2.1, HX.out.2.2.2.1, by have := HX.out.2.2.2.2; have := HSZ.out; omega, HB1.out.trans (hb2.mono HB1.out.size)⟩
    clear hb2
    go_wp2
    go_ret2
    exact HP.out
  ·go_wp2_with fail
   refine (HNB.out 2 wr HBW.out).mono ?_
   rintro r w1 ⟨d, rfl, vd, Dd, ed, hdec, hnorm, hpe, hval, hbd, hb1⟩
   have HB1 : Hid (Below w.heap.size w w1) := HBW.out.trans (hb1.mono HBW.out.size)
   have d0 := keep_cell' hb1 c0
   have d1 := keep_cell' hb1 c1
   have d2 := keep_cell' hb1 c2
   obtain ⟨t, ht⟩ : ∃ t, t = hold (nbV D e p 2 20000) := ⟨_, rfl⟩
   have HHX : Hid (Calls Tryz.prog 137 #[.agg #[.pointer (some ⟨l, 0, none⟩), .pointer (some ⟨h, 0, none⟩), .bool cl], .pointer (some ⟨d, 0, none⟩)] w1 fun r w' => r = .returned (.bool t) ∧ Below w1.heap.size w1 w') := by
    have := HHO.out d vd Dd ed w1 HB1.out hdec
    rw [hval 20000 (by omega)] at this
    rw [ht, HHE.out]; exact this
   have HX := hid (And.intro hdec (And.intro hnorm (And.intro hpe (And.intro hval hbd))))
   have HBK : Hid (Below W.heap.size W w1) := HB.out.trans (hb1.mono HB.out.size)
   have HSZ := hid HBW.out.size
   clear hdec hnorm hpe hval hbd hb1 c0 c1 c2
   cases t
   ·have HN : Hid (TriedTo hold D e p 3) := by
     have q := HT.out
     unfold Hid
     refine ⟨fun h => ?_, fun h => ?_, fun h => ?_⟩
     ·exact q.1 (by omega)
     ·exact q.2.1 (by omega)
     ·exact ht.symm
    clear ht
    go_wp2_with fail
    refine HHX.out.mono ?_
    rintro r w2 ⟨rfl, hb2⟩
    have HB2 : Hid (Below W.heap.size W w2) := HBK.out.trans (hb2.mono HBK.out.size)
    clear hb2
    go_wp2
    go_roundw
    case rel => exact ⟨3, by go_num, by omega, HN.out, HB2.out⟩
    case measure => simp [intOf]
   ·have HF : Hid (FirstOf hold D e p 2) := by
     have q := HT.out
     unfold Hid FirstOf
     exact .inr (.inr ⟨rfl, q.1 (by omega), q.2.1 (by omega), ht.symm⟩)
    clear ht
    go_wp2_with fail
    refine HHX.out.mono ?_
    rintro r w2 ⟨rfl, hb2⟩
    have HP : Hid (NearPost w w2 (.returned (.tuple #[.pointer (some ⟨d, 0, none⟩), .bool true])) hold D e p) :=
     .inl ⟨2, HF.out, d, rfl, vd, Dd, ed, HX.out.1.below hb2, HX.out.2.1, HX.out.2.2.1, HX.out.2.2.2.1, by have := HX.out.2.2.2.2; have := HSZ.out; omega, HB1.out.trans (hb2.mono HB1.out.size)⟩
    clear hb2
    go_wp2
    go_ret2
    exact HP.out
  ·have HP : Hid (NearPost w wr (.returned (.tuple #[.pointer none, .bool false])) hold D e p) := .inr ⟨⟨HT.out.1 (by omega), HT.out.2.1 (by omega), HT.out.2.2 (by omega)⟩, rfl, HBW.out⟩
   go_wp2
   go_ret2
   exact HP.out
end Go.Proofs.YtbkdaoicnobllabGreatDoor

namespace Go.Proofs.YtbkdaoicnobllabGreatDoor
open Go.RowKit

def StepYes (H : Nat → Prop) (V P X : Nat) : Prop :=
 (V % P = 0 ∧ X = V) ∨ (V % P ≠ 0 ∧ ((H (V / P * P) ∧ H (V / P * P + P) ∧ X = rndN (awayB 0 false) V P * P) ∨ (H (V / P * P) ∧ ¬ H (V / P * P + P) ∧ X = V / P * P) ∨ (¬ H (V / P * P) ∧ H (V / P * P + P) ∧ X = V / P * P + P)))
def StepNo (H : Nat → Prop) (V P : Nat) : Prop := V % P ≠ 0 ∧ ¬ H (V / P * P) ∧ ¬ H (V / P * P + P)
theorem StepYes.same {H : Nat → Prop} {V P X X' : Nat} (h : StepYes H V P X) (h' : StepYes H V P X') : X = X' := by
 rcases h with ⟨a, b⟩ | ⟨a, b⟩
 ·rcases h' with ⟨a', b'⟩ | ⟨a', b'⟩
  ·rw [b, b']
  ·exact absurd a a'
 ·rcases h' with ⟨a', b'⟩ | ⟨a', b'⟩
  ·exact absurd a' a
  ·rcases b with ⟨c, d, e⟩ | ⟨c, d, e⟩ | ⟨c, d, e⟩
   ·rcases b' with ⟨c', d', e'⟩ | ⟨c', d', e'⟩ | ⟨c', d', e'⟩
    ·rw [e, e']
    ·exact absurd d d'
    ·exact absurd c c'
   ·rcases b' with ⟨c', d', e'⟩ | ⟨c', d', e'⟩ | ⟨c', d', e'⟩
    ·exact absurd d' d
    ·rw [e, e']
    ·exact absurd c c'
   ·rcases b' with ⟨c', d', e'⟩ | ⟨c', d', e'⟩ | ⟨c', d', e'⟩
    ·exact absurd c' c
    ·exact absurd c' c
    ·rw [e, e']
theorem StepYes.not {H : Nat → Prop} {V P X : Nat} (h : StepYes H V P X) : ¬ StepNo H V P := by
 rintro ⟨n0, n1, n2⟩
 rcases h with ⟨a, b⟩ | ⟨a, b⟩
 ·exact n0 a
 ·rcases b with ⟨c, d, e⟩ | ⟨c, d, e⟩ | ⟨c, d, e⟩
  ·exact n1 c
  ·exact n1 c
  ·exact n2 d
theorem left_zero (V P : Nat) : leftN V P = 0 ↔ V % P = 0 := by
 unfold leftN
 constructor
 ·intro h; split at h
  ·assumption
  ·split at h
   ·omega
   ·split at h <;> omega
 ·intro h; rw [if_pos h]
theorem rnd_cut (V P : Nat) : rndN (awayB 2 false) V P = V / P := by
 unfold rndN; rw [if_neg]; rintro ⟨_, h⟩; rw [show awayB 2 false (leftN V P) (V / P % 2 == 1) = false from rfl] at h; cases h
theorem rnd_up (V P : Nat) (h : V % P ≠ 0) : rndN (awayB 3 false) V P = V / P + 1 := by
 unfold rndN; rw [if_pos]
 exact ⟨fun h0 => h ((left_zero V P).1 h0), rfl⟩
theorem rnd_exact (aw : Int → Bool → Bool) (V P : Nat) (h : V % P = 0) : rndN aw V P * P = V := by
 unfold rndN
 rw [if_neg (fun hh => hh.1 ((left_zero V P).2 h))]
 have := Nat.div_add_mod V P
 rw [h, Nat.add_zero, Nat.mul_comm] at this; exact this
theorem rnd_either (aw : Int → Bool → Bool) (V P : Nat) : rndN aw V P * P = V / P * P ∨ rndN aw V P * P = V / P * P + P := by
 unfold rndN; split
 ·right; rw [Nat.add_mul, Nat.one_mul]
 ·left; rfl
theorem step_even {H : Nat → Prop} {V P : Nat} (h : H (rndN (awayB 0 false) V P * P)) : StepYes H V P (rndN (awayB 0 false) V P * P) := by
 by_cases h0 : V % P = 0
 ·exact .inl ⟨h0, rnd_exact _ V P h0⟩
 ·right; refine ⟨h0, ?_⟩
  rcases rnd_either (awayB 0 false) V P with e | e
  ·by_cases h1 : H (V / P * P + P)
   ·exact .inl ⟨by rw [e] at h; exact h, h1, rfl⟩
   ·exact .inr (.inl ⟨by rw [e] at h; exact h, h1, e⟩)
  ·by_cases h1 : H (V / P * P)
   ·exact .inl ⟨h1, by rw [e] at h; exact h, rfl⟩
   ·exact .inr (.inr ⟨h1, by rw [e] at h; exact h, e⟩)
theorem step_up {H : Nat → Prop} {V P : Nat} (hV : H V) (h0 : ¬ H (rndN (awayB 0 false) V P * P)) (h : H (rndN (awayB 3 false) V P * P)) : StepYes H V P (rndN (awayB 3 false) V P * P) := by
 have hm : V % P ≠ 0 := fun hm => h0 (by rw [rnd_exact _ V P hm]; exact hV)
 have hu : rndN (awayB 3 false) V P * P = V / P * P + P := by rw [rnd_up V P hm, Nat.add_mul, Nat.one_mul]
 rw [hu] at h ⊢
 rcases rnd_either (awayB 0 false) V P with e | e
 ·exact .inr ⟨hm, .inr (.inr ⟨by rw [e] at h0; exact h0, h, rfl⟩)⟩
 ·rw [e] at h0; exact absurd h h0
theorem step_cut {H : Nat → Prop} {V P : Nat} (hV : H V) (h0 : ¬ H (rndN (awayB 0 false) V P * P)) (h1 : ¬ H (rndN (awayB 3 false) V P * P)) (h : H (rndN (awayB 2 false) V P * P)) : StepYes H V P (rndN (awayB 2 false) V P * P) := by
 have hm : V % P ≠ 0 := fun hm => h0 (by rw [rnd_exact _ V P hm]; exact hV)
 have hu : rndN (awayB 3 false) V P * P = V / P * P + P := by rw [rnd_up V P hm, Nat.add_mul, Nat.one_mul]
 rw [hu] at h1
 rw [rnd_cut] at h ⊢
 exact .inr ⟨hm, .inr (.inl ⟨h, h1, rfl⟩)⟩
theorem step_none {H : Nat → Prop} {V P : Nat} (hV : H V) (h0 : ¬ H (rndN (awayB 0 false) V P * P)) (h1 : ¬ H (rndN (awayB 3 false) V P * P)) (h : ¬ H (rndN (awayB 2 false) V P * P)) : StepNo H V P := by
 have hm : V % P ≠ 0 := fun hm => h0 (by rw [rnd_exact _ V P hm]; exact hV)
 have hu : rndN (awayB 3 false) V P * P = V / P * P + P := by rw [rnd_up V P hm, Nat.add_mul, Nat.one_mul]
 rw [hu] at h1
 rw [rnd_cut] at h
 exact ⟨hm, h, h1⟩
theorem hold_self (K : Nat) (f : Int) (a : Nat) (hK : 1100 ≤ K) (ha : 0 < a) : Hold K f a (valA K f a) := by
 have m1 := valA_lt K f (a - 1) hK
 rw [show a - 1 + 1 = a from by omega] at m1
 have m2 := valA_lt K f a hK
 rw [Hold.iff]
 by_cases h : a % 2 = 0
 ·exact .inl ⟨h, by omega, by omega⟩
 ·exact .inr ⟨h, by omega, by omega⟩
structure ShortAt (f : Int) (a : Nat) (D : List Nat) (e p : Int) (X : Nat) : Prop where
 digs : Digs D
 headed : Headed D
 pos : 0 < D.length
 lo : -(3000 : Int) ≤ e
 val : val 3000 D e = valA 3000 f a
 le : p ≤ e + D.length - 1
 yes : StepYes (Hold 3000 f a) (valA 3000 f a) (10 ^ (p + (3000 : Nat)).toNat) X
 no : ∀ q, p < q → q ≤ e + D.length - 1 → StepNo (Hold 3000 f a) (valA 3000 f a) (10 ^ (q + (3000 : Nat)).toNat)
theorem ShortAt.same {f : Int} {a : Nat} {D D' : List Nat} {e e' p p' : Int} {X X' : Nat} (h : ShortAt f a D e p X) (h' : ShortAt f a D' e' p' X') : X = X' := by
 have ht := top_same (K := 3000) h.digs h'.digs h.headed h'.headed h.pos h'.pos h.lo h'.lo (h.val.trans h'.val.symm)
 rcases Int.lt_trichotomy p p' with hp | hp | hp
 ·exact absurd (h.no p' hp (by have := h'.le; omega)) h'.yes.not
 ·subst hp; exact h.yes.same h'.yes
 ·exact absurd (h'.no p hp (by have := h.le; omega)) h.yes.not
def shortT (pl : Bool) (L : List Nat) (g : Int) : List UInt8 :=
 if pl = true then fixT L g (highN L g) (-(min g 0)).toNat else sciT L g (g + L.length - 1) (L.length - 1) ++ (101 :: Lib.itoa (g + L.length - 1))
def ShortQ (pl : Bool) (f : Int) (a : Nat) (T : List UInt8) : Prop :=
 (a = 0 ∧ T = [48]) ∨ (0 < a ∧ ∃ D e p X L g, ShortAt f a D e p X ∧ Norm L ∧ L ≠ [] ∧ -(3000 : Int) ≤ g ∧ val 3000 L g = X ∧ T = shortT pl L g)
theorem norm_same {L M : List Nat} {g k : Int} (h1 : Norm L) (h2 : Norm M) (l : L ≠ []) (a : -(3000 : Int) ≤ g) (b : -(3000 : Int) ≤ k) (h : val 3000 L g = val 3000 M k) : L = M ∧ g = k := by
 unfold val at h
 obtain ⟨e1, e2⟩ := norm_unique h1 h2 h
 have := e2 l
 exact ⟨e1, by omega⟩
theorem ShortQ.same {pl : Bool} {f : Int} {a : Nat} {T T' : List UInt8} (h : ShortQ pl f a T) (h' : ShortQ pl f a T') : T = T' := by
 rcases h with ⟨h0, rfl⟩ | ⟨h0, D, e, p, X, L, g, h1, h2, h3, h4, h5, rfl⟩
 ·rcases h' with ⟨_, rfl⟩ | ⟨h0', _⟩
  ·rfl
  ·omega
 ·rcases h' with ⟨h0', _⟩ | ⟨_, D', e', p', X', L', g', h1', h2', h3', h4', h5', rfl⟩
  ·omega
  ·obtain ⟨rfl, rfl⟩ := norm_same h2 h2' h3 h4 h4' (h5.trans ((h1.same h1').trans h5'.symm))
   rfl
end Go.Proofs.YtbkdaoicnobllabGreatDoor

namespace Go.Proofs.YtbkdaoicnobllabGreatDoor
set_option maxRecDepth 100000
set_option maxHeartbeats 1000000
open Go.RowKit

theorem hold_scale (cl : Bool) (X L H c : Nat) (hc : 0 < c) : holdB cl (X * c) (L * c) (H * c) = holdB cl X L H := by
 unfold holdB
 simp only [Nat.mul_le_mul_right_iff hc, Nat.mul_lt_mul_right hc]
set_option exponentiation.threshold 20000 in
theorem nbV_scale (D : List Nat) (e p md : Int) (he : -(3000 : Int) ≤ e) (hp : -(3000 : Int) ≤ p) : nbV D e p md 20000 = nbV D e p md 3000 * 10 ^ 17000 := by
 unfold nbV
 have h1 := val_more 3000 17000 D e he
 have h2 := pow_more 3000 17000 p hp
 rw [show (3000 : Nat) + 17000 = 20000 from rfl] at h1 h2
 rw [h1, h2, rndN_mul _ _ _ _ (Nat.pow_pos (by omega)), Nat.mul_assoc]
theorem hold_mid (cl : Bool) (t lo nu hi : Nat) (ht : 0 < t) (h1 : lo < nu) (h2 : nu < hi) : holdB cl (t * nu) (t * lo) (t * hi) = true := by
 have a := Nat.mul_lt_mul_of_pos_left h1 ht
 have b := Nat.mul_lt_mul_of_pos_left h2 ht
 unfold holdB; split <;> simp <;> omega
set_option exponentiation.threshold 20000 in
theorem near_hold {L H D : List Nat} {el eh e p md : Int} {cl : Bool} {lo nu hi : Nat} {pw : Int} (v1 : val 3000 D e = two 3000 pw * nu) (v2 : val 3000 L el = two 3000 pw * lo) (v3 : val 3000 H eh = two 3000 pw * hi) (k1 : -(3000 : Int) ≤ e) (k2 : -(3000 : Int) ≤ el) (k3 : -(3000 : Int) ≤ eh) (k4 : -(3000 : Int) ≤ p) :
  holdB cl (nbV D e p md 20000) (val 20000 L el) (val 20000 H eh) = holdB cl (rndN (awayB md false) (two 3000 pw * nu) (10 ^ (p + (3000 : Nat)).toNat) * 10 ^ (p + (3000 : Nat)).toNat) (two 3000 pw * lo) (two 3000 pw * hi) := by
 have h1 := val_more 3000 17000 L el k2
 have h2 := val_more 3000 17000 H eh k3
 rw [show (3000 : Nat) + 17000 = 20000 from rfl] at h1 h2
 rw [nbV_scale D e p md k1 k4, h1, h2, hold_scale _ _ _ _ _ (Nat.pow_pos (by omega)), v2, v3]
 unfold nbV
 rw [v1]
theorem near_yes {L H D : List Nat} {el eh e p md : Int} {cl : Bool} {lo nu hi : Nat} {pw : Int} (v1 : val 3000 D e = two 3000 pw * nu) (v2 : val 3000 L el = two 3000 pw * lo) (v3 : val 3000 H eh = two 3000 pw * hi) (k1 : -(3000 : Int) ≤ e) (k2 : -(3000 : Int) ≤ el) (k3 : -(3000 : Int) ≤ eh) (k4 : -(3000 : Int) ≤ p)
  (hs : holdB cl (two 3000 pw * nu) (two 3000 pw * lo) (two 3000 pw * hi) = true) (h : FirstOf (fun X => holdB cl X (val 20000 L el) (val 20000 H eh)) D e p md) :
  StepYes (fun X => holdB cl X (two 3000 pw * lo) (two 3000 pw * hi) = true) (two 3000 pw * nu) (10 ^ (p + (3000 : Nat)).toNat) (nbV D e p md 3000) := by
 have nh := fun md => near_hold (md := md) (cl := cl) v1 v2 v3 k1 k2 k3 k4
 have hn : nbV D e p md 3000 = rndN (awayB md false) (two 3000 pw * nu) (10 ^ (p + (3000 : Nat)).toNat) * 10 ^ (p + (3000 : Nat)).toNat := by unfold nbV; rw [v1]
 rw [hn]
 rcases h with ⟨rfl, a⟩ | ⟨rfl, a, b⟩ | ⟨rfl, a, b, c⟩
 ·exact step_even ((nh 0).symm.trans a)
 ·exact step_up hs (fun hh => Bool.noConfusion (((nh 0).symm.trans a).symm.trans hh)) ((nh 3).symm.trans b)
 ·exact step_cut hs (fun hh => Bool.noConfusion (((nh 0).symm.trans a).symm.trans hh)) (fun hh => Bool.noConfusion (((nh 3).symm.trans b).symm.trans hh)) ((nh 2).symm.trans c)
theorem near_no {L H D : List Nat} {el eh e p : Int} {cl : Bool} {lo nu hi : Nat} {pw : Int} (v1 : val 3000 D e = two 3000 pw * nu) (v2 : val 3000 L el = two 3000 pw * lo) (v3 : val 3000 H eh = two 3000 pw * hi) (k1 : -(3000 : Int) ≤ e) (k2 : -(3000 : Int) ≤ el) (k3 : -(3000 : Int) ≤ eh) (k4 : -(3000 : Int) ≤ p)
  (hs : holdB cl (two 3000 pw * nu) (two 3000 pw * lo) (two 3000 pw * hi) = true) (h : NoneOf (fun X => holdB cl X (val 20000 L el) (val 20000 H eh)) D e p) :
  StepNo (fun X => holdB cl X (two 3000 pw * lo) (two 3000 pw * hi) = true) (two 3000 pw * nu) (10 ^ (p + (3000 : Nat)).toNat) := by
 have nh := fun md => near_hold (md := md) (cl := cl) v1 v2 v3 k1 k2 k3 k4
 obtain ⟨a, b, c⟩ := h
 exact step_none hs (fun hh => Bool.noConfusion (((nh 0).symm.trans a).symm.trans hh)) (fun hh => Bool.noConfusion (((nh 3).symm.trans b).symm.trans hh)) (fun hh => Bool.noConfusion (((nh 2).symm.trans c).symm.trans hh))
theorem exact_norm {D : List Nat} {e : Int} (hd : Digs D) (hh : Headed D) (hl : 0 < D.length) (he : -(3000 : Int) ≤ e) (h : 1 < D.length → val 3000 D e % 10 ^ (e + 1 + (3000 : Nat)).toNat ≠ 0) : Norm D := by
 refine ⟨hd, hh, fun hp => ?_⟩
 rcases (by omega : D.length = 1 ∨ 1 < D.length) with g | g
 ·have := hh hp
  simpa [g] using this
 ·intro h0
  apply h g
  have hk := num_digit hd (D.length - 1) (by omega)
  rw [List.getD_eq_getElem?_getD, List.getElem?_eq_getElem (by omega)] at hk
  rw [Nat.sub_self, Nat.pow_zero, Nat.div_one] at hk
  simp only [Option.getD_some] at hk
  rw [h0] at hk
  obtain ⟨x, hx⟩ : ∃ x, num D = 10 * x := ⟨num D / 10, by omega⟩
  unfold val
  rw [hx, show (e + 1 + ((3000 : Nat) : Int)).toNat = (e + (3000 : Nat)).toNat + 1 from by omega, Nat.pow_succ, Nat.mul_comm 10 x, Nat.mul_assoc, Nat.mul_comm 10]
  exact Nat.mul_mod_left _ _
def NoTo (lo nu hi : Nat) (pw : Int) (cl : Bool) (T q : Int) : Prop := ∀ q', q < q' → q' ≤ T → StepNo (fun X => holdB cl X (two 3000 pw * lo) (two 3000 pw * hi) = true) (two 3000 pw * nu) (10 ^ (q' + (3000 : Nat)).toNat)
structure WithAt (lo nu hi : Nat) (pw : Int) (cl : Bool) (D : List Nat) (e p : Int) (X : Nat) : Prop where
 digs : Digs D
 headed : Headed D
 pos : 0 < D.length
 lo' : -1080 ≤ e
 val : val 3000 D e = two 3000 pw * nu
 le : p ≤ e + D.length - 1
 yes : StepYes (fun X => holdB cl X (two 3000 pw * lo) (two 3000 pw * hi) = true) (two 3000 pw * nu) (10 ^ (p + (3000 : Nat)).toNat) X
 no : ∀ q, p < q → q ≤ e + D.length - 1 → StepNo (fun X => holdB cl X (two 3000 pw * lo) (two 3000 pw * hi) = true) (two 3000 pw * nu) (10 ^ (q + (3000 : Nat)).toNat)
def WithPost (w w' : World) (r : Ending) (lo nu hi : Nat) (pw : Int) (cl : Bool) : Prop :=
 ∃ b : Nat, r = .returned (.pointer (some ⟨b, 0, none⟩)) ∧ ∃ (v : Value) (D' : List Nat) (e' : Int), DecAt w' b v D' e' ∧ Norm D' ∧ (-1080 ≤ e' ∧ e' + (D'.length : Int) ≤ 401) ∧ (∃ D e p, WithAt lo nu hi pw cl D e p (Go.Proofs.YtbkdaoicnobllabGreatDoor.val 3000 D' e')) ∧ Below w.heap.size w w'
theorem within_any (lo nu hi : Nat) (LO NU HI pw : Int) (cl : Bool) (w : World) (h1 : LO = (lo : Int)) (h2 : NU = (nu : Int)) (h3 : HI = (hi : Int)) (hl0 : 0 < lo) (hln : lo < nu) (hnh : nu < hi) (hh : hi < 1152921504606846976) (hp1 : -1080 ≤ pw) (hp2 : pw ≤ 1080) :
  Calls Tryz.prog 92 #[.agg #[.int .i64 LO, .int .i64 NU, .int .i64 HI, .int .i64 pw, .bool cl]] w fun r w' => WithPost w w' r lo nu hi pw cl := by
 have HF1 := hid (fun w => fromBinary_any nu pw w (by omega) (by omega) hp1 hp2)
 have HF2 := hid (fun w => fromBinary_any lo pw w (by omega) (by omega) hp1 hp2)
 have HF3 := hid (fun w => fromBinary_any hi pw w (by omega) (by omega) hp1 hp2)
 rw [← h2] at HF1
 rw [← h1] at HF2
 rw [← h3] at HF3
 have HLT := hid (And.intro hln (And.intro hnh (And.intro hl0 hh)))
 clear h1 h2 h3 hl0 hln hnh hh
 go_enter Tryz.func92, Tryz.ntmps92
 go_wp2_with fail
 obtain ⟨W, hW⟩ : ∃ W, W = w.alloc (.cells #[.int .i64 LO, .int .i64 NU, .int .i64 HI, .int .i64 pw, .bool cl] 125) := ⟨_, rfl⟩
 have hbx : Below w.heap.size w W := by rw [hW]; exact (Below.refl _ _).alloc (Nat.le_refl _) _
 have s0 : W.cell? ⟨w.heap.size, 0, none⟩ = some (.int .i64 LO) := by rw [hW]; simp [go_sem]
 have s1 : W.cell? ⟨w.heap.size, 1, none⟩ = some (.int .i64 NU) := by rw [hW]; simp [go_sem]
 have s2 : W.cell? ⟨w.heap.size, 2, none⟩ = some (.int .i64 HI) := by rw [hW]; simp [go_sem]
 have s3 : W.cell? ⟨w.heap.size, 3, none⟩ = some (.int .i64 pw) := by rw [hW]; simp [go_sem]
 have s4 : W.cell? ⟨w.heap.size, 4, none⟩ = some (.bool cl) := by rw [hW]; simp [go_sem]
 have HBX := hid hbx
 rw [← hW]
 clear hW hbx
 refine (HF1.out W).mono ?_
 rintro r w1 ⟨b1, rfl, v1, D1, e1, hd1, ⟨he1, he1'⟩, hv1, hb1, hbl1⟩
 have t0 := keep_cell' hbl1 s0
 have t2 := keep_cell' hbl1 s2
 have t3 := keep_cell' hbl1 s3
 have t4 := keep_cell' hbl1 s4
 have HB1 : Hid (Below w.heap.size w w1) := HBX.out.trans (hbl1.mono HBX.out.size)
 have HD1 := hid hd1
 have HV1 := hid hv1
 clear hd1 hv1 hbl1 hb1 s0 s1 s2 s3 s4 HF1
 go_wp2_with fail
 refine (HF2.out w1).mono ?_
 rintro r w2 ⟨b2, rfl, v2, D2, e2, hd2, ⟨he2, he2'⟩, hv2, hb2, hbl2⟩
 have u2 := keep_cell' hbl2 t2
 have u3 := keep_cell' hbl2 t3
 have u4 := keep_cell' hbl2 t4
 have HB2 : Hid (Below w.heap.size w w2) := HB1.out.trans (hbl2.mono HB1.out.size)
 have HD12 : Hid (DecAt w2 b1 v1 D1 e1) := HD1.out.below hbl2
 have HD2 := hid hd2
 have HV2 := hid hv2
 clear hd2 hv2 hbl2 hb2 t0 t2 t3 t4 HF2 HD1
 go_wp2_with fail
 refine (HF3.out w2).mono ?_
 rintro r w3 ⟨b3, rfl, v3, D3, e3, hd3, ⟨he3, he3'⟩, hv3, hb3, hbl3⟩
 have x4 := keep_cell' hbl3 u4
 have HB3 : Hid (Below w.heap.size w w3) := HB2.out.trans (hbl3.mono HB2.out.size)
 have HD13 : Hid (DecAt w3 b1 v1 D1 e1) := HD12.out.below hbl3
 have HD23 : Hid (DecAt w3 b2 v2 D2 e2) := HD2.out.below hbl3
 have HD3 := hid hd3
 have HV3 := hid hv3
 clear hd3 hv3 hbl3 hb3 u2 u3 u4 HF3 HD12 HD2
 go_wp2_with fail
 obtain ⟨W4, hW4⟩ : ∃ W4, W4 = w3.alloc (.cells #[.pointer (some ⟨b2, 0, none⟩), .pointer (some ⟨b3, 0, none⟩), .bool cl] 152) := ⟨_, rfl⟩
 have hb4 : Below w3.heap.size w3 W4 := by rw [hW4]; exact (Below.refl _ _).alloc (Nat.le_refl _) _
 have y0 : W4.cell? ⟨w3.heap.size, 0, none⟩ = some (.pointer (some ⟨b2, 0, none⟩)) := by rw [hW4]; simp [go_sem]
 have y1 : W4.cell? ⟨w3.heap.size, 1, none⟩ = some (.pointer (some ⟨b3, 0, none⟩)) := by rw [hW4]; simp [go_sem]
 have y2 : W4.cell? ⟨w3.heap.size, 2, none⟩ = some (.bool cl) := by rw [hW4]; simp [go_sem]
 rw [← hW4]
 have HB4 : Hid (Below w.heap.size w W4) := HB3.out.trans (hb4.mono HB3.out.size)
 have HE1 : Hid (DecAt W4 b1 v1 D1 e1) := HD13.out.below hb4
 have HE2 : Hid (DecAt W4 b2 v2 D2 e2) := HD23.out.below hb4
 have HE3 : Hid (DecAt W4 b3 v3 D3 e3) := HD3.out.below hb4
 clear hW4 hb4 x4 HD13 HD23 HD3
 refine (lastPower_any b1 v1 D1 e1 W4 HE1.out).mono ?_
 rintro r w5 ⟨rfl, rfl⟩
 obtain ⟨T, hT⟩ : ∃ T : Int, T = e1 + D1.length - 1 := ⟨_, rfl⟩
 have HV3 : Hid (val 3000 D3 e3 = two 3000 pw * hi) := HV3.out 3000 (by omega)
 have HV2 : Hid (val 3000 D2 e2 = two 3000 pw * lo) := HV2.out 3000 (by omega)
 have HV1 : Hid (val 3000 D1 e1 = two 3000 pw * nu) := HV1.out 3000 (by omega)
 have htop := small_top HE1.out.head HE1.out.pos (by omega) HV1.out (by have := HLT.out; omega) hp1 hp2
 have hT1 : e1 ≤ T := by have := HE1.out.pos; omega
 have hT2 : T ≤ 400 := by omega
 have HFP : Hid (Calls Tryz.prog 96 #[.pointer (some ⟨b1, 0, none⟩)] w5 fun r w' => r = .returned (.int .i64 T) ∧ Still w5 w') := by
  unfold Hid; rw [hT]; exact firstPower_any b1 v1 D1 e1 w5 HE1.out
 have HT := hid (And.intro hT htop)
 have HSELF : Hid (holdB cl (two 3000 pw * nu) (two 3000 pw * lo) (two 3000 pw * hi) = true) := hold_mid cl _ _ _ _ (two_pos _ _) HLT.out.1 HLT.out.2.1
 clear hT htop
 go_wp2_with fail
 refine HFP.out.mono ?_
 rintro r w6 ⟨rfl, hs6⟩
 have z0 := (hs6.cell _).trans y0
 have z1 := (hs6.cell _).trans y1
 have z2 := (hs6.cell _).trans y2
 have HB6 : Hid (Below w.heap.size w w6) := HB4.out.trans (hs6.below _)
 have HG1 : Hid (DecAt w6 b1 v1 D1 e1) := HE1.out.below (hs6.below _)
 have HG2 : Hid (DecAt w6 b2 v2 D2 e2) := HE2.out.below (hs6.below _)
 have HG3 : Hid (DecAt w6 b3 v3 D3 e3) := HE3.out.below (hs6.below _)
 clear hs6 y0 y1 y2 HE1 HE2 HE3 HFP HB4 HB3 HB2 HB1
 go_wp2
 go_loopw [8] (fun pp wr => ∃ q : Int, pp = .int .i64 q ∧ e1 ≤ q ∧ q ≤ T ∧ NoTo lo nu hi pw cl T q ∧ Below w6.heap.size w6 wr) (fun pp _ => (intOf pp - e1).toNat)
 case atStart => exact ⟨T, rfl, hT1, Int.le_refl _, fun q' a b => by omega, Below.refl _ _⟩
 case round =>
  obtain ⟨q, rfl, hq1, hq2, hno, hbw⟩ := hrel
  have HNO := hid hno
  have HBW := hid hbw
  have HBF : Hid (Below w.heap.size w wr) := HB6.out.trans (hbw.mono HB6.out.size)
  have c0 := keep_cell' hbw z0
  have c1 := keep_cell' hbw z1
  have c2 := keep_cell' hbw z2
  clear hno hbw z0 z1 z2
  by_cases hgt : e1 < q
  ·have HNE := hid (nearest_any b2 b3 b1 v2 v3 v1 D2 D3 D1 e2 e3 e1 q cl wr (HG2.out.below HBW.out) (HG3.out.below HBW.out) (HG1.out.below HBW.out) (by omega) (by have := HT.out.2; omega) hq1 (by have := HT.out.1; omega))
   go_wp2_with fail
   refine HNE.out.mono ?_
   rintro r w7 (⟨md, hfirst, b, rfl, v', D', e', hdec, hnorm, hpe, hval, hbb, hb7⟩ | ⟨hnone, rfl, hb7⟩)
   ·have HP : Hid (WithPost w w7 (.returned (.pointer (some ⟨b, 0, none⟩))) lo nu hi pw cl) := by
     refine ⟨b, rfl, v', D', e', hdec, hnorm, by omega, ⟨D1, e1, q, HG1.out.digs, HG1.out.head, HG1.out.pos, he1, HV1.out, by have := HT.out.1; omega, ?_, fun q' a c => HNO.out q' a (by have := HT.out.1; omega)⟩, HBF.out.trans (hb7.mono HBF.out.size)⟩
     rw [hval 3000 (by omega)]
     exact near_yes HV1.out HV2.out HV3.out (by omega) (by omega) (by omega) (by omega) HSELF.out hfirst
    clear hfirst hdec hnorm hpe hval hbb hb7 HNE
    go_wp2
    go_ret
    exact HP.out
   ·have HN2 : Hid (NoTo lo nu hi pw cl T (q - 1)) := fun q' a c => by
     rcases (by omega : q' = q ∨ q < q') with g | g
     ·rw [g]; exact near_no HV1.out HV2.out HV3.out (by omega) (by omega) (by omega) (by omega) HSELF.out hnone
     ·exact HNO.out q' g c
    have HB7 : Hid (Below w6.heap.size w6 w7) := HBW.out.trans (hb7.mono HBW.out.size)
    clear hnone hb7 HNE
    go_wp2
    go_roundw
    case rel => exact ⟨q - 1, by go_num, by omega, by omega, HN2.out, HB7.out⟩
    case measure => simp [intOf]; omega
  ·have hqe : q = e1 := by omega
   have HP : Hid (WithPost w wr (.returned (.pointer (some ⟨b1, 0, none⟩))) lo nu hi pw cl) := by
    have hd := HG1.out.below HBW.out
    have hno' : ∀ q', e1 < q' → q' ≤ e1 + D1.length - 1 → StepNo (fun X => holdB cl X (two 3000 pw * lo) (two 3000 pw * hi) = true) (two 3000 pw * nu) (10 ^ (q' + (3000 : Nat)).toNat) := fun q' a c => HNO.out q' (by omega) (by have := HT.out.1; omega)
    refine ⟨b1, rfl, v1, D1, e1, hd, ?_, (by have := HT.out.2; omega), ⟨D1, e1, e1, hd.digs, hd.head, hd.pos, he1, HV1.out, by have := HT.out.1; omega, ?_, hno'⟩, HBF.out⟩
    ·refine exact_norm (e := e1) hd.digs hd.head hd.pos (by omega) (fun hl => ?_)
     rw [HV1.out]; exact (hno' (e1 + 1) (by omega) (by omega)).1
    ·rw [HV1.out]
     refine .inl ⟨?_, rfl⟩
     rw [← HV1.out]; unfold val; exact Nat.mul_mod_left _ _
   clear hqe
   go_wp2
   go_ret
   exact HP.out
end Go.Proofs.YtbkdaoicnobllabGreatDoor

namespace Go.Proofs.YtbkdaoicnobllabGreatDoor
set_option maxRecDepth 100000
set_option maxHeartbeats 1000000
open Go.RowKit

def SpanPost (w w' : World) (r : Ending) (q a : Nat) (E : Int) : Prop :=
 r = .returned (.agg #[.int .i64 (lowS q a : Nat), .int .i64 (4 * mA q a : Nat), .int .i64 (4 * mA q a + 2 : Nat), .int .i64 (E + (xA q a : Nat) - 2), .bool (decide (a % 2 = 0))]) ∧ Below w.heap.size w w'
theorem span_results {fn : Func} {p : Tmp} (h : fn.results = #[.cell p 125]) (tmps : Array Value) (w : World) (B : Nat) (x0 x1 x2 x3 x4 : Value) (hp : tmps.getD p undef = .pointer (some ⟨B, 0, none⟩))
  (c0 : w.cell? ⟨B, 0, none⟩ = some x0) (c1 : w.cell? ⟨B, 1, none⟩ = some x1) (c2 : w.cell? ⟨B, 2, none⟩ = some x2) (c3 : w.cell? ⟨B, 3, none⟩ = some x3) (c4 : w.cell? ⟨B, 4, none⟩ = some x4) : (results fn tmps).run Tryz.prog w = .ok (.agg #[x0, x1, x2, x3, x4]) w := by
 have hp' : tmps[p]?.getD undef = .pointer (some ⟨B, 0, none⟩) := by rw [← Array.getD_eq_getD_getElem?]; exact hp
 simp [results, h, hp', go_sem, c0, c1, c2, c3, c4]
def set5 (w : World) (B : Nat) (x0 x1 x2 x3 x4 : Value) : World := ((((w.setCell ⟨B, 0, none⟩ x0).setCell ⟨B, 1, none⟩ x1).setCell ⟨B, 2, none⟩ x2).setCell ⟨B, 3, none⟩ x3).setCell ⟨B, 4, none⟩ x4
theorem set_at {w : World} {a : Addr} {x y : Value} (h : w.cell? a = some y) : (w.setCell a x).cell? a = some x := World.cell?_setCell_same' _ _ _ (by rw [h]; rfl)
theorem set_off {w : World} {a b : Addr} {x y : Value} (h : w.cell? b = some y) (hn : a ≠ b) : (w.setCell a x).cell? b = some y := by rw [World.cell?_setCell_other _ _ _ _ (by first | exact hn | exact hn.symm)]; exact h
theorem set5_cells {w : World} {B : Nat} {x0 x1 x2 x3 x4 y0 y1 y2 y3 y4 : Value} (c0 : w.cell? ⟨B, 0, none⟩ = some y0) (c1 : w.cell? ⟨B, 1, none⟩ = some y1) (c2 : w.cell? ⟨B, 2, none⟩ = some y2) (c3 : w.cell? ⟨B, 3, none⟩ = some y3) (c4 : w.cell? ⟨B, 4, none⟩ = some y4) :
  (set5 w B x0 x1 x2 x3 x4).cell? ⟨B, 0, none⟩ = some x0 ∧ (set5 w B x0 x1 x2 x3 x4).cell? ⟨B, 1, none⟩ = some x1 ∧ (set5 w B x0 x1 x2 x3 x4).cell? ⟨B, 2, none⟩ = some x2 ∧ (set5 w B x0 x1 x2 x3 x4).cell? ⟨B, 3, none⟩ = some x3 ∧ (set5 w B x0 x1 x2 x3 x4).cell? ⟨B, 4, none⟩ = some x4 := by
 unfold set5
 refine ⟨?_, ?_, ?_, ?_, ?_⟩
 ·exact set_off (set_off (set_off (set_off (set_at c0) (by simp)) (by simp)) (by simp)) (by simp)
 ·exact set_off (set_off (set_off (set_at (set_off c1 (by simp))) (by simp)) (by simp)) (by simp)
 ·exact set_off (set_off (set_at (set_off (set_off c2 (by simp)) (by simp))) (by simp)) (by simp)
 ·exact set_off (set_at (set_off (set_off (set_off c3 (by simp)) (by simp)) (by simp))) (by simp)
 ·exact set_at (set_off (set_off (set_off (set_off c4 (by simp)) (by simp)) (by simp)) (by simp))
theorem set5_below {w0 w : World} {S B : Nat} {x0 x1 x2 x3 x4 : Value} (h : Below S w0 w) (hB : S ≤ B) : Below S w0 (set5 w B x0 x1 x2 x3 x4) :=
 (((((h.setCell hB _).setCell hB _).setCell hB _).setCell hB _).setCell hB _)
theorem keep_al {W : World} {q : Addr} {x : Value} (h : W.cell? q = some x) (c) : (W.alloc c).cell? q = some x := keep_cell' ((Below.refl _ _).alloc (Nat.le_refl _) _) h
theorem spanG (F B N I G M K A low : Int) (t : Bool) (w : World)
    (HNB : Hid (∀ w : World, Calls Tryz.prog 53 #[layV F B N I G, .int .i64 A] w fun e w' => e = .returned (.tuple #[.int .i64 M, .int .i64 K]) ∧ Below w.heap.size w w'))
    (hM1 : M < 9007199254740992) (hM0 : 0 < M) (hA1 : 0 < A) (hA2 : A < 9218868437227405312) (hK1 : -1074 ≤ K) (hK2 : K ≤ 1080) (hev : (A % 2 == 0) = t)
    (HC : ((M == N) = true ∧ N < A ∧ 4 * M - 2 + 1 = low) ∨ ((M == N) = true ∧ ¬ N < A ∧ 4 * M - 2 = low) ∨ ((M == N) = false ∧ N = N ∧ 4 * M - 2 = low)) :
    Calls Tryz.prog 91 #[layV F B N I G, .int .i64 A] w fun r w' => r = .returned (.agg #[.int .i64 low, .int .i64 (4 * M), .int .i64 (4 * M + 2), .int .i64 (K - 2), .bool t]) ∧ Below w.heap.size w w' := by
  have tm : A.tmod 2 = A % 2 := Int.tmod_eq_emod_of_nonneg (by omega)
  unfold layV at *
  rcases HC with ⟨hq1, hq2, hl⟩ | ⟨hq1, hq2, hl⟩ | ⟨hq1, hq2, hl⟩
  all_goals
    (have HL := hid hl
     clear hl
     go_enter Tryz.func91, Tryz.ntmps91
     go_wp2_with fail
     have d0 : ((w.alloc (.cells #[.int .i64 F, .int .i64 B, .int .i64 N, .int .i64 I, .int .i64 G] 63)).alloc (.cells #[.int .i64 0, .int .i64 0, .int .i64 0, .int .i64 0, .bool false] 125)).cell? ⟨w.heap.size, 0, none⟩ = some (Value.int .i64 F) := by simp [go_sem]
     have d1 : ((w.alloc (.cells #[.int .i64 F, .int .i64 B, .int .i64 N, .int .i64 I, .int .i64 G] 63)).alloc (.cells #[.int .i64 0, .int .i64 0, .int .i64 0, .int .i64 0, .bool false] 125)).cell? ⟨w.heap.size, 1, none⟩ = some (Value.int .i64 B) := by simp [go_sem]
     have d2 : ((w.alloc (.cells #[.int .i64 F, .int .i64 B, .int .i64 N, .int .i64 I, .int .i64 G] 63)).alloc (.cells #[.int .i64 0, .int .i64 0, .int .i64 0, .int .i64 0, .bool false] 125)).cell? ⟨w.heap.size, 2, none⟩ = some (Value.int .i64 N) := by simp [go_sem]
     have d3 : ((w.alloc (.cells #[.int .i64 F, .int .i64 B, .int .i64 N, .int .i64 I, .int .i64 G] 63)).alloc (.cells #[.int .i64 0, .int .i64 0, .int .i64 0, .int .i64 0, .bool false] 125)).cell? ⟨w.heap.size, 3, none⟩ = some (Value.int .i64 I) := by simp [go_sem]
     have d4 : ((w.alloc (.cells #[.int .i64 F, .int .i64 B, .int .i64 N, .int .i64 I, .int .i64 G] 63)).alloc (.cells #[.int .i64 0, .int .i64 0, .int .i64 0, .int .i64 0, .bool false] 125)).cell? ⟨w.heap.size, 4, none⟩ = some (Value.int .i64 G) := by simp [go_sem]
     have c0 : ((w.alloc (.cells #[.int .i64 F, .int .i64 B, .int .i64 N, .int .i64 I, .int .i64 G] 63)).alloc (.cells #[.int .i64 0, .int .i64 0, .int .i64 0, .int .i64 0, .bool false] 125)).cell? ⟨w.heap.size + 1, 0, none⟩ = some (Value.int .i64 0) := by simp [go_sem]
     have c1 : ((w.alloc (.cells #[.int .i64 F, .int .i64 B, .int .i64 N, .int .i64 I, .int .i64 G] 63)).alloc (.cells #[.int .i64 0, .int .i64 0, .int .i64 0, .int .i64 0, .bool false] 125)).cell? ⟨w.heap.size + 1, 1, none⟩ = some (Value.int .i64 0) := by simp [go_sem]
     have c2 : ((w.alloc (.cells #[.int .i64 F, .int .i64 B, .int .i64 N, .int .i64 I, .int .i64 G] 63)).alloc (.cells #[.int .i64 0, .int .i64 0, .int .i64 0, .int .i64 0, .bool false] 125)).cell? ⟨w.heap.size + 1, 2, none⟩ = some (Value.int .i64 0) := by simp [go_sem]
     have c3 : ((w.alloc (.cells #[.int .i64 F, .int .i64 B, .int .i64 N, .int .i64 I, .int .i64 G] 63)).alloc (.cells #[.int .i64 0, .int .i64 0, .int .i64 0, .int .i64 0, .bool false] 125)).cell? ⟨w.heap.size + 1, 3, none⟩ = some (Value.int .i64 0) := by simp [go_sem]
     have c4 : ((w.alloc (.cells #[.int .i64 F, .int .i64 B, .int .i64 N, .int .i64 I, .int .i64 G] 63)).alloc (.cells #[.int .i64 0, .int .i64 0, .int .i64 0, .int .i64 0, .bool false] 125)).cell? ⟨w.heap.size + 1, 4, none⟩ = some (Value.bool false) := by simp [go_sem]
     have fz0 : ((w.alloc (.cells #[.int .i64 F, .int .i64 B, .int .i64 N, .int .i64 I, .int .i64 G] 63)).alloc (.cells #[.int .i64 0, .int .i64 0, .int .i64 0, .int .i64 0, .bool false] 125)).frozen? ⟨w.heap.size + 1, 0, none⟩ = false := by simp [go_sem]
     have fz1 : ((w.alloc (.cells #[.int .i64 F, .int .i64 B, .int .i64 N, .int .i64 I, .int .i64 G] 63)).alloc (.cells #[.int .i64 0, .int .i64 0, .int .i64 0, .int .i64 0, .bool false] 125)).frozen? ⟨w.heap.size + 1, 1, none⟩ = false := by simp [go_sem]
     have fz2 : ((w.alloc (.cells #[.int .i64 F, .int .i64 B, .int .i64 N, .int .i64 I, .int .i64 G] 63)).alloc (.cells #[.int .i64 0, .int .i64 0, .int .i64 0, .int .i64 0, .bool false] 125)).frozen? ⟨w.heap.size + 1, 2, none⟩ = false := by simp [go_sem]
     have fz3 : ((w.alloc (.cells #[.int .i64 F, .int .i64 B, .int .i64 N, .int .i64 I, .int .i64 G] 63)).alloc (.cells #[.int .i64 0, .int .i64 0, .int .i64 0, .int .i64 0, .bool false] 125)).frozen? ⟨w.heap.size + 1, 3, none⟩ = false := by simp [go_sem]
     have fz4 : ((w.alloc (.cells #[.int .i64 F, .int .i64 B, .int .i64 N, .int .i64 I, .int .i64 G] 63)).alloc (.cells #[.int .i64 0, .int .i64 0, .int .i64 0, .int .i64 0, .bool false] 125)).frozen? ⟨w.heap.size + 1, 4, none⟩ = false := by simp [go_sem]
     have HB : Hid (Below w.heap.size w ((w.alloc (.cells #[.int .i64 F, .int .i64 B, .int .i64 N, .int .i64 I, .int .i64 G] 63)).alloc (.cells #[.int .i64 0, .int .i64 0, .int .i64 0, .int .i64 0, .bool false] 125))) := ((Below.refl _ _).alloc (Nat.le_refl _) _).alloc (by simp) _
     have hw : w.heap.size + 1 < ((w.alloc (.cells #[.int .i64 F, .int .i64 B, .int .i64 N, .int .i64 I, .int .i64 G] 63)).alloc (.cells #[.int .i64 0, .int .i64 0, .int .i64 0, .int .i64 0, .bool false] 125)).heap.size := by simp
     generalize ((w.alloc (.cells #[.int .i64 F, .int .i64 B, .int .i64 N, .int .i64 I, .int .i64 G] 63)).alloc (.cells #[.int .i64 0, .int .i64 0, .int .i64 0, .int .i64 0, .bool false] 125)) = W at *
     refine (HNB.out W).mono ?_
     rintro r w1 ⟨rfl, hbb⟩
     have HB1 : Hid (Below w.heap.size w w1) := HB.out.trans (hbb.mono (by omega))
     have e2 := keep_cell' hbb d2
     have gz0 := (hbb.frozen (p := ⟨w.heap.size + 1, 0, none⟩) (by show w.heap.size + 1 < _; omega)).trans fz0
     have gz1 := (hbb.frozen (p := ⟨w.heap.size + 1, 1, none⟩) (by show w.heap.size + 1 < _; omega)).trans fz1
     have gz2 := (hbb.frozen (p := ⟨w.heap.size + 1, 2, none⟩) (by show w.heap.size + 1 < _; omega)).trans fz2
     have gz3 := (hbb.frozen (p := ⟨w.heap.size + 1, 3, none⟩) (by show w.heap.size + 1 < _; omega)).trans fz3
     have gz4 := (hbb.frozen (p := ⟨w.heap.size + 1, 4, none⟩) (by show w.heap.size + 1 < _; omega)).trans fz4
     have f0 := keep_cell' hbb c0; have f1 := keep_cell' hbb c1; have f2 := keep_cell' hbb c2; have f3 := keep_cell' hbb c3; have f4 := keep_cell' hbb c4
     have hw1 : w.heap.size + 1 < w1.heap.size := by have := hbb.size; omega
     have hw2 : w.heap.size < w1.heap.size := by omega
     clear fz0 fz1 fz2 fz3 fz4 hbb d0 d1 d2 d3 d4 c0 c1 c2 c3 c4 hw HB HNB
     go_wp2
     exact bodyPost_ret (span_results rfl _ ((set5 w1 (w.heap.size + 1) _ _ _ _ _).alloc _) (w.heap.size + 1) _ _ _ _ _ rfl (keep_al (set5_cells f0 f1 f2 f3 f4).1 _) (keep_al (set5_cells f0 f1 f2 f3 f4).2.1 _) (keep_al (set5_cells f0 f1 f2 f3 f4).2.2.1 _) (keep_al (set5_cells f0 f1 f2 f3 f4).2.2.2.1 _) (keep_al (set5_cells f0 f1 f2 f3 f4).2.2.2.2 _)) rfl
       ⟨by rw [← HL.out], (set5_below HB1.out (by omega)).alloc (set5_below HB1.out (by omega)).size _⟩)
theorem span_any (f : Int) (hf : 0 ≤ f ∧ f ≤ 2) (a : Nat) (h0 : 0 < a) (ha : (a : Int) < infN f) (w : World) :
  Calls Tryz.prog 91 #[layOf f, .int .i64 a] w fun r w' => SpanPost w w' r (fQ f) a (fE f) := by
 have HNB := hid (fun w => number_any f hf a ha w)
 obtain ⟨F, B, N, I, G, hl, hI, hN, hE, f1, f2, b1, b2, n1, n2, i2, i3⟩ := lay_num hf
 obtain ⟨p1, p2, p3, p4, p5⟩ := num_bd hf ha
 have hm := mA_pos (fQ f) a h0
 rw [hl] at HNB ⊢
 have := spanG F B N I G (mA (fQ f) a : Nat) (fE f + (xA (fQ f) a : Nat)) a (lowS (fQ f) a : Nat) (decide (a % 2 = 0)) w HNB (by omega) (by omega) (by omega) (by omega) (by omega) (by omega) (by rw [Bool.eq_iff_iff]; simp; omega) (by
  unfold lowS; rw [hN]
  by_cases c1 : mA (fQ f) a = N.toNat
  ·have c2 : (((mA (fQ f) a : Nat) : Int) == N) = true := by rw [beq_iff_eq]; omega
   by_cases c3 : N < a
   ·exact .inl ⟨c2, c3, by rw [if_pos (by omega)]; omega⟩
   ·exact .inr (.inl ⟨c2, c3, by rw [if_neg (by omega)]; omega⟩)
  ·exact .inr (.inr ⟨by rw [beq_eq_false_iff_ne]; omega, rfl, by rw [if_neg (by omega)]; omega⟩))
 refine this.mono ?_
 rintro r w' ⟨rfl, hb⟩
 exact ⟨by simp, hb⟩
end Go.Proofs.YtbkdaoicnobllabGreatDoor
