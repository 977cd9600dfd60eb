import Derived.Test.YtbkdaoicnobllabGreatDoorG35
import Derived.Test.YtbkdaoicnobllabGreatDoorG42
import Derived.Test.YtbkdaoicnobllabGreatDoorG00
import Derived.Laws.IdiomStrings
import Derived.Test.YtbkdaoicnobllabGreatDoorG29
import Derived.OpenShut
import Derived.Deep.RegionHeld3
import Derived.Deep.DeepCutAuto
import Derived.Deep.RegionWith
import Derived.Deep.DrawnRows

namespace Go.Proofs.YtbkdaoicnobllabGreatDoor
open Go.RowKit

theorem new_any (w : World) : Calls Tryz.prog 6 #[] w fun e w' => ∃ v, e = .returned v ∧ Below w.heap.size w w' := by
 go_enter Tryz.func6, Tryz.ntmps6
 go_wp2
 go_ret
 exact ⟨_, rfl, (Below.refl _ _).alloc (Nat.le_refl _) _⟩
end Go.Proofs.YtbkdaoicnobllabGreatDoor

namespace Go.Proofs.YtbkdaoicnobllabGreatDoor
set_option maxRecDepth 100000
set_option maxHeartbeats 1000000
open Go.RowKit

theorem signed_bd {f : Int} (hf : 0 ≤ f ∧ f ≤ 2) (neg : Bool) (r : Int) (h0 : 0 ≤ r) (h1 : r ≤ infN f) : -9223372036854775808 ≤ signedV f neg r ∧ signedV f neg r ≤ 9223372036854775807 := by
 rcases (by omega : f = 0 ∨ f = 1 ∨ f = 2) with rfl | rfl | rfl
 ·have h1 : r ≤ 31744 := h1
  cases neg <;> simp [signedV, sgnP] <;> omega
 ·have h1 : r ≤ 2139095040 := h1
  cases neg <;> simp [signedV, sgnP] <;> omega
 ·have h1 : r ≤ 9218868437227405312 := h1
  cases neg <;> simp [signedV, sgnP] <;> omega
theorem spec_bd {K : Nat} {l : List Nat} {f mode bts fl at' err : Int} (h : ParseSpec K l f mode bts fl at' err) : -9223372036854775808 ≤ bts ∧ bts ≤ 9223372036854775807 := by
 rcases h with ⟨_, h, _⟩ | ⟨_, _, h, _⟩ | ⟨hv, _, st, a, ok, _, ⟨_, h, _⟩ | ⟨_, _, _, h⟩⟩
 ·omega
 ·omega
 ·omega
 ·have hf : 0 ≤ f ∧ f ≤ 2 := ⟨hv.1, hv.2.1⟩
  have hn : -9223372036854775808 ≤ nanP f ∧ nanP f ≤ 9223372036854775807 := by unfold nanP; split <;> (try split) <;> omega
  have hi : (0 : Int) ≤ infN f := Int.natCast_nonneg _
  rcases h with ⟨_, h, _⟩ | ⟨_, h, _⟩ | ⟨_, r, h1, h⟩ | ⟨_, r, L, e, _, _, _, _, h1, h⟩
  ·rw [h]; exact hn
  ·rw [h]; exact signed_bd hf _ _ hi (Int.le_refl _)
  ·rw [h]; exact signed_bd hf _ _ (round_bd h1).1 (round_bd h1).2
  ·rw [h]; exact signed_bd hf _ _ (round_bd h1).1 (round_bd h1).2
theorem parsed_any (cv : Value) (s : ByteArray) (f mode : Int) (w : World) (hs : s.size ≤ maxLen) :
  Calls Tryz.prog 23 #[cv, .string s, .int .i64 f, .int .i64 mode] w fun e w' => ∃ bts : Int, e = .returned (.tuple #[.int .i64 bts, .bool true]) ∧ Below w.heap.size w w' ∧ -9223372036854775808 ≤ bts ∧ bts ≤ 9223372036854775807 := by
 have HX := hid (parse_any cv s f mode w)
 go_enter Tryz.func23, Tryz.ntmps23
 go_wp2_with fail
 refine HX.out.mono ?_
 rintro e w1 ⟨b1, f1, a1, e1, rfl, hb1, hp⟩
 have HB1 := hid hb1
 have HP := hid hp
 have HX2 := hid (refParse_any s f mode 30000 w1 (by omega) hs)
 clear HX hb1 hp
 go_wp2_with fail
 refine HX2.out.mono ?_
 rintro e w2 ⟨hb2, b2, f2, a2, e2, rfl, hr⟩
 have HBD := hid (spec_bd hr)
 obtain ⟨h1, h2, h3, h4⟩ := parse_join (Nat.le_refl _) HP.out hr
 subst h1 h2 h3 h4
 have HB2 : Hid (Below w.heap.size w w2) := HB1.out.trans (hb2.mono HB1.out.size)
 clear HX2 hb2 hr HP HB1
 go_wp2
 all_goals (go_ret2; exact ⟨_, rfl, HB2.out, HBD.out⟩)
end Go.Proofs.YtbkdaoicnobllabGreatDoor

namespace Go.Proofs.YtbkdaoicnobllabGreatDoor
open Go.RowKit

def BytesAt (w : World) (G : Nat) (l : List UInt8) : Prop := ∀ j (hj : j < l.length), w.cell? ⟨G, j, none⟩ = some (.int .u8 (l[j].toNat : Int)) ∧ w.frozen? ⟨G, j, none⟩ = false
theorem BytesAt.set {w : World} {G : Nat} {l : List UInt8} (h : BytesAt w G l) (i : Nat) (hi : i < l.length) (b : UInt8) (z : Int) (hz : z = (b.toNat : Int)) : BytesAt (w.setCell ⟨G, i, none⟩ (.int .u8 z)) G (l.set i b) := by
 intro j hj
 rw [List.length_set] at hj
 have hf : (w.setCell ⟨G, i, none⟩ (.int .u8 z)).frozen? ⟨G, j, none⟩ = w.frozen? ⟨G, j, none⟩ := by simp [go_sem]
 refine ⟨?_, by rw [hf]; exact (h j hj).2⟩
 rw [List.getElem_set]
 by_cases hij : i = j
 ·subst hij
  rw [if_pos rfl, hz]
  exact World.cell?_setCell_same' _ _ _ (by rw [(h i hi).1]; rfl)
 ·rw [if_neg hij, World.cell?_setCell_other _ _ _ _ (by simp; try omega)]
  exact (h j hj).1
theorem BytesAt.new (w : World) (l : List UInt8) (C : Array Value) (t : TypeId) (c : Nat) (hc : l.length ≤ c) (hC : ∀ j (hj : j < l.length), C[j]? = some (.int .u8 (l[j].toNat : Int))) : BytesAt (w.alloc (.cells C t (c, c + 1))) w.heap.size l := fun j hj =>
 ⟨by rw [World.cell?_alloc_mark]; exact hC j hj, by rw [World.frozen?_alloc_mark]; simp; omega⟩
end Go.Proofs.YtbkdaoicnobllabGreatDoor

namespace Go.Proofs.YtbkdaoicnobllabGreatDoor
set_option maxRecDepth 100000
set_option maxHeartbeats 1000000
open Go.RowKit

def pickV (c : Int) (n : Nat) : Nat := (if c < 0 then -(c + 1) else c).toNat % n
theorem pick_any (c : Int) (n : Nat) (hn : 0 < n) (hn2 : n ≤ 1000000) (hc : -9223372036854775808 ≤ c ∧ c ≤ 9223372036854775807) (w : World) :
  Calls Tryz.prog 20 #[.int .i64 c, .int .i64 n] w fun e w' => e = .returned (.int .i64 (pickV c n : Nat)) ∧ w' = w := by
 obtain ⟨N, hN⟩ : ∃ N : Int, N = (n : Int) := ⟨_, rfl⟩
 have hN0 : (N == 0) = false := by simp; omega
 have hN1 : 0 < N := by omega
 have hN2 : N ≤ 1000000 := by omega
 have HN := hid hN
 rw [← hN]
 obtain ⟨hc1, hc2⟩ := hc
 go_enter Tryz.func20, Tryz.ntmps20
 by_cases h0 : c < 0
 ·have t : decide (c < 0) = true := by simpa using h0
  have HE : Hid (-((c + 1).tmod N) = (pickV c n : Nat)) := by
   unfold Hid pickV
   rw [← Int.neg_tmod, if_pos h0, HN.out, Int.tmod_eq_emod_of_nonneg (by omega)]
   have : -(c + 1) = ((-(c + 1)).toNat : Nat) := by omega
   rw [this]; simp
  clear hN hn hn2
  go_wp2
  all_goals (go_ret; exact ⟨by rw [← HE.out]; rfl, rfl⟩)
 ·have t : decide (c < 0) = false := by simpa using h0
  have HE : Hid ((c % N) = (pickV c n : Nat)) := by
   unfold Hid pickV
   rw [if_neg h0, HN.out]
   have : c = (c.toNat : Nat) := by omega
   rw [this]; simp
  clear hN hn hn2
  go_wp2
  all_goals (go_ret; exact ⟨by rw [← HE.out]; rfl, rfl⟩)
def fW (f : Int) : Int := if f = 0 then 16 else if f = 1 then 32 else 64
theorem form_any (b : Int) (hb : -9223372036854775808 ≤ b ∧ b ≤ 9223372036854775807) (w : World) :
  Calls Tryz.prog 11 #[.int .i64 b] w fun e w' => e = .returned (.tuple #[.int .i64 (pickV b 3 : Nat), .int .i64 (fW (pickV b 3 : Nat)), .int .i64 (fQ (pickV b 3 : Nat))]) ∧ w' = w := by
 have HX := hid (pick_any b 3 (by omega) (by omega) hb w)
 have h3 : pickV b 3 < 3 := Nat.mod_lt _ (by omega)
 obtain ⟨p, hp⟩ : ∃ p, p = pickV b 3 := ⟨_, rfl⟩
 rw [← hp] at HX h3 ⊢
 clear hp
 go_enter Tryz.func11, Tryz.ntmps11
 go_wp2_with fail
 refine HX.out.mono ?_
 rintro e w' ⟨rfl, rfl⟩
 clear HX
 rcases (by omega : p = 0 ∨ p = 1 ∨ p = 2) with rfl | rfl | rfl
 ·go_wp2
  all_goals (go_ret3; exact ⟨rfl, rfl⟩)
 ·go_wp2
  all_goals (go_ret3; exact ⟨rfl, rfl⟩)
 ·go_wp2
  all_goals (go_ret3; exact ⟨rfl, rfl⟩)
theorem and_mask (x : Int) (i : Nat) (hi : i ≤ 63) : bits .and .i64 x ((2 ^ i - 1 : Nat) : Int) = x % ((2 ^ i : Nat) : Int) := by
 have hp : 2 ^ i ≤ 2 ^ 63 := Nat.pow_le_pow_right (by omega) hi
 have h0 : 0 < 2 ^ i := Nat.pow_pos (by omega)
 have h1 : (BitVec.ofInt 64 ((2 ^ i - 1 : Nat) : Int)).toNat = 2 ^ i - 1 := by
  rw [BitVec.ofInt_natCast, BitVec.toNat_ofNat]; exact Nat.mod_eq_of_lt (by omega)
 have h2 : ((BitVec.ofInt 64 x).toNat : Int) = x % ((2 ^ 64 : Nat) : Int) := by
  rw [BitVec.toNat_ofInt]; have : 0 ≤ x % ((2 ^ 64 : Nat) : Int) := Int.emod_nonneg _ (by omega); omega
 have hd : ((2 ^ i : Nat) : Int) ∣ ((2 ^ 64 : Nat) : Int) := Int.natCast_dvd_natCast.2 (Nat.pow_dvd_pow 2 (show i ≤ 64 by omega))
 unfold bits
 show IntKind.i64.wrap ((BitVec.ofInt 64 x &&& BitVec.ofInt 64 ((2 ^ i - 1 : Nat) : Int)).toNat : Int) = _
 rw [BitVec.toNat_and, h1, Nat.and_two_pow_sub_one_eq_mod, Int.natCast_emod, h2, Int.emod_emod_of_dvd _ hd, IntKind.wrap_i64]
 have h3 : 0 ≤ x % ((2 ^ i : Nat) : Int) := Int.emod_nonneg _ (by omega)
 have h4 : x % ((2 ^ i : Nat) : Int) < ((2 ^ i : Nat) : Int) := Int.emod_lt_of_pos _ (by omega)
 generalize x % ((2 ^ i : Nat) : Int) = y at *
 generalize 2 ^ i = P at *
 omega
end Go.Proofs.YtbkdaoicnobllabGreatDoor

namespace Go.Proofs.YtbkdaoicnobllabGreatDoor
set_option maxRecDepth 100000
set_option maxHeartbeats 1000000
open Go.RowKit

structure WAt (w : World) (G : Nat) (cv : Value) (x : Int) (s : ByteArray) : Prop where
 c0 : w.cell? ⟨G, 0, none⟩ = some cv
 c1 : w.cell? ⟨G, 1, none⟩ = some (.int .i64 x)
 c2 : w.cell? ⟨G, 2, none⟩ = some (.string s)
 f0 : w.frozen? ⟨G, 0, none⟩ = false
 f1 : w.frozen? ⟨G, 1, none⟩ = false
 f2 : w.frozen? ⟨G, 2, none⟩ = false
 lo : -9223372036854775808 ≤ x
 hi : x ≤ 9223372036854775807
 sz : s.size ≤ 6000
theorem WAt.lt {w : World} {G : Nat} {cv : Value} {x : Int} {s : ByteArray} (h : WAt w G cv x s) : G < w.heap.size := World.block_lt_of_cell? w _ h.c0
theorem WAt.below {w w' : World} {G : Nat} {cv : Value} {x : Int} {s : ByteArray} (h : WAt w G cv x s) (hb : Below w.heap.size w w') : WAt w' G cv x s :=
 ⟨keep_cell' hb h.c0, keep_cell' hb h.c1, keep_cell' hb h.c2, (hb.frozen (p := ⟨G, 0, none⟩) h.lt).trans h.f0, (hb.frozen (p := ⟨G, 1, none⟩) h.lt).trans h.f1, (hb.frozen (p := ⟨G, 2, none⟩) h.lt).trans h.f2, h.lo, h.hi, h.sz⟩
theorem WAt.set1 {w : World} {G : Nat} {cv : Value} {x : Int} {s : ByteArray} (h : WAt w G cv x s) (y : Int) (h1 : -9223372036854775808 ≤ y) (h2 : y ≤ 9223372036854775807) : WAt (w.setCell ⟨G, 1, none⟩ (.int .i64 y)) G cv y s :=
 ⟨(World.cell?_setCell_other _ _ _ _ (by simp)).trans h.c0, World.cell?_setCell_same' _ _ _ (by rw [h.c1]; rfl), (World.cell?_setCell_other _ _ _ _ (by simp)).trans h.c2, by simp [go_sem]; exact h.f0, by simp [go_sem]; exact h.f1, by simp [go_sem]; exact h.f2, h1, h2, h.sz⟩
theorem WAt.set0 {w : World} {G : Nat} {cv : Value} {x : Int} {s : ByteArray} (h : WAt w G cv x s) (v : Value) : WAt (w.setCell ⟨G, 0, none⟩ v) G v x s :=
 ⟨World.cell?_setCell_same' _ _ _ (by rw [h.c0]; rfl), (World.cell?_setCell_other _ _ _ _ (by simp)).trans h.c1, (World.cell?_setCell_other _ _ _ _ (by simp)).trans h.c2, by simp [go_sem]; exact h.f0, by simp [go_sem]; exact h.f1, by simp [go_sem]; exact h.f2, h.lo, h.hi, h.sz⟩
theorem WAt.set2 {w : World} {G : Nat} {cv : Value} {x : Int} {s : ByteArray} (h : WAt w G cv x s) (t : ByteArray) (ht : t.size ≤ 6000) : WAt (w.setCell ⟨G, 2, none⟩ (.string t)) G cv x t :=
 ⟨(World.cell?_setCell_other _ _ _ _ (by simp)).trans h.c0, (World.cell?_setCell_other _ _ _ _ (by simp)).trans h.c1, World.cell?_setCell_same' _ _ _ (by rw [h.c2]; rfl), by simp [go_sem]; exact h.f0, by simp [go_sem]; exact h.f1, by simp [go_sem]; exact h.f2, h.lo, h.hi, ht⟩
theorem WAt.other {w : World} {G : Nat} {cv : Value} {x : Int} {s : ByteArray} (h : WAt w G cv x s) (a : Addr) (v : Value) (ha : a.block ≠ G) : WAt (w.setCell a v) G cv x s :=
 have e : ∀ i : Nat, a ≠ ⟨G, i, none⟩ := fun i hh => ha (by rw [hh])
 ⟨(World.cell?_setCell_other _ _ _ _ (e 0)).trans h.c0, (World.cell?_setCell_other _ _ _ _ (e 1)).trans h.c1, (World.cell?_setCell_other _ _ _ _ (e 2)).trans h.c2, by simp [go_sem]; exact h.f0, by simp [go_sem]; exact h.f1, by simp [go_sem]; exact h.f2, h.lo, h.hi, h.sz⟩
theorem wrap_byte (c : Int) : ∃ b : UInt8, IntKind.u8.wrap c = (b.toNat : Int) := by
 refine ⟨UInt8.ofNat (IntKind.u8.wrap c).toNat, ?_⟩
 have h := wf_wrap .u8 c
 have hb := bounds_u8 h
 simp; omega
structure OpV where
 kind : Int
 a : Int
 b : Int
 c : Int
 s : ByteArray
 t : ByteArray
def OpV.val (o : OpV) : Value := .agg #[.int .i64 o.kind, .int .i64 o.a, .int .i64 o.b, .int .i64 o.c, .string o.s, .string o.t]
structure OpV.ok (o : OpV) : Prop where
 a1 : -9223372036854775808 ≤ o.a
 a2 : o.a ≤ 9223372036854775807
 b1 : -9223372036854775808 ≤ o.b
 b2 : o.b ≤ 9223372036854775807
 c1 : -9223372036854775808 ≤ o.c
 c2 : o.c ≤ 9223372036854775807
 sz : o.s.size ≤ maxLen
def StepPost (W0 w' : World) (G : Nat) (e : Ending) : Prop := e = .returned (.bool true) ∧ Below W0.heap.size W0 w' ∧ ∃ cv x s, WAt w' G cv x s
theorem new_ptr (w : World) : Calls Tryz.prog 6 #[] w fun e w' => ∃ g, e = .returned (.pointer (some ⟨g, 0, none⟩)) ∧ Below w.heap.size w w' := by
 go_enter Tryz.func6, Tryz.ntmps6
 go_wp2
 go_ret
 exact ⟨_, rfl, (Below.refl _ _).alloc (Nat.le_refl _) _⟩
theorem lpick_any (c : Int) (n : Nat) (hn : 0 < n) (hn2 : n ≤ 1000000) (hc : -9223372036854775808 ≤ c ∧ c ≤ 9223372036854775807) (w : World) :
  Calls Tryz.prog 24 #[.int .i64 c, .int .i64 n] w fun e w' => e = .returned (.int .i64 (pickV c n : Nat)) ∧ w' = w := by
 obtain ⟨N, hN⟩ : ∃ N : Int, N = (n : Int) := ⟨_, rfl⟩
 have hN0 : (N == 0) = false := by simp; omega
 have hN1 : 0 < N := by omega
 have hN2 : N ≤ 1000000 := by omega
 have HN := hid hN
 rw [← hN]
 obtain ⟨hc1, hc2⟩ := hc
 go_enter Tryz.func24, Tryz.ntmps24
 by_cases h0 : c < 0
 ·have t : decide (c < 0) = true := by simpa using h0
  have HE : Hid (-((c + 1).tmod N) = (pickV c n : Nat)) := by
   unfold Hid pickV
   rw [← Int.neg_tmod, if_pos h0, HN.out, Int.tmod_eq_emod_of_nonneg (by omega)]
   have : -(c + 1) = ((-(c + 1)).toNat : Nat) := by omega
   rw [this]; simp
  clear hN hn hn2
  go_wp2
  all_goals (go_ret; exact ⟨by rw [← HE.out]; rfl, rfl⟩)
 ·have t : decide (c < 0) = false := by simpa using h0
  have HE : Hid ((c % N) = (pickV c n : Nat)) := by
   unfold Hid pickV
   rw [if_neg h0, HN.out]
   have : c = (c.toNat : Nat) := by omega
   rw [this]; simp
  clear hN hn hn2
  go_wp2
  all_goals (go_ret; exact ⟨by rw [← HE.out]; rfl, rfl⟩)
end Go.Proofs.YtbkdaoicnobllabGreatDoor
