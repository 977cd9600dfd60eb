import Derived.Test.YtbkdaoicnobllabDoorG02
import Derived.WalkKit
import Derived.Test.YtbkdaoicnobllabDoorProg
import Derived.Deep.QuietTactic
import Derived.BigQuiet
import Derived.Deep.AppendLies

namespace Go.Proofs.YtbkdaoicnobllabDoor
open Go.RowKit

/-- Which of n things. -/
def pickV (c : Int) (n : Nat) : Nat := (if c < 0 then -(c + 1) else c).toNat % n
set_option maxRecDepth 100000 in
set_option maxHeartbeats 1000000 in
theorem pick_any (c : Int) (n : Nat) (hn : 0 < n) (hn2 : n ≤ 1000000) (hc : -9223372036854775808 ≤ c ∧ c ≤ 9223372036854775807) (w : World) :
    Calls Tryd.prog 8 #[.int .i64 c, .int .i64 n] w fun e w' => e = .returned (.int .i64 (pickV c n : Nat)) ∧ w' = w := by
  obtain ⟨N, hN⟩ : ∃ N : Int, N = (n : Int) := ⟨_, rfl⟩
  have hN0 : (N == 0) = false := by simp; omega
  have hN1 : 0 < N := by omega
  have hN2 : N ≤ 1000000 := by omega
  have HN := hid hN
  rw [← hN]
  obtain ⟨hc1, hc2⟩ := hc
  go_enter Tryd.func8, Tryd.ntmps8
  by_cases h0 : c < 0
  · have t : decide (c < 0) = true := by simpa using h0
    have HE : Hid (-((c + 1).tmod N) = (pickV c n : Nat)) := by
      unfold Hid pickV
      rw [← Int.neg_tmod, if_pos h0, HN.out, Int.tmod_eq_emod_of_nonneg (by omega)]
      have : -(c + 1) = ((-(c + 1)).toNat : Nat) := by omega
      rw [this]; simp
    clear hN hn hn2
    go_wp2
    all_goals (go_ret; exact ⟨by rw [← HE.out]; rfl, rfl⟩)
  · have t : decide (c < 0) = false := by simpa using h0
    have HE : Hid ((c % N) = (pickV c n : Nat)) := by
      unfold Hid pickV
      rw [if_neg h0, HN.out]
      have : c = (c.toNat : Nat) := by omega
      rw [this]; simp
    clear hN hn hn2
    go_wp2
    all_goals (go_ret; exact ⟨by rw [← HE.out]; rfl, rfl⟩)
/-- A format's bits. -/
def fW (f : Int) : Int := if f = 0 then 16 else if f = 1 then 32 else 64
set_option maxRecDepth 100000 in
set_option maxHeartbeats 1000000 in
theorem form_any (b : Int) (hb : -9223372036854775808 ≤ b ∧ b ≤ 9223372036854775807) (w : World) :
    Calls Tryd.prog 11 #[.int .i64 b] w fun e w' => e = .returned (.tuple #[.int .i64 (pickV b 3 : Nat), .int .i64 (fW (pickV b 3 : Nat)), .int .i64 (fQ (pickV b 3 : Nat))]) ∧ w' = w := by
  have HX := hid (pick_any b 3 (by omega) (by omega) hb w)
  have h3 : pickV b 3 < 3 := Nat.mod_lt _ (by omega)
  obtain ⟨p, hp⟩ : ∃ p, p = pickV b 3 := ⟨_, rfl⟩
  rw [← hp] at HX h3 ⊢
  clear hp
  go_enter Tryd.func11, Tryd.ntmps11
  go_wp2_with fail
  refine HX.out.mono ?_
  rintro e w' ⟨rfl, rfl⟩
  clear HX
  rcases (by omega : p = 0 ∨ p = 1 ∨ p = 2) with rfl | rfl | rfl
  · go_wp2
    all_goals (go_ret3; exact ⟨rfl, rfl⟩)
  · go_wp2
    all_goals (go_ret3; exact ⟨rfl, rfl⟩)
  · go_wp2
    all_goals (go_ret3; exact ⟨rfl, rfl⟩)
/-- The lower bits alone. -/
theorem and_mask (x : Int) (i : Nat) (hi : i ≤ 63) : bits .and .i64 x ((2 ^ i - 1 : Nat) : Int) = x % ((2 ^ i : Nat) : Int) := by
  have hp : 2 ^ i ≤ 2 ^ 63 := Nat.pow_le_pow_right (by omega) hi
  have h0 : 0 < 2 ^ i := Nat.pow_pos (by omega)
  have h1 : (BitVec.ofInt 64 ((2 ^ i - 1 : Nat) : Int)).toNat = 2 ^ i - 1 := by
    rw [BitVec.ofInt_natCast, BitVec.toNat_ofNat]; exact Nat.mod_eq_of_lt (by omega)
  have h2 : ((BitVec.ofInt 64 x).toNat : Int) = x % ((2 ^ 64 : Nat) : Int) := by
    rw [BitVec.toNat_ofInt]; have : 0 ≤ x % ((2 ^ 64 : Nat) : Int) := Int.emod_nonneg _ (by omega); omega
  have hd : ((2 ^ i : Nat) : Int) ∣ ((2 ^ 64 : Nat) : Int) := Int.natCast_dvd_natCast.2 (Nat.pow_dvd_pow 2 (show i ≤ 64 by omega))
  unfold bits
  show IntKind.i64.wrap ((BitVec.ofInt 64 x &&& BitVec.ofInt 64 ((2 ^ i - 1 : Nat) : Int)).toNat : Int) = _
  rw [BitVec.toNat_and, h1, Nat.and_two_pow_sub_one_eq_mod, Int.natCast_emod, h2, Int.emod_emod_of_dvd _ hd, IntKind.wrap_i64]
  have h3 : 0 ≤ x % ((2 ^ i : Nat) : Int) := Int.emod_nonneg _ (by omega)
  have h4 : x % ((2 ^ i : Nat) : Int) < ((2 ^ i : Nat) : Int) := Int.emod_lt_of_pos _ (by omega)
  generalize x % ((2 ^ i : Nat) : Int) = y at *
  generalize 2 ^ i = P at *
  omega
end Go.Proofs.YtbkdaoicnobllabDoor

/- Plain mathematics: the bit of the sign. -/
namespace Go.Proofs.YtbkdaoicnobllabDoor
open Go.RowKit

theorem and_top (i y : Nat) (h : y < 2 ^ i) : y &&& 2 ^ i = 0 := by
  apply Nat.eq_of_testBit_eq
  intro j
  rw [Nat.testBit_and, Nat.testBit_two_pow, Nat.zero_testBit]
  by_cases hj : i = j
  · subst hj; rw [Nat.testBit_lt_two_pow h]; rfl
  · simp [hj]
theorem and_top2 (i y : Nat) (h : y < 2 ^ i) : (2 ^ i + y) &&& 2 ^ i = 2 ^ i := by
  apply Nat.eq_of_testBit_eq
  intro j
  rw [Nat.testBit_and, Nat.testBit_two_pow]
  by_cases hj : i = j
  · subst hj; rw [Nat.testBit_two_pow_add_eq, Nat.testBit_lt_two_pow h]; rfl
  · simp [hj]
theorem xor_top (i y : Nat) (h : y < 2 ^ i) : (2 ^ i + y) ^^^ 2 ^ i = y := by
  apply Nat.eq_of_testBit_eq
  intro j
  rw [Nat.testBit_xor, Nat.testBit_two_pow]
  rcases Nat.lt_trichotomy j i with hj | hj | hj
  · rw [Nat.testBit_two_pow_add_gt hj, show decide (i = j) = false from by simp; omega]; simp
  · subst hj; rw [Nat.testBit_two_pow_add_eq, Nat.testBit_lt_two_pow h]; simp
  · have h1 : 2 ^ i + y < 2 ^ j := by
      have : 2 ^ (i + 1) ≤ 2 ^ j := Nat.pow_le_pow_right (by omega) hj
      rw [Nat.pow_succ] at this; omega
    rw [Nat.testBit_lt_two_pow h1, Nat.testBit_lt_two_pow (x := y) (by omega)]; simp; omega
theorem ofInt_nat (n : Nat) (h : n < 18446744073709551616) : (BitVec.ofInt 64 (n : Int)).toNat = n := by
  rw [BitVec.ofInt_natCast, BitVec.toNat_ofNat]; exact Nat.mod_eq_of_lt h
theorem ofInt_neg (x : Int) (h1 : -9223372036854775808 ≤ x) (h2 : x < 0) : (BitVec.ofInt 64 x).toNat = (x + 18446744073709551616).toNat := by
  rw [BitVec.toNat_ofInt]
  have : x % ((2 ^ 64 : Nat) : Int) = x + 18446744073709551616 := by
    rw [show ((2 ^ 64 : Nat) : Int) = 18446744073709551616 from rfl]; omega
  rw [this]
/-- Neither the sign's bit nor what lies above it is set. -/
theorem sign_off (i : Nat) (hi : i ≤ 62) (x : Int) (h0 : 0 ≤ x) (h : x < ((2 ^ i : Nat) : Int)) : bits .and .i64 x ((2 ^ i : Nat) : Int) = 0 := by
  have hp : 2 ^ i ≤ 2 ^ 62 := Nat.pow_le_pow_right (by omega) hi
  obtain ⟨y, rfl⟩ : ∃ y : Nat, x = y := ⟨x.toNat, by omega⟩
  show IntKind.i64.wrap ((BitVec.ofInt 64 (y : Int) &&& BitVec.ofInt 64 ((2 ^ i : Nat) : Int)).toNat : Int) = _
  rw [BitVec.toNat_and, ofInt_nat y (by omega), ofInt_nat _ (by omega), and_top i y (by omega)]; rfl
theorem sign_on (i : Nat) (hi : i ≤ 62) (x : Int) (h0 : ((2 ^ i : Nat) : Int) ≤ x) (h : x < 2 * ((2 ^ i : Nat) : Int)) : bits .and .i64 x ((2 ^ i : Nat) : Int) = ((2 ^ i : Nat) : Int) ∧ bits .xor .i64 x ((2 ^ i : Nat) : Int) = x - ((2 ^ i : Nat) : Int) := by
  have hp : 2 ^ i ≤ 2 ^ 62 := Nat.pow_le_pow_right (by omega) hi
  obtain ⟨y, rfl⟩ : ∃ y : Nat, x = ((2 ^ i + y : Nat) : Int) := ⟨(x - ((2 ^ i : Nat) : Int)).toNat, by omega⟩
  have hy : y < 2 ^ i := by omega
  constructor
  · show IntKind.i64.wrap ((BitVec.ofInt 64 ((2 ^ i + y : Nat) : Int) &&& BitVec.ofInt 64 ((2 ^ i : Nat) : Int)).toNat : Int) = _
    rw [BitVec.toNat_and, ofInt_nat _ (by omega), ofInt_nat _ (by omega), and_top2 i y hy, IntKind.wrap_i64]
    generalize 2 ^ i = P at *
    omega
  · show IntKind.i64.wrap ((BitVec.ofInt 64 ((2 ^ i + y : Nat) : Int) ^^^ BitVec.ofInt 64 ((2 ^ i : Nat) : Int)).toNat : Int) = _
    rw [BitVec.toNat_xor, ofInt_nat _ (by omega), ofInt_nat _ (by omega), xor_top i y hy, IntKind.wrap_i64]
    generalize 2 ^ i = P at *
    omega
/-- The same of 64 bits. -/
theorem min_off (x : Int) (h0 : 0 ≤ x) (h : x ≤ 9223372036854775807) : bits .and .i64 x (-9223372036854775808) = 0 := by
  obtain ⟨y, rfl⟩ : ∃ y : Nat, x = y := ⟨x.toNat, by omega⟩
  show IntKind.i64.wrap ((BitVec.ofInt 64 (y : Int) &&& BitVec.ofInt 64 (-9223372036854775808)).toNat : Int) = _
  rw [BitVec.toNat_and, ofInt_nat y (by omega), show (BitVec.ofInt 64 (-9223372036854775808)).toNat = 2 ^ 63 from by decide, and_top 63 y (by omega)]; rfl
theorem min_on (x : Int) (h0 : -9223372036854775808 ≤ x) (h : x < 0) : bits .and .i64 x (-9223372036854775808) = -9223372036854775808 ∧ bits .xor .i64 x (-9223372036854775808) = x + 9223372036854775808 := by
  obtain ⟨y, hy⟩ : ∃ y : Nat, (y : Int) = x + 9223372036854775808 := ⟨(x + 9223372036854775808).toNat, by omega⟩
  have e1 : (BitVec.ofInt 64 x).toNat = 2 ^ 63 + y := by rw [ofInt_neg x h0 h]; omega
  have e2 : (BitVec.ofInt 64 (-9223372036854775808)).toNat = 2 ^ 63 := by decide
  constructor
  · show IntKind.i64.wrap ((BitVec.ofInt 64 x &&& BitVec.ofInt 64 (-9223372036854775808)).toNat : Int) = _
    rw [BitVec.toNat_and, e1, e2, and_top2 63 y (by omega)]; decide
  · show IntKind.i64.wrap ((BitVec.ofInt 64 x ^^^ BitVec.ofInt 64 (-9223372036854775808)).toNat : Int) = _
    rw [BitVec.toNat_xor, e1, e2, xor_top 63 y (by omega), IntKind.wrap_i64]
    omega
end Go.Proofs.YtbkdaoicnobllabDoor

/- Natural numbers as rows of limbs, the lowest first. -/
namespace Go.Proofs.YtbkdaoicnobllabDoor
open Go.RowKit

def nv : List Nat → Nat
  | [] => 0
  | d :: r => d + 1073741824 * nv r
def Lim (L : List Nat) : Prop := ∀ d, d ∈ L → d < 1073741824
theorem nv_append (a b : List Nat) : nv (a ++ b) = nv a + 1073741824 ^ a.length * nv b := by
  induction a with
  | nil => simp [nv]
  | cons d r ih =>
    simp only [List.cons_append, nv, ih, List.length_cons, Nat.pow_succ]
    rw [Nat.mul_add, Nat.mul_comm (1073741824 ^ r.length) 1073741824, Nat.mul_assoc, Nat.add_assoc]
theorem nv_snoc (a : List Nat) (d : Nat) : nv (a ++ [d]) = nv a + 1073741824 ^ a.length * d := by rw [nv_append]; simp [nv]
theorem nv_take_succ (L : List Nat) (i : Nat) (h : i < L.length) : nv (L.take (i + 1)) = nv (L.take i) + 1073741824 ^ i * L.getD i 0 := by
  rw [take_succ_getD L i h, nv_snoc, List.length_take, Nat.min_eq_left (by omega)]
theorem Lim.getD {L : List Nat} (h : Lim L) (i : Nat) : L.getD i 0 < 1073741824 := by
  rw [List.getD_eq_getElem?_getD]
  cases hi : L[i]? with
  | none => simp
  | some d => simpa using h d (List.mem_of_getElem? hi)
theorem Lim.set {L : List Nat} (h : Lim L) (i d : Nat) (hd : d < 1073741824) : Lim (L.set i d) := by
  intro x hx
  rcases List.mem_or_eq_of_mem_set hx with hx | rfl
  · exact h x hx
  · exact hd
theorem Lim.snoc {L : List Nat} (h : Lim L) (d : Nat) (hd : d < 1073741824) : Lim (L ++ [d]) := by
  intro x hx; rcases List.mem_append.1 hx with hx | hx
  · exact h x hx
  · rw [List.mem_singleton.1 hx]; exact hd
theorem Lim.take {L : List Nat} (h : Lim L) (n : Nat) : Lim (L.take n) := fun x hx => h x (List.mem_of_mem_take hx)
theorem nv_lt {L : List Nat} (h : Lim L) : nv L < 1073741824 ^ L.length := by
  induction L with
  | nil => simp [nv]
  | cons d r ih =>
    have h1 := ih (fun x hx => h x (List.mem_cons_of_mem _ hx))
    have h2 := h d List.mem_cons_self
    simp only [nv, List.length_cons, Nat.pow_succ]; omega
theorem nv_take_zeros (L : List Nat) (z : Nat) (h : ∀ j, z ≤ j → j < L.length → L.getD j 0 = 0) : nv (L.take z) = nv L := by
  induction L generalizing z with
  | nil => simp
  | cons d r ih =>
    cases z with
    | zero =>
      have h0 := h 0 (by omega) (by simp)
      simp at h0
      have := ih 0 (fun j _ hj => by have := h (j + 1) (by omega) (by simp; omega); simpa using this)
      simp [nv] at this ⊢
      rw [← this, h0]
    | succ z =>
      rw [List.take_succ_cons]
      simp only [nv]
      rw [ih z (fun j h1 hj => by have := h (j + 1) (by omega) (by simp; omega); simpa using this)]
/-- A limb's step of a product. -/
theorem mul_step (L M : List Nat) (i f c : Nat) (a : Nat) (hi : i < L.length) (hM : M.length = L.length)
    (h : nv (M.take i) + c * 1073741824 ^ i = nv (L.take i) * f + a) :
    nv ((M.set i ((L.getD i 0 * f + c) % 1073741824)).take (i + 1)) + (L.getD i 0 * f + c) / 1073741824 * 1073741824 ^ (i + 1) = nv (L.take (i + 1)) * f + a := by
  have e1 : (M.set i ((L.getD i 0 * f + c) % 1073741824)).take i = M.take i := by rw [List.take_set]; exact List.set_eq_of_length_le (by rw [List.length_take]; omega)
  rw [nv_take_succ _ i (by simp; omega), e1, getD_set M i i _ (by omega), if_pos rfl, nv_take_succ L i hi, Nat.pow_succ]
  generalize L.getD i 0 = x at *
  generalize 1073741824 ^ i = P at *
  have hs : P * ((x * f + c) % 1073741824) + (x * f + c) / 1073741824 * (P * 1073741824) = P * (x * f + c) := by
    have h2 : (x * f + c) % 1073741824 + 1073741824 * ((x * f + c) / 1073741824) = x * f + c := Nat.mod_add_div _ _
    calc P * ((x * f + c) % 1073741824) + (x * f + c) / 1073741824 * (P * 1073741824) = P * ((x * f + c) % 1073741824 + 1073741824 * ((x * f + c) / 1073741824)) := by grind
      _ = _ := by rw [h2]
  rw [Nat.add_assoc, hs, Nat.add_mul]
  have e3 : nv (M.take i) + P * (x * f + c) = (nv (M.take i) + c * P) + P * x * f := by grind
  rw [e3, h]; omega

/-- All blocks but those of S are as they were. -/
structure Turn (S : Nat → Prop) (w w' : World) : Prop where
  os : w'.os = w.os
  tape : w'.tape = w.tape
  output : w'.output = w.output
  size : w.heap.size ≤ w'.heap.size
  block : ∀ k, k < w.heap.size → ¬ S k → w'.heap[k]? = w.heap[k]?
theorem Turn.refl (S : Nat → Prop) (w : World) : Turn S w w := ⟨rfl, rfl, rfl, Nat.le_refl _, fun _ _ _ => rfl⟩
theorem Turn.trans {S S2 : Nat → Prop} {w w1 w2 : World} (h : Turn S w w1) (k : Turn S2 w1 w2) (hs : ∀ j, j < w.heap.size → S2 j → S j) : Turn S w w2 :=
  ⟨k.os.trans h.os, k.tape.trans h.tape, k.output.trans h.output, Nat.le_trans h.size k.size, fun j hj hn => (k.block j (Nat.lt_of_lt_of_le hj h.size) (fun h2 => hn (hs j hj h2))).trans (h.block j hj hn)⟩
theorem Turn.mono {S S2 : Nat → Prop} {w w1 : World} (h : Turn S w w1) (hs : ∀ j, j < w.heap.size → S j → S2 j) : Turn S2 w w1 :=
  ⟨h.os, h.tape, h.output, h.size, fun j hj hn => h.block j hj (fun h2 => hn (hs j hj h2))⟩
theorem Turn.setCell {S : Nat → Prop} {w w1 : World} (h : Turn S w w1) (a : Addr) (u : Value) (ha : S a.block) : Turn S w (w1.setCell a u) :=
  ⟨h.os, h.tape, h.output, by simpa [World.setCell] using h.size, fun j hj hn => (Below.heap_setCell w1 a u j (fun e => hn (e ▸ ha))).trans (h.block j hj hn)⟩
theorem Turn.below {S : Nat → Prop} {w w1 w2 : World} (h : Turn S w w1) (hb : Below w1.heap.size w1 w2) : Turn S w w2 :=
  ⟨hb.os.trans h.os, hb.tape.trans h.tape, hb.output.trans h.output, Nat.le_trans h.size hb.size, fun j hj hn => (hb.block j (Nat.lt_of_lt_of_le hj h.size)).trans (h.block j hj hn)⟩
theorem Turn.grown {S : Nat → Prop} {w w1 w2 : World} {row : Option Nat} (h : Turn S w w1) (hg : w1.grownBy w2 row) (hr : ∀ k, row = some k → k < w.heap.size → S k) : Turn S w w2 :=
  ⟨hg.os.trans h.os, hg.tape.trans h.tape, hg.output.trans h.output, Nat.le_trans h.size hg.size, fun j hj hn => (hg.block j (Nat.lt_of_lt_of_le hj h.size) (fun e => hn (hr j e.symm hj))).trans (h.block j hj hn)⟩

/-- A Nat of package nat at block b. -/
structure NatAt (w : World) (b : Nat) (v : Value) (L : List Nat) : Prop where
  cell : w.cell? ⟨b, 0, none⟩ = some v
  frozen : w.frozen? ⟨b, 0, none⟩ = false
  own : Own w 0 v L
  apart : v.ownBlock ≠ some b
  lim : Lim L
  nrm : 0 < L.length → L.getD (L.length - 1) 0 ≠ 0
/-- The blocks of a Nat. -/
def Foot (b : Nat) (v : Value) (k : Nat) : Prop := k = b ∨ v.ownBlock = some k
theorem keep_cell' {w w' : World} {a : Addr} {v : Value} (hb : Below w.heap.size w w') (h : w.cell? a = some v) : w'.cell? a = some v :=
  (hb.cell (p := a) (World.block_lt_of_cell? w a h)).trans h
theorem cell_of_turn {S : Nat → Prop} {w w1 : World} (h : Turn S w w1) {a : Addr} {v : Value} (hc : w.cell? a = some v) (hn : ¬ S a.block) : w1.cell? a = some v :=
  (World.cell?_of_block (w := w) (h.block a.block (World.block_lt_of_cell? w a hc) hn)).trans hc
theorem NatAt.turn {S : Nat → Prop} {w w1 : World} {b : Nat} {v : Value} {L : List Nat} (h : NatAt w b v L) (ht : Turn S w w1) (hs : ∀ k, Foot b v k → ¬ S k) : NatAt w1 b v L := by
  have hb := World.block_lt_of_cell? w _ h.cell
  refine ⟨cell_of_turn ht h.cell (hs _ (.inl rfl)), ?_, ?_, h.apart, h.lim, h.nrm⟩
  · rw [World.frozen?_of_block (w := w) (ht.block b hb (hs _ (.inl rfl)))]; exact h.frozen
  · refine ⟨h.own.1, ?_⟩
    rcases h.own.2 with h2 | ⟨g, cap, cur, hv, hg, hh, r⟩
    · exact .inl h2
    · exact .inr ⟨g, cap, cur, hv, hg, by rw [ht.block g (Array.getElem?_eq_some_iff.1 hh).1 (hs _ (.inr (by rw [hv]; rfl)))]; exact hh, r⟩

theorem NatAt.mk_set {w : World} {b : Nat} {v v' : Value} {L : List Nat} (hc : w.cell? ⟨b, 0, none⟩ = some v) (hf : w.frozen? ⟨b, 0, none⟩ = false) (ho : Own w 0 v' L) (hap : v'.ownBlock ≠ some b) (hl : Lim L) (hn : 0 < L.length → L.getD (L.length - 1) 0 ≠ 0) : NatAt (w.setCell ⟨b, 0, none⟩ v') b v' L := by
  refine ⟨World.cell?_setCell_same' _ _ _ (by rw [hc]; rfl), by rw [show (w.setCell ⟨b, 0, none⟩ v').frozen? ⟨b, 0, none⟩ = w.frozen? ⟨b, 0, none⟩ from by simp [go_sem]]; exact hf, ?_, hap, hl, hn⟩
  refine ⟨ho.1, ?_⟩
  rcases ho.2 with h2 | ⟨g, cap, cur, hv, hg, hh, r⟩
  · exact .inl h2
  · exact .inr ⟨g, cap, cur, hv, hg, by rw [Below.heap_setCell _ _ _ _ (fun e => hap (by rw [hv, e]; rfl))]; exact hh, r⟩
theorem Own.cutTo {w : World} {g n cap : Nat} {L : List Nat} (h : Own w 0 (.slice (some ⟨g, 0, none⟩) n cap) L) (hn : L.length = n) (m : Nat) (hm : m ≤ n) : Own w 0 (.slice (some ⟨g, 0, none⟩) m cap) (L.take m) := by
  unfold Own at *
  have hlen : (L.take m).length = m := by rw [List.length_take]; omega
  rw [hlen]
  refine ⟨by rw [ints_length, hlen]; omega, .inr ?_⟩
  rcases h.2 with ⟨h2, _⟩ | ⟨g', cap', cur, hv, hg, hh, h1, h3, h4, h5⟩
  · cases h2
  · rw [hn] at hv h1 h5
    simp only [Value.slice.injEq, Option.some.injEq, Addr.mk.injEq, and_true, true_and] at hv
    obtain ⟨rfl, rfl⟩ := hv
    refine ⟨g, cap, cur, rfl, hg, hh, by omega, h3, h4, ?_⟩
    rw [Nat.mul_one] at *
    have : ints (L.take m) = (ints L).take m := by unfold ints; rw [List.map_take]
    rw [this, ← h5, List.take_take, Nat.min_eq_left hm]

/-- What an operation on a Nat leaves: the Nat, with the number V, of at most 'len' limbs; nothing else has turned; its row is the old one or new. -/
def NatPost (w w' : World) (b : Nat) (v : Value) (V len : Nat) : Prop :=
  ∃ v' L', NatAt w' b v' L' ∧ nv L' = V ∧ L'.length ≤ len ∧ Turn (Foot b v) w w' ∧ (v'.ownBlock = v.ownBlock ∨ ∃ g, v'.ownBlock = some g ∧ w.heap.size ≤ g)
theorem NatPost.of_set {w : World} {b : Nat} {v v' : Value} {L : List Nat} {V len : Nat} (h : NatAt (w.setCell ⟨b, 0, none⟩ v') b v' L) (hv : nv L = V) (hl : L.length ≤ len) (ho : v'.ownBlock = v.ownBlock) : NatPost w (w.setCell ⟨b, 0, none⟩ v') b v V len :=
  ⟨v', L, h, hv, hl, (Turn.refl _ _).setCell _ _ (.inl rfl), .inl ho⟩

end Go.Proofs.YtbkdaoicnobllabDoor

namespace Go.Proofs.YtbkdaoicnobllabDoor
open Go.RowKit

set_option maxHeartbeats 400000 in
theorem isZero_any (b : Nat) (v : Value) (L : List Nat) (w : World) (h : NatAt w b v L) :
    Calls Tryd.prog 58 #[.pointer (some ⟨b, 0, none⟩)] w fun e w' => e = .returned (.bool (decide (L.length = 0))) ∧ w' = w := by
  obtain ⟨ao, cap, hv⟩ := h.own.row.isSlice
  subst hv
  have hc := h.cell
  clear h
  obtain ⟨n, hn⟩ : ∃ n, n = L.length := ⟨_, rfl⟩
  rw [← hn] at hc ⊢
  clear hn
  go_enter Tryd.func58, Tryd.ntmps58
  go_wp2
  go_ret
  exact ⟨congrArg (fun b => Ending.returned (Value.bool b)) (by rw [Bool.eq_iff_iff]; simp), rfl⟩

set_option maxRecDepth 100000 in
set_option maxHeartbeats 1000000 in
theorem trim_any (b : Nat) (v : Value) (L : List Nat) (w : World) (hc : w.cell? ⟨b, 0, none⟩ = some v) (hf : w.frozen? ⟨b, 0, none⟩ = false) (ho : Own w 0 v L) (hap : v.ownBlock ≠ some b) (hl : Lim L) (hlen : L.length ≤ 100000) :
    Calls Tryd.prog 64 #[.pointer (some ⟨b, 0, none⟩)] w fun e w' => e = .returned (.tuple #[]) ∧ NatPost w w' b v (nv L) L.length := by
  have HO := hid (And.intro ho (And.intro hap hl))
  rcases ho.form with ⟨h0, hv⟩ | ⟨g, cap, hv, hg1, hg2, hg3, hg4⟩
  · subst hv
    have H0 := hid h0
    clear ho hap hl h0 hlen
    go_enter Tryd.func64, Tryd.ntmps64
    go_wp2
    go_loop [2] (fun t => t = .int .i64 0) (fun _ => 0)
    case atStart => rfl
    case round =>
      subst hrel
      go_wp2
      go_end0
      exact ⟨rfl, NatPost.of_set (NatAt.mk_set hc hf HO.out.1 HO.out.2.1 HO.out.2.2 (fun h => by rw [H0.out] at h; simp at h)) rfl (Nat.le_refl _) rfl⟩
  · obtain ⟨n, hn⟩ : ∃ n, n = L.length := ⟨_, rfl⟩
    rw [← hn] at hv hlen hg3
    subst hv
    have HN := hid hn
    unfold maxLen at hg4
    clear ho hap hl hn hg1 hg2
    go_enter Tryd.func64, Tryd.ntmps64
    go_wp2
    go_loop [2] (fun t => ∃ m : Nat, m ≤ n ∧ t = .int .i64 m ∧ Hid (∀ j, m ≤ j → j < n → L.getD j 0 = 0)) (fun t => (intOf t).toNat)
    case atStart => exact ⟨n, Nat.le_refl _, rfl, fun j h1 h2 => by omega⟩
    case round =>
      obtain ⟨m, hm, rfl, HZ⟩ := hrel
      by_cases hpos : 0 < m
      · have cx := HO.out.1.cell HN.out.symm (m - 1) (by omega)
        obtain ⟨x, hx⟩ : ∃ x, x = L.getD (m - 1) 0 := ⟨_, rfl⟩
        rw [← hx] at cx
        have HX := hid hx
        clear hx
        by_cases hx0 : x = 0
        · have hb : ((x : Int) == 0) = true := by simp [hx0]
          have HX0 := hid hx0
          clear hx0
          go_wp2
          go_round
          case rel => exact ⟨m - 1, by omega, by go_num, fun j h1 h2 => if h : j = m - 1 then by rw [h, ← HX.out]; exact HX0.out else HZ.out j (by omega) h2⟩
          case measure => simp [intOf]; omega
        · have hb : ((x : Int) == 0) = false := by rw [beq_eq_false_iff_ne]; omega
          have HX0 := hid hx0
          clear hx0
          go_wp2
          go_end0
          refine ⟨rfl, NatPost.of_set (L := L.take m) (NatAt.mk_set hc hf (HO.out.1.cutTo HN.out.symm m hm) HO.out.2.1 (HO.out.2.2.take m) (fun _ => ?_)) (nv_take_zeros L m (fun j h1 h2 => HZ.out j h1 (by rw [HN.out]; exact h2))) (by rw [List.length_take, ← HN.out]; omega) rfl⟩
          rw [List.length_take, Nat.min_eq_left (by rw [← HN.out]; exact hm), List.getD_eq_getElem?_getD, List.getElem?_take_of_lt (by omega), ← List.getD_eq_getElem?_getD, ← HX.out]
          exact HX0.out
      · have hm0 : m = 0 := by omega
        subst hm0
        go_wp2
        go_end0
        exact ⟨rfl, NatPost.of_set (L := L.take 0) (NatAt.mk_set hc hf (HO.out.1.cutTo HN.out.symm 0 hm) HO.out.2.1 (HO.out.2.2.take 0) (fun h => by simp at h)) (nv_take_zeros L 0 (fun j h1 h2 => HZ.out j h1 (by rw [HN.out]; exact h2))) (by simp) rfl⟩

end Go.Proofs.YtbkdaoicnobllabDoor

namespace Go.Proofs.YtbkdaoicnobllabDoor
open Go.RowKit

theorem NatPost.after {w W w' : World} {b : Nat} {v v1 : Value} {V len : Nat} (h : NatPost W w' b v1 V len) (ht : Turn (Foot b v) w W) (hv : v1.ownBlock = v.ownBlock ∨ ∃ g, v1.ownBlock = some g ∧ w.heap.size ≤ g) : NatPost w w' b v V len := by
  obtain ⟨v', L', h1, h2, h3, h4, h5⟩ := h
  refine ⟨v', L', h1, h2, h3, ht.trans h4 (fun j hj hf => ?_), ?_⟩
  · rcases hf with hf | hf
    · exact .inl hf
    · rcases hv with hv | ⟨g, hv, hg⟩
      · exact .inr (hv ▸ hf)
      · rw [hv] at hf; cases hf; omega
  · rcases h5 with h5 | ⟨g, h5, hg⟩
    · rcases hv with hv | ⟨g, hv, hg⟩
      · exact .inl (h5.trans hv)
      · exact .inr ⟨g, h5.trans hv, hg⟩
    · exact .inr ⟨g, h5, Nat.le_trans ht.size hg⟩
theorem NatPost.widen {w w' : World} {b : Nat} {v : Value} {V V2 len len2 : Nat} (h : NatPost w w' b v V len) (hv : V = V2) (hl : len ≤ len2) : NatPost w w' b v V2 len2 := by
  obtain ⟨v', L', h1, h2, h3, h4⟩ := h
  exact ⟨v', L', h1, h2.trans hv, Nat.le_trans h3 hl, h4⟩
theorem take_eq_self {M : List Nat} {n : Nat} (h : M.length = n) : M.take n = M := List.take_of_length_le (by omega)

/-- What is left to do behind MulAdd's loop: the carry is laid at the end, and noughts are struck. -/
theorem mul_end {L M : List Nat} {f a c n : Nat} (hM : M.length = n) (hL : L.length = n) (h : nv (M.take n) + c * 1073741824 ^ n = nv (L.take n) * f + a) : nv (M ++ [c]) = nv L * f + a ∧ (c = 0 → nv M = nv L * f + a) := by
  rw [take_eq_self hM, take_eq_self hL] at h
  refine ⟨by rw [nv_snoc, hM, Nat.mul_comm (1073741824 ^ n)]; exact h, fun h0 => by rw [h0] at h; simpa using h⟩

set_option maxRecDepth 100000 in
set_option maxHeartbeats 1000000 in
theorem mulAdd_some (b g cap n f a : Nat) (L : List Nat) (w : World) (h : NatAt w b (.slice (some ⟨g, 0, none⟩) n cap) L) (hn : L.length = n) (hlen : n ≤ 90000) (hf : f < 1073741824) (ha : a < 1073741824) :
    Calls Tryd.prog 56 #[.pointer (some ⟨b, 0, none⟩), .int .i64 f, .int .i64 a] w fun e w' => e = .returned (.tuple #[]) ∧ NatPost w w' b (.slice (some ⟨g, 0, none⟩) n cap) (nv L * f + a) (n + 1) := by
  have hgb : g ≠ b := fun e => h.apart (by rw [e]; rfl)
  have hc := h.cell
  have HN := hid hn
  have HH := hid h
  obtain ⟨i0, hi, hz0, hz1, hz2⟩ := info_parts Tryd.info_int
  have hcap : n ≤ cap ∧ cap ≤ 9223372036854775807 := by
    rcases h.own.form with ⟨_, h2⟩ | ⟨g', cap', hv, _, _, h3, h4⟩
    · cases h2
    · simp only [Value.slice.injEq] at hv
      unfold maxLen at h4
      obtain ⟨_, _, h5⟩ := hv
      omega
  have hbl : b < w.heap.size := World.block_lt_of_cell? w _ hc
  clear h hn
  go_enter Tryd.func56, Tryd.ntmps56
  go_wp2
  go_loopw [6, 15] (fun cc ii wr => ∃ i c : Nat, ∃ M : List Nat, cc = .int .i64 c ∧ c < 1073741824 ∧ ii = .int .i64 i ∧ i ≤ n ∧ Hid (M.length = n) ∧ Own wr 0 (.slice (some ⟨g, 0, none⟩) n cap) M ∧ Hid (∀ j, i ≤ j → M.getD j 0 = L.getD j 0) ∧ Lim M ∧
      Hid (nv (M.take i) + c * 1073741824 ^ i = nv (L.take i) * f + a) ∧ Turn (Foot b (.slice (some ⟨g, 0, none⟩) n cap)) w wr ∧ wr.cell? ⟨b, 0, none⟩ = some (.slice (some ⟨g, 0, none⟩) n cap) ∧ wr.frozen? ⟨b, 0, none⟩ = false) (fun _ ii _ => n - (intOf ii).toNat)
  case atStart => exact ⟨0, a, L, rfl, ha, rfl, Nat.zero_le _, HN.out, HH.out.own, fun _ _ => rfl, HH.out.lim, by simp [Hid, nv], Turn.refl _ _, hc, HH.out.frozen⟩
  case round =>
    clear hc
    obtain ⟨i, c, M, rfl, hcc, rfl, hin, HM, hown, HR, hlim, HE, ht, hcb, hfb⟩ := hrel
    by_cases hlt : i < n
    · obtain ⟨x, hx⟩ : ∃ x, x = L.getD i 0 := ⟨_, rfl⟩
      have hx30 : x < 1073741824 := by rw [hx]; exact HH.out.lim.getD i
      have cx : wr.cell? ⟨g, i, none⟩ = some (.int .i64 x) := by rw [hown.cell HM.out i hlt, HR.out i (Nat.le_refl _), hx]
      have fx := hown.frozen HM.out i
      have hp1 : (0 : Int) ≤ (x : Int) * f := Int.mul_nonneg (by omega) (by omega)
      have hp0 : x * f ≤ 1073741823 * 1073741823 := Nat.mul_le_mul (by omega) (by omega)
      have hp2 : (x : Int) * f ≤ 1152921502459363329 := by
        have h3 : ((x * f : Nat) : Int) ≤ ((1073741823 * 1073741823 : Nat) : Int) := by omega
        simpa using h3
      have hst := mul_step L M i f c a (by rw [HN.out]; exact hlt) (by rw [HM.out, HN.out]) HE.out
      rw [← hx] at hst
      have HST := hid hst
      obtain ⟨y, hy⟩ : ∃ y, y = (x * f + c) % 1073741824 := ⟨_, rfl⟩
      have hyi : ((x : Int) * f + c) % 1073741824 = (y : Int) := by rw [hy]; simp
      have hy30 : y < 1073741824 := by rw [hy]; exact Nat.mod_lt _ (by omega)
      have hown2 := hid (hown.store HM.out i y)
      have ht2 := hid (ht.setCell ⟨g, i, none⟩ (.int .i64 (y : Nat)) (.inr rfl))
      have hcb2 : Hid ((wr.setCell ⟨g, i, none⟩ (.int .i64 (y : Nat))).cell? ⟨b, 0, none⟩ = some (.slice (some ⟨g, 0, none⟩) n cap)) := by unfold Hid; rw [World.cell?_setCell_other _ _ _ _ (by simp <;> omega)]; exact hcb
      have hfb2 : Hid ((wr.setCell ⟨g, i, none⟩ (.int .i64 (y : Nat))).frozen? ⟨b, 0, none⟩ = false) := by unfold Hid; rw [show (wr.setCell ⟨g, i, none⟩ (.int .i64 (y : Nat))).frozen? ⟨b, 0, none⟩ = wr.frozen? ⟨b, 0, none⟩ from by simp [go_sem]]; exact hfb
      have HY := hid hy
      have HXX := hid hx
      clear hx hst hy hown ht
      go_wp2
      go_roundw
      case rel =>
        rw [← HY.out] at HST
        have hq : ((x : Int) * f + c) / 1073741824 = (((x * f + c) / 1073741824 : Nat) : Int) := by simp
        refine ⟨i + 1, (x * f + c) / 1073741824, M.set i y, by rw [hq], by omega, by go_num, by omega, by unfold Hid; rw [List.length_set]; exact HM.out, hown2.out, fun j hj => ?_, hlim.set i y hy30, HST.out, ht2.out, hcb2.out, hfb2.out⟩
        rw [getD_set M i j y (by rw [HM.out]; exact hlt), if_neg (by omega)]; exact HR.out j (by omega)
      case measure => simp [intOf]; omega
    · have hin2 : i = n := by omega
      subst hin2
      have hme := hid (mul_end HM.out HN.out HE.out)
      by_cases hc0 : 0 < c
      · have HO := hid hown
        have hown' : wr.ownsRow 0 3 1 (.slice (some ⟨g, 0, none⟩) i cap) i (ints M) := by have := hown; unfold Own at this; rwa [HM.out] at this
        have hbw : b < wr.heap.size := World.block_lt_of_cell? wr _ hcb
        have hgw : g < wr.heap.size := (hown'.lt g rfl).2
        clear hown
        go_wp2_with (at_builtin; refine wpList_append_lies _ rfl (.tmp 46) (.tmp 48) 66 rfl 0 3 i0 (.int .i64 0) 1 8 Tryd.underlying66 hi hz0 hz1 hz2 rfl (by decide) _ _ _ rfl (hown'.alloc _) ⟨wr.heap.size, 0, none⟩ 1 1 [.int .i64 (c : Int)] rfl rfl ?c1 ?c2 (by omega) ?c3 ?c4 ?c5 (wr.heap.size + 1) (by simp) ?_)
        case c1 => exact cell_one_new _ _ _
        case c2 => intro u hu; simp at hu; subst hu; rfl
        case c3 => unfold maxLen; omega
        case c4 => omega
        case c5 => omega
        intro g2 cap2 w1 hown1 hgrow hat hlt2
        have ht1 := (ht.below ((Below.refl wr.heap.size wr).alloc (Nat.le_refl _) (.cells #[.int .i64 (c : Int)] 3))).grown hgrow (fun k hk _ => .inr (by simpa [Value.ownBlock] using hk))
        have hcb1 : w1.cell? ⟨b, 0, none⟩ = some (.slice (some ⟨g, 0, none⟩) i cap) := by
          rw [hgrow.cell_far ⟨b, 0, none⟩ (by simp; omega) (by simp [Value.ownBlock]; omega), World.cell?_alloc_past _ _ _ hbw]; exact hcb
        have hfb1 : w1.frozen? ⟨b, 0, none⟩ = false := by
          rw [hgrow.frozen_far ⟨b, 0, none⟩ (by simp; omega) (by simp [Value.ownBlock]; omega)]; simp [go_sem, hbw]; exact hfb
        have hown2 : Own w1 0 (.slice (some ⟨g2, 0, none⟩) (i + 1) cap2) (M ++ [c]) := Own.snoc hown1 HM.out rfl
        have hg2b : g2 ≠ b := by
          rcases hat with hat | hat
          · simp [Value.ownBlock] at hat; omega
          · omega
        have hfr : (Value.slice (some ⟨g2, 0, none⟩) (i + 1) cap2).ownBlock = (Value.slice (some ⟨g, 0, none⟩) i cap).ownBlock ∨ ∃ g', (Value.slice (some ⟨g2, 0, none⟩) (i + 1) cap2).ownBlock = some g' ∧ w.heap.size ≤ g' := by
          rcases hat with hat | hat
          · exact .inl (by rw [hat]; rfl)
          · exact .inr ⟨g2, rfl, by have := ht.size; omega⟩
        have hst1 := hid (NatAt.mk_set (w := w1) hcb1 hfb1 hown2 (by simp [Value.ownBlock]; exact hg2b) (hlim.snoc c hcc) (fun _ => by rw [List.length_append, HM.out, List.length_singleton, Nat.add_sub_cancel, List.getD_eq_getElem?_getD, List.getElem?_append_right (by rw [HM.out]; exact Nat.le_refl _), HM.out]; simp; omega))
        have ht2 := hid (ht1.setCell ⟨b, 0, none⟩ (.slice (some ⟨g2, 0, none⟩) (i + 1) cap2) (.inl rfl))
        have HFR := hid hfr
        clear hown' hgrow hat hown1 ht1 hown2 hcb hfb ht hfr
        go_wp2_with fail
        have hs1 := hst1.out
        refine (trim_any b _ (M ++ [c]) _ hs1.cell hs1.frozen hs1.own hs1.apart hs1.lim (by rw [List.length_append, HM.out]; simp; omega)).mono ?_
        rintro e w' ⟨rfl, hpost⟩
        have hfin := hid ((hpost.after ht2.out HFR.out).widen hme.out.1 (by rw [List.length_append, HM.out]; simp : (M ++ [c]).length ≤ i + 1))
        clear hpost hcb1 hfb1 hs1
        go_wp2
        go_end0
        exact ⟨rfl, hfin.out⟩
      · have hcz : c = 0 := by omega
        subst hcz
        have hm2 := hid (hme.out.2 rfl)
        clear hme
        have HO := hid hown
        go_wp2_with fail
        refine (trim_any b _ M wr hcb hfb HO.out HH.out.apart hlim (by rw [HM.out]; omega)).mono ?_
        rintro e w' ⟨rfl, hpost⟩
        have hfin := hid ((hpost.after ht (.inl rfl)).widen hm2.out (by rw [HM.out]; omega : M.length ≤ i + 1))
        clear hpost hcb hfb hown
        go_wp2
        go_end0
        exact ⟨rfl, hfin.out⟩

set_option maxRecDepth 100000 in
set_option maxHeartbeats 1000000 in
theorem mulAdd_nil (b f a : Nat) (w : World) (h : NatAt w b (.slice none 0 0) []) (_hf : f < 1073741824) (ha : a < 1073741824) :
    Calls Tryd.prog 56 #[.pointer (some ⟨b, 0, none⟩), .int .i64 f, .int .i64 a] w fun e w' => e = .returned (.tuple #[]) ∧ NatPost w w' b (.slice none 0 0) a 1 := by
  have hc := h.cell
  have hfz := h.frozen
  have HH := hid h
  obtain ⟨i0, hi, hz0, hz1, hz2⟩ := info_parts Tryd.info_int
  have hbl : b < w.heap.size := World.block_lt_of_cell? w _ hc
  clear h
  go_enter Tryd.func56, Tryd.ntmps56
  go_wp2
  go_loop [6, 15] (fun cc ii => cc = .int .i64 a ∧ ii = .int .i64 0) (fun _ _ => 0)
  case atStart => exact ⟨rfl, rfl⟩
  case round =>
    obtain ⟨rfl, rfl⟩ := hrel
    by_cases hc0 : 0 < a
    · have hown' : w.ownsRow 0 3 1 (.slice none 0 0) 0 (ints []) := World.ownsRow_nil _ _ _ _
      go_wp2_with (at_builtin; refine wpList_append_lies _ rfl (.tmp 46) (.tmp 48) 66 rfl 0 3 i0 (.int .i64 0) 1 8 Tryd.underlying66 hi hz0 hz1 hz2 rfl (by decide) _ _ _ rfl (hown'.alloc _) ⟨w.heap.size, 0, none⟩ 1 1 [.int .i64 (a : Int)] rfl rfl ?c1 ?c2 (by omega) ?c3 ?c4 ?c5 (w.heap.size + 1) (by simp) ?_)
      case c2 => rfl
      case c3 => unfold maxLen; omega
      intro g2 cap2 w1 hown1 hgrow hat hlt2
      have ht1 := ((Turn.refl (Foot b (.slice none 0 0)) w).below ((Below.refl w.heap.size w).alloc (Nat.le_refl _) (.cells #[.int .i64 (a : Int)] 3))).grown hgrow (fun k hk _ => by simp [Value.ownBlock] at hk)
      have hcb1 : w1.cell? ⟨b, 0, none⟩ = some (.slice none 0 0) := by
        rw [hgrow.cell_far ⟨b, 0, none⟩ (by simp; omega) (by simp [Value.ownBlock]), World.cell?_alloc_past _ _ _ hbl]; exact hc
      have hfb1 : w1.frozen? ⟨b, 0, none⟩ = false := by
        rw [hgrow.frozen_far ⟨b, 0, none⟩ (by simp; omega) (by simp [Value.ownBlock])]; simp [go_sem, hbl]; exact hfz
      have hown2 : Own w1 0 (.slice (some ⟨g2, 0, none⟩) (0 + 1) cap2) ([] ++ [a]) := Own.snoc hown1 rfl rfl
      have hg2 : g2 = w.heap.size + 1 := by
        rcases hat with hat | hat
        · simp [Value.ownBlock] at hat
        · exact hat
      have hst1 := hid (NatAt.mk_set (w := w1) hcb1 hfb1 hown2 (by simp [Value.ownBlock]; omega) (show Lim ([] ++ [a]) from fun x hx => by rw [List.mem_singleton.1 hx]; exact ha) (fun _ => by simp; omega))
      have ht2 := hid (ht1.setCell ⟨b, 0, none⟩ (.slice (some ⟨g2, 0, none⟩) (0 + 1) cap2) (.inl rfl))
      have HG := hid hg2
      clear hown' hgrow hat hown1 ht1 hown2 hg2
      go_wp2_with fail
      have hs1 := hst1.out
      refine (trim_any b _ ([] ++ [a]) _ hs1.cell hs1.frozen hs1.own hs1.apart hs1.lim (by simp)).mono ?_
      rintro e w' ⟨rfl, hpost⟩
      have hfin := hid ((hpost.after ht2.out (.inr ⟨g2, rfl, by rw [HG.out]; omega⟩)).widen (V2 := a) (by simp [nv]) (Nat.le_refl 1))
      clear hpost hcb1 hfb1 hs1
      go_wp2
      go_end0
      exact ⟨rfl, hfin.out⟩
    · have hcz : a = 0 := by omega
      subst hcz
      go_wp2_with fail
      refine (trim_any b _ [] w hc hfz HH.out.own HH.out.apart HH.out.lim (by simp)).mono ?_
      rintro e w' ⟨rfl, hpost⟩
      have hfin := hid (hpost.widen (show nv [] = 0 from rfl) (by simp : ([] : List Nat).length ≤ 1))
      clear hpost
      go_wp2
      go_end0
      exact ⟨rfl, hfin.out⟩

/-- 'MulAdd': times f and a more. -/
theorem mulAdd_any (b f a : Nat) (v : Value) (L : List Nat) (w : World) (h : NatAt w b v L) (hlen : L.length ≤ 90000) (hf : f < 1073741824) (ha : a < 1073741824) :
    Calls Tryd.prog 56 #[.pointer (some ⟨b, 0, none⟩), .int .i64 f, .int .i64 a] w fun e w' => e = .returned (.tuple #[]) ∧ NatPost w w' b v (nv L * f + a) (L.length + 1) := by
  rcases h.own.form with ⟨h0, hv⟩ | ⟨g, cap, hv, _⟩
  · subst hv h0
    have := mulAdd_nil b f a w h hf ha
    refine this.mono ?_
    rintro e w' ⟨rfl, hp⟩
    exact ⟨rfl, hp.widen (by simp [nv]) (by simp)⟩
  · subst hv
    exact mulAdd_some b g cap L.length f a L w h rfl hlen hf ha

end Go.Proofs.YtbkdaoicnobllabDoor
