import Init
import Derived.WalkKit
import Derived.Test.YtbkdaoicnobllabGreatDoorProg
import Derived.WalkSpells
import Derived.WalkLawsBesides
import Derived.Deep.QuietTactic
import Derived.BigQuiet

namespace Go.Proofs.YtbkdaoicnobllabGreatDoor

def le : List Nat → Nat
 | [] => 0
 | d :: r => d + 10 * le r
def num (L : List Nat) : Nat := le L.reverse
def Digs (L : List Nat) : Prop := ∀ d, d ∈ L → d ≤ 9
structure Norm (L : List Nat) : Prop where
 digs : Digs L
 head : ∀ h : 0 < L.length, L[0] ≠ 0
 last : ∀ h : 0 < L.length, L[L.length - 1] ≠ 0
def val (K : Nat) (L : List Nat) (e : Int) : Nat := num L * 10 ^ (e + K).toNat

theorem le_append (a b : List Nat) : le (a ++ b) = le a + 10 ^ a.length * le b := by
 induction a with
 | nil => simp [le]
 | cons d r ih =>
  simp only [List.cons_append, le, ih, List.length_cons, Nat.pow_succ]
  rw [Nat.mul_add, Nat.mul_comm (10 ^ r.length) 10, Nat.mul_assoc, Nat.add_assoc]

theorem num_nil : num [] = 0 := rfl
theorem num_snoc (L : List Nat) (d : Nat) : num (L ++ [d]) = 10 * num L + d := by
 simp [num, le]; omega
theorem num_cons (d : Nat) (L : List Nat) : num (d :: L) = d * 10 ^ L.length + num L := by
 simp [num, le_append, le]; rw [Nat.mul_comm]; omega
theorem num_append (a b : List Nat) : num (a ++ b) = num a * 10 ^ b.length + num b := by
 simp [num, le_append]; rw [Nat.mul_comm]; omega

theorem Digs.nil : Digs [] := fun _ h => by cases h
theorem Digs.cons {d : Nat} {L : List Nat} (h : d ≤ 9) (hl : Digs L) : Digs (d :: L) := by
 intro x hx
 rcases List.mem_cons.1 hx with rfl | hx
 ·exact h
 ·exact hl x hx
theorem Digs.append {a b : List Nat} (ha : Digs a) (hb : Digs b) : Digs (a ++ b) := by
 intro x hx
 rcases List.mem_append.1 hx with hx | hx
 ·exact ha x hx
 ·exact hb x hx
theorem Digs.reverse {L : List Nat} (h : Digs L) : Digs L.reverse := fun x hx => h x (List.mem_reverse.1 hx)
theorem Digs.take {L : List Nat} (h : Digs L) (n : Nat) : Digs (L.take n) := fun x hx => h x (List.mem_of_mem_take hx)
theorem Digs.drop {L : List Nat} (h : Digs L) (n : Nat) : Digs (L.drop n) := fun x hx => h x (List.mem_of_mem_drop hx)
theorem Digs.getD {L : List Nat} (h : Digs L) (i : Nat) : L.getD i 0 ≤ 9 := by
 rw [List.getD_eq_getElem?_getD]
 cases hi : L[i]? with
 | none => simp
 | some d => simpa using h d (List.mem_of_getElem? hi)
theorem Digs.set {L : List Nat} (h : Digs L) (i d : Nat) (hd : d ≤ 9) : Digs (L.set i d) := by
 intro x hx
 rcases List.mem_or_eq_of_mem_set hx with hx | rfl
 ·exact h x hx
 ·exact hd

theorem le_lt {L : List Nat} (h : Digs L) : le L < 10 ^ L.length := by
 induction L with
 | nil => simp [le]
 | cons d r ih =>
  have h1 := ih (fun x hx => h x (List.mem_cons_of_mem _ hx))
  have h2 := h d (List.mem_cons_self)
  simp only [le, List.length_cons, Nat.pow_succ]; omega
theorem num_lt {L : List Nat} (h : Digs L) : num L < 10 ^ L.length := by
 have := le_lt h.reverse; simpa [num] using this

theorem le_div {L : List Nat} (h : Digs L) (i : Nat) : le L / 10 ^ i = le (L.drop i) := by
 induction i generalizing L with
 | zero => simp
 | succ i ih =>
  cases L with
  | nil => simp [le]
  | cons d r =>
   have h1 := ih (L := r) (fun x hx => h x (List.mem_cons_of_mem _ hx))
   have h2 := h d (List.mem_cons_self)
   simp only [List.drop_succ_cons, ← h1, le, Nat.pow_succ]
   rw [Nat.mul_comm (10 ^ i) 10, ← Nat.div_div_eq_div_mul]
   congr 1; omega
theorem le_mod (L : List Nat) (h : Digs L) : le L % 10 = L.getD 0 0 := by
 cases L with
 | nil => simp [le]
 | cons d r => have h2 := h d (List.mem_cons_self); simp only [le, List.getD_cons_zero]; omega
theorem le_at {L : List Nat} (h : Digs L) (i : Nat) : le L / 10 ^ i % 10 = L.getD i 0 := by
 rw [le_div h, le_mod _ (h.drop i)]; simp [List.getD_eq_getElem?_getD]

def dig (L : List Nat) (e p : Int) : Nat := if p < e then 0 else L.reverse.getD (p - e).toNat 0
theorem dig_le {L : List Nat} (h : Digs L) (e p : Int) : dig L e p ≤ 9 := by
 unfold dig; split
 ·omega
 ·exact h.reverse.getD _
theorem dig_lo (L : List Nat) {e p : Int} (h : p < e) : dig L e p = 0 := by simp [dig, h]
theorem dig_hi (L : List Nat) {e p : Int} (h : e + L.length ≤ p) : dig L e p = 0 := by
 unfold dig; split
 ·rfl
 ·rw [List.getD_eq_getElem?_getD, List.getElem?_eq_none (by simp; omega)]; rfl
theorem dig_mid (L : List Nat) {e p : Int} (h : e ≤ p) (h2 : p < e + L.length) (j : Nat) (hj : (j : Int) = L.length - 1 - (p - e)) : dig L e p = L.getD j 0 := by
 unfold dig; rw [if_neg (by omega), List.getD_eq_getElem?_getD, List.getElem?_reverse (by omega), List.getD_eq_getElem?_getD, show L.length - 1 - (p - e).toNat = j from by omega]
theorem dig_val {L : List Nat} (h : Digs L) (K : Nat) (e p : Int) (he : -(K : Int) ≤ e) (hp : -(K : Int) ≤ p) : val K L e / 10 ^ (p + K).toNat % 10 = dig L e p := by
 unfold val dig num
 split
 ·obtain ⟨m, hm⟩ : ∃ m : Nat, (e + K).toNat = (p + K).toNat + 1 + m := ⟨(e - p - 1).toNat, by omega⟩
  rw [hm, Nat.pow_add, Nat.pow_succ, show le L.reverse * (10 ^ (p + K).toNat * 10 * 10 ^ m) = 10 ^ (p + K).toNat * (10 * (le L.reverse * 10 ^ m)) from by grind]
  rw [Nat.mul_div_cancel_left _ (Nat.pow_pos (by omega))]; omega
 ·have hm : (p + K).toNat = (e + K).toNat + (p - e).toNat := by omega
  rw [hm, Nat.pow_add, Nat.mul_comm (le _), Nat.mul_div_mul_left _ _ (Nat.pow_pos (by omega)), le_at h.reverse]
theorem hi_step (V P : Nat) : V / 10 ^ P = 10 * (V / 10 ^ (P + 1)) + V / 10 ^ P % 10 := by
 rw [Nat.pow_succ, ← Nat.div_div_eq_div_mul]; omega

theorem val_hi {L : List Nat} (h : Digs L) (K : Nat) (e p : Int) (hp : e + L.length ≤ p) (he : -(K : Int) ≤ e) : val K L e / 10 ^ (p + K).toNat = 0 := by
 apply Nat.div_eq_of_lt
 unfold val
 have h1 := num_lt h
 obtain ⟨m, hm⟩ : ∃ m : Nat, (p + K).toNat = L.length + (e + K).toNat + m := ⟨(p - e - L.length).toNat, by omega⟩
 rw [hm, Nat.pow_add, Nat.pow_add]
 have hpos : 0 < 10 ^ (e + K).toNat := Nat.pow_pos (by omega)
 have hm1 : 1 ≤ 10 ^ m := Nat.pow_pos (by omega)
 calc num L * 10 ^ (e + K).toNat < 10 ^ L.length * 10 ^ (e + K).toNat := Nat.mul_lt_mul_of_pos_right h1 hpos
  _ = 10 ^ L.length * 10 ^ (e + K).toNat * 1 := by rw [Nat.mul_one]
  _ ≤ 10 ^ L.length * 10 ^ (e + K).toNat * 10 ^ m := Nat.mul_le_mul_left _ hm1
theorem val_mod (L : List Nat) (K : Nat) (e p : Int) (hp : p ≤ e) (hk : -(K : Int) ≤ p) : val K L e % 10 ^ (p + K).toNat = 0 := by
 unfold val
 obtain ⟨m, hm⟩ : ∃ m : Nat, (e + K).toNat = (p + K).toNat + m := ⟨(e - p).toNat, by omega⟩
 rw [hm, Nat.pow_add, show num L * (10 ^ (p + K).toNat * 10 ^ m) = 10 ^ (p + K).toNat * (num L * 10 ^ m) from by grind, Nat.mul_mod_right]

theorem lt_of_hi {a b P : Nat} (h : a / P < b / P) : a < b := by
 apply Nat.lt_of_not_le; intro hle
 have := Nat.div_le_div_right (c := P) hle; omega

theorem num_pos {L : List Nat} (h : Norm L) (hl : 0 < L.length) : 10 ^ (L.length - 1) ≤ num L := by
 cases L with
 | nil => simp at hl
 | cons d r =>
  have := h.head hl
  simp at this
  rw [num_cons]; simp
  have : 1 * 10 ^ r.length ≤ d * 10 ^ r.length := Nat.mul_le_mul_right _ (by omega)
  omega
theorem val_pos {L : List Nat} (h : Norm L) (hl : 0 < L.length) (K : Nat) (e : Int) : 0 < val K L e := by
 have := num_pos h hl
 exact Nat.mul_pos (Nat.lt_of_lt_of_le (Nat.pow_pos (by omega)) this) (Nat.pow_pos (by omega))
theorem val_nil (K : Nat) (e : Int) : val K [] e = 0 := by simp [val, num_nil]

theorem num_zero_cons (L : List Nat) : num (0 :: L) = num L := by rw [num_cons]; simp
theorem val_snoc_zero (K : Nat) (L : List Nat) (e : Int) (he : -(K : Int) ≤ e) : val K (L ++ [0]) e = val K L (e + 1) := by
 unfold val; rw [num_snoc, show (e + 1 + K).toNat = (e + K).toNat + 1 from by omega, Nat.pow_succ]
 simp [Nat.mul_comm, Nat.mul_left_comm]; rw [Nat.mul_assoc]

theorem num_set (L : List Nat) (i d : Nat) (hi : i < L.length) (h0 : L.getD i 0 = 0) : num (L.set i d) = num L + d * 10 ^ (L.length - 1 - i) := by
 induction L generalizing i with
 | nil => simp at hi
 | cons x r ih =>
  cases i with
  | zero => simp at h0; subst h0; simp [num_cons]; omega
  | succ i =>
   simp at hi h0
   rw [List.set_cons_succ, num_cons, num_cons, ih i hi (by simpa using h0)]
   simp
   rw [show r.length - (i + 1) = r.length - 1 - i from by omega]; omega

theorem num_all_zero (L : List Nat) (h : ∀ j, j < L.length → L.getD j 0 = 0) : num L = 0 := by
 induction L with
 | nil => rfl
 | cons d r ih =>
  have h0 := h 0 (by simp)
  simp at h0
  rw [num_cons, h0, ih (fun j hj => by have := h (j + 1) (by simp; omega); simpa using this)]; simp
theorem num_drop_zeros (L : List Nat) (a : Nat) (h : ∀ j, j < a → L.getD j 0 = 0) : num L = num (L.drop a) := by
 induction a generalizing L with
 | zero => simp
 | succ a ih =>
  cases L with
  | nil => simp
  | cons d r =>
   have h0 := h 0 (by omega)
   simp at h0
   rw [List.drop_succ_cons, ← ih r (fun j hj => by have := h (j + 1) (by omega); simpa using this), num_cons, h0]; simp
theorem num_take_zeros (L : List Nat) (z : Nat) (hz : z ≤ L.length) (h : ∀ j, z ≤ j → j < L.length → L.getD j 0 = 0) : num L = num (L.take z) * 10 ^ (L.length - z) := by
 conv => lhs; rw [← List.take_append_drop z L]
 rw [num_append, num_all_zero (L.drop z) (fun j hj => by
  have := h (z + j) (by omega) (by simp at hj; omega)
  simpa [List.getD_eq_getElem?_getD] using this)]
 simp
theorem made_val (L : List Nat) (a z : Nat) (haz : a < z) (hz : z ≤ L.length) (ha0 : ∀ j, j < a → L.getD j 0 = 0) (hz0 : ∀ j, z ≤ j → j < L.length → L.getD j 0 = 0) (K : Nat) (e : Int) (he : -(K : Int) ≤ e) :
  val K ((L.take z).drop a) (e + ((L.length : Int) - z)) = val K L e := by
 unfold val
 rw [num_take_zeros L z hz hz0, ← num_drop_zeros (L.take z) a (fun j hj => by
  have := ha0 j hj
  rw [List.getD_eq_getElem?_getD] at this ⊢
  rw [List.getElem?_take_of_lt (by omega)]; exact this)]
 rw [show (e + ((L.length : Int) - z) + K).toNat = (L.length - z) + (e + K).toNat from by omega, Nat.pow_add, Nat.mul_assoc]
theorem made_norm (L : List Nat) (a z : Nat) (haz : a < z) (hz : z ≤ L.length) (hd : Digs L) (ha : L.getD a 0 ≠ 0) (hl : L.getD (z - 1) 0 ≠ 0) : Norm ((L.take z).drop a) := by
 refine ⟨(hd.take z).drop a, fun h => ?_, fun h => ?_⟩
 ·rw [List.getD_eq_getElem?_getD, List.getElem?_eq_getElem (by omega)] at ha
  simpa using ha
 ·rw [List.getD_eq_getElem?_getD, List.getElem?_eq_getElem (by omega)] at hl
  have : a + (min z L.length - a - 1) = z - 1 := by omega
  simp [this]; simpa using hl
theorem made_getD (L : List Nat) (a z j : Nat) (hj : j < z - a) : ((L.take z).drop a).getD j 0 = L.getD (a + j) 0 := by
 rw [List.getD_eq_getElem?_getD, List.getD_eq_getElem?_getD, List.getElem?_drop, List.getElem?_take_of_lt (by omega)]
theorem norm_nil : Norm [] := ⟨Digs.nil, fun h => by simp at h, fun h => by simp at h⟩

theorem take_succ_getD (R : List Nat) (k : Nat) (hk : k < R.length) : R.take (k + 1) = R.take k ++ [R.getD k 0] := by
 rw [List.take_succ_eq_append_getElem hk, List.getD_eq_getElem?_getD, List.getElem?_eq_getElem hk]; rfl
theorem mul_split (P v : Nat) : P * (v % 10) + v / 10 * (P * 10) = P * v := by
 have h : v % 10 + 10 * (v / 10) = v := Nat.mod_add_div v 10
 calc P * (v % 10) + v / 10 * (P * 10) = P * (v % 10 + 10 * (v / 10)) := by grind
  _ = P * v := by rw [h]
theorem times_step (R O : List Nat) (k n c : Nat) (hk : k < R.length) (hO : O.length = k) (h : le O + c * 10 ^ k = le (R.take k) * n) :
  le (O ++ [(R.getD k 0 * n + c) % 10]) + (R.getD k 0 * n + c) / 10 * 10 ^ (k + 1) = le (R.take (k + 1)) * n := by
 rw [take_succ_getD R k hk, le_append, le_append, List.length_take, Nat.min_eq_left (by omega), hO]
 simp only [le, Nat.mul_zero, Nat.add_zero]
 rw [Nat.add_mul, ← h, Nat.pow_succ, Nat.add_assoc, mul_split]
 grind
theorem carry_step (O : List Nat) (c M : Nat) (h : le O + c * 10 ^ O.length = M) : le (O ++ [c % 10]) + c / 10 * 10 ^ (O ++ [c % 10]).length = M := by
 rw [le_append, List.length_append]
 simp only [le, Nat.mul_zero, Nat.add_zero, List.length_singleton, Nat.pow_succ]
 rw [Nat.add_assoc, mul_split, ← h]; grind
theorem carry_lt (c t : Nat) (hc : c < 10 ^ (17 - t)) (h0 : 0 < c) : t < 17 ∧ c / 10 < 10 ^ (17 - (t + 1)) := by
 have ht : t < 17 := by
  apply Nat.lt_of_not_le; intro h
  rw [Nat.sub_eq_zero_of_le h] at hc; simp at hc; omega
 refine ⟨ht, ?_⟩
 rw [show 17 - t = (17 - (t + 1)) + 1 from by omega, Nat.pow_succ] at hc
 omega
def Turned (O M : List Nat) (i : Nat) : Prop := M.length = O.length ∧ ∀ j, j < O.length → M.getD j 0 = if j < i ∨ O.length - i ≤ j then O.getD (O.length - 1 - j) 0 else O.getD j 0
theorem Turned.start (O : List Nat) : Turned O O 0 := ⟨rfl, fun j hj => by rw [if_neg (by omega)]⟩
theorem getD_set (M : List Nat) (i j x : Nat) (hi : i < M.length) : (M.set i x).getD j 0 = if j = i then x else M.getD j 0 := by
 rw [List.getD_eq_getElem?_getD, List.getD_eq_getElem?_getD, List.getElem?_set]
 by_cases h : i = j
 ·subst h; simp [hi]
 ·rw [if_neg h, if_neg (by omega)]
theorem Turned.step {O M : List Nat} {i : Nat} (h : Turned O M i) (hi : i < O.length / 2) :
  Turned O ((M.set i (M.getD (O.length - 1 - i) 0)).set (O.length - 1 - i) (M.getD i 0)) (i + 1) := by
 obtain ⟨hl, hj⟩ := h
 refine ⟨by simpa using hl, fun j hjl => ?_⟩
 rw [getD_set _ _ _ _ (by simp; omega), getD_set _ _ _ _ (by omega)]
 by_cases h1 : j = O.length - 1 - i
 ·rw [if_pos h1, if_pos (by omega), hj i (by omega), if_neg (by omega), h1]; congr 1; omega
 ·rw [if_neg h1]
  by_cases h2 : j = i
  ·rw [if_pos h2, if_pos (by omega), hj _ (by omega), if_neg (by omega), h2]
  ·rw [if_neg h2, hj j hjl]
   by_cases h3 : j < i ∨ O.length - i ≤ j
   ·rw [if_pos h3, if_pos (by omega)]
   ·rw [if_neg h3, if_neg (by omega)]
theorem Turned.done {O M : List Nat} {i : Nat} (h : Turned O M i) (hi : O.length / 2 ≤ i) (hi2 : i ≤ O.length) : M = O.reverse := by
 obtain ⟨hl, hj⟩ := h
 apply List.ext_getElem?
 intro j
 by_cases hjl : j < O.length
 ·have := hj j hjl
  rw [List.getD_eq_getElem?_getD, List.getD_eq_getElem?_getD, List.getD_eq_getElem?_getD] at this
  rw [List.getElem?_reverse hjl]
  have e1 : M[j]? = some (M[j]'(by omega)) := List.getElem?_eq_getElem (by omega)
  have e2 : O[O.length - 1 - j]? = some (O[O.length - 1 - j]'(by omega)) := List.getElem?_eq_getElem (by omega)
  have e3 : O[j]? = some (O[j]'hjl) := List.getElem?_eq_getElem hjl
  rw [e1, e2, e3] at this
  rw [e1, e2]
  simp only [Option.getD_some] at this
  split at this
  ·rw [this]
  ·have : O.length - 1 - j = j := by omega
   simp only [this]; rw [‹M[j] = O[j]›]
 ·rw [List.getElem?_eq_none (by omega), List.getElem?_eq_none (by simp; omega)]

theorem val_times {M O L : List Nat} {n : Nat} (h : M = O.reverse) (h2 : le O = num L * n) (K : Nat) (e : Int) : val K M e = val K L e * n := by
 unfold val
 rw [h, show num O.reverse = le O from by unfold num; rw [List.reverse_reverse], h2, Nat.mul_assoc, Nat.mul_comm n, ← Nat.mul_assoc]

theorem val_mul_zero {L : List Nat} {n K : Nat} {e : Int} (h : num L * n = 0) : val K L e * n = 0 := by
 unfold val; rw [Nat.mul_assoc, Nat.mul_comm _ n, ← Nat.mul_assoc, h, Nat.zero_mul]

def cmpN (a b : Nat) : Int := if a < b then -1 else if a = b then 0 else 1
theorem cmpN_lt {a b : Nat} (h : a < b) : cmpN a b = -1 := by simp [cmpN, h]
theorem cmpN_eq {a b : Nat} (h : a = b) : cmpN a b = 0 := by simp [cmpN, h]
theorem cmpN_gt {a b : Nat} (h : b < a) : cmpN a b = 1 := by unfold cmpN; rw [if_neg (by omega), if_neg (by omega)]
theorem cmp_step {L1 L2 : List Nat} {e1 e2 p : Int} {K : Nat} (h1 : Digs L1) (h2 : Digs L2) (k1 : -(K : Int) ≤ e1) (k2 : -(K : Int) ≤ e2) (kp : -(K : Int) ≤ p)
  (h : val K L1 e1 / 10 ^ (p + 1 + K).toNat = val K L2 e2 / 10 ^ (p + 1 + K).toNat) :
  (dig L1 e1 p = dig L2 e2 p → val K L1 e1 / 10 ^ (p + K).toNat = val K L2 e2 / 10 ^ (p + K).toNat) ∧
  (dig L1 e1 p < dig L2 e2 p → val K L1 e1 < val K L2 e2) ∧ (dig L2 e2 p < dig L1 e1 p → val K L2 e2 < val K L1 e1) := by
 have g1 := dig_val h1 K e1 p k1 kp
 have g2 := dig_val h2 K e2 p k2 kp
 have s1 := hi_step (val K L1 e1) (p + K).toNat
 have s2 := hi_step (val K L2 e2) (p + K).toNat
 rw [show (p + K).toNat + 1 = (p + 1 + K).toNat from by omega] at s1 s2
 refine ⟨fun hh => by omega, fun hh => ?_, fun hh => ?_⟩
 ·apply lt_of_hi (P := 10 ^ (p + K).toNat); omega
 ·apply lt_of_hi (P := 10 ^ (p + K).toNat); omega
theorem cmp_done {L1 L2 : List Nat} {e1 e2 : Int} {K : Nat} (k1 : -(K : Int) ≤ e1) (k2 : -(K : Int) ≤ e2)
  (h : val K L1 e1 / 10 ^ (min e1 e2 + K).toNat = val K L2 e2 / 10 ^ (min e1 e2 + K).toNat) : val K L1 e1 = val K L2 e2 := by
 have m1 := val_mod L1 K e1 (min e1 e2) (by omega) (by omega)
 have m2 := val_mod L2 K e2 (min e1 e2) (by omega) (by omega)
 rw [← Nat.div_add_mod (val K L1 e1) (10 ^ (min e1 e2 + K).toNat), ← Nat.div_add_mod (val K L2 e2) (10 ^ (min e1 e2 + K).toNat), m1, m2, h]

theorem mod_step (V P : Nat) : V % 10 ^ (P + 1) = V % 10 ^ P + (V / 10 ^ P % 10) * 10 ^ P := by
 rw [Nat.pow_succ, Nat.mod_mul, Nat.mul_comm (10 ^ P)]
theorem add_step {L1 L2 M : List Nat} {e1 e2 p low high : Int} {K c : Nat} (h1 : Digs L1) (h2 : Digs L2) (k1 : -(K : Int) ≤ e1) (k2 : -(K : Int) ≤ e2) (kl : -(K : Int) ≤ low) (hlp : low ≤ p)
  (hM : (M.length : Int) = high - low + 1) (j : Nat) (hj : (j : Int) = high - p) (h0 : M.getD j 0 = 0)
  (h : num M * 10 ^ (low + K).toNat + c * 10 ^ (p + K).toNat = val K L1 e1 % 10 ^ (p + K).toNat + val K L2 e2 % 10 ^ (p + K).toNat) :
  num (M.set j ((c + dig L1 e1 p + dig L2 e2 p) % 10)) * 10 ^ (low + K).toNat + (c + dig L1 e1 p + dig L2 e2 p) / 10 * 10 ^ (p + 1 + K).toNat = val K L1 e1 % 10 ^ (p + 1 + K).toNat + val K L2 e2 % 10 ^ (p + 1 + K).toNat := by
 have g1 := dig_val h1 K e1 p k1 (by omega)
 have g2 := dig_val h2 K e2 p k2 (by omega)
 rw [show (p + 1 + K).toNat = (p + K).toNat + 1 from by omega, mod_step, mod_step, g1, g2, num_set M j _ (by omega) h0]
 generalize dig L1 e1 p = d1 at *
 generalize dig L2 e2 p = d2 at *
 have e3 : 10 ^ (M.length - 1 - j) * 10 ^ (low + K).toNat = 10 ^ (p + K).toNat := by
  rw [← Nat.pow_add]; congr 1; omega
 rw [Nat.add_mul, Nat.mul_assoc _ (10 ^ (M.length - 1 - j)), e3, Nat.pow_succ]
 generalize 10 ^ (p + K).toNat = T at *
 generalize val K L1 e1 % T = r1 at *
 generalize val K L2 e2 % T = r2 at *
 have hs := mul_split T (c + d1 + d2)
 have e4 : (c + d1 + d2) % 10 * T + (c + d1 + d2) / 10 * (T * 10) = T * (c + d1 + d2) := by rw [← hs, Nat.mul_comm T ((c + d1 + d2) % 10)]
 calc _ = num M * 10 ^ (low + K).toNat + ((c + d1 + d2) % 10 * T + (c + d1 + d2) / 10 * (T * 10)) := by omega
  _ = num M * 10 ^ (low + K).toNat + (c * T + (d1 * T + d2 * T)) := by rw [e4]; grind
  _ = _ := by omega
theorem add_done {L1 L2 M : List Nat} {e1 e2 low high : Int} {K c : Nat} (h1 : Digs L1) (h2 : Digs L2) (k1 : -(K : Int) ≤ e1) (k2 : -(K : Int) ≤ e2) (hh1 : e1 + L1.length ≤ high) (hh2 : e2 + L2.length ≤ high)
  (h : num M * 10 ^ (low + K).toNat + c * 10 ^ (high + 1 + K).toNat = val K L1 e1 % 10 ^ (high + 1 + K).toNat + val K L2 e2 % 10 ^ (high + 1 + K).toNat) :
  val K M low = val K L1 e1 + val K L2 e2 := by
 have g1 := val_hi h1 K e1 high hh1 k1
 have g2 := val_hi h2 K e2 high hh2 k2
 have hp : 0 < 10 ^ (high + K).toNat := Nat.pow_pos (by omega)
 have l1 : val K L1 e1 < 10 ^ (high + K).toNat := (Nat.div_eq_zero_iff_lt hp).1 g1
 have l2 : val K L2 e2 < 10 ^ (high + K).toNat := (Nat.div_eq_zero_iff_lt hp).1 g2
 have l3 : 10 ^ (high + 1 + K).toNat = 10 ^ (high + K).toNat * 10 := by rw [← Nat.pow_succ]; congr 1; omega
 rw [Nat.mod_eq_of_lt (by omega), Nat.mod_eq_of_lt (by omega)] at h
 have hc : c = 0 := by
  cases c with
  | zero => rfl
  | succ c =>
   exfalso
   rw [Nat.succ_mul] at h
   omega
 subst hc
 unfold val at *
 omega

end Go.Proofs.YtbkdaoicnobllabGreatDoor

namespace Go.Proofs.YtbkdaoicnobllabGreatDoor
open Go.RowKit

theorem hid {p : Prop} (h : p) : Hid p := h
theorem ret_int {k : IntKind} {a b : Int} (h : a = b) : Ending.returned (.int k a) = .returned (.int k b) := by rw [h]

def Row (w : World) (v : Value) (L : List Nat) : Prop :=
 (L = [] ∧ v = .slice none 0 0) ∨
 ∃ b off cap, v = .slice (some ⟨b, off, none⟩) L.length cap ∧ L.length ≤ cap ∧ cap ≤ maxLen ∧ b < w.heap.size ∧ ∀ j, j < L.length → w.cell? ⟨b, off + j, none⟩ = some (.int .i64 (L.getD j 0 : Nat))

theorem Row.nil (w : World) : Row w (.slice none 0 0) [] := .inl ⟨rfl, rfl⟩
theorem Row.below {w w' : World} {v : Value} {L : List Nat} {B : Nat} (h : Row w v L) (hb : Below B w w') (hB : w.heap.size ≤ B) : Row w' v L := by
 rcases h with h | ⟨b, off, cap, rfl, h1, h2, h3, h4⟩
 ·exact .inl h
 ·exact .inr ⟨b, off, cap, rfl, h1, h2, by have := hb.size; omega, fun j hj => (hb.cell (p := ⟨b, off + j, none⟩) (by show b < B; omega)).trans (h4 j hj)⟩

def ints (O : List Nat) : List Value := O.map fun d => Value.int .i64 (d : Nat)
theorem ints_getElem? (O : List Nat) (j : Nat) : (ints O)[j]? = if j < O.length then some (.int .i64 (O.getD j 0 : Nat)) else none := by
 unfold ints
 rw [List.getElem?_map]
 split
 ·rename_i h; rw [List.getElem?_eq_getElem h, List.getD_eq_getElem?_getD, List.getElem?_eq_getElem h]; rfl
 ·rename_i h; rw [List.getElem?_eq_none (by omega)]; rfl
theorem ints_append (a b : List Nat) : ints (a ++ b) = ints a ++ ints b := by simp [ints]
theorem ints_length (a : List Nat) : (ints a).length = a.length := by simp [ints]
theorem ints_one (d : Nat) : ints [d] = [Value.int .i64 (d : Nat)] := rfl
theorem ints_oneCell (a : List Nat) : ∀ u ∈ ints a, u.oneCell' = true := by
 intro u hu; simp [ints] at hu; obtain ⟨d, _, rfl⟩ := hu; rfl
theorem ints_set (a : List Nat) (j d : Nat) : (ints a).set j (.int .i64 (d : Nat)) = ints (a.set j d) := by simp [ints, List.map_set]
theorem ints_replicate (n : Nat) : List.replicate n (Value.int .i64 0) = ints (List.replicate n 0) := by simp [ints]
def Own (w : World) (base : Nat) (v : Value) (O : List Nat) : Prop := w.ownsRow base 3 1 v O.length (ints O)
theorem Own.nil (w : World) (base : Nat) : Own w base (.slice none 0 0) [] := World.ownsRow_nil w base _ _
theorem Own.row {w : World} {base : Nat} {v : Value} {O : List Nat} (h : Own w base v O) : Row w v O := by
 unfold Own at h
 rcases h.2 with ⟨rfl, h0⟩ | ⟨g, cap, cur, rfl, hb, hg, h1, h2, h3, h4⟩
 ·exact .inl ⟨List.length_eq_zero_iff.1 h0, rfl⟩
 ·refine .inr ⟨g, 0, cap, rfl, h1, h2, (Array.getElem?_eq_some_iff.1 hg).1, fun j hj => ?_⟩
  rw [Nat.zero_add, h.cellAt j (by omega), ints_getElem?, if_pos hj]

theorem Own.snoc {w : World} {base : Nat} {v : Value} {O : List Nat} {k : Nat} {z : Int} {d : Nat} (h : w.ownsRow base 3 1 v (k + 1) (ints O ++ [.int .i64 z])) (hO : O.length = k) (hz : z = (d : Nat)) : Own w base v (O ++ [d]) := by
 subst hz; unfold Own; rw [ints_append]; simp only [List.length_append, List.length_singleton]; rw [hO]; exact h
theorem Own.owns {w : World} {base : Nat} {v : Value} {O : List Nat} (h : Own w base v O) : w.ownsRow base 3 1 v O.length (ints O) := h
theorem Own.below {w w' : World} {base : Nat} {v : Value} {O : List Nat} (h : Own w base v O) {B : Nat} (hb : Below B w w') (hB : w.heap.size ≤ B) : Own w' base v O := by
 refine ⟨h.1, ?_⟩
 rcases h.2 with h2 | ⟨g, cap, cur, hv, hg, hh, r⟩
 ·exact .inl h2
 ·exact .inr ⟨g, cap, cur, hv, hg, by rw [hb.block g (Nat.lt_of_lt_of_le (Array.getElem?_eq_some_iff.1 hh).1 hB)]; exact hh, r⟩

theorem Own.form {w : World} {base : Nat} {v : Value} {O : List Nat} (h : Own w base v O) :
  (O = [] ∧ v = .slice none 0 0) ∨ ∃ g cap, v = .slice (some ⟨g, 0, none⟩) O.length cap ∧ base ≤ g ∧ g < w.heap.size ∧ O.length ≤ cap ∧ cap ≤ maxLen := by
 rcases h.2 with ⟨rfl, h0⟩ | ⟨g, cap, cur, rfl, hb, hg, h1, h2, _⟩
 ·exact .inl ⟨List.length_eq_zero_iff.1 h0, rfl⟩
 ·exact .inr ⟨g, cap, rfl, hb, (Array.getElem?_eq_some_iff.1 hg).1, h1, h2⟩
theorem Own.cell {w : World} {base g cap n : Nat} {O : List Nat} (h : Own w base (.slice (some ⟨g, 0, none⟩) n cap) O) (hn : O.length = n) (j : Nat) (hj : j < n) : w.cell? ⟨g, j, none⟩ = some (.int .i64 (O.getD j 0 : Nat)) := by
 unfold Own at h; rw [hn] at h
 rw [h.cellAt j (by omega), ints_getElem?, if_pos (by omega)]
theorem Own.frozen {w : World} {base g cap n : Nat} {O : List Nat} (h : Own w base (.slice (some ⟨g, 0, none⟩) n cap) O) (hn : O.length = n) (j : Nat) : w.frozen? ⟨g, j, none⟩ = false := by
 unfold Own at h; rw [hn] at h
 exact h.frozenAt j
theorem Own.store {w : World} {base g cap n : Nat} {O : List Nat} (h : Own w base (.slice (some ⟨g, 0, none⟩) n cap) O) (hn : O.length = n) (j d : Nat) : Own (w.setCell ⟨g, j, none⟩ (.int .i64 (d : Nat))) base (.slice (some ⟨g, 0, none⟩) n cap) (O.set j d) := by
 unfold Own at h ⊢; rw [hn] at h; rw [List.length_set, hn, ← ints_set]
 exact (h.stored j _).1

theorem Row.setCell {w : World} {v : Value} {L : List Nat} (h : Row w v L) (a : Addr) (u : Value) (hne : v.ownBlock ≠ some a.block) : Row (w.setCell a u) v L := by
 rcases h with h | ⟨b, off, cap, rfl, h1, h2, h3, h4⟩
 ·exact .inl h
 ·refine .inr ⟨b, off, cap, rfl, h1, h2, by simpa [World.setCell] using h3, fun j hj => ?_⟩
  rw [← h4 j hj]
  exact World.cell?_of_block (Below.heap_setCell w a u b (fun e => hne (by simp [Value.ownBlock, e])))
theorem Row.form {w : World} {v : Value} {L : List Nat} (h : Row w v L) : (L = [] ∧ v = .slice none 0 0) ∨ ∃ b off cap, v = .slice (some ⟨b, off, none⟩) L.length cap ∧ L.length ≤ cap ∧ cap ≤ maxLen ∧ b < w.heap.size := by
 rcases h with h | ⟨b, off, cap, rfl, h1, h2, h3, h4⟩
 ·exact .inl h
 ·exact .inr ⟨b, off, cap, rfl, h1, h2, h3⟩
theorem Row.isSlice {w : World} {v : Value} {L : List Nat} (h : Row w v L) : ∃ ao cap, v = .slice ao L.length cap := by
 rcases h.form with ⟨rfl, rfl⟩ | ⟨b, off, cap, rfl, _⟩
 ·exact ⟨_, _, rfl⟩
 ·exact ⟨_, _, rfl⟩
theorem Row.lt {w : World} {v : Value} {L : List Nat} (h : Row w v L) (g : Nat) (hg : v.ownBlock = some g) : g < w.heap.size := by
 rcases h.form with ⟨rfl, rfl⟩ | ⟨b, off, cap, rfl, _, _, h3⟩
 ·simp [Value.ownBlock] at hg
 ·simp [Value.ownBlock] at hg; omega

structure Out (w : World) (v : Value) (L : List Nat) (e : Int) (len : Nat) (lo hi : Int) (own : Nat → Prop) (V : Nat → Nat) : Prop where
 row : Row w v L
 own : ∀ g, v.ownBlock = some g → own g
 norm : Norm L
 len : L.length ≤ len
 nil : L = [] → e = 0
 ne : L ≠ [] → lo ≤ e ∧ e + L.length ≤ hi
 val : ∀ K : Nat, -(K : Int) ≤ lo → val K L e = V K
theorem Out.setCell {w : World} {v : Value} {L : List Nat} {e : Int} {len : Nat} {lo hi : Int} {own : Nat → Prop} {V : Nat → Nat} (h : Out w v L e len lo hi own V) (a : Addr) (u : Value) (hne : ¬ own a.block) : Out (w.setCell a u) v L e len lo hi own V :=
 ⟨h.row.setCell a u (fun hh => hne (h.own _ hh)), h.own, h.norm, h.len, h.nil, h.ne, h.val⟩
theorem Out.below {w w' : World} {v : Value} {L : List Nat} {e : Int} {len : Nat} {lo hi : Int} {own : Nat → Prop} {V : Nat → Nat} (h : Out w v L e len lo hi own V) {B : Nat} (hb : Below B w w') (hB : w.heap.size ≤ B) : Out w' v L e len lo hi own V :=
 ⟨h.row.below hb hB, h.own, h.norm, h.len, h.nil, h.ne, h.val⟩
theorem Out.mono {w : World} {v : Value} {L : List Nat} {e : Int} {len len' : Nat} {lo hi lo' hi' : Int} {own own' : Nat → Prop} {V V' : Nat → Nat} (h : Out w v L e len lo hi own V) (h1 : len ≤ len') (h2 : lo' ≤ lo) (h3 : hi ≤ hi') (h4 : ∀ g, own g → own' g) (h5 : ∀ K : Nat, -(K : Int) ≤ lo' → V K = V' K) : Out w v L e len' lo' hi' own' V' :=
 ⟨h.row, fun g hg => h4 g (h.own g hg), h.norm, Nat.le_trans h.len h1, h.nil, fun hh => ⟨Int.le_trans h2 (h.ne hh).1, Int.le_trans (h.ne hh).2 h3⟩, fun K hK => (h.val K (Int.le_trans hK h2)).trans (h5 K hK)⟩
theorem Out.bounds {w : World} {v : Value} {L : List Nat} {e : Int} {len : Nat} {lo hi : Int} {own : Nat → Prop} {V : Nat → Nat} (h : Out w v L e len lo hi own V) (M : Int) (hl : -M ≤ lo) (hh : hi ≤ M) (h0 : 0 ≤ M) : -M ≤ e ∧ e ≤ M := by
 by_cases hL : L = []
 ·rw [h.nil hL]; omega
 ·have := h.ne hL; omega

theorem keep_cell {w w' : World} {a : Addr} {v : Value} (hb : Below w.heap.size w w') (h : w.cell? a = some v) : w'.cell? a = some v :=
 (hb.cell (p := a) (World.block_lt_of_cell? w a h)).trans h
end Go.Proofs.YtbkdaoicnobllabGreatDoor

namespace Go.Proofs.YtbkdaoicnobllabGreatDoor

def two (K : Nat) (t : Int) : Nat := if 0 ≤ t then 2 ^ t.toNat * 10 ^ K else 5 ^ (-t).toNat * 10 ^ (K + t).toNat

theorem two_zero (K : Nat) : two K 0 = 10 ^ K := by simp [two]
theorem two_pos (K : Nat) (t : Int) : 0 < two K t := by
 unfold two; split
 ·exact Nat.mul_pos (Nat.pow_pos (by omega)) (Nat.pow_pos (by omega))
 ·exact Nat.mul_pos (Nat.pow_pos (by omega)) (Nat.pow_pos (by omega))
theorem two_up (K n : Nat) (t : Int) (h : 0 ≤ t) : two K (t + n) = two K t * 2 ^ n := by
 unfold two; rw [if_pos (by omega), if_pos h, show (t + n).toNat = t.toNat + n from by omega, Nat.pow_add]
 rw [Nat.mul_assoc, Nat.mul_comm (2 ^ n), ← Nat.mul_assoc]
theorem two_down (K n : Nat) (t : Int) (h : t ≤ 0) (hk : -(K : Int) ≤ t - n) : two K (t - n) * 10 ^ n = two K t * 5 ^ n := by
 have h1 : two K (t - n) = 5 ^ ((-t).toNat + n) * 10 ^ (K + (t - n)).toNat := by
  unfold two
  by_cases h0 : 0 ≤ t - n
  ·have : t = 0 := by omega
   have : n = 0 := by omega
   subst_vars; simp
  ·rw [if_neg h0, show (-(t - n)).toNat = (-t).toNat + n from by omega]
 have h2 : two K t = 5 ^ (-t).toNat * 10 ^ ((K + (t - n)).toNat + n) := by
  unfold two
  by_cases h0 : 0 ≤ t
  ·have : t = 0 := by omega
   subst this; simp; congr 1; omega
  ·rw [if_neg h0, show (K + t).toNat = (K + (t - n)).toNat + n from by omega]
 rw [h1, h2, Nat.pow_add, Nat.pow_add]
 grind
theorem val_down (K n : Nat) (L : List Nat) (e : Int) (hk : -(K : Int) ≤ e - n) : val K L (e - n) * 10 ^ n = val K L e := by
 unfold val; rw [Nat.mul_assoc, ← Nat.pow_add]; congr 2; omega
theorem two_mul (K : Nat) (t : Int) (hk : -(K : Int) ≤ t) (n : Nat) : two K (t + n) = two K t * 2 ^ n := by
 by_cases h0 : 0 ≤ t
 ·exact two_up K n t h0
 ·by_cases h1 : t + n ≤ 0
  ·have := two_down K n (t + n) h1 (by omega)
   rw [show t + n - n = t from by omega, show (10 : Nat) = 5 * 2 from rfl, Nat.mul_pow] at this
   have hp : 0 < 5 ^ n := Nat.pow_pos (by omega)
   apply Nat.eq_of_mul_eq_mul_right hp
   rw [← this]; grind
  ·obtain ⟨a, ha⟩ : ∃ a : Nat, (a : Int) = -t := ⟨(-t).toNat, by omega⟩
   obtain ⟨b, hb⟩ : ∃ b : Nat, n = a + b := ⟨n - a, by omega⟩
   have h2 := two_down K a 0 (by omega) (by omega)
   rw [show (0 : Int) - a = t from by omega, two_zero] at h2
   have h3 := two_up K b 0 (by omega)
   rw [two_zero, show (0 : Int) + b = t + n from by omega] at h3
   rw [h3, hb, Nat.pow_add, ← Nat.mul_assoc]
   congr 1
   have hp : 0 < 5 ^ a := Nat.pow_pos (by omega)
   apply Nat.eq_of_mul_eq_mul_right hp
   rw [← h2, show (10 : Nat) = 5 * 2 from rfl, Nat.mul_pow]; grind

end Go.Proofs.YtbkdaoicnobllabGreatDoor

namespace Go.Proofs.YtbkdaoicnobllabGreatDoor

def mA (q a : Nat) : Nat := if a / 2 ^ q = 0 then a % 2 ^ q else a % 2 ^ q + 2 ^ q
def xA (q a : Nat) : Nat := a / 2 ^ q - 1
def fQ (f : Int) : Nat := if f = 0 then 10 else if f = 1 then 23 else 52
def fE (f : Int) : Int := if f = 0 then -24 else if f = 1 then -149 else -1074
def valA (K : Nat) (f : Int) (a : Nat) : Nat := two K (fE f + xA (fQ f) a) * mA (fQ f) a
def infA (f : Int) : Int := if f = 0 then 31744 else if f = 1 then 2139095040 else 9218868437227405312
def awayB (mode : Int) (neg : Bool) (half : Int) (odd : Bool) : Bool :=
 if mode = 0 then half == 3 || (half == 2 && odd) else if mode = 1 then decide (2 ≤ half) else if mode = 3 then !neg else if mode = 4 then neg else false
end Go.Proofs.YtbkdaoicnobllabGreatDoor

namespace Go.Proofs.YtbkdaoicnobllabGreatDoor
open Go.RowKit

theorem Tryz.info_int : (Tryz.prog.info? 3).map (fun i => (i.zero, i.size, i.bytes)) = some (some (.int .i64 0), 1, 8) := by kernel_rfl
theorem two_cells {w : World} {B : Nat} {x y x0 y0 : Value} (c0 : w.cell? ⟨B, 0, none⟩ = some x0) (c1 : w.cell? ⟨B, 1, none⟩ = some y0) :
  ((w.setCell ⟨B, 0, none⟩ x).setCell ⟨B, 1, none⟩ y).cell? ⟨B, 0, none⟩ = some x ∧ ((w.setCell ⟨B, 0, none⟩ x).setCell ⟨B, 1, none⟩ y).cell? ⟨B, 1, none⟩ = some y := by
 constructor
 ·rw [World.cell?_setCell_other _ _ _ _ (by simp)]
  exact World.cell?_setCell_same' _ _ _ (by rw [c0]; rfl)
 ·exact World.cell?_setCell_same' _ _ _ (by rw [World.cell?_setCell_other _ _ _ _ (by simp), c1]; rfl)
theorem box4_below {w : World} {o1 o2 : Obj} : Below w.heap.size w ((w.alloc o1).alloc o2) := ((Below.refl _ _).alloc (Nat.le_refl _) _).alloc (by simp) _
theorem below_two {B : Nat} {a w : World} (h : Below B a w) {b : Nat} (hb : B ≤ b) (x y : Value) : Below B a ((w.setCell ⟨b, 0, none⟩ x).setCell ⟨b, 1, none⟩ y) := (h.setCell (p := ⟨b, 0, none⟩) hb x).setCell (p := ⟨b, 1, none⟩) hb y
end Go.Proofs.YtbkdaoicnobllabGreatDoor
