import Derived.Test.YtbkdaoicnobllabGreatDoorG00
import Derived.WalkKit
import Derived.Lib.ItoaNum
import Derived.Lib.ItoaLen
import Derived.Laws.IdiomStrings

namespace Go.Proofs.YtbkdaoicnobllabGreatDoor

def rowT (L : List Nat) (e hi : Int) : Nat → List UInt8
 | 0 => []
 | n + 1 => rowT L e hi n ++ [UInt8.ofNat (48 + dig L e (hi - n))]
theorem rowT_length (L : List Nat) (e hi : Int) (n : Nat) : (rowT L e hi n).length = n := by
 induction n with
 | zero => rfl
 | succ n ih => simp [rowT, ih]
theorem rowT_congr {L M : List Nat} {e g hi : Int} (n : Nat) (h : ∀ p, hi - n < p → p ≤ hi → dig L e p = dig M g p) : rowT L e hi n = rowT M g hi n := by
 induction n with
 | zero => rfl
 | succ n ih => simp only [rowT]; rw [ih (fun p h1 h2 => h p (by omega) h2), h (hi - n) (by omega) (by omega)]
theorem rowT_cons (L : List Nat) (e hi : Int) (n : Nat) : rowT L e hi (n + 1) = UInt8.ofNat (48 + dig L e hi) :: rowT L e (hi - 1) n := by
 induction n with
 | zero => simp [rowT]
 | succ n ih =>
  rw [rowT, ih, rowT]
  simp only [List.cons_append]
  rw [show hi - ((n + 1 : Nat) : Int) = hi - 1 - n from by omega]

theorem dig_same {L M : List Nat} {e g : Int} {K : Nat} (h1 : Digs L) (h2 : Digs M) (k1 : -(K : Int) ≤ e) (k2 : -(K : Int) ≤ g) (h : val K L e = val K M g) (p : Int) (hp : -(K : Int) ≤ p) : dig L e p = dig M g p := by
 rw [← dig_val h1 K e p k1 hp, ← dig_val h2 K g p k2 hp, h]

def leftN (V P : Nat) : Int := if V % P = 0 then 0 else if 2 * (V % P) < P then 1 else if 2 * (V % P) = P then 2 else 3
theorem leftN_range (V P : Nat) : 0 ≤ leftN V P ∧ leftN V P ≤ 3 := by unfold leftN; split <;> (try split) <;> (try split) <;> omega
theorem left_of (V Q : Nat) (hq : 0 < Q) : leftN V (Q * 10) = if V / Q % 10 = 0 ∧ V % Q = 0 then 0 else if V / Q % 10 < 5 then 1 else if V / Q % 10 = 5 ∧ V % Q = 0 then 2 else 3 := by
 have h1 : V % (Q * 10) = V % Q + Q * (V / Q % 10) := Nat.mod_mul
 have h2 : V % Q < Q := Nat.mod_lt _ hq
 have h3 : V / Q % 10 < 10 := Nat.mod_lt _ (by omega)
 unfold leftN
 rw [h1]
 generalize V / Q % 10 = d at *
 generalize V % Q = r at *
 clear h1
 rcases (by omega : d = 0 ∨ d = 1 ∨ d = 2 ∨ d = 3 ∨ d = 4 ∨ d = 5 ∨ d = 6 ∨ d = 7 ∨ d = 8 ∨ d = 9) with rfl | rfl | rfl | rfl | rfl | rfl | rfl | rfl | rfl | rfl
 all_goals (repeat' split) <;> omega

theorem num_take {L : List Nat} (h : Digs L) (k : Nat) (_hk : k ≤ L.length) : num (L.take k) = num L / 10 ^ (L.length - k) := by
 conv => rhs; rw [← List.take_append_drop k L]
 rw [num_append, List.length_drop]
 have := num_lt (h.drop k)
 rw [List.length_drop] at this
 have hpos : 0 < 10 ^ (L.length - k) := Nat.pow_pos (by omega)
 rw [show (List.take k L ++ List.drop k L).length = L.length from by rw [List.take_append_drop], Nat.mul_comm, Nat.mul_add_div hpos, Nat.div_eq_of_lt this]; omega
theorem num_drop {L : List Nat} (h : Digs L) (k : Nat) (_hk : k ≤ L.length) : num (L.drop k) = num L % 10 ^ (L.length - k) := by
 conv => rhs; rw [← List.take_append_drop k L]
 rw [num_append, List.length_drop]
 have := num_lt (h.drop k)
 rw [List.length_drop] at this
 rw [show (List.take k L ++ List.drop k L).length = L.length from by rw [List.take_append_drop], Nat.mul_comm, Nat.mul_add_mod, Nat.mod_eq_of_lt this]
theorem mul_pow_div (x a b : Nat) (h : a ≤ b) : x * 10 ^ a / 10 ^ b = x / 10 ^ (b - a) := by
 obtain ⟨c, rfl⟩ : ∃ c, b = a + c := ⟨b - a, by omega⟩
 rw [Nat.pow_add, Nat.mul_comm x, Nat.mul_div_mul_left _ _ (Nat.pow_pos (by omega)), Nat.add_sub_cancel_left]
theorem mul_pow_mod (x a b : Nat) (h : a ≤ b) : x * 10 ^ a % 10 ^ b = x % 10 ^ (b - a) * 10 ^ a := by
 obtain ⟨c, rfl⟩ : ∃ c, b = a + c := ⟨b - a, by omega⟩
 rw [Nat.pow_add, Nat.mul_comm x, Nat.mul_mod_mul_left, Nat.add_sub_cancel_left, Nat.mul_comm]
theorem num_digit {L : List Nat} (h : Digs L) (k : Nat) (hk : k < L.length) : num L / 10 ^ (L.length - 1 - k) % 10 = L.getD k 0 := by
 unfold num
 rw [le_at h.reverse, List.getD_eq_getElem?_getD, List.getElem?_reverse (by omega), List.getD_eq_getElem?_getD, show L.length - 1 - (L.length - 1 - k) = k from by omega]
theorem num_zero_iff (L : List Nat) : num L = 0 ↔ ∀ d ∈ L, d = 0 := by
 induction L with
 | nil => simp [num_nil]
 | cons d r ih =>
  rw [num_cons]
  have hp : 0 < 10 ^ r.length := Nat.pow_pos (by omega)
  constructor
  ·intro h x hx
   have h1 : d * 10 ^ r.length = 0 := by omega
   have h2 : num r = 0 := by omega
   rcases List.mem_cons.1 hx with rfl | hx
   ·rcases Nat.mul_eq_zero.1 h1 with h | h
    ·exact h
    ·omega
   ·exact ih.1 h2 x hx
  ·intro h
   rw [h d (by simp), ih.2 (fun x hx => h x (List.mem_cons_of_mem _ hx))]; simp
theorem cut_mid {L : List Nat} (h : Digs L) (K : Nat) (e p : Int) (he : -(K : Int) ≤ e) (k : Nat) (hk : (k : Int) = L.length + e - p) (hkl : k < L.length) :
  val K L e / 10 ^ (p + K).toNat = num (L.take k) ∧
  leftN (val K L e) (10 ^ (p + K).toNat) = if L.getD k 0 = 0 ∧ num (L.drop (k + 1)) = 0 then 0 else if L.getD k 0 < 5 then 1 else if L.getD k 0 = 5 ∧ num (L.drop (k + 1)) = 0 then 2 else 3 := by
 unfold val
 have hp : 0 < 10 ^ (e + K).toNat := Nat.pow_pos (by omega)
 constructor
 ·rw [mul_pow_div _ _ _ (by omega), num_take h k (by omega), show (p + K).toNat - (e + K).toNat = L.length - k from by omega]
 ·rw [show (p + K).toNat = (p - 1 + K).toNat + 1 from by omega, Nat.pow_succ, left_of _ _ (Nat.pow_pos (by omega))]
  rw [mul_pow_div _ _ _ (by omega), mul_pow_mod _ _ _ (by omega), show (p - 1 + K).toNat - (e + K).toNat = L.length - 1 - k from by omega, num_digit h k hkl]
  rw [num_drop h (k + 1) (by omega), show L.length - (k + 1) = L.length - 1 - k from by omega]
  have e1 : (num L % 10 ^ (L.length - 1 - k) * 10 ^ (e + K).toNat = 0) ↔ (num L % 10 ^ (L.length - 1 - k) = 0) := by
   rw [Nat.mul_eq_zero]; constructor
   ·rintro (h | h)
    ·exact h
    ·omega
   ·exact .inl
  simp only [e1]
theorem cut_low (L : List Nat) (K : Nat) (e p : Int) (hk : -(K : Int) ≤ p) (k : Nat) (hkl : (k : Int) = L.length + e - p) (hl : L.length ≤ k) :
  val K L e / 10 ^ (p + K).toNat = num L * 10 ^ (k - L.length) ∧ leftN (val K L e) (10 ^ (p + K).toNat) = 0 := by
 have h1 := val_mod L K e p (by omega) hk
 constructor
 ·unfold val
  obtain ⟨m, hm⟩ : ∃ m : Nat, (e + K).toNat = (p + K).toNat + m := ⟨(e - p).toNat, by omega⟩
  rw [hm, Nat.pow_add, show num L * (10 ^ (p + K).toNat * 10 ^ m) = 10 ^ (p + K).toNat * (num L * 10 ^ m) from by grind, Nat.mul_div_cancel_left _ (Nat.pow_pos (by omega)), show k - L.length = m from by omega]
 ·unfold leftN; rw [if_pos h1]
theorem cut_high {L : List Nat} (h : Digs L) (K : Nat) (e p : Int) (he : -(K : Int) ≤ e) (hp : L.length + e < p) (h0 : 0 < num L) :
  val K L e / 10 ^ (p + K).toNat = 0 ∧ leftN (val K L e) (10 ^ (p + K).toNat) = 1 := by
 have h1 := val_hi h K e p (by omega) he
 have h2 : val K L e < 10 ^ (p - 1 + K).toNat := by
  have := val_hi h K e (p - 1) (by omega) he
  rcases Nat.div_eq_zero_iff.1 this with h | h
  ·have : 0 < 10 ^ (p - 1 + K).toNat := Nat.pow_pos (by omega)
   omega
  ·exact h
 have h3 : 0 < val K L e := Nat.mul_pos h0 (Nat.pow_pos (by omega))
 refine ⟨h1, ?_⟩
 unfold leftN
 rw [show (p + K).toNat = (p - 1 + K).toNat + 1 from by omega, Nat.pow_succ, Nat.mod_eq_of_lt (by omega), if_neg (by omega), if_pos (by omega)]

def Headed (L : List Nat) : Prop := ∀ h : 0 < L.length, L[0] ≠ 0
theorem Headed.lo {L : List Nat} (h : Headed L) (hl : 0 < L.length) : 10 ^ (L.length - 1) ≤ num L := by
 cases L with
 | nil => simp at hl
 | cons d r =>
  have := h hl
  simp at this
  rw [num_cons]; simp
  have : 1 * 10 ^ r.length ≤ d * 10 ^ r.length := Nat.mul_le_mul_right _ (by omega)
  omega
theorem Headed.pos {L : List Nat} (h : Headed L) (hl : 0 < L.length) : 0 < num L := Nat.lt_of_lt_of_le (Nat.pow_pos (by omega)) (h.lo hl)
theorem Norm.headed {L : List Nat} (h : Norm L) : Headed L := h.head
theorem top_same {L M : List Nat} {e g : Int} {K : Nat} (h1 : Digs L) (h2 : Digs M) (d1 : Headed L) (d2 : Headed M) (l1 : 0 < L.length) (l2 : 0 < M.length) (k1 : -(K : Int) ≤ e) (k2 : -(K : Int) ≤ g) (h : val K L e = val K M g) : e + L.length = g + M.length := by
 have key : ∀ {L M : List Nat} {e g : Int}, Digs L → Headed M → 0 < M.length → -(K : Int) ≤ e → -(K : Int) ≤ g → val K L e = val K M g → g + M.length ≤ e + L.length := by
  intro L M e g h1 d2 l2 k1 k2 h
  apply Int.not_lt.1
  intro hlt
  have a := val_hi h1 K e (e + L.length) (by omega) k1
  have b : 10 ^ (e + L.length + K).toNat ≤ val K M g := by
   unfold val
   refine Nat.le_trans ?_ (Nat.mul_le_mul_right _ (d2.lo l2))
   rw [← Nat.pow_add]
   exact Nat.pow_le_pow_right (by omega) (by omega)
  rw [h] at a
  have hp : 0 < 10 ^ (e + L.length + K).toNat := Nat.pow_pos (by omega)
  have := Nat.div_pos b hp
  omega
 have a := key h1 d2 l2 k1 k2 h
 have b := key h2 d1 l1 k2 k1 h.symm
 omega

def nextAt (D : List Nat) (z : Nat) (i : Nat) : Nat := if D.length ≤ i + z then 0 else if i + z + 1 = D.length then D.getD i 0 + 1 else D.getD i 0
def nextL (D : List Nat) (z : Nat) : List Nat := (if z = D.length then [1] else []) ++ (List.range D.length).map (nextAt D z)
def Nines (D : List Nat) (z : Nat) : Prop := z ≤ D.length ∧ (∀ i, D.length - z ≤ i → i < D.length → D.getD i 0 = 9) ∧ (z < D.length → D.getD (D.length - 1 - z) 0 ≠ 9)
theorem num_nines (L : List Nat) (h : ∀ d ∈ L, d = 9) : num L + 1 = 10 ^ L.length := by
 induction L with
 | nil => simp [num_nil]
 | cons d r ih =>
  have h1 := ih (fun x hx => h x (List.mem_cons_of_mem _ hx))
  rw [num_cons, h d (by simp), List.length_cons, Nat.pow_succ]; omega
theorem num_zeros (n : Nat) : num (List.replicate n 0) = 0 := (num_zero_iff _).2 (fun _ hd => List.eq_of_mem_replicate hd)
theorem map_getD (D : List Nat) : (List.range D.length).map (fun i => D.getD i 0) = D := by
 apply List.ext_getElem
 ·simp
 ·intro i h1 h2
  simp [List.getD_eq_getElem?_getD, List.getElem?_eq_getElem h2]
theorem range_split (n a : Nat) (h : a ≤ n) : List.range n = List.range a ++ (List.range (n - a)).map (a + ·) := by
 obtain ⟨b, rfl⟩ : ∃ b, n = a + b := ⟨n - a, by omega⟩
 rw [List.range_add, Nat.add_sub_cancel_left]
theorem next_shape (D : List Nat) (z : Nat) (h : Nines D z) :
  (z = D.length ∧ nextL D z = 1 :: List.replicate D.length 0) ∨
  (∃ (A : List Nat) (x : Nat), z < D.length ∧ D = A ++ x :: List.replicate z 9 ∧ x ≠ 9 ∧ nextL D z = A ++ (x + 1) :: List.replicate z 0) := by
 obtain ⟨h1, h2, h3⟩ := h
 by_cases hz : z = D.length
 ·refine .inl ⟨hz, ?_⟩
  unfold nextL
  rw [if_pos hz]
  simp only [List.cons_append, List.nil_append, List.cons.injEq, true_and]
  rw [List.eq_replicate_iff]
  refine ⟨by simp, fun b hb => ?_⟩
  obtain ⟨i, hi, rfl⟩ := List.mem_map.1 hb
  unfold nextAt; rw [if_pos (by omega)]
 ·refine .inr ⟨D.take (D.length - 1 - z), D.getD (D.length - 1 - z) 0, by omega, ?_, h3 (by omega), ?_⟩
  ·apply List.ext_getElem?
   intro i
   by_cases hi : i < D.length - 1 - z
   ·rw [List.getElem?_append_left (by simp; omega), List.getElem?_take_of_lt hi]
   ·rw [List.getElem?_append_right (by simp; omega), List.length_take, Nat.min_eq_left (by omega)]
    by_cases hj : i = D.length - 1 - z
    ·subst hj
     rw [Nat.sub_self, List.getElem?_cons_zero, List.getD_eq_getElem?_getD, List.getElem?_eq_getElem (by omega)]; rfl
    ·rw [show i - (D.length - 1 - z) = (i - (D.length - z)) + 1 from by omega, List.getElem?_cons_succ, List.getElem?_replicate]
     by_cases hl : i < D.length
     ·have := h2 i (by omega) hl
      rw [List.getD_eq_getElem?_getD, List.getElem?_eq_getElem hl] at this
      rw [if_pos (by omega), List.getElem?_eq_getElem hl]
      simpa using this
     ·rw [if_neg (by omega), List.getElem?_eq_none (by omega)]
  ·unfold nextL
   rw [if_neg hz]
   apply List.ext_getElem?
   intro i
   simp only [List.nil_append]
   rw [List.getElem?_map]
   by_cases hl : i < D.length
   ·rw [List.getElem?_range hl]
    simp only [Option.map_some]
    unfold nextAt
    by_cases hi : i < D.length - 1 - z
    ·rw [List.getElem?_append_left (by simp; omega), List.getElem?_take_of_lt hi, if_neg (by omega), if_neg (by omega), List.getD_eq_getElem?_getD, List.getElem?_eq_getElem hl]; rfl
    ·rw [List.getElem?_append_right (by simp; omega), List.length_take, Nat.min_eq_left (by omega)]
     by_cases hj : i = D.length - 1 - z
     ·subst hj
      rw [if_neg (by omega), if_pos (by omega), Nat.sub_self, List.getElem?_cons_zero]
     ·rw [if_pos (by omega), show i - (D.length - 1 - z) = (i - (D.length - z)) + 1 from by omega, List.getElem?_cons_succ, List.getElem?_replicate, if_pos (by omega)]
   ·rw [List.getElem?_eq_none (by simpa using hl), List.getElem?_eq_none (by simp; omega)]; rfl
theorem num_next (D : List Nat) (z : Nat) (h : Nines D z) : num (nextL D z) = num D + 1 := by
 rcases next_shape D z h with ⟨h1, h2⟩ | ⟨A, x, h1, h2, _, h3⟩
 ·rw [h2, num_cons, num_zeros, List.length_replicate]
  have := num_nines D (fun d hd => by
   obtain ⟨i, hi, rfl⟩ := List.mem_iff_getElem.1 hd
   have := h.2.1 i (by omega) hi
   rw [List.getD_eq_getElem?_getD, List.getElem?_eq_getElem hi] at this
   simpa using this)
  omega
 ·rw [h3]
  conv => rhs; rw [h2]
  rw [num_append, num_append, num_cons, num_cons, num_zeros]
  have := num_nines (List.replicate z 9) (fun d hd => List.eq_of_mem_replicate hd)
  simp only [List.length_cons, List.length_replicate] at this ⊢
  rw [Nat.add_mul]; omega
theorem digs_next {D : List Nat} {z : Nat} (hd : Digs D) (h : Nines D z) : Digs (nextL D z) := by
 rcases next_shape D z h with ⟨h1, h2⟩ | ⟨A, x, h1, h2, hx, h3⟩
 ·rw [h2]; intro d hd
  rcases List.mem_cons.1 hd with rfl | hd
  ·omega
  ·rw [List.eq_of_mem_replicate hd]; omega
 ·rw [h3]; intro d hdd
  have hx9 := hd x (by rw [h2]; simp)
  rcases List.mem_append.1 hdd with g | g
  ·exact hd d (by rw [h2]; exact List.mem_append_left _ g)
  ·rcases List.mem_cons.1 g with rfl | g
   ·omega
   ·rw [List.eq_of_mem_replicate g]; omega
theorem headed_next {D : List Nat} {z : Nat} (hd : Headed D) (h : Nines D z) : Headed (nextL D z) := by
 rcases next_shape D z h with ⟨h1, h2⟩ | ⟨A, x, h1, h2, hx, h3⟩
 ·rw [h2]; intro h; simp
 ·rw [h3]; intro h
  cases A with
  | nil => simp
  | cons a r =>
   have := hd (by omega)
   simp only [h2, List.cons_append, List.getElem_cons_zero] at this ⊢
   exact this
theorem next_length (D : List Nat) (z : Nat) : (nextL D z).length = D.length + (if z = D.length then 1 else 0) := by
 unfold nextL; split <;> simp <;> omega
end Go.Proofs.YtbkdaoicnobllabGreatDoor

namespace Go.Proofs.YtbkdaoicnobllabGreatDoor

def rndN (aw : Int → Bool → Bool) (V P : Nat) : Nat := if leftN V P ≠ 0 ∧ aw (leftN V P) (V / P % 2 == 1) = true then V / P + 1 else V / P
def firstL (D : List Nat) (k : Nat) : List Nat := (List.range k).map fun i => D.getD i 0
theorem firstL_length (D : List Nat) (k : Nat) : (firstL D k).length = k := by simp [firstL]
theorem firstL_succ (D : List Nat) (k : Nat) : firstL D (k + 1) = firstL D k ++ [D.getD k 0] := by simp [firstL, List.range_succ]
theorem firstL_take (D : List Nat) (k : Nat) (h : k ≤ D.length) : firstL D k = D.take k := by
 induction k with
 | zero => simp [firstL]
 | succ k ih => rw [firstL_succ, ih (by omega), take_succ_getD D k (by omega)]
theorem firstL_more (D : List Nat) (k : Nat) : firstL D (D.length + k) = D ++ List.replicate k 0 := by
 induction k with
 | zero => rw [Nat.add_zero, firstL_take D _ (Nat.le_refl _), List.take_length]; simp
 | succ k ih =>
  rw [← Nat.add_assoc, firstL_succ, ih, List.replicate_succ', ← List.append_assoc]
  congr 2
  rw [List.getD_eq_getElem?_getD, List.getElem?_eq_none (by omega)]; rfl
theorem firstL_digs {D : List Nat} (h : Digs D) (k : Nat) : Digs (firstL D k) := by
 intro d hd
 obtain ⟨i, _, rfl⟩ := List.mem_map.1 hd
 exact h.getD i
theorem firstL_headed {D : List Nat} (h : Headed D) (hl : 0 < D.length) (k : Nat) : Headed (firstL D k) := by
 intro hk
 have := h hl
 have e : (firstL D k)[0] = D.getD 0 0 := by simp [firstL]
 rw [e, List.getD_eq_getElem?_getD, List.getElem?_eq_getElem hl]; exact this
theorem num_odd (D : List Nat) : num D % 2 = D.getD (D.length - 1) 0 % 2 := by
 rcases List.eq_nil_or_concat D with h | ⟨A, x, h⟩
 ·subst h; rfl
 ·rw [h, List.concat_eq_append, num_snoc]
  rw [List.getD_eq_getElem?_getD, List.getElem?_append_right (by simp)]
  simp; omega
theorem kept_num {D : List Nat} (h : Digs D) (K : Nat) (e p : Int) (he : -(K : Int) ≤ e) (hp : -(K : Int) ≤ p) :
  num (firstL D (D.length + e - p).toNat) = val K D e / 10 ^ (p + K).toNat := by
 by_cases h0 : D.length + e - p ≤ 0
 ·rw [show (D.length + e - p).toNat = 0 from by omega, val_hi h K e p (by omega) he]; simp [firstL, num_nil]
 ·obtain ⟨k, hk⟩ : ∃ k : Nat, (k : Int) = D.length + e - p := ⟨(D.length + e - p).toNat, by omega⟩
  rw [← hk, Int.toNat_natCast]
  by_cases hl : k < D.length
  ·rw [firstL_take D k (by omega), (cut_mid h K e p he k hk hl).1]
  ·rw [(cut_low D K e p hp k hk (by omega)).1]
   obtain ⟨c, rfl⟩ : ∃ c, k = D.length + c := ⟨k - D.length, by omega⟩
   rw [firstL_more, num_append, num_zeros]; simp
def rndL (aw : Int → Bool → Bool) (D : List Nat) (e p : Int) (K z : Nat) : List Nat :=
 if leftN (val K D e) (10 ^ (p + K).toNat) ≠ 0 ∧ aw (leftN (val K D e) (10 ^ (p + K).toNat)) (val K D e / 10 ^ (p + K).toNat % 2 == 1) = true then nextL (firstL D (D.length + e - p).toNat) z else firstL D (D.length + e - p).toNat
structure Rnd (aw : Int → Bool → Bool) (D : List Nat) (e p : Int) (R : List Nat) : Prop where
 digs : Digs R
 headed : Headed R
 nval : ∀ K : Nat, -(K : Int) ≤ e → -(K : Int) ≤ p → num R = rndN aw (val K D e) (10 ^ (p + K).toNat)
 len : R.length ≤ (D.length + e - p).toNat + 1
 ge : (D.length + e - p).toNat ≤ R.length
theorem leftN_mul (V P c : Nat) (hc : 0 < c) : leftN (V * c) (P * c) = leftN V P := by
 unfold leftN
 rw [Nat.mul_mod_mul_right]
 have e1 : (V % P * c = 0) = (V % P = 0) := propext ⟨fun h => (Nat.mul_eq_zero.1 h).elim id (fun h => by omega), fun h => by rw [h]; simp⟩
 have e2 : (2 * (V % P * c) < P * c) = (2 * (V % P) < P) := by
  rw [← Nat.mul_assoc]; simp [Nat.mul_lt_mul_right hc]
 have e3 : (2 * (V % P * c) = P * c) = (2 * (V % P) = P) := by
  rw [← Nat.mul_assoc]
  exact propext ⟨fun h => Nat.eq_of_mul_eq_mul_right hc h, fun h => by rw [h]⟩
 simp only [e1, e2, e3]
theorem rndN_mul (aw : Int → Bool → Bool) (V P c : Nat) (hc : 0 < c) : rndN aw (V * c) (P * c) = rndN aw V P := by
 unfold rndN
 rw [leftN_mul V P c hc, Nat.mul_div_mul_right _ _ hc]
theorem val_more (K c : Nat) (L : List Nat) (e : Int) (h : -(K : Int) ≤ e) : val (K + c) L e = val K L e * 10 ^ c := by
 unfold val
 rw [show (e + ((K + c : Nat) : Int)).toNat = (e + K).toNat + c from by omega, Nat.pow_add, Nat.mul_assoc]
theorem pow_more (K c : Nat) (p : Int) (h : -(K : Int) ≤ p) : 10 ^ (p + ((K + c : Nat) : Int)).toNat = 10 ^ (p + K).toNat * 10 ^ c := by
 rw [show (p + ((K + c : Nat) : Int)).toNat = (p + K).toNat + c from by omega, Nat.pow_add]
theorem left_any (D : List Nat) (e p : Int) (K K2 : Nat) (h1 : -(K : Int) ≤ e) (h2 : -(K : Int) ≤ p) (h3 : -(K2 : Int) ≤ e) (h4 : -(K2 : Int) ≤ p) : leftN (val K D e) (10 ^ (p + K).toNat) = leftN (val K2 D e) (10 ^ (p + K2).toNat) := by
 have key : ∀ K c : Nat, -(K : Int) ≤ e → -(K : Int) ≤ p → leftN (val (K + c) D e) (10 ^ (p + ((K + c : Nat) : Int)).toNat) = leftN (val K D e) (10 ^ (p + K).toNat) := fun K c a b => by
  rw [val_more K c D e a, pow_more K c p b, leftN_mul _ _ _ (Nat.pow_pos (by omega))]
 rcases Nat.le_total K K2 with h | h
 ·obtain ⟨c, rfl⟩ : ∃ c, K2 = K + c := ⟨K2 - K, by omega⟩
  exact (key K c h1 h2).symm
 ·obtain ⟨c, rfl⟩ : ∃ c, K = K2 + c := ⟨K - K2, by omega⟩
  exact key K2 c h3 h4
theorem Rnd.up {aw : Int → Bool → Bool} {D : List Nat} {e p : Int} {z K : Nat} {left : Int} {odd : Bool} (hd : Digs D) (hh : Headed D) (hl : 0 < D.length) (h1 : -(K : Int) ≤ e) (h2 : -(K : Int) ≤ p) (hz : Nines (firstL D (D.length + e - p).toNat) z)
  (hleft : left = leftN (val K D e) (10 ^ (p + K).toNat)) (hodd : odd = (num (firstL D (D.length + e - p).toNat) % 2 == 1)) (h0 : left ≠ 0) (ha : aw left odd = true) : Rnd aw D e p (nextL (firstL D (D.length + e - p).toNat) z) := by
 refine ⟨digs_next (firstL_digs hd _) hz, headed_next (firstL_headed hh hl _) hz, fun K2 k1 k2 => ?_, ?_, ?_⟩
 ·rw [num_next _ _ hz, kept_num hd K2 e p k1 k2]
  unfold rndN
  rw [if_pos]
  rw [← left_any D e p K K2 h1 h2 k1 k2, ← hleft, ← kept_num hd K2 e p k1 k2, ← hodd]
  exact ⟨h0, ha⟩
 ·rw [next_length, firstL_length]; split <;> omega
 ·rw [next_length, firstL_length]; omega
theorem Rnd.stay {aw : Int → Bool → Bool} {D : List Nat} {e p : Int} {K : Nat} {left : Int} {odd : Bool} (hd : Digs D) (hh : Headed D) (hl : 0 < D.length) (h1 : -(K : Int) ≤ e) (h2 : -(K : Int) ≤ p)
  (hleft : left = leftN (val K D e) (10 ^ (p + K).toNat)) (hodd : odd = (num (firstL D (D.length + e - p).toNat) % 2 == 1)) (ha : left = 0 ∨ aw left odd = false) : Rnd aw D e p (firstL D (D.length + e - p).toNat) := by
 refine ⟨firstL_digs hd _, firstL_headed hh hl _, fun K2 k1 k2 => ?_, ?_, ?_⟩
 ·rw [kept_num hd K2 e p k1 k2]
  unfold rndN
  rw [if_neg]
  rw [← left_any D e p K K2 h1 h2 k1 k2, ← hleft, ← kept_num hd K2 e p k1 k2, ← hodd]
  rintro ⟨a, b⟩
  rcases ha with h | h
  ·exact a h
  ·rw [h] at b; cases b
 ·rw [firstL_length]; omega
 ·rw [firstL_length]; omega
theorem rndN_le (aw : Int → Bool → Bool) (V P n : Nat) (h : V < n * P) (hP : 0 < P) : rndN aw V P ≤ n := by
 have : V / P < n := (Nat.div_lt_iff_lt_mul hP).2 h
 unfold rndN; split <;> omega
theorem rndN_ge (aw : Int → Bool → Bool) (V P : Nat) : V / P ≤ rndN aw V P := by unfold rndN; split <;> omega
theorem Rnd.cut {aw : Int → Bool → Bool} {D R : List Nat} {e p : Int} {c : Nat} (h : Rnd aw D e p R) (hd : Digs D) (hc : (c : Int) = D.length + e - p) (h0 : 0 < c) : Digs (R.take c) ∧ Headed (R.take c) ∧ (R.take c).length = c ∧
  ∀ K : Nat, -(K : Int) ≤ e → -(K : Int) ≤ p → val K (R.take c) (p + R.length - c) = val K R p := by
 have hge := h.ge
 have hle := h.len
 rw [← hc, Int.toNat_natCast] at hge hle
 refine ⟨h.digs.take c, fun hh => ?_, by rw [List.length_take]; omega, fun K k1 k2 => ?_⟩
 ·have := h.headed (by omega)
  simpa using this
 ·rcases (by omega : R.length = c ∨ R.length = c + 1) with hr | hr
  ·rw [List.take_of_length_le (by omega), show p + (R.length : Int) - c = p from by omega]
  ·have hP : 0 < 10 ^ (p + K).toNat := Nat.pow_pos (by omega)
   have hV : val K D e < 10 ^ c * 10 ^ (p + K).toNat := by
    have := val_hi hd K e (p + c) (by omega) k1
    rcases Nat.div_eq_zero_iff.1 this with g | g
    ·have : 0 < 10 ^ (p + c + K).toNat := Nat.pow_pos (by omega)
     omega
    ·rw [show (p + c + K).toNat = c + (p + K).toNat from by omega, Nat.pow_add] at g; exact g
   have hu := rndN_le aw _ _ _ hV hP
   rw [← h.nval K k1 k2] at hu
   have hlo := h.headed.lo (by omega)
   rw [hr, Nat.add_sub_cancel] at hlo
   have hn : num R = 10 ^ c := by omega
   have ht : num (R.take c) = 10 ^ (c - 1) := by
    rw [num_take h.digs c (by omega), hn, hr, show c + 1 - c = 1 from by omega]
    obtain ⟨d, rfl⟩ : ∃ d, c = d + 1 := ⟨c - 1, by omega⟩
    rw [Nat.pow_succ]; simp
   unfold val
   rw [hn, ht, ← Nat.pow_add, ← Nat.pow_add, show c - 1 + (p + (R.length : Int) - c + K).toNat = c + (p + K).toNat from by rw [hr]; omega]

def sciT (L : List Nat) (e top : Int) (n : Nat) : List UInt8 := rowT L e top 1 ++ (if n = 0 then [] else 46 :: rowT L e (top - 1) n)
def fixT (L : List Nat) (e : Int) (high b : Nat) : List UInt8 := rowT L e high (high + 1) ++ (if b = 0 then [] else 46 :: rowT L e (-1) b)
theorem sciT_same {L M : List Nat} {e g top : Int} {K n : Nat} (h1 : Digs L) (h2 : Digs M) (k1 : -(K : Int) ≤ e) (k2 : -(K : Int) ≤ g) (h : val K L e = val K M g) (hn : -(K : Int) ≤ top - n) : sciT L e top n = sciT M g top n := by
 unfold sciT
 rw [rowT_congr 1 (fun p a b => dig_same h1 h2 k1 k2 h p (by omega)), rowT_congr n (fun p a b => dig_same h1 h2 k1 k2 h p (by omega))]
theorem fixT_same {L M : List Nat} {e g : Int} {K high b : Nat} (h1 : Digs L) (h2 : Digs M) (k1 : -(K : Int) ≤ e) (k2 : -(K : Int) ≤ g) (h : val K L e = val K M g) (hn : b ≤ K) : fixT L e high b = fixT M g high b := by
 unfold fixT
 rw [rowT_congr (high + 1) (fun p a b => dig_same h1 h2 k1 k2 h p (by omega)), rowT_congr b (fun p a b => dig_same h1 h2 k1 k2 h p (by omega))]
def expB (D : List Nat) : Nat → List UInt8
 | 0 => []
 | n + 1 => (expB D n ++ if n = 1 then [46] else []) ++ [UInt8.ofNat (48 + D.getD n 0)]
theorem dig_at (D : List Nat) (top : Int) (i : Nat) (hi : i < D.length) : dig D (top - D.length + 1) (top - i) = D.getD i 0 := dig_mid D (by omega) (by omega) i (by omega)
theorem expB_rows (D : List Nat) (top : Int) (n : Nat) (h : n < D.length) : expB D (n + 1) = sciT D (top - D.length + 1) top n := by
 induction n with
 | zero =>
  have := dig_at D top 0 h
  simp at this
  simp [expB, sciT, rowT, this]
 | succ n ih =>
  rw [expB, ih (by omega)]
  unfold sciT
  rw [if_neg (show ¬ n + 1 = 0 by omega)]
  have e1 := dig_at D top (n + 1) h
  rw [show rowT D (top - D.length + 1) (top - 1) (n + 1) = rowT D (top - D.length + 1) (top - 1) n ++ [UInt8.ofNat (48 + dig D (top - D.length + 1) (top - 1 - n))] from rfl, show top - 1 - (n : Int) = top - ((n + 1 : Nat) : Int) from by omega, e1]
  by_cases h0 : n = 0
  ·subst h0; simp [rowT]
  ·rw [if_neg h0, if_neg (show ¬ n + 1 = 1 by omega)]; simp
def dAt (D : List Nat) (i : Int) : Nat := if i < 0 then 0 else D.getD i.toNat 0
theorem dAt_le {D : List Nat} (h : Digs D) (i : Int) : dAt D i ≤ 9 := by
 unfold dAt; split
 ·omega
 ·exact h.getD _
theorem dig_dAt (D : List Nat) (b i : Int) : dig D (-b) (D.length - b - 1 - i) = dAt D i := by
 unfold dAt
 by_cases h : i < 0
 ·rw [if_pos h, dig_hi D (by omega)]
 ·rw [if_neg h]
  by_cases h2 : i < D.length
  ·exact dig_mid D (by omega) (by omega) i.toNat (by omega)
  ·rw [dig_lo D (by omega), List.getD_eq_getElem?_getD, List.getElem?_eq_none (by omega)]; rfl
theorem fix_rows (D : List Nat) (b : Int) :
  ((if D.length - b ≤ 0 then [48] else rowT D (-b) (D.length - b - 1) (D.length - b).toNat) ++ (if 0 < b then [46] else [])) ++ rowT D (-b) (-1) b.toNat = fixT D (-b) (D.length - b - 1).toNat b.toNat := by
 unfold fixT
 have h1 : (if (D.length : Int) - b ≤ 0 then [48] else rowT D (-b) (D.length - b - 1) (D.length - b).toNat) = rowT D (-b) ((D.length - b - 1).toNat : Int) ((D.length - b - 1).toNat + 1) := by
  by_cases h : (D.length : Int) - b ≤ 0
  ·rw [if_pos h, show ((D.length : Int) - b - 1).toNat = 0 from by omega]
   simp only [rowT, List.nil_append]
   rw [dig_hi D (by omega)]; rfl
  ·rw [if_neg h, show ((D.length : Int) - b).toNat = (D.length - b - 1).toNat + 1 from by omega, show (((D.length : Int) - b - 1).toNat : Int) = D.length - b - 1 from by omega]
 rw [h1]
 by_cases hb : 0 < b
 ·rw [if_pos hb, if_neg (show ¬ b.toNat = 0 by omega)]; simp
 ·rw [if_neg hb, if_pos (show b.toNat = 0 by omega), show b.toNat = 0 from by omega]; simp [rowT]
end Go.Proofs.YtbkdaoicnobllabGreatDoor

namespace Go.Proofs.YtbkdaoicnobllabGreatDoor

def hexD (d : Nat) : UInt8 := UInt8.ofNat (if d < 10 then 48 + d else 87 + d)
def hexR (u r i : Nat) : Nat := r * 16 ^ i % u
def hexP (u r : Nat) : Nat → List UInt8
 | 0 => []
 | n + 1 => hexP u r n ++ [hexD (hexR u r n * 16 / u)]
def HexEnd (u r n : Nat) : Prop := hexR u r n = 0 ∧ ∀ i, i < n → hexR u r i ≠ 0
theorem HexEnd.same {u r n m : Nat} (h1 : HexEnd u r n) (h2 : HexEnd u r m) : n = m := by
 rcases Nat.lt_trichotomy n m with h | h | h
 ·exact absurd h1.1 (h2.2 n h)
 ·exact h
 ·exact absurd h2.1 (h1.2 m h)
theorem hexR_zero (u r : Nat) (h : r < u) : hexR u r 0 = r := by unfold hexR; rw [Nat.pow_zero, Nat.mul_one, Nat.mod_eq_of_lt h]
theorem hexR_succ (u r i : Nat) : hexR u r (i + 1) = hexR u r i * 16 % u := by
 unfold hexR; rw [Nat.pow_succ, ← Nat.mul_assoc, Nat.mod_mul_mod]
theorem hexR_lt (u r i : Nat) (h : 0 < u) : hexR u r i < u := Nat.mod_lt _ h
theorem hexR_scale (u r s i : Nat) : hexR (u * s) (r * s) i = hexR u r i * s := by
 unfold hexR; rw [Nat.mul_right_comm, Nat.mul_mod_mul_right]
theorem hexP_scale (u r s n : Nat) (hs : 0 < s) : hexP (u * s) (r * s) n = hexP u r n := by
 induction n with
 | zero => rfl
 | succ n ih => simp only [hexP]; rw [ih, hexR_scale, Nat.mul_right_comm, Nat.mul_div_mul_right _ _ hs]
theorem HexEnd.scale {u r s n : Nat} (hs : 0 < s) (h : HexEnd (u * s) (r * s) n) : HexEnd u r n := by
 obtain ⟨h1, h2⟩ := h
 rw [hexR_scale] at h1
 refine ⟨(Nat.mul_eq_zero.1 h1).elim id (fun h => by omega), fun i hi h0 => h2 i hi (by rw [hexR_scale, h0]; simp)⟩
theorem hexR_end (j r i : Nat) (h : j ≤ 4 * i) : hexR (2 ^ j) r i = 0 := by
 unfold hexR
 rw [show (16 : Nat) = 2 ^ 4 from rfl, ← Nat.pow_mul]
 obtain ⟨c, hc⟩ : ∃ c, 4 * i = j + c := ⟨4 * i - j, by omega⟩
 rw [hc, Nat.pow_add, show r * (2 ^ j * 2 ^ c) = 2 ^ j * (r * 2 ^ c) from by grind]
 exact Nat.mul_mod_right _ _
theorem hexR_more (j r i : Nat) (hj : j ≤ 52) (h : hexR (2 ^ j) r i ≠ 0) : i < 13 := by
 apply Nat.lt_of_not_le; intro hi
 exact h (hexR_end j r i (by omega))
theorem hexP_length (u r n : Nat) : (hexP u r n).length = n := by
 induction n with
 | zero => rfl
 | succ n ih => simp [hexP, ih]
def Bits (m j : Nat) : Prop := 2 ^ j ≤ m ∧ m < 2 ^ (j + 1)
theorem Bits.same {m j k : Nat} (h1 : Bits m j) (h2 : Bits m k) : j = k := by
 unfold Bits at *
 rcases Nat.lt_trichotomy j k with h | h | h
 ·have := Nat.pow_le_pow_right (n := 2) (by omega) (show j + 1 ≤ k from h); omega
 ·exact h
 ·have := Nat.pow_le_pow_right (n := 2) (by omega) (show k + 1 ≤ j from h); omega
def HexText (m : Nat) (e : Int) (T : List UInt8) (E : Int) : Prop := ∃ j n, Bits m j ∧ HexEnd (2 ^ j) (m - 2 ^ j) n ∧ T = hexP (2 ^ j) (m - 2 ^ j) n ∧ E = e + j
theorem HexText.same {m : Nat} {e E E' : Int} {T T' : List UInt8} (h1 : HexText m e T E) (h2 : HexText m e T' E') : T = T' ∧ E = E' := by
 obtain ⟨j, n, a, b, c, d⟩ := h1
 obtain ⟨j', n', a', b', c', d'⟩ := h2
 have := a.same a'; subst this
 have := b.same b'; subst this
 exact ⟨c.trans c'.symm, d.trans d'.symm⟩
end Go.Proofs.YtbkdaoicnobllabGreatDoor

namespace Go.Proofs.YtbkdaoicnobllabGreatDoor
open Go.RowKit

def str (l : List UInt8) : ByteArray := ⟨l.toArray⟩
theorem str_append (a b : List UInt8) : str a ++ str b = str (a ++ b) := by
 apply ByteArray.ext; rw [ByteArray.data_append]; simp [str]
theorem str_size (a : List UInt8) : (str a).size = a.length := by simp [str, ByteArray.size]
theorem str_nil : str [] = ByteArray.empty := rfl
theorem ret_str {a b : ByteArray} (h : a = b) : Ending.returned (.string a) = .returned (.string b) := by rw [h]
def ptd (a b : List UInt8) : List UInt8 := if b = [] then a else a ++ (46 :: b)
theorem str_toList (b : List UInt8) : (str b).toList = b := ByteArray.toList_mk b
def hexS (T : List UInt8) (E : Int) : List UInt8 := ptd [48, 120, 49] T ++ (112 :: Lib.itoa E)
theorem pow_gt {k B m M : Nat} (h : m * 2 ^ k = M) (hm : 0 < m) (hM : M < 2 ^ B) : k < B := by
 apply Nat.lt_of_not_le; intro hle
 have h1 : 2 ^ B ≤ 2 ^ k := Nat.pow_le_pow_right (by omega) hle
 have h2 : 1 * 2 ^ k ≤ m * 2 ^ k := Nat.mul_le_mul_right _ hm
 omega
theorem hex_join {m0 k j r n : Nat} {e0 : Int} (h1 : m0 * 2 ^ k = 2 ^ (j + k) + r) (h2 : r < 2 ^ (j + k)) (h3 : HexEnd (2 ^ (j + k)) r n) : HexText m0 e0 (hexP (2 ^ (j + k)) r n) (e0 + j) := by
 have hp : 0 < 2 ^ k := Nat.pow_pos (by omega)
 rw [Nat.pow_add] at h1 h2 h3 ⊢
 have hge : 2 ^ j ≤ m0 := by
  apply Nat.le_of_mul_le_mul_right (c := 2 ^ k) _ hp; omega
 have hlt : m0 < 2 ^ (j + 1) := by
  apply Nat.lt_of_mul_lt_mul_right (a := 2 ^ k)
  rw [Nat.pow_succ, Nat.mul_assoc, Nat.mul_comm 2, ← Nat.mul_assoc]; omega
 have hr : r = (m0 - 2 ^ j) * 2 ^ k := by rw [Nat.sub_mul]; omega
 subst hr
 refine ⟨j, n, ⟨hge, hlt⟩, h3.scale hp, ?_, rfl⟩
 exact hexP_scale _ _ _ _ hp
def highN (L : List Nat) (e : Int) : Nat := if L = [] then 0 else (max (e + L.length - 1) 0).toNat
end Go.Proofs.YtbkdaoicnobllabGreatDoor

namespace Go.Proofs.YtbkdaoicnobllabGreatDoor
open Go.RowKit

theorem and_top (i y : Nat) (h : y < 2 ^ i) : y &&& 2 ^ i = 0 := by
 apply Nat.eq_of_testBit_eq
 intro j
 rw [Nat.testBit_and, Nat.testBit_two_pow, Nat.zero_testBit]
 by_cases hj : i = j
 ·subst hj; rw [Nat.testBit_lt_two_pow h]; rfl
 ·simp [hj]
theorem and_top2 (i y : Nat) (h : y < 2 ^ i) : (2 ^ i + y) &&& 2 ^ i = 2 ^ i := by
 apply Nat.eq_of_testBit_eq
 intro j
 rw [Nat.testBit_and, Nat.testBit_two_pow]
 by_cases hj : i = j
 ·subst hj; rw [Nat.testBit_two_pow_add_eq, Nat.testBit_lt_two_pow h]; rfl
 ·simp [hj]
theorem xor_top (i y : Nat) (h : y < 2 ^ i) : (2 ^ i + y) ^^^ 2 ^ i = y := by
 apply Nat.eq_of_testBit_eq
 intro j
 rw [Nat.testBit_xor, Nat.testBit_two_pow]
 rcases Nat.lt_trichotomy j i with hj | hj | hj
 ·rw [Nat.testBit_two_pow_add_gt hj, show decide (i = j) = false from by simp; omega]; simp
 ·subst hj; rw [Nat.testBit_two_pow_add_eq, Nat.testBit_lt_two_pow h]; simp
 ·have h1 : 2 ^ i + y < 2 ^ j := by
   have : 2 ^ (i + 1) ≤ 2 ^ j := Nat.pow_le_pow_right (by omega) hj
   rw [Nat.pow_succ] at this; omega
  rw [Nat.testBit_lt_two_pow h1, Nat.testBit_lt_two_pow (x := y) (by omega)]; simp; omega
theorem ofInt_nat (n : Nat) (h : n < 18446744073709551616) : (BitVec.ofInt 64 (n : Int)).toNat = n := by
 rw [BitVec.ofInt_natCast, BitVec.toNat_ofNat]; exact Nat.mod_eq_of_lt h
theorem ofInt_neg (x : Int) (h1 : -9223372036854775808 ≤ x) (h2 : x < 0) : (BitVec.ofInt 64 x).toNat = (x + 18446744073709551616).toNat := by
 rw [BitVec.toNat_ofInt]
 have : x % ((2 ^ 64 : Nat) : Int) = x + 18446744073709551616 := by
  rw [show ((2 ^ 64 : Nat) : Int) = 18446744073709551616 from rfl]; omega
 rw [this]
theorem sign_off (i : Nat) (hi : i ≤ 62) (x : Int) (h0 : 0 ≤ x) (h : x < ((2 ^ i : Nat) : Int)) : bits .and .i64 x ((2 ^ i : Nat) : Int) = 0 := by
 have hp : 2 ^ i ≤ 2 ^ 62 := Nat.pow_le_pow_right (by omega) hi
 obtain ⟨y, rfl⟩ : ∃ y : Nat, x = y := ⟨x.toNat, by omega⟩
 show IntKind.i64.wrap ((BitVec.ofInt 64 (y : Int) &&& BitVec.ofInt 64 ((2 ^ i : Nat) : Int)).toNat : Int) = _
 rw [BitVec.toNat_and, ofInt_nat y (by omega), ofInt_nat _ (by omega), and_top i y (by omega)]; rfl
theorem sign_on (i : Nat) (hi : i ≤ 62) (x : Int) (h0 : ((2 ^ i : Nat) : Int) ≤ x) (h : x < 2 * ((2 ^ i : Nat) : Int)) : bits .and .i64 x ((2 ^ i : Nat) : Int) = ((2 ^ i : Nat) : Int) ∧ bits .xor .i64 x ((2 ^ i : Nat) : Int) = x - ((2 ^ i : Nat) : Int) := by
 have hp : 2 ^ i ≤ 2 ^ 62 := Nat.pow_le_pow_right (by omega) hi
 obtain ⟨y, rfl⟩ : ∃ y : Nat, x = ((2 ^ i + y : Nat) : Int) := ⟨(x - ((2 ^ i : Nat) : Int)).toNat, by omega⟩
 have hy : y < 2 ^ i := by omega
 constructor
 ·show IntKind.i64.wrap ((BitVec.ofInt 64 ((2 ^ i + y : Nat) : Int) &&& BitVec.ofInt 64 ((2 ^ i : Nat) : Int)).toNat : Int) = _
  rw [BitVec.toNat_and, ofInt_nat _ (by omega), ofInt_nat _ (by omega), and_top2 i y hy, IntKind.wrap_i64]
  generalize 2 ^ i = P at *
  omega
 ·show IntKind.i64.wrap ((BitVec.ofInt 64 ((2 ^ i + y : Nat) : Int) ^^^ BitVec.ofInt 64 ((2 ^ i : Nat) : Int)).toNat : Int) = _
  rw [BitVec.toNat_xor, ofInt_nat _ (by omega), ofInt_nat _ (by omega), xor_top i y hy, IntKind.wrap_i64]
  generalize 2 ^ i = P at *
  omega
theorem min_off (x : Int) (h0 : 0 ≤ x) (h : x ≤ 9223372036854775807) : bits .and .i64 x (-9223372036854775808) = 0 := by
 obtain ⟨y, rfl⟩ : ∃ y : Nat, x = y := ⟨x.toNat, by omega⟩
 show IntKind.i64.wrap ((BitVec.ofInt 64 (y : Int) &&& BitVec.ofInt 64 (-9223372036854775808)).toNat : Int) = _
 rw [BitVec.toNat_and, ofInt_nat y (by omega), show (BitVec.ofInt 64 (-9223372036854775808)).toNat = 2 ^ 63 from by decide, and_top 63 y (by omega)]; rfl
theorem min_on (x : Int) (h0 : -9223372036854775808 ≤ x) (h : x < 0) : bits .and .i64 x (-9223372036854775808) = -9223372036854775808 ∧ bits .xor .i64 x (-9223372036854775808) = x + 9223372036854775808 := by
 obtain ⟨y, hy⟩ : ∃ y : Nat, (y : Int) = x + 9223372036854775808 := ⟨(x + 9223372036854775808).toNat, by omega⟩
 have e1 : (BitVec.ofInt 64 x).toNat = 2 ^ 63 + y := by rw [ofInt_neg x h0 h]; omega
 have e2 : (BitVec.ofInt 64 (-9223372036854775808)).toNat = 2 ^ 63 := by decide
 constructor
 ·show IntKind.i64.wrap ((BitVec.ofInt 64 x &&& BitVec.ofInt 64 (-9223372036854775808)).toNat : Int) = _
  rw [BitVec.toNat_and, e1, e2, and_top2 63 y (by omega)]; decide
 ·show IntKind.i64.wrap ((BitVec.ofInt 64 x ^^^ BitVec.ofInt 64 (-9223372036854775808)).toNat : Int) = _
  rw [BitVec.toNat_xor, e1, e2, xor_top 63 y (by omega), IntKind.wrap_i64]
  omega
end Go.Proofs.YtbkdaoicnobllabGreatDoor

namespace Go.Proofs.YtbkdaoicnobllabGreatDoor
open Go.RowKit

def nv : List Nat → Nat
 | [] => 0
 | d :: r => d + 1073741824 * nv r
def Lim (L : List Nat) : Prop := ∀ d, d ∈ L → d < 1073741824
theorem nv_append (a b : List Nat) : nv (a ++ b) = nv a + 1073741824 ^ a.length * nv b := by
 induction a with
 | nil => simp [nv]
 | cons d r ih =>
  simp only [List.cons_append, nv, ih, List.length_cons, Nat.pow_succ]
  rw [Nat.mul_add, Nat.mul_comm (1073741824 ^ r.length) 1073741824, Nat.mul_assoc, Nat.add_assoc]
theorem nv_snoc (a : List Nat) (d : Nat) : nv (a ++ [d]) = nv a + 1073741824 ^ a.length * d := by rw [nv_append]; simp [nv]
theorem nv_take_succ (L : List Nat) (i : Nat) (h : i < L.length) : nv (L.take (i + 1)) = nv (L.take i) + 1073741824 ^ i * L.getD i 0 := by
 rw [take_succ_getD L i h, nv_snoc, List.length_take, Nat.min_eq_left (by omega)]
theorem Lim.getD {L : List Nat} (h : Lim L) (i : Nat) : L.getD i 0 < 1073741824 := by
 rw [List.getD_eq_getElem?_getD]
 cases hi : L[i]? with
 | none => simp
 | some d => simpa using h d (List.mem_of_getElem? hi)
theorem Lim.set {L : List Nat} (h : Lim L) (i d : Nat) (hd : d < 1073741824) : Lim (L.set i d) := by
 intro x hx
 rcases List.mem_or_eq_of_mem_set hx with hx | rfl
 ·exact h x hx
 ·exact hd
theorem Lim.snoc {L : List Nat} (h : Lim L) (d : Nat) (hd : d < 1073741824) : Lim (L ++ [d]) := by
 intro x hx; rcases List.mem_append.1 hx with hx | hx
 ·exact h x hx
 ·rw [List.mem_singleton.1 hx]; exact hd
theorem Lim.take {L : List Nat} (h : Lim L) (n : Nat) : Lim (L.take n) := fun x hx => h x (List.mem_of_mem_take hx)
theorem nv_lt {L : List Nat} (h : Lim L) : nv L < 1073741824 ^ L.length := by
 induction L with
 | nil => simp [nv]
 | cons d r ih =>
  have h1 := ih (fun x hx => h x (List.mem_cons_of_mem _ hx))
  have h2 := h d List.mem_cons_self
  simp only [nv, List.length_cons, Nat.pow_succ]; omega
theorem nv_take_zeros (L : List Nat) (z : Nat) (h : ∀ j, z ≤ j → j < L.length → L.getD j 0 = 0) : nv (L.take z) = nv L := by
 induction L generalizing z with
 | nil => simp
 | cons d r ih =>
  cases z with
  | zero =>
   have h0 := h 0 (by omega) (by simp)
   simp at h0
   have := ih 0 (fun j _ hj => by have := h (j + 1) (by omega) (by simp; omega); simpa using this)
   simp [nv] at this ⊢
   rw [← this, h0]
  | succ z =>
   rw [List.take_succ_cons]
   simp only [nv]
   rw [ih z (fun j h1 hj => by have := h (j + 1) (by omega) (by simp; omega); simpa using this)]
theorem mul_step (L M : List Nat) (i f c : Nat) (a : Nat) (hi : i < L.length) (hM : M.length = L.length)
  (h : nv (M.take i) + c * 1073741824 ^ i = nv (L.take i) * f + a) :
  nv ((M.set i ((L.getD i 0 * f + c) % 1073741824)).take (i + 1)) + (L.getD i 0 * f + c) / 1073741824 * 1073741824 ^ (i + 1) = nv (L.take (i + 1)) * f + a := by
 have e1 : (M.set i ((L.getD i 0 * f + c) % 1073741824)).take i = M.take i := by rw [List.take_set]; exact List.set_eq_of_length_le (by rw [List.length_take]; omega)
 rw [nv_take_succ _ i (by simp; omega), e1, getD_set M i i _ (by omega), if_pos rfl, nv_take_succ L i hi, Nat.pow_succ]
 generalize L.getD i 0 = x at *
 generalize 1073741824 ^ i = P at *
 have hs : P * ((x * f + c) % 1073741824) + (x * f + c) / 1073741824 * (P * 1073741824) = P * (x * f + c) := by
  have h2 : (x * f + c) % 1073741824 + 1073741824 * ((x * f + c) / 1073741824) = x * f + c := Nat.mod_add_div _ _
  calc P * ((x * f + c) % 1073741824) + (x * f + c) / 1073741824 * (P * 1073741824) = P * ((x * f + c) % 1073741824 + 1073741824 * ((x * f + c) / 1073741824)) := by grind
   _ = _ := by rw [h2]
 rw [Nat.add_assoc, hs, Nat.add_mul]
 have e3 : nv (M.take i) + P * (x * f + c) = (nv (M.take i) + c * P) + P * x * f := by grind
 rw [e3, h]; omega

structure Turn (S : Nat → Prop) (w w' : World) : Prop where
 os : w'.os = w.os
 tape : w'.tape = w.tape
 output : w'.output = w.output
 size : w.heap.size ≤ w'.heap.size
 block : ∀ k, k < w.heap.size → ¬ S k → w'.heap[k]? = w.heap[k]?
theorem Turn.refl (S : Nat → Prop) (w : World) : Turn S w w := ⟨rfl, rfl, rfl, Nat.le_refl _, fun _ _ _ => rfl⟩
theorem Turn.trans {S S2 : Nat → Prop} {w w1 w2 : World} (h : Turn S w w1) (k : Turn S2 w1 w2) (hs : ∀ j, j < w.heap.size → S2 j → S j) : Turn S w w2 :=
 ⟨k.os.trans h.os, k.tape.trans h.tape, k.output.trans h.output, Nat.le_trans h.size k.size, fun j hj hn => (k.block j (Nat.lt_of_lt_of_le hj h.size) (fun h2 => hn (hs j hj h2))).trans (h.block j hj hn)⟩
theorem Turn.mono {S S2 : Nat → Prop} {w w1 : World} (h : Turn S w w1) (hs : ∀ j, j < w.heap.size → S j → S2 j) : Turn S2 w w1 :=
 ⟨h.os, h.tape, h.output, h.size, fun j hj hn => h.block j hj (fun h2 => hn (hs j hj h2))⟩
theorem Turn.setCell {S : Nat → Prop} {w w1 : World} (h : Turn S w w1) (a : Addr) (u : Value) (ha : S a.block) : Turn S w (w1.setCell a u) :=
 ⟨h.os, h.tape, h.output, by simpa [World.setCell] using h.size, fun j hj hn => (Below.heap_setCell w1 a u j (fun e => hn (e ▸ ha))).trans (h.block j hj hn)⟩
theorem Turn.below {S : Nat → Prop} {w w1 w2 : World} (h : Turn S w w1) (hb : Below w1.heap.size w1 w2) : Turn S w w2 :=
 ⟨hb.os.trans h.os, hb.tape.trans h.tape, hb.output.trans h.output, Nat.le_trans h.size hb.size, fun j hj hn => (hb.block j (Nat.lt_of_lt_of_le hj h.size)).trans (h.block j hj hn)⟩
theorem Turn.grown {S : Nat → Prop} {w w1 w2 : World} {row : Option Nat} (h : Turn S w w1) (hg : w1.grownBy w2 row) (hr : ∀ k, row = some k → k < w.heap.size → S k) : Turn S w w2 :=
 ⟨hg.os.trans h.os, hg.tape.trans h.tape, hg.output.trans h.output, Nat.le_trans h.size hg.size, fun j hj hn => (hg.block j (Nat.lt_of_lt_of_le hj h.size) (fun e => hn (hr j e.symm hj))).trans (h.block j hj hn)⟩

structure NatAt (w : World) (b : Nat) (v : Value) (L : List Nat) : Prop where
 cell : w.cell? ⟨b, 0, none⟩ = some v
 frozen : w.frozen? ⟨b, 0, none⟩ = false
 own : Own w 0 v L
 apart : v.ownBlock ≠ some b
 lim : Lim L
 nrm : 0 < L.length → L.getD (L.length - 1) 0 ≠ 0
def Foot (b : Nat) (v : Value) (k : Nat) : Prop := k = b ∨ v.ownBlock = some k
theorem keep_cell' {w w' : World} {a : Addr} {v : Value} (hb : Below w.heap.size w w') (h : w.cell? a = some v) : w'.cell? a = some v :=
 (hb.cell (p := a) (World.block_lt_of_cell? w a h)).trans h
theorem cell_of_turn {S : Nat → Prop} {w w1 : World} (h : Turn S w w1) {a : Addr} {v : Value} (hc : w.cell? a = some v) (hn : ¬ S a.block) : w1.cell? a = some v :=
 (World.cell?_of_block (w := w) (h.block a.block (World.block_lt_of_cell? w a hc) hn)).trans hc
theorem NatAt.turn {S : Nat → Prop} {w w1 : World} {b : Nat} {v : Value} {L : List Nat} (h : NatAt w b v L) (ht : Turn S w w1) (hs : ∀ k, Foot b v k → ¬ S k) : NatAt w1 b v L := by
 have hb := World.block_lt_of_cell? w _ h.cell
 refine ⟨cell_of_turn ht h.cell (hs _ (.inl rfl)), ?_, ?_, h.apart, h.lim, h.nrm⟩
 ·rw [World.frozen?_of_block (w := w) (ht.block b hb (hs _ (.inl rfl)))]; exact h.frozen
 ·refine ⟨h.own.1, ?_⟩
  rcases h.own.2 with h2 | ⟨g, cap, cur, hv, hg, hh, r⟩
  ·exact .inl h2
  ·exact .inr ⟨g, cap, cur, hv, hg, by rw [ht.block g (Array.getElem?_eq_some_iff.1 hh).1 (hs _ (.inr (by rw [hv]; rfl)))]; exact hh, r⟩

theorem NatAt.mk_set {w : World} {b : Nat} {v v' : Value} {L : List Nat} (hc : w.cell? ⟨b, 0, none⟩ = some v) (hf : w.frozen? ⟨b, 0, none⟩ = false) (ho : Own w 0 v' L) (hap : v'.ownBlock ≠ some b) (hl : Lim L) (hn : 0 < L.length → L.getD (L.length - 1) 0 ≠ 0) : NatAt (w.setCell ⟨b, 0, none⟩ v') b v' L := by
 refine ⟨World.cell?_setCell_same' _ _ _ (by rw [hc]; rfl), by rw [show (w.setCell ⟨b, 0, none⟩ v').frozen? ⟨b, 0, none⟩ = w.frozen? ⟨b, 0, none⟩ from by simp [go_sem]]; exact hf, ?_, hap, hl, hn⟩
 refine ⟨ho.1, ?_⟩
 rcases ho.2 with h2 | ⟨g, cap, cur, hv, hg, hh, r⟩
 ·exact .inl h2
 ·exact .inr ⟨g, cap, cur, hv, hg, by rw [Below.heap_setCell _ _ _ _ (fun e => hap (by rw [hv, e]; rfl))]; exact hh, r⟩
theorem Own.cutTo {w : World} {g n cap : Nat} {L : List Nat} (h : Own w 0 (.slice (some ⟨g, 0, none⟩) n cap) L) (hn : L.length = n) (m : Nat) (hm : m ≤ n) : Own w 0 (.slice (some ⟨g, 0, none⟩) m cap) (L.take m) := by
 unfold Own at *
 have hlen : (L.take m).length = m := by rw [List.length_take]; omega
 rw [hlen]
 refine ⟨by rw [ints_length, hlen]; omega, .inr ?_⟩
 rcases h.2 with ⟨h2, _⟩ | ⟨g', cap', cur, hv, hg, hh, h1, h3, h4, h5⟩
 ·cases h2
 ·rw [hn] at hv h1 h5
  simp only [Value.slice.injEq, Option.some.injEq, Addr.mk.injEq, and_true, true_and] at hv
  obtain ⟨rfl, rfl⟩ := hv
  refine ⟨g, cap, cur, rfl, hg, hh, by omega, h3, h4, ?_⟩
  rw [Nat.mul_one] at *
  have : ints (L.take m) = (ints L).take m := by unfold ints; rw [List.map_take]
  rw [this, ← h5, List.take_take, Nat.min_eq_left hm]

def NatPost (w w' : World) (b : Nat) (v : Value) (V len : Nat) : Prop :=
 ∃ v' L', NatAt w' b v' L' ∧ nv L' = V ∧ L'.length ≤ len ∧ Turn (Foot b v) w w' ∧ (v'.ownBlock = v.ownBlock ∨ ∃ g, v'.ownBlock = some g ∧ w.heap.size ≤ g)
theorem NatPost.of_set {w : World} {b : Nat} {v v' : Value} {L : List Nat} {V len : Nat} (h : NatAt (w.setCell ⟨b, 0, none⟩ v') b v' L) (hv : nv L = V) (hl : L.length ≤ len) (ho : v'.ownBlock = v.ownBlock) : NatPost w (w.setCell ⟨b, 0, none⟩ v') b v V len :=
 ⟨v', L, h, hv, hl, (Turn.refl _ _).setCell _ _ (.inl rfl), .inl ho⟩

end Go.Proofs.YtbkdaoicnobllabGreatDoor
