import Derived.Test.YtbkdaoicnobllabGreatDoorG00
import Derived.WalkKit
import Derived.Lib.ItoaNum
import Derived.Lib.ItoaLen
import Derived.Laws.IdiomStrings

/- Plain mathematics: digits that are written, numbers that are cut at a power of ten. -/
namespace Go.Proofs.YtbkdaoicnobllabGreatDoor

/-- The bytes of n digits from 10^hi down. -/
def rowT (L : List Nat) (e hi : Int) : Nat → List UInt8
  | 0 => []
  | n + 1 => rowT L e hi n ++ [UInt8.ofNat (48 + dig L e (hi - n))]
theorem rowT_length (L : List Nat) (e hi : Int) (n : Nat) : (rowT L e hi n).length = n := by
  induction n with
  | zero => rfl
  | succ n ih => simp [rowT, ih]
theorem rowT_congr {L M : List Nat} {e g hi : Int} (n : Nat) (h : ∀ p, hi - n < p → p ≤ hi → dig L e p = dig M g p) : rowT L e hi n = rowT M g hi n := by
  induction n with
  | zero => rfl
  | succ n ih => simp only [rowT]; rw [ih (fun p h1 h2 => h p (by omega) h2), h (hi - n) (by omega) (by omega)]
theorem rowT_cons (L : List Nat) (e hi : Int) (n : Nat) : rowT L e hi (n + 1) = UInt8.ofNat (48 + dig L e hi) :: rowT L e (hi - 1) n := by
  induction n with
  | zero => simp [rowT]
  | succ n ih =>
    rw [rowT, ih, rowT]
    simp only [List.cons_append]
    rw [show hi - ((n + 1 : Nat) : Int) = hi - 1 - n from by omega]

theorem dig_same {L M : List Nat} {e g : Int} {K : Nat} (h1 : Digs L) (h2 : Digs M) (k1 : -(K : Int) ≤ e) (k2 : -(K : Int) ≤ g) (h : val K L e = val K M g) (p : Int) (hp : -(K : Int) ≤ p) : dig L e p = dig M g p := by
  rw [← dig_val h1 K e p k1 hp, ← dig_val h2 K g p k2 hp, h]

/-- What is left behind a cut at P, against half of P. -/
def leftN (V P : Nat) : Int := if V % P = 0 then 0 else if 2 * (V % P) < P then 1 else if 2 * (V % P) = P then 2 else 3
theorem leftN_range (V P : Nat) : 0 ≤ leftN V P ∧ leftN V P ≤ 3 := by unfold leftN; split <;> (try split) <;> (try split) <;> omega
theorem left_of (V Q : Nat) (hq : 0 < Q) : leftN V (Q * 10) = if V / Q % 10 = 0 ∧ V % Q = 0 then 0 else if V / Q % 10 < 5 then 1 else if V / Q % 10 = 5 ∧ V % Q = 0 then 2 else 3 := by
  have h1 : V % (Q * 10) = V % Q + Q * (V / Q % 10) := Nat.mod_mul
  have h2 : V % Q < Q := Nat.mod_lt _ hq
  have h3 : V / Q % 10 < 10 := Nat.mod_lt _ (by omega)
  unfold leftN
  rw [h1]
  generalize V / Q % 10 = d at *
  generalize V % Q = r at *
  clear h1
  rcases (by omega : d = 0 ∨ d = 1 ∨ d = 2 ∨ d = 3 ∨ d = 4 ∨ d = 5 ∨ d = 6 ∨ d = 7 ∨ d = 8 ∨ d = 9) with rfl | rfl | rfl | rfl | rfl | rfl | rfl | rfl | rfl | rfl
  all_goals (repeat' split) <;> omega

theorem num_take {L : List Nat} (h : Digs L) (k : Nat) (_hk : k ≤ L.length) : num (L.take k) = num L / 10 ^ (L.length - k) := by
  conv => rhs; rw [← List.take_append_drop k L]
  rw [num_append, List.length_drop]
  have := num_lt (h.drop k)
  rw [List.length_drop] at this
  have hpos : 0 < 10 ^ (L.length - k) := Nat.pow_pos (by omega)
  rw [show (List.take k L ++ List.drop k L).length = L.length from by rw [List.take_append_drop], Nat.mul_comm, Nat.mul_add_div hpos, Nat.div_eq_of_lt this]; omega
theorem num_drop {L : List Nat} (h : Digs L) (k : Nat) (_hk : k ≤ L.length) : num (L.drop k) = num L % 10 ^ (L.length - k) := by
  conv => rhs; rw [← List.take_append_drop k L]
  rw [num_append, List.length_drop]
  have := num_lt (h.drop k)
  rw [List.length_drop] at this
  rw [show (List.take k L ++ List.drop k L).length = L.length from by rw [List.take_append_drop], Nat.mul_comm, Nat.mul_add_mod, Nat.mod_eq_of_lt this]
theorem mul_pow_div (x a b : Nat) (h : a ≤ b) : x * 10 ^ a / 10 ^ b = x / 10 ^ (b - a) := by
  obtain ⟨c, rfl⟩ : ∃ c, b = a + c := ⟨b - a, by omega⟩
  rw [Nat.pow_add, Nat.mul_comm x, Nat.mul_div_mul_left _ _ (Nat.pow_pos (by omega)), Nat.add_sub_cancel_left]
theorem mul_pow_mod (x a b : Nat) (h : a ≤ b) : x * 10 ^ a % 10 ^ b = x % 10 ^ (b - a) * 10 ^ a := by
  obtain ⟨c, rfl⟩ : ∃ c, b = a + c := ⟨b - a, by omega⟩
  rw [Nat.pow_add, Nat.mul_comm x, Nat.mul_mod_mul_left, Nat.add_sub_cancel_left, Nat.mul_comm]
theorem num_digit {L : List Nat} (h : Digs L) (k : Nat) (hk : k < L.length) : num L / 10 ^ (L.length - 1 - k) % 10 = L.getD k 0 := by
  unfold num
  rw [le_at h.reverse, List.getD_eq_getElem?_getD, List.getElem?_reverse (by omega), List.getD_eq_getElem?_getD, show L.length - 1 - (L.length - 1 - k) = k from by omega]
theorem num_zero_iff (L : List Nat) : num L = 0 ↔ ∀ d ∈ L, d = 0 := by
  induction L with
  | nil => simp [num_nil]
  | cons d r ih =>
    rw [num_cons]
    have hp : 0 < 10 ^ r.length := Nat.pow_pos (by omega)
    constructor
    · intro h x hx
      have h1 : d * 10 ^ r.length = 0 := by omega
      have h2 : num r = 0 := by omega
      rcases List.mem_cons.1 hx with rfl | hx
      · rcases Nat.mul_eq_zero.1 h1 with h | h
        · exact h
        · omega
      · exact ih.1 h2 x hx
    · intro h
      rw [h d (by simp), ih.2 (fun x hx => h x (List.mem_cons_of_mem _ hx))]; simp
/-- A number cut among its digits. -/
theorem cut_mid {L : List Nat} (h : Digs L) (K : Nat) (e p : Int) (he : -(K : Int) ≤ e) (k : Nat) (hk : (k : Int) = L.length + e - p) (hkl : k < L.length) :
    val K L e / 10 ^ (p + K).toNat = num (L.take k) ∧
    leftN (val K L e) (10 ^ (p + K).toNat) = if L.getD k 0 = 0 ∧ num (L.drop (k + 1)) = 0 then 0 else if L.getD k 0 < 5 then 1 else if L.getD k 0 = 5 ∧ num (L.drop (k + 1)) = 0 then 2 else 3 := by
  unfold val
  have hp : 0 < 10 ^ (e + K).toNat := Nat.pow_pos (by omega)
  constructor
  · rw [mul_pow_div _ _ _ (by omega), num_take h k (by omega), show (p + K).toNat - (e + K).toNat = L.length - k from by omega]
  · rw [show (p + K).toNat = (p - 1 + K).toNat + 1 from by omega, Nat.pow_succ, left_of _ _ (Nat.pow_pos (by omega))]
    rw [mul_pow_div _ _ _ (by omega), mul_pow_mod _ _ _ (by omega), show (p - 1 + K).toNat - (e + K).toNat = L.length - 1 - k from by omega, num_digit h k hkl]
    rw [num_drop h (k + 1) (by omega), show L.length - (k + 1) = L.length - 1 - k from by omega]
    have e1 : (num L % 10 ^ (L.length - 1 - k) * 10 ^ (e + K).toNat = 0) ↔ (num L % 10 ^ (L.length - 1 - k) = 0) := by
      rw [Nat.mul_eq_zero]; constructor
      · rintro (h | h)
        · exact h
        · omega
      · exact .inl
    simp only [e1]
/-- A number cut below its digits. -/
theorem cut_low (L : List Nat) (K : Nat) (e p : Int) (hk : -(K : Int) ≤ p) (k : Nat) (hkl : (k : Int) = L.length + e - p) (hl : L.length ≤ k) :
    val K L e / 10 ^ (p + K).toNat = num L * 10 ^ (k - L.length) ∧ leftN (val K L e) (10 ^ (p + K).toNat) = 0 := by
  have h1 := val_mod L K e p (by omega) hk
  constructor
  · unfold val
    obtain ⟨m, hm⟩ : ∃ m : Nat, (e + K).toNat = (p + K).toNat + m := ⟨(e - p).toNat, by omega⟩
    rw [hm, Nat.pow_add, show num L * (10 ^ (p + K).toNat * 10 ^ m) = 10 ^ (p + K).toNat * (num L * 10 ^ m) from by grind, Nat.mul_div_cancel_left _ (Nat.pow_pos (by omega)), show k - L.length = m from by omega]
  · unfold leftN; rw [if_pos h1]
/-- A number cut above its digits. -/
theorem cut_high {L : List Nat} (h : Digs L) (K : Nat) (e p : Int) (he : -(K : Int) ≤ e) (hp : L.length + e < p) (h0 : 0 < num L) :
    val K L e / 10 ^ (p + K).toNat = 0 ∧ leftN (val K L e) (10 ^ (p + K).toNat) = 1 := by
  have h1 := val_hi h K e p (by omega) he
  have h2 : val K L e < 10 ^ (p - 1 + K).toNat := by
    have := val_hi h K e (p - 1) (by omega) he
    rcases Nat.div_eq_zero_iff.1 this with h | h
    · have : 0 < 10 ^ (p - 1 + K).toNat := Nat.pow_pos (by omega)
      omega
    · exact h
  have h3 : 0 < val K L e := Nat.mul_pos h0 (Nat.pow_pos (by omega))
  refine ⟨h1, ?_⟩
  unfold leftN
  rw [show (p + K).toNat = (p - 1 + K).toNat + 1 from by omega, Nat.pow_succ, Nat.mod_eq_of_lt (by omega), if_neg (by omega), if_pos (by omega)]

/-- The first digit is none of 0. -/
def Headed (L : List Nat) : Prop := ∀ h : 0 < L.length, L[0] ≠ 0
theorem Headed.lo {L : List Nat} (h : Headed L) (hl : 0 < L.length) : 10 ^ (L.length - 1) ≤ num L := by
  cases L with
  | nil => simp at hl
  | cons d r =>
    have := h hl
    simp at this
    rw [num_cons]; simp
    have : 1 * 10 ^ r.length ≤ d * 10 ^ r.length := Nat.mul_le_mul_right _ (by omega)
    omega
theorem Headed.pos {L : List Nat} (h : Headed L) (hl : 0 < L.length) : 0 < num L := Nat.lt_of_lt_of_le (Nat.pow_pos (by omega)) (h.lo hl)
theorem Norm.headed {L : List Nat} (h : Norm L) : Headed L := h.head
/-- Where the first digit of a number stands. -/
theorem top_same {L M : List Nat} {e g : Int} {K : Nat} (h1 : Digs L) (h2 : Digs M) (d1 : Headed L) (d2 : Headed M) (l1 : 0 < L.length) (l2 : 0 < M.length) (k1 : -(K : Int) ≤ e) (k2 : -(K : Int) ≤ g) (h : val K L e = val K M g) : e + L.length = g + M.length := by
  have key : ∀ {L M : List Nat} {e g : Int}, Digs L → Headed M → 0 < M.length → -(K : Int) ≤ e → -(K : Int) ≤ g → val K L e = val K M g → g + M.length ≤ e + L.length := by
    intro L M e g h1 d2 l2 k1 k2 h
    apply Int.not_lt.1
    intro hlt
    have a := val_hi h1 K e (e + L.length) (by omega) k1
    have b : 10 ^ (e + L.length + K).toNat ≤ val K M g := by
      unfold val
      refine Nat.le_trans ?_ (Nat.mul_le_mul_right _ (d2.lo l2))
      rw [← Nat.pow_add]
      exact Nat.pow_le_pow_right (by omega) (by omega)
    rw [h] at a
    have hp : 0 < 10 ^ (e + L.length + K).toNat := Nat.pow_pos (by omega)
    have := Nat.div_pos b hp
    omega
  have a := key h1 d2 l2 k1 k2 h
  have b := key h2 d1 l1 k2 k1 h.symm
  omega

/-- The digits of the next whole number; so many nines at the end. -/
def nextAt (D : List Nat) (z : Nat) (i : Nat) : Nat := if D.length ≤ i + z then 0 else if i + z + 1 = D.length then D.getD i 0 + 1 else D.getD i 0
def nextL (D : List Nat) (z : Nat) : List Nat := (if z = D.length then [1] else []) ++ (List.range D.length).map (nextAt D z)
/-- z nines stand at the end, and no more. -/
def Nines (D : List Nat) (z : Nat) : Prop := z ≤ D.length ∧ (∀ i, D.length - z ≤ i → i < D.length → D.getD i 0 = 9) ∧ (z < D.length → D.getD (D.length - 1 - z) 0 ≠ 9)
theorem num_nines (L : List Nat) (h : ∀ d ∈ L, d = 9) : num L + 1 = 10 ^ L.length := by
  induction L with
  | nil => simp [num_nil]
  | cons d r ih =>
    have h1 := ih (fun x hx => h x (List.mem_cons_of_mem _ hx))
    rw [num_cons, h d (by simp), List.length_cons, Nat.pow_succ]; omega
theorem num_zeros (n : Nat) : num (List.replicate n 0) = 0 := (num_zero_iff _).2 (fun _ hd => List.eq_of_mem_replicate hd)
theorem map_getD (D : List Nat) : (List.range D.length).map (fun i => D.getD i 0) = D := by
  apply List.ext_getElem
  · simp
  · intro i h1 h2
    simp [List.getD_eq_getElem?_getD, List.getElem?_eq_getElem h2]
theorem range_split (n a : Nat) (h : a ≤ n) : List.range n = List.range a ++ (List.range (n - a)).map (a + ·) := by
  obtain ⟨b, rfl⟩ : ∃ b, n = a + b := ⟨n - a, by omega⟩
  rw [List.range_add, Nat.add_sub_cancel_left]
theorem next_shape (D : List Nat) (z : Nat) (h : Nines D z) :
    (z = D.length ∧ nextL D z = 1 :: List.replicate D.length 0) ∨
    (∃ (A : List Nat) (x : Nat), z < D.length ∧ D = A ++ x :: List.replicate z 9 ∧ x ≠ 9 ∧ nextL D z = A ++ (x + 1) :: List.replicate z 0) := by
  obtain ⟨h1, h2, h3⟩ := h
  by_cases hz : z = D.length
  · refine .inl ⟨hz, ?_⟩
    unfold nextL
    rw [if_pos hz]
    simp only [List.cons_append, List.nil_append, List.cons.injEq, true_and]
    rw [List.eq_replicate_iff]
    refine ⟨by simp, fun b hb => ?_⟩
    obtain ⟨i, hi, rfl⟩ := List.mem_map.1 hb
    unfold nextAt; rw [if_pos (by omega)]
  · refine .inr ⟨D.take (D.length - 1 - z), D.getD (D.length - 1 - z) 0, by omega, ?_, h3 (by omega), ?_⟩
    · apply List.ext_getElem?
      intro i
      by_cases hi : i < D.length - 1 - z
      · rw [List.getElem?_append_left (by simp; omega), List.getElem?_take_of_lt hi]
      · rw [List.getElem?_append_right (by simp; omega), List.length_take, Nat.min_eq_left (by omega)]
        by_cases hj : i = D.length - 1 - z
        · subst hj
          rw [Nat.sub_self, List.getElem?_cons_zero, List.getD_eq_getElem?_getD, List.getElem?_eq_getElem (by omega)]; rfl
        · rw [show i - (D.length - 1 - z) = (i - (D.length - z)) + 1 from by omega, List.getElem?_cons_succ, List.getElem?_replicate]
          by_cases hl : i < D.length
          · have := h2 i (by omega) hl
            rw [List.getD_eq_getElem?_getD, List.getElem?_eq_getElem hl] at this
            rw [if_pos (by omega), List.getElem?_eq_getElem hl]
            simpa using this
          · rw [if_neg (by omega), List.getElem?_eq_none (by omega)]
    · unfold nextL
      rw [if_neg hz]
      apply List.ext_getElem?
      intro i
      simp only [List.nil_append]
      rw [List.getElem?_map]
      by_cases hl : i < D.length
      · rw [List.getElem?_range hl]
        simp only [Option.map_some]
        unfold nextAt
        by_cases hi : i < D.length - 1 - z
        · rw [List.getElem?_append_left (by simp; omega), List.getElem?_take_of_lt hi, if_neg (by omega), if_neg (by omega), List.getD_eq_getElem?_getD, List.getElem?_eq_getElem hl]; rfl
        · rw [List.getElem?_append_right (by simp; omega), List.length_take, Nat.min_eq_left (by omega)]
          by_cases hj : i = D.length - 1 - z
          · subst hj
            rw [if_neg (by omega), if_pos (by omega), Nat.sub_self, List.getElem?_cons_zero]
          · rw [if_pos (by omega), show i - (D.length - 1 - z) = (i - (D.length - z)) + 1 from by omega, List.getElem?_cons_succ, List.getElem?_replicate, if_pos (by omega)]
      · rw [List.getElem?_eq_none (by simpa using hl), List.getElem?_eq_none (by simp; omega)]; rfl
theorem num_next (D : List Nat) (z : Nat) (h : Nines D z) : num (nextL D z) = num D + 1 := by
  rcases next_shape D z h with ⟨h1, h2⟩ | ⟨A, x, h1, h2, _, h3⟩
  · rw [h2, num_cons, num_zeros, List.length_replicate]
    have := num_nines D (fun d hd => by
      obtain ⟨i, hi, rfl⟩ := List.mem_iff_getElem.1 hd
      have := h.2.1 i (by omega) hi
      rw [List.getD_eq_getElem?_getD, List.getElem?_eq_getElem hi] at this
      simpa using this)
    omega
  · rw [h3]
    conv => rhs; rw [h2]
    rw [num_append, num_append, num_cons, num_cons, num_zeros]
    have := num_nines (List.replicate z 9) (fun d hd => List.eq_of_mem_replicate hd)
    simp only [List.length_cons, List.length_replicate] at this ⊢
    rw [Nat.add_mul]; omega
theorem digs_next {D : List Nat} {z : Nat} (hd : Digs D) (h : Nines D z) : Digs (nextL D z) := by
  rcases next_shape D z h with ⟨h1, h2⟩ | ⟨A, x, h1, h2, hx, h3⟩
  · rw [h2]; intro d hd
    rcases List.mem_cons.1 hd with rfl | hd
    · omega
    · rw [List.eq_of_mem_replicate hd]; omega
  · rw [h3]; intro d hdd
    have hx9 := hd x (by rw [h2]; simp)
    rcases List.mem_append.1 hdd with g | g
    · exact hd d (by rw [h2]; exact List.mem_append_left _ g)
    · rcases List.mem_cons.1 g with rfl | g
      · omega
      · rw [List.eq_of_mem_replicate g]; omega
theorem headed_next {D : List Nat} {z : Nat} (hd : Headed D) (h : Nines D z) : Headed (nextL D z) := by
  rcases next_shape D z h with ⟨h1, h2⟩ | ⟨A, x, h1, h2, hx, h3⟩
  · rw [h2]; intro h; simp
  · rw [h3]; intro h
    cases A with
    | nil => simp
    | cons a r =>
      have := hd (by omega)
      simp only [h2, List.cons_append, List.getElem_cons_zero] at this ⊢
      exact this
theorem next_length (D : List Nat) (z : Nat) : (nextL D z).length = D.length + (if z = D.length then 1 else 0) := by
  unfold nextL; split <;> simp <;> omega
end Go.Proofs.YtbkdaoicnobllabGreatDoor

/- Plain mathematics: numbers rounded at a power of ten, and their texts. -/
namespace Go.Proofs.YtbkdaoicnobllabGreatDoor

/-- How many times P, rounded. -/
def rndN (aw : Int → Bool → Bool) (V P : Nat) : Nat := if leftN V P ≠ 0 ∧ aw (leftN V P) (V / P % 2 == 1) = true then V / P + 1 else V / P
/-- So many digits from the first on. -/
def firstL (D : List Nat) (k : Nat) : List Nat := (List.range k).map fun i => D.getD i 0
theorem firstL_length (D : List Nat) (k : Nat) : (firstL D k).length = k := by simp [firstL]
theorem firstL_succ (D : List Nat) (k : Nat) : firstL D (k + 1) = firstL D k ++ [D.getD k 0] := by simp [firstL, List.range_succ]
theorem firstL_take (D : List Nat) (k : Nat) (h : k ≤ D.length) : firstL D k = D.take k := by
  induction k with
  | zero => simp [firstL]
  | succ k ih => rw [firstL_succ, ih (by omega), take_succ_getD D k (by omega)]
theorem firstL_more (D : List Nat) (k : Nat) : firstL D (D.length + k) = D ++ List.replicate k 0 := by
  induction k with
  | zero => rw [Nat.add_zero, firstL_take D _ (Nat.le_refl _), List.take_length]; simp
  | succ k ih =>
    rw [← Nat.add_assoc, firstL_succ, ih, List.replicate_succ', ← List.append_assoc]
    congr 2
    rw [List.getD_eq_getElem?_getD, List.getElem?_eq_none (by omega)]; rfl
theorem firstL_digs {D : List Nat} (h : Digs D) (k : Nat) : Digs (firstL D k) := by
  intro d hd
  obtain ⟨i, _, rfl⟩ := List.mem_map.1 hd
  exact h.getD i
theorem firstL_headed {D : List Nat} (h : Headed D) (hl : 0 < D.length) (k : Nat) : Headed (firstL D k) := by
  intro hk
  have := h hl
  have e : (firstL D k)[0] = D.getD 0 0 := by simp [firstL]
  rw [e, List.getD_eq_getElem?_getD, List.getElem?_eq_getElem hl]; exact this
theorem num_odd (D : List Nat) : num D % 2 = D.getD (D.length - 1) 0 % 2 := by
  rcases List.eq_nil_or_concat D with h | ⟨A, x, h⟩
  · subst h; rfl
  · rw [h, List.concat_eq_append, num_snoc]
    rw [List.getD_eq_getElem?_getD, List.getElem?_append_right (by simp)]
    simp; omega
/-- What is kept of a number in steps of 10^p. -/
theorem kept_num {D : List Nat} (h : Digs D) (K : Nat) (e p : Int) (he : -(K : Int) ≤ e) (hp : -(K : Int) ≤ p) :
    num (firstL D (D.length + e - p).toNat) = val K D e / 10 ^ (p + K).toNat := by
  by_cases h0 : D.length + e - p ≤ 0
  · rw [show (D.length + e - p).toNat = 0 from by omega, val_hi h K e p (by omega) he]; simp [firstL, num_nil]
  · obtain ⟨k, hk⟩ : ∃ k : Nat, (k : Int) = D.length + e - p := ⟨(D.length + e - p).toNat, by omega⟩
    rw [← hk, Int.toNat_natCast]
    by_cases hl : k < D.length
    · rw [firstL_take D k (by omega), (cut_mid h K e p he k hk hl).1]
    · rw [(cut_low D K e p hp k hk (by omega)).1]
      obtain ⟨c, rfl⟩ : ∃ c, k = D.length + c := ⟨k - D.length, by omega⟩
      rw [firstL_more, num_append, num_zeros]; simp
/-- The digits of a rounded number, out of those of the number. -/
def rndL (aw : Int → Bool → Bool) (D : List Nat) (e p : Int) (K z : Nat) : List Nat :=
  if leftN (val K D e) (10 ^ (p + K).toNat) ≠ 0 ∧ aw (leftN (val K D e) (10 ^ (p + K).toNat)) (val K D e / 10 ^ (p + K).toNat % 2 == 1) = true then nextL (firstL D (D.length + e - p).toNat) z else firstL D (D.length + e - p).toNat
/-- What a rounding gives: the digits R of how many times 10^p. -/
structure Rnd (aw : Int → Bool → Bool) (D : List Nat) (e p : Int) (R : List Nat) : Prop where
  digs : Digs R
  headed : Headed R
  nval : ∀ K : Nat, -(K : Int) ≤ e → -(K : Int) ≤ p → num R = rndN aw (val K D e) (10 ^ (p + K).toNat)
  len : R.length ≤ (D.length + e - p).toNat + 1
  ge : (D.length + e - p).toNat ≤ R.length
theorem leftN_mul (V P c : Nat) (hc : 0 < c) : leftN (V * c) (P * c) = leftN V P := by
  unfold leftN
  rw [Nat.mul_mod_mul_right]
  have e1 : (V % P * c = 0) = (V % P = 0) := propext ⟨fun h => (Nat.mul_eq_zero.1 h).elim id (fun h => by omega), fun h => by rw [h]; simp⟩
  have e2 : (2 * (V % P * c) < P * c) = (2 * (V % P) < P) := by
    rw [← Nat.mul_assoc]; simp [Nat.mul_lt_mul_right hc]
  have e3 : (2 * (V % P * c) = P * c) = (2 * (V % P) = P) := by
    rw [← Nat.mul_assoc]
    exact propext ⟨fun h => Nat.eq_of_mul_eq_mul_right hc h, fun h => by rw [h]⟩
  simp only [e1, e2, e3]
theorem rndN_mul (aw : Int → Bool → Bool) (V P c : Nat) (hc : 0 < c) : rndN aw (V * c) (P * c) = rndN aw V P := by
  unfold rndN
  rw [leftN_mul V P c hc, Nat.mul_div_mul_right _ _ hc]
theorem val_more (K c : Nat) (L : List Nat) (e : Int) (h : -(K : Int) ≤ e) : val (K + c) L e = val K L e * 10 ^ c := by
  unfold val
  rw [show (e + ((K + c : Nat) : Int)).toNat = (e + K).toNat + c from by omega, Nat.pow_add, Nat.mul_assoc]
theorem pow_more (K c : Nat) (p : Int) (h : -(K : Int) ≤ p) : 10 ^ (p + ((K + c : Nat) : Int)).toNat = 10 ^ (p + K).toNat * 10 ^ c := by
  rw [show (p + ((K + c : Nat) : Int)).toNat = (p + K).toNat + c from by omega, Nat.pow_add]
theorem left_any (D : List Nat) (e p : Int) (K K2 : Nat) (h1 : -(K : Int) ≤ e) (h2 : -(K : Int) ≤ p) (h3 : -(K2 : Int) ≤ e) (h4 : -(K2 : Int) ≤ p) : leftN (val K D e) (10 ^ (p + K).toNat) = leftN (val K2 D e) (10 ^ (p + K2).toNat) := by
  have key : ∀ K c : Nat, -(K : Int) ≤ e → -(K : Int) ≤ p → leftN (val (K + c) D e) (10 ^ (p + ((K + c : Nat) : Int)).toNat) = leftN (val K D e) (10 ^ (p + K).toNat) := fun K c a b => by
    rw [val_more K c D e a, pow_more K c p b, leftN_mul _ _ _ (Nat.pow_pos (by omega))]
  rcases Nat.le_total K K2 with h | h
  · obtain ⟨c, rfl⟩ : ∃ c, K2 = K + c := ⟨K2 - K, by omega⟩
    exact (key K c h1 h2).symm
  · obtain ⟨c, rfl⟩ : ∃ c, K = K2 + c := ⟨K - K2, by omega⟩
    exact key K2 c h3 h4
theorem Rnd.up {aw : Int → Bool → Bool} {D : List Nat} {e p : Int} {z K : Nat} {left : Int} {odd : Bool} (hd : Digs D) (hh : Headed D) (hl : 0 < D.length) (h1 : -(K : Int) ≤ e) (h2 : -(K : Int) ≤ p) (hz : Nines (firstL D (D.length + e - p).toNat) z)
    (hleft : left = leftN (val K D e) (10 ^ (p + K).toNat)) (hodd : odd = (num (firstL D (D.length + e - p).toNat) % 2 == 1)) (h0 : left ≠ 0) (ha : aw left odd = true) : Rnd aw D e p (nextL (firstL D (D.length + e - p).toNat) z) := by
  refine ⟨digs_next (firstL_digs hd _) hz, headed_next (firstL_headed hh hl _) hz, fun K2 k1 k2 => ?_, ?_, ?_⟩
  · rw [num_next _ _ hz, kept_num hd K2 e p k1 k2]
    unfold rndN
    rw [if_pos]
    rw [← left_any D e p K K2 h1 h2 k1 k2, ← hleft, ← kept_num hd K2 e p k1 k2, ← hodd]
    exact ⟨h0, ha⟩
  · rw [next_length, firstL_length]; split <;> omega
  · rw [next_length, firstL_length]; omega
theorem Rnd.stay {aw : Int → Bool → Bool} {D : List Nat} {e p : Int} {K : Nat} {left : Int} {odd : Bool} (hd : Digs D) (hh : Headed D) (hl : 0 < D.length) (h1 : -(K : Int) ≤ e) (h2 : -(K : Int) ≤ p)
    (hleft : left = leftN (val K D e) (10 ^ (p + K).toNat)) (hodd : odd = (num (firstL D (D.length + e - p).toNat) % 2 == 1)) (ha : left = 0 ∨ aw left odd = false) : Rnd aw D e p (firstL D (D.length + e - p).toNat) := by
  refine ⟨firstL_digs hd _, firstL_headed hh hl _, fun K2 k1 k2 => ?_, ?_, ?_⟩
  · rw [kept_num hd K2 e p k1 k2]
    unfold rndN
    rw [if_neg]
    rw [← left_any D e p K K2 h1 h2 k1 k2, ← hleft, ← kept_num hd K2 e p k1 k2, ← hodd]
    rintro ⟨a, b⟩
    rcases ha with h | h
    · exact a h
    · rw [h] at b; cases b
  · rw [firstL_length]; omega
  · rw [firstL_length]; omega
theorem rndN_le (aw : Int → Bool → Bool) (V P n : Nat) (h : V < n * P) (hP : 0 < P) : rndN aw V P ≤ n := by
  have : V / P < n := (Nat.div_lt_iff_lt_mul hP).2 h
  unfold rndN; split <;> omega
theorem rndN_ge (aw : Int → Bool → Bool) (V P : Nat) : V / P ≤ rndN aw V P := by unfold rndN; split <;> omega
/-- So many digits, the number's first ones, with a nought too many struck. -/
theorem Rnd.cut {aw : Int → Bool → Bool} {D R : List Nat} {e p : Int} {c : Nat} (h : Rnd aw D e p R) (hd : Digs D) (hc : (c : Int) = D.length + e - p) (h0 : 0 < c) : Digs (R.take c) ∧ Headed (R.take c) ∧ (R.take c).length = c ∧
    ∀ K : Nat, -(K : Int) ≤ e → -(K : Int) ≤ p → val K (R.take c) (p + R.length - c) = val K R p := by
  have hge := h.ge
  have hle := h.len
  rw [← hc, Int.toNat_natCast] at hge hle
  refine ⟨h.digs.take c, fun hh => ?_, by rw [List.length_take]; omega, fun K k1 k2 => ?_⟩
  · have := h.headed (by omega)
    simpa using this
  · rcases (by omega : R.length = c ∨ R.length = c + 1) with hr | hr
    · rw [List.take_of_length_le (by omega), show p + (R.length : Int) - c = p from by omega]
    · have hP : 0 < 10 ^ (p + K).toNat := Nat.pow_pos (by omega)
      have hV : val K D e < 10 ^ c * 10 ^ (p + K).toNat := by
        have := val_hi hd K e (p + c) (by omega) k1
        rcases Nat.div_eq_zero_iff.1 this with g | g
        · have : 0 < 10 ^ (p + c + K).toNat := Nat.pow_pos (by omega)
          omega
        · rw [show (p + c + K).toNat = c + (p + K).toNat from by omega, Nat.pow_add] at g; exact g
      have hu := rndN_le aw _ _ _ hV hP
      rw [← h.nval K k1 k2] at hu
      have hlo := h.headed.lo (by omega)
      rw [hr, Nat.add_sub_cancel] at hlo
      have hn : num R = 10 ^ c := by omega
      have ht : num (R.take c) = 10 ^ (c - 1) := by
        rw [num_take h.digs c (by omega), hn, hr, show c + 1 - c = 1 from by omega]
        obtain ⟨d, rfl⟩ : ∃ d, c = d + 1 := ⟨c - 1, by omega⟩
        rw [Nat.pow_succ]; simp
      unfold val
      rw [hn, ht, ← Nat.pow_add, ← Nat.pow_add, show c - 1 + (p + (R.length : Int) - c + K).toNat = c + (p + K).toNat from by rw [hr]; omega]

/-- The text with a power of ten, without the power: n digits behind the first. -/
def sciT (L : List Nat) (e top : Int) (n : Nat) : List UInt8 := rowT L e top 1 ++ (if n = 0 then [] else 46 :: rowT L e (top - 1) n)
/-- The text without a power of ten: from 10^high on, b digits behind the point. -/
def fixT (L : List Nat) (e : Int) (high b : Nat) : List UInt8 := rowT L e high (high + 1) ++ (if b = 0 then [] else 46 :: rowT L e (-1) b)
theorem sciT_same {L M : List Nat} {e g top : Int} {K n : Nat} (h1 : Digs L) (h2 : Digs M) (k1 : -(K : Int) ≤ e) (k2 : -(K : Int) ≤ g) (h : val K L e = val K M g) (hn : -(K : Int) ≤ top - n) : sciT L e top n = sciT M g top n := by
  unfold sciT
  rw [rowT_congr 1 (fun p a b => dig_same h1 h2 k1 k2 h p (by omega)), rowT_congr n (fun p a b => dig_same h1 h2 k1 k2 h p (by omega))]
theorem fixT_same {L M : List Nat} {e g : Int} {K high b : Nat} (h1 : Digs L) (h2 : Digs M) (k1 : -(K : Int) ≤ e) (k2 : -(K : Int) ≤ g) (h : val K L e = val K M g) (hn : b ≤ K) : fixT L e high b = fixT M g high b := by
  unfold fixT
  rw [rowT_congr (high + 1) (fun p a b => dig_same h1 h2 k1 k2 h p (by omega)), rowT_congr b (fun p a b => dig_same h1 h2 k1 k2 h p (by omega))]
/-- The digits of a row, a point behind the first. -/
def expB (D : List Nat) : Nat → List UInt8
  | 0 => []
  | n + 1 => (expB D n ++ if n = 1 then [46] else []) ++ [UInt8.ofNat (48 + D.getD n 0)]
theorem dig_at (D : List Nat) (top : Int) (i : Nat) (hi : i < D.length) : dig D (top - D.length + 1) (top - i) = D.getD i 0 := dig_mid D (by omega) (by omega) i (by omega)
theorem expB_rows (D : List Nat) (top : Int) (n : Nat) (h : n < D.length) : expB D (n + 1) = sciT D (top - D.length + 1) top n := by
  induction n with
  | zero =>
    have := dig_at D top 0 h
    simp at this
    simp [expB, sciT, rowT, this]
  | succ n ih =>
    rw [expB, ih (by omega)]
    unfold sciT
    rw [if_neg (show ¬ n + 1 = 0 by omega)]
    have e1 := dig_at D top (n + 1) h
    rw [show rowT D (top - D.length + 1) (top - 1) (n + 1) = rowT D (top - D.length + 1) (top - 1) n ++ [UInt8.ofNat (48 + dig D (top - D.length + 1) (top - 1 - n))] from rfl, show top - 1 - (n : Int) = top - ((n + 1 : Nat) : Int) from by omega, e1]
    by_cases h0 : n = 0
    · subst h0; simp [rowT]
    · rw [if_neg h0, if_neg (show ¬ n + 1 = 1 by omega)]; simp
/-- The digit in a place from the first on, 0 elsewhere. -/
def dAt (D : List Nat) (i : Int) : Nat := if i < 0 then 0 else D.getD i.toNat 0
theorem dAt_le {D : List Nat} (h : Digs D) (i : Int) : dAt D i ≤ 9 := by
  unfold dAt; split
  · omega
  · exact h.getD _
theorem dig_dAt (D : List Nat) (b i : Int) : dig D (-b) (D.length - b - 1 - i) = dAt D i := by
  unfold dAt
  by_cases h : i < 0
  · rw [if_pos h, dig_hi D (by omega)]
  · rw [if_neg h]
    by_cases h2 : i < D.length
    · exact dig_mid D (by omega) (by omega) i.toNat (by omega)
    · rw [dig_lo D (by omega), List.getD_eq_getElem?_getD, List.getElem?_eq_none (by omega)]; rfl
/-- What is written without a power of ten, out of a row of digits of which b stand behind the point. -/
theorem fix_rows (D : List Nat) (b : Int) :
    ((if D.length - b ≤ 0 then [48] else rowT D (-b) (D.length - b - 1) (D.length - b).toNat) ++ (if 0 < b then [46] else [])) ++ rowT D (-b) (-1) b.toNat = fixT D (-b) (D.length - b - 1).toNat b.toNat := by
  unfold fixT
  have h1 : (if (D.length : Int) - b ≤ 0 then [48] else rowT D (-b) (D.length - b - 1) (D.length - b).toNat) = rowT D (-b) ((D.length - b - 1).toNat : Int) ((D.length - b - 1).toNat + 1) := by
    by_cases h : (D.length : Int) - b ≤ 0
    · rw [if_pos h, show ((D.length : Int) - b - 1).toNat = 0 from by omega]
      simp only [rowT, List.nil_append]
      rw [dig_hi D (by omega)]; rfl
    · rw [if_neg h, show ((D.length : Int) - b).toNat = (D.length - b - 1).toNat + 1 from by omega, show (((D.length : Int) - b - 1).toNat : Int) = D.length - b - 1 from by omega]
  rw [h1]
  by_cases hb : 0 < b
  · rw [if_pos hb, if_neg (show ¬ b.toNat = 0 by omega)]; simp
  · rw [if_neg hb, if_pos (show b.toNat = 0 by omega), show b.toNat = 0 from by omega]; simp [rowT]
end Go.Proofs.YtbkdaoicnobllabGreatDoor

/- Plain mathematics: digits of base 16 behind the point. -/
namespace Go.Proofs.YtbkdaoicnobllabGreatDoor

/-- The byte of a digit of base 16. -/
def hexD (d : Nat) : UInt8 := UInt8.ofNat (if d < 10 then 48 + d else 87 + d)
/-- What is left behind i digits of r / u. -/
def hexR (u r i : Nat) : Nat := r * 16 ^ i % u
/-- The first n digits of r / u. -/
def hexP (u r : Nat) : Nat → List UInt8
  | 0 => []
  | n + 1 => hexP u r n ++ [hexD (hexR u r n * 16 / u)]
/-- They are all. -/
def HexEnd (u r n : Nat) : Prop := hexR u r n = 0 ∧ ∀ i, i < n → hexR u r i ≠ 0
theorem HexEnd.same {u r n m : Nat} (h1 : HexEnd u r n) (h2 : HexEnd u r m) : n = m := by
  rcases Nat.lt_trichotomy n m with h | h | h
  · exact absurd h1.1 (h2.2 n h)
  · exact h
  · exact absurd h2.1 (h1.2 m h)
theorem hexR_zero (u r : Nat) (h : r < u) : hexR u r 0 = r := by unfold hexR; rw [Nat.pow_zero, Nat.mul_one, Nat.mod_eq_of_lt h]
theorem hexR_succ (u r i : Nat) : hexR u r (i + 1) = hexR u r i * 16 % u := by
  unfold hexR; rw [Nat.pow_succ, ← Nat.mul_assoc, Nat.mod_mul_mod]
theorem hexR_lt (u r i : Nat) (h : 0 < u) : hexR u r i < u := Nat.mod_lt _ h
theorem hexR_scale (u r s i : Nat) : hexR (u * s) (r * s) i = hexR u r i * s := by
  unfold hexR; rw [Nat.mul_right_comm, Nat.mul_mod_mul_right]
theorem hexP_scale (u r s n : Nat) (hs : 0 < s) : hexP (u * s) (r * s) n = hexP u r n := by
  induction n with
  | zero => rfl
  | succ n ih => simp only [hexP]; rw [ih, hexR_scale, Nat.mul_right_comm, Nat.mul_div_mul_right _ _ hs]
theorem HexEnd.scale {u r s n : Nat} (hs : 0 < s) (h : HexEnd (u * s) (r * s) n) : HexEnd u r n := by
  obtain ⟨h1, h2⟩ := h
  rw [hexR_scale] at h1
  refine ⟨(Nat.mul_eq_zero.1 h1).elim id (fun h => by omega), fun i hi h0 => h2 i hi (by rw [hexR_scale, h0]; simp)⟩
theorem hexR_end (j r i : Nat) (h : j ≤ 4 * i) : hexR (2 ^ j) r i = 0 := by
  unfold hexR
  rw [show (16 : Nat) = 2 ^ 4 from rfl, ← Nat.pow_mul]
  obtain ⟨c, hc⟩ : ∃ c, 4 * i = j + c := ⟨4 * i - j, by omega⟩
  rw [hc, Nat.pow_add, show r * (2 ^ j * 2 ^ c) = 2 ^ j * (r * 2 ^ c) from by grind]
  exact Nat.mul_mod_right _ _
theorem hexR_more (j r i : Nat) (hj : j ≤ 52) (h : hexR (2 ^ j) r i ≠ 0) : i < 13 := by
  apply Nat.lt_of_not_le; intro hi
  exact h (hexR_end j r i (by omega))
theorem hexP_length (u r n : Nat) : (hexP u r n).length = n := by
  induction n with
  | zero => rfl
  | succ n ih => simp [hexP, ih]
/-- A number of j + 1 bits. -/
def Bits (m j : Nat) : Prop := 2 ^ j ≤ m ∧ m < 2 ^ (j + 1)
theorem Bits.same {m j k : Nat} (h1 : Bits m j) (h2 : Bits m k) : j = k := by
  unfold Bits at *
  rcases Nat.lt_trichotomy j k with h | h | h
  · have := Nat.pow_le_pow_right (n := 2) (by omega) (show j + 1 ≤ k from h); omega
  · exact h
  · have := Nat.pow_le_pow_right (n := 2) (by omega) (show k + 1 ≤ j from h); omega
/-- The text of m times 2^e, without its power: m of j + 1 bits, n digits behind the point. -/
def HexText (m : Nat) (e : Int) (T : List UInt8) (E : Int) : Prop := ∃ j n, Bits m j ∧ HexEnd (2 ^ j) (m - 2 ^ j) n ∧ T = hexP (2 ^ j) (m - 2 ^ j) n ∧ E = e + j
theorem HexText.same {m : Nat} {e E E' : Int} {T T' : List UInt8} (h1 : HexText m e T E) (h2 : HexText m e T' E') : T = T' ∧ E = E' := by
  obtain ⟨j, n, a, b, c, d⟩ := h1
  obtain ⟨j', n', a', b', c', d'⟩ := h2
  have := a.same a'; subst this
  have := b.same b'; subst this
  exact ⟨c.trans c'.symm, d.trans d'.symm⟩
end Go.Proofs.YtbkdaoicnobllabGreatDoor

namespace Go.Proofs.YtbkdaoicnobllabGreatDoor
open Go.RowKit

/-- A row of bytes as a string. -/
def str (l : List UInt8) : ByteArray := ⟨l.toArray⟩
theorem str_append (a b : List UInt8) : str a ++ str b = str (a ++ b) := by
  apply ByteArray.ext; rw [ByteArray.data_append]; simp [str]
theorem str_size (a : List UInt8) : (str a).size = a.length := by simp [str, ByteArray.size]
theorem str_nil : str [] = ByteArray.empty := rfl
theorem ret_str {a b : ByteArray} (h : a = b) : Ending.returned (.string a) = .returned (.string b) := by rw [h]
/-- Two rows with a point between, if the second is one. -/
def ptd (a b : List UInt8) : List UInt8 := if b = [] then a else a ++ (46 :: b)
theorem str_toList (b : List UInt8) : (str b).toList = b := ByteArray.toList_mk b
/-- The text of base 16. -/
def hexS (T : List UInt8) (E : Int) : List UInt8 := ptd [48, 120, 49] T ++ (112 :: Lib.itoa E)
theorem pow_gt {k B m M : Nat} (h : m * 2 ^ k = M) (hm : 0 < m) (hM : M < 2 ^ B) : k < B := by
  apply Nat.lt_of_not_le; intro hle
  have h1 : 2 ^ B ≤ 2 ^ k := Nat.pow_le_pow_right (by omega) hle
  have h2 : 1 * 2 ^ k ≤ m * 2 ^ k := Nat.mul_le_mul_right _ hm
  omega
theorem hex_join {m0 k j r n : Nat} {e0 : Int} (h1 : m0 * 2 ^ k = 2 ^ (j + k) + r) (h2 : r < 2 ^ (j + k)) (h3 : HexEnd (2 ^ (j + k)) r n) : HexText m0 e0 (hexP (2 ^ (j + k)) r n) (e0 + j) := by
  have hp : 0 < 2 ^ k := Nat.pow_pos (by omega)
  rw [Nat.pow_add] at h1 h2 h3 ⊢
  have hge : 2 ^ j ≤ m0 := by
    apply Nat.le_of_mul_le_mul_right (c := 2 ^ k) _ hp; omega
  have hlt : m0 < 2 ^ (j + 1) := by
    apply Nat.lt_of_mul_lt_mul_right (a := 2 ^ k)
    rw [Nat.pow_succ, Nat.mul_assoc, Nat.mul_comm 2, ← Nat.mul_assoc]; omega
  have hr : r = (m0 - 2 ^ j) * 2 ^ k := by rw [Nat.sub_mul]; omega
  subst hr
  refine ⟨j, n, ⟨hge, hlt⟩, h3.scale hp, ?_, rfl⟩
  exact hexP_scale _ _ _ _ hp
/-- From where on a number is written without a power of ten. -/
def highN (L : List Nat) (e : Int) : Nat := if L = [] then 0 else (max (e + L.length - 1) 0).toNat
end Go.Proofs.YtbkdaoicnobllabGreatDoor

/- Plain mathematics: the texts that a number rounded at a power of ten has. -/
namespace Go.Proofs.YtbkdaoicnobllabGreatDoor

/-- The text of V / 10^3000 with n digits behind the first, and a power of ten. -/
structure ExpR (aw : Int → Bool → Bool) (V n : Nat) (D : List Nat) (e : Int) (L : List Nat) (g : Int) (T : List UInt8) : Prop where
  digs : Digs D
  headed : Headed D
  pos : 0 < D.length
  lo : -(3000 : Int) ≤ e
  val : val 3000 D e = V
  digs' : Digs L
  headed' : Headed L
  pos' : 0 < L.length
  lo' : -(3000 : Int) ≤ g
  lon : -(3000 : Int) ≤ g + L.length - 1 - n
  val' : Go.Proofs.YtbkdaoicnobllabGreatDoor.val 3000 L g = rndN aw V (10 ^ (e + D.length - 1 - n + (3000 : Nat)).toNat) * 10 ^ (e + D.length - 1 - n + (3000 : Nat)).toNat
  text : T = sciT L g (g + L.length - 1) n ++ (101 :: Lib.itoa (g + L.length - 1))
def ExpQ (aw : Int → Bool → Bool) (V n : Nat) (T : List UInt8) : Prop := (V = 0 ∧ T = fixT [] 0 0 n ++ [101, 48]) ∨ ∃ D e L g, ExpR aw V n D e L g T
theorem ExpR.ne {aw : Int → Bool → Bool} {V n : Nat} {D L : List Nat} {e g : Int} {T : List UInt8} (h : ExpR aw V n D e L g T) : V ≠ 0 := by
  rw [← h.val]; unfold Go.Proofs.YtbkdaoicnobllabGreatDoor.val
  exact Nat.ne_of_gt (Nat.mul_pos (h.headed.pos h.pos) (Nat.pow_pos (by omega)))
theorem ExpQ.same {aw : Int → Bool → Bool} {V n : Nat} {T T' : List UInt8} (h : ExpQ aw V n T) (h' : ExpQ aw V n T') : T = T' := by
  rcases h with ⟨h0, rfl⟩ | ⟨D, e, L, g, h⟩
  · rcases h' with ⟨_, rfl⟩ | ⟨D, e, L, g, h⟩
    · rfl
    · exact absurd h0 h.ne
  · rcases h' with ⟨h0, _⟩ | ⟨D', e', L', g', h'⟩
    · exact absurd h0 h.ne
    · have ht := top_same h.digs h'.digs h.headed h'.headed h.pos h'.pos (K := 3000) h.lo h'.lo (h.val.trans h'.val.symm)
      have hv : val 3000 L g = val 3000 L' g' := by
        rw [h.val', h'.val', show e' + (D'.length : Int) - 1 - n + (3000 : Nat) = e + D.length - 1 - n + (3000 : Nat) from by omega]
      have ht' := top_same h.digs' h'.digs' h.headed' h'.headed' h.pos' h'.pos' h.lo' h'.lo' hv
      rw [h.text, h'.text, ← ht', sciT_same h.digs' h'.digs' h.lo' h'.lo' hv h.lon]
theorem exp_prog {aw : Int → Bool → Bool} {V n : Nat} {D R : List Nat} {e p : Int} (hd : Digs D) (hh : Headed D) (hl : 0 < D.length) (he : -1080 ≤ e) (hn : n ≤ 800) (hV : val 3000 D e = V) (hp : p = e + D.length - 1 - n) (hR : Rnd aw D e p R) :
    ExpQ aw V n (expB (R.take (n + 1)) (n + 1) ++ (101 :: Lib.itoa (p + R.length - 1))) := by
  obtain ⟨c1, c2, c3, c4⟩ := hR.cut hd (c := n + 1) (by omega) (by omega)
  have hge := hR.ge
  rw [show (D.length + e - p).toNat = n + 1 from by omega] at hge
  have hv := c4 3000 (by omega) (by omega)
  refine .inr ⟨D, e, R.take (n + 1), p + R.length - (n + 1 : Nat), ⟨hd, hh, hl, by omega, hV, c1, c2, by omega, by omega, by rw [c3]; omega, ?_, ?_⟩⟩
  · rw [hv]; unfold val
    rw [hR.nval 3000 (by omega) (by omega), hV, hp]
  · rw [expB_rows (R.take (n + 1)) (p + R.length - 1) n (by omega), c3]
    have e1 : p + (R.length : Int) - 1 - ((n + 1 : Nat) : Int) + 1 = p + R.length - (n + 1 : Nat) := by omega
    have e2 : p + (R.length : Int) - ((n + 1 : Nat) : Int) + ((n + 1 : Nat) : Int) - 1 = p + R.length - 1 := by omega
    rw [e1, e2]
theorem exp_zero (aw : Int → Bool → Bool) (n : Nat) : ExpQ aw 0 n (expB (List.replicate (n + 1) 0) (n + 1) ++ (101 :: Lib.itoa 0)) := by
  refine .inl ⟨rfl, ?_⟩
  have hz : ∀ e p, dig (List.replicate (n + 1) 0) e p = 0 := by
    intro e p
    by_cases h1 : p < e
    · exact dig_lo _ h1
    · by_cases h2 : e + (List.replicate (n + 1) 0).length ≤ p
      · exact dig_hi _ (by omega)
      · rw [dig_mid (List.replicate (n + 1) 0) (e := e) (p := p) (by omega) (by omega) ((List.replicate (n + 1) 0).length - 1 - (p - e).toNat) (by omega)]
        simp [List.getD_eq_getElem?_getD, List.getElem?_replicate]
        split <;> rfl
  have hz2 : ∀ e p, dig ([] : List Nat) e p = 0 := by
    intro e p
    by_cases h1 : p < e
    · exact dig_lo _ h1
    · exact dig_hi _ (by simp; omega)
  rw [expB_rows _ 0 n (by simp)]
  unfold sciT fixT
  rw [show Lib.itoa 0 = [48] from by decide +kernel]
  rw [rowT_congr (M := []) (g := 0) 1 (fun p _ _ => by rw [hz, hz2]), rowT_congr (M := []) (g := 0) n (fun p _ _ => by rw [hz, hz2])]
  simp
theorem exp_ref {aw : Int → Bool → Bool} {V n : Nat} {D L : List Nat} {e g : Int} (hd : Norm D) (hl : 0 < D.length) (he : -1100 ≤ e) (hn : n ≤ 800) (hV : val 3000 D e = V) (hd' : Norm L) (hg : L ≠ [] → -2000 ≤ g)
    (hv : val 3000 L g = rndN aw V (10 ^ (e + D.length - 1 - n + (3000 : Nat)).toNat) * 10 ^ (e + D.length - 1 - n + (3000 : Nat)).toNat) :
    0 < L.length ∧ ExpQ aw V n (sciT L g (g + L.length - 1) n ++ (101 :: Lib.itoa (g + L.length - 1))) := by
  have hpos : 0 < L.length := by
    apply Nat.pos_of_ne_zero; intro h0
    rw [List.length_eq_zero_iff.1 h0] at hv
    have h1 := rndN_ge aw V (10 ^ (e + D.length - 1 - n + (3000 : Nat)).toNat)
    have hP : 0 < 10 ^ (e + D.length - 1 - n + (3000 : Nat)).toNat := Nat.pow_pos (by omega)
    have h2 : 10 ^ (e + D.length - 1 - n + (3000 : Nat)).toNat ≤ V := by
      rw [← hV]; unfold val
      refine Nat.le_trans ?_ (Nat.mul_le_mul_right _ (hd.headed.lo hl))
      rw [← Nat.pow_add]
      exact Nat.pow_le_pow_right (by omega) (by omega)
    have h3 := Nat.div_pos h2 hP
    have h4 : 0 < rndN aw V (10 ^ (e + D.length - 1 - n + (3000 : Nat)).toNat) := by omega
    have h5 := Nat.mul_pos h4 hP
    rw [← hv] at h5
    simp [val, num_nil] at h5
  have hg' := hg (fun h => by rw [h] at hpos; simp at hpos)
  exact ⟨hpos, .inr ⟨D, e, L, g, ⟨hd.digs, hd.headed, hl, by omega, hV, hd'.digs, hd'.headed, hpos, by omega, by omega, hv, rfl⟩⟩⟩
/-- The text of V / 10^3000 with n digits behind the point. -/
def FixQ (aw : Int → Bool → Bool) (V n : Nat) (T : List UInt8) : Prop := ∃ (L : List Nat) (g : Int), Digs L ∧ Headed L ∧ -(3000 : Int) ≤ g ∧ n ≤ 3000 ∧ val 3000 L g = rndN aw V (10 ^ (-(n : Int) + (3000 : Nat)).toNat) * 10 ^ (-(n : Int) + (3000 : Nat)).toNat ∧ T = fixT L g (highN L g) n
theorem high_same {K : Nat} {L M : List Nat} {e g : Int} (h1 : Digs L) (h2 : Digs M) (d1 : Headed L) (d2 : Headed M) (k1 : -(K : Int) ≤ e) (k2 : -(K : Int) ≤ g) (h : val K L e = val K M g) : highN L e = highN M g := by
  have z : ∀ {L : List Nat} {e : Int}, Headed L → L ≠ [] → val K L e ≠ 0 := fun {L e} hh hl => by
    unfold val
    exact Nat.ne_of_gt (Nat.mul_pos (hh.pos (List.length_pos_iff.2 hl)) (Nat.pow_pos (by omega)))
  unfold highN
  by_cases a : L = []
  · by_cases b : M = []
    · rw [if_pos a, if_pos b]
    · have := z (e := g) d2 b
      rw [← h, a] at this
      simp [val, num_nil] at this
  · by_cases b : M = []
    · have := z (e := e) d1 a
      rw [h, b] at this
      simp [val, num_nil] at this
    · rw [if_neg a, if_neg b, top_same h1 h2 d1 d2 (List.length_pos_iff.2 a) (List.length_pos_iff.2 b) k1 k2 h]
theorem FixQ.same {aw : Int → Bool → Bool} {V n : Nat} {T T' : List UInt8} (h : FixQ aw V n T) (h' : FixQ aw V n T') : T = T' := by
  obtain ⟨L, g, a1, a2, a3, a4, a5, rfl⟩ := h
  obtain ⟨M, k, b1, b2, b3, b4, b5, rfl⟩ := h'
  have hv := a5.trans b5.symm
  rw [high_same a1 b1 a2 b2 a3 b3 hv, fixT_same a1 b1 a3 b3 hv a4]
theorem fix_prog {aw : Int → Bool → Bool} {V n : Nat} {D R : List Nat} {e : Int} (he : -1080 ≤ e) (hn : n ≤ 800) (hV : val 3000 D e = V) (hR : Rnd aw D e (-(n : Int)) R) :
    FixQ aw V n (fixT R (-(n : Int)) ((R.length : Int) - n - 1).toNat n) := by
  refine ⟨R, -(n : Int), hR.digs, hR.headed, by omega, by omega, ?_, ?_⟩
  · unfold val; rw [hR.nval 3000 (by omega) (by omega), hV]
  · unfold highN
    by_cases h : R = []
    · rw [if_pos h]; subst h; rw [show ((([] : List Nat).length : Int) - n - 1).toNat = 0 from by simp]
    · rw [if_neg h, show ((R.length : Int) - n - 1).toNat = (max (-(n : Int) + R.length - 1) 0).toNat from by omega]
theorem rndN_zero (aw : Int → Bool → Bool) (P : Nat) : rndN aw 0 P = 0 := by unfold rndN leftN; simp
theorem fix_zero (aw : Int → Bool → Bool) (n : Nat) (hn : n ≤ 800) : FixQ aw 0 n (fixT [] (-(n : Int)) ((0 : Int) - n - 1).toNat n) := by
  refine ⟨[], -(n : Int), fun d h => by simp at h, fun h => by simp at h, by omega, by omega, ?_, ?_⟩
  · rw [rndN_zero]; simp [val, num_nil]
  · unfold highN; rw [if_pos rfl, show ((0 : Int) - n - 1).toNat = 0 from by omega]
theorem fix_ref {aw : Int → Bool → Bool} {V n : Nat} {L : List Nat} {g : Int} (hn : n ≤ 800) (hd' : Norm L) (hg0 : L = [] → g = 0) (hg : L ≠ [] → -2000 ≤ g)
    (hv : val 3000 L g = rndN aw V (10 ^ (-(n : Int) + (3000 : Nat)).toNat) * 10 ^ (-(n : Int) + (3000 : Nat)).toNat) : FixQ aw V n (fixT L g (highN L g) n) :=
  ⟨L, g, hd'.digs, hd'.headed, (Decidable.em (L = [])).elim (fun h => by have := hg0 h; omega) (fun h => by have := hg h; omega), by omega, hv, rfl⟩
theorem sciT_length (L : List Nat) (e top : Int) (n : Nat) : (sciT L e top n).length ≤ n + 2 := by
  unfold sciT; split <;> simp [rowT_length] <;> omega
theorem fixT_length (L : List Nat) (e : Int) (h b : Nat) : (fixT L e h b).length ≤ h + b + 2 := by
  unfold fixT; split <;> simp [rowT_length] <;> omega
end Go.Proofs.YtbkdaoicnobllabGreatDoor
