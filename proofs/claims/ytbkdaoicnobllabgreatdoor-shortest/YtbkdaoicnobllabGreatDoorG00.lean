import Init

/- Plain mathematics: rows of digits. Nothing of the program. -/
namespace Go.Proofs.YtbkdaoicnobllabGreatDoor

/-- The number of a row of digits, the lowest first. -/
def le : List Nat → Nat
  | [] => 0
  | d :: r => d + 10 * le r
/-- The number of a row of digits, the highest first. -/
def num (L : List Nat) : Nat := le L.reverse
/-- All are digits. -/
def Digs (L : List Nat) : Prop := ∀ d, d ∈ L → d ≤ 9
/-- No nought at either end; all are digits. -/
structure Norm (L : List Nat) : Prop where
  digs : Digs L
  head : ∀ h : 0 < L.length, L[0] ≠ 0
  last : ∀ h : 0 < L.length, L[L.length - 1] ≠ 0
/-- The number times 10^K, a whole number where -K ≤ e. -/
def val (K : Nat) (L : List Nat) (e : Int) : Nat := num L * 10 ^ (e + K).toNat

theorem le_append (a b : List Nat) : le (a ++ b) = le a + 10 ^ a.length * le b := by
  induction a with
  | nil => simp [le]
  | cons d r ih =>
    simp only [List.cons_append, le, ih, List.length_cons, Nat.pow_succ]
    rw [Nat.mul_add, Nat.mul_comm (10 ^ r.length) 10, Nat.mul_assoc, Nat.add_assoc]

theorem num_nil : num [] = 0 := rfl
theorem num_snoc (L : List Nat) (d : Nat) : num (L ++ [d]) = 10 * num L + d := by
  simp [num, le]; omega
theorem num_cons (d : Nat) (L : List Nat) : num (d :: L) = d * 10 ^ L.length + num L := by
  simp [num, le_append, le]; rw [Nat.mul_comm]; omega
theorem num_append (a b : List Nat) : num (a ++ b) = num a * 10 ^ b.length + num b := by
  simp [num, le_append]; rw [Nat.mul_comm]; omega

theorem Digs.nil : Digs [] := fun _ h => by cases h
theorem Digs.cons {d : Nat} {L : List Nat} (h : d ≤ 9) (hl : Digs L) : Digs (d :: L) := by
  intro x hx
  rcases List.mem_cons.1 hx with rfl | hx
  · exact h
  · exact hl x hx
theorem Digs.append {a b : List Nat} (ha : Digs a) (hb : Digs b) : Digs (a ++ b) := by
  intro x hx
  rcases List.mem_append.1 hx with hx | hx
  · exact ha x hx
  · exact hb x hx
theorem Digs.reverse {L : List Nat} (h : Digs L) : Digs L.reverse := fun x hx => h x (List.mem_reverse.1 hx)
theorem Digs.take {L : List Nat} (h : Digs L) (n : Nat) : Digs (L.take n) := fun x hx => h x (List.mem_of_mem_take hx)
theorem Digs.drop {L : List Nat} (h : Digs L) (n : Nat) : Digs (L.drop n) := fun x hx => h x (List.mem_of_mem_drop hx)
theorem Digs.getD {L : List Nat} (h : Digs L) (i : Nat) : L.getD i 0 ≤ 9 := by
  rw [List.getD_eq_getElem?_getD]
  cases hi : L[i]? with
  | none => simp
  | some d => simpa using h d (List.mem_of_getElem? hi)
theorem Digs.set {L : List Nat} (h : Digs L) (i d : Nat) (hd : d ≤ 9) : Digs (L.set i d) := by
  intro x hx
  rcases List.mem_or_eq_of_mem_set hx with hx | rfl
  · exact h x hx
  · exact hd

theorem le_lt {L : List Nat} (h : Digs L) : le L < 10 ^ L.length := by
  induction L with
  | nil => simp [le]
  | cons d r ih =>
    have h1 := ih (fun x hx => h x (List.mem_cons_of_mem _ hx))
    have h2 := h d (List.mem_cons_self)
    simp only [le, List.length_cons, Nat.pow_succ]; omega
theorem num_lt {L : List Nat} (h : Digs L) : num L < 10 ^ L.length := by
  have := le_lt h.reverse; simpa [num] using this

theorem le_div {L : List Nat} (h : Digs L) (i : Nat) : le L / 10 ^ i = le (L.drop i) := by
  induction i generalizing L with
  | zero => simp
  | succ i ih =>
    cases L with
    | nil => simp [le]
    | cons d r =>
      have h1 := ih (L := r) (fun x hx => h x (List.mem_cons_of_mem _ hx))
      have h2 := h d (List.mem_cons_self)
      simp only [List.drop_succ_cons, ← h1, le, Nat.pow_succ]
      rw [Nat.mul_comm (10 ^ i) 10, ← Nat.div_div_eq_div_mul]
      congr 1; omega
theorem le_mod (L : List Nat) (h : Digs L) : le L % 10 = L.getD 0 0 := by
  cases L with
  | nil => simp [le]
  | cons d r => have h2 := h d (List.mem_cons_self); simp only [le, List.getD_cons_zero]; omega
/-- The digit at a place. -/
theorem le_at {L : List Nat} (h : Digs L) (i : Nat) : le L / 10 ^ i % 10 = L.getD i 0 := by
  rw [le_div h, le_mod _ (h.drop i)]; simp [List.getD_eq_getElem?_getD]

/-- The digit that stands at 10^p. -/
def dig (L : List Nat) (e p : Int) : Nat := if p < e then 0 else L.reverse.getD (p - e).toNat 0
theorem dig_le {L : List Nat} (h : Digs L) (e p : Int) : dig L e p ≤ 9 := by
  unfold dig; split
  · omega
  · exact h.reverse.getD _
theorem dig_lo (L : List Nat) {e p : Int} (h : p < e) : dig L e p = 0 := by simp [dig, h]
theorem dig_hi (L : List Nat) {e p : Int} (h : e + L.length ≤ p) : dig L e p = 0 := by
  unfold dig; split
  · rfl
  · rw [List.getD_eq_getElem?_getD, List.getElem?_eq_none (by simp; omega)]; rfl
theorem dig_mid (L : List Nat) {e p : Int} (h : e ≤ p) (h2 : p < e + L.length) (j : Nat) (hj : (j : Int) = L.length - 1 - (p - e)) : dig L e p = L.getD j 0 := by
  unfold dig; rw [if_neg (by omega), List.getD_eq_getElem?_getD, List.getElem?_reverse (by omega), List.getD_eq_getElem?_getD, show L.length - 1 - (p - e).toNat = j from by omega]
theorem dig_val {L : List Nat} (h : Digs L) (K : Nat) (e p : Int) (he : -(K : Int) ≤ e) (hp : -(K : Int) ≤ p) : val K L e / 10 ^ (p + K).toNat % 10 = dig L e p := by
  unfold val dig num
  split
  · obtain ⟨m, hm⟩ : ∃ m : Nat, (e + K).toNat = (p + K).toNat + 1 + m := ⟨(e - p - 1).toNat, by omega⟩
    rw [hm, Nat.pow_add, Nat.pow_succ, show le L.reverse * (10 ^ (p + K).toNat * 10 * 10 ^ m) = 10 ^ (p + K).toNat * (10 * (le L.reverse * 10 ^ m)) from by grind]
    rw [Nat.mul_div_cancel_left _ (Nat.pow_pos (by omega))]; omega
  · have hm : (p + K).toNat = (e + K).toNat + (p - e).toNat := by omega
    rw [hm, Nat.pow_add, Nat.mul_comm (le _), Nat.mul_div_mul_left _ _ (Nat.pow_pos (by omega)), le_at h.reverse]
/-- What stands at 10^p and above. -/
theorem hi_step (V P : Nat) : V / 10 ^ P = 10 * (V / 10 ^ (P + 1)) + V / 10 ^ P % 10 := by
  rw [Nat.pow_succ, ← Nat.div_div_eq_div_mul]; omega

/-- Below the last place nothing stands; above the first nothing stands. -/
theorem val_hi {L : List Nat} (h : Digs L) (K : Nat) (e p : Int) (hp : e + L.length ≤ p) (he : -(K : Int) ≤ e) : val K L e / 10 ^ (p + K).toNat = 0 := by
  apply Nat.div_eq_of_lt
  unfold val
  have h1 := num_lt h
  obtain ⟨m, hm⟩ : ∃ m : Nat, (p + K).toNat = L.length + (e + K).toNat + m := ⟨(p - e - L.length).toNat, by omega⟩
  rw [hm, Nat.pow_add, Nat.pow_add]
  have hpos : 0 < 10 ^ (e + K).toNat := Nat.pow_pos (by omega)
  have hm1 : 1 ≤ 10 ^ m := Nat.pow_pos (by omega)
  calc num L * 10 ^ (e + K).toNat < 10 ^ L.length * 10 ^ (e + K).toNat := Nat.mul_lt_mul_of_pos_right h1 hpos
    _ = 10 ^ L.length * 10 ^ (e + K).toNat * 1 := by rw [Nat.mul_one]
    _ ≤ 10 ^ L.length * 10 ^ (e + K).toNat * 10 ^ m := Nat.mul_le_mul_left _ hm1
theorem val_mod (L : List Nat) (K : Nat) (e p : Int) (hp : p ≤ e) (hk : -(K : Int) ≤ p) : val K L e % 10 ^ (p + K).toNat = 0 := by
  unfold val
  obtain ⟨m, hm⟩ : ∃ m : Nat, (e + K).toNat = (p + K).toNat + m := ⟨(e - p).toNat, by omega⟩
  rw [hm, Nat.pow_add, show num L * (10 ^ (p + K).toNat * 10 ^ m) = 10 ^ (p + K).toNat * (num L * 10 ^ m) from by grind, Nat.mul_mod_right]

/-- Of two numbers the greater by their higher parts. -/
theorem lt_of_hi {a b P : Nat} (h : a / P < b / P) : a < b := by
  apply Nat.lt_of_not_le; intro hle
  have := Nat.div_le_div_right (c := P) hle; omega

theorem num_pos {L : List Nat} (h : Norm L) (hl : 0 < L.length) : 10 ^ (L.length - 1) ≤ num L := by
  cases L with
  | nil => simp at hl
  | cons d r =>
    have := h.head hl
    simp at this
    rw [num_cons]; simp
    have : 1 * 10 ^ r.length ≤ d * 10 ^ r.length := Nat.mul_le_mul_right _ (by omega)
    omega
theorem val_pos {L : List Nat} (h : Norm L) (hl : 0 < L.length) (K : Nat) (e : Int) : 0 < val K L e := by
  have := num_pos h hl
  exact Nat.mul_pos (Nat.lt_of_lt_of_le (Nat.pow_pos (by omega)) this) (Nat.pow_pos (by omega))
theorem val_nil (K : Nat) (e : Int) : val K [] e = 0 := by simp [val, num_nil]

/-- Noughts at the head. -/
theorem num_zero_cons (L : List Nat) : num (0 :: L) = num L := by rw [num_cons]; simp
theorem val_snoc_zero (K : Nat) (L : List Nat) (e : Int) (he : -(K : Int) ≤ e) : val K (L ++ [0]) e = val K L (e + 1) := by
  unfold val; rw [num_snoc, show (e + 1 + K).toNat = (e + K).toNat + 1 from by omega, Nat.pow_succ]
  simp [Nat.mul_comm, Nat.mul_left_comm]; rw [Nat.mul_assoc]

theorem num_set (L : List Nat) (i d : Nat) (hi : i < L.length) (h0 : L.getD i 0 = 0) : num (L.set i d) = num L + d * 10 ^ (L.length - 1 - i) := by
  induction L generalizing i with
  | nil => simp at hi
  | cons x r ih =>
    cases i with
    | zero => simp at h0; subst h0; simp [num_cons]; omega
    | succ i =>
      simp at hi h0
      rw [List.set_cons_succ, num_cons, num_cons, ih i hi (by simpa using h0)]
      simp
      rw [show r.length - (i + 1) = r.length - 1 - i from by omega]; omega

theorem num_all_zero (L : List Nat) (h : ∀ j, j < L.length → L.getD j 0 = 0) : num L = 0 := by
  induction L with
  | nil => rfl
  | cons d r ih =>
    have h0 := h 0 (by simp)
    simp at h0
    rw [num_cons, h0, ih (fun j hj => by have := h (j + 1) (by simp; omega); simpa using this)]; simp
theorem num_drop_zeros (L : List Nat) (a : Nat) (h : ∀ j, j < a → L.getD j 0 = 0) : num L = num (L.drop a) := by
  induction a generalizing L with
  | zero => simp
  | succ a ih =>
    cases L with
    | nil => simp
    | cons d r =>
      have h0 := h 0 (by omega)
      simp at h0
      rw [List.drop_succ_cons, ← ih r (fun j hj => by have := h (j + 1) (by omega); simpa using this), num_cons, h0]; simp
theorem num_take_zeros (L : List Nat) (z : Nat) (hz : z ≤ L.length) (h : ∀ j, z ≤ j → j < L.length → L.getD j 0 = 0) : num L = num (L.take z) * 10 ^ (L.length - z) := by
  conv => lhs; rw [← List.take_append_drop z L]
  rw [num_append, num_all_zero (L.drop z) (fun j hj => by
    have := h (z + j) (by omega) (by simp at hj; omega)
    simpa [List.getD_eq_getElem?_getD] using this)]
  simp
/-- What 'made' makes. -/
theorem made_val (L : List Nat) (a z : Nat) (haz : a < z) (hz : z ≤ L.length) (ha0 : ∀ j, j < a → L.getD j 0 = 0) (hz0 : ∀ j, z ≤ j → j < L.length → L.getD j 0 = 0) (K : Nat) (e : Int) (he : -(K : Int) ≤ e) :
    val K ((L.take z).drop a) (e + ((L.length : Int) - z)) = val K L e := by
  unfold val
  rw [num_take_zeros L z hz hz0, ← num_drop_zeros (L.take z) a (fun j hj => by
    have := ha0 j hj
    rw [List.getD_eq_getElem?_getD] at this ⊢
    rw [List.getElem?_take_of_lt (by omega)]; exact this)]
  rw [show (e + ((L.length : Int) - z) + K).toNat = (L.length - z) + (e + K).toNat from by omega, Nat.pow_add, Nat.mul_assoc]
theorem made_norm (L : List Nat) (a z : Nat) (haz : a < z) (hz : z ≤ L.length) (hd : Digs L) (ha : L.getD a 0 ≠ 0) (hl : L.getD (z - 1) 0 ≠ 0) : Norm ((L.take z).drop a) := by
  refine ⟨(hd.take z).drop a, fun h => ?_, fun h => ?_⟩
  · rw [List.getD_eq_getElem?_getD, List.getElem?_eq_getElem (by omega)] at ha
    simpa using ha
  · rw [List.getD_eq_getElem?_getD, List.getElem?_eq_getElem (by omega)] at hl
    have : a + (min z L.length - a - 1) = z - 1 := by omega
    simp [this]; simpa using hl
theorem made_getD (L : List Nat) (a z j : Nat) (hj : j < z - a) : ((L.take z).drop a).getD j 0 = L.getD (a + j) 0 := by
  rw [List.getD_eq_getElem?_getD, List.getD_eq_getElem?_getD, List.getElem?_drop, List.getElem?_take_of_lt (by omega)]
theorem norm_nil : Norm [] := ⟨Digs.nil, fun h => by simp at h, fun h => by simp at h⟩

/-- A digit more of a row that is taken apart from its end. -/
theorem take_succ_getD (R : List Nat) (k : Nat) (hk : k < R.length) : R.take (k + 1) = R.take k ++ [R.getD k 0] := by
  rw [List.take_succ_eq_append_getElem hk, List.getD_eq_getElem?_getD, List.getElem?_eq_getElem hk]; rfl
theorem mul_split (P v : Nat) : P * (v % 10) + v / 10 * (P * 10) = P * v := by
  have h : v % 10 + 10 * (v / 10) = v := Nat.mod_add_div v 10
  calc P * (v % 10) + v / 10 * (P * 10) = P * (v % 10 + 10 * (v / 10)) := by grind
    _ = P * v := by rw [h]
/-- A digit's step of a product. -/
theorem times_step (R O : List Nat) (k n c : Nat) (hk : k < R.length) (hO : O.length = k) (h : le O + c * 10 ^ k = le (R.take k) * n) :
    le (O ++ [(R.getD k 0 * n + c) % 10]) + (R.getD k 0 * n + c) / 10 * 10 ^ (k + 1) = le (R.take (k + 1)) * n := by
  rw [take_succ_getD R k hk, le_append, le_append, List.length_take, Nat.min_eq_left (by omega), hO]
  simp only [le, Nat.mul_zero, Nat.add_zero]
  rw [Nat.add_mul, ← h, Nat.pow_succ, Nat.add_assoc, mul_split]
  grind
/-- A digit's step of what is carried at the end. -/
theorem carry_step (O : List Nat) (c M : Nat) (h : le O + c * 10 ^ O.length = M) : le (O ++ [c % 10]) + c / 10 * 10 ^ (O ++ [c % 10]).length = M := by
  rw [le_append, List.length_append]
  simp only [le, Nat.mul_zero, Nat.add_zero, List.length_singleton, Nat.pow_succ]
  rw [Nat.add_assoc, mul_split, ← h]; grind
theorem carry_lt (c t : Nat) (hc : c < 10 ^ (17 - t)) (h0 : 0 < c) : t < 17 ∧ c / 10 < 10 ^ (17 - (t + 1)) := by
  have ht : t < 17 := by
    apply Nat.lt_of_not_le; intro h
    rw [Nat.sub_eq_zero_of_le h] at hc; simp at hc; omega
  refine ⟨ht, ?_⟩
  rw [show 17 - t = (17 - (t + 1)) + 1 from by omega, Nat.pow_succ] at hc
  omega
/-- A row, turned at its ends so far. -/
def Turned (O M : List Nat) (i : Nat) : Prop := M.length = O.length ∧ ∀ j, j < O.length → M.getD j 0 = if j < i ∨ O.length - i ≤ j then O.getD (O.length - 1 - j) 0 else O.getD j 0
theorem Turned.start (O : List Nat) : Turned O O 0 := ⟨rfl, fun j hj => by rw [if_neg (by omega)]⟩
theorem getD_set (M : List Nat) (i j x : Nat) (hi : i < M.length) : (M.set i x).getD j 0 = if j = i then x else M.getD j 0 := by
  rw [List.getD_eq_getElem?_getD, List.getD_eq_getElem?_getD, List.getElem?_set]
  by_cases h : i = j
  · subst h; simp [hi]
  · rw [if_neg h, if_neg (by omega)]
theorem Turned.step {O M : List Nat} {i : Nat} (h : Turned O M i) (hi : i < O.length / 2) :
    Turned O ((M.set i (M.getD (O.length - 1 - i) 0)).set (O.length - 1 - i) (M.getD i 0)) (i + 1) := by
  obtain ⟨hl, hj⟩ := h
  refine ⟨by simpa using hl, fun j hjl => ?_⟩
  rw [getD_set _ _ _ _ (by simp; omega), getD_set _ _ _ _ (by omega)]
  by_cases h1 : j = O.length - 1 - i
  · rw [if_pos h1, if_pos (by omega), hj i (by omega), if_neg (by omega), h1]; congr 1; omega
  · rw [if_neg h1]
    by_cases h2 : j = i
    · rw [if_pos h2, if_pos (by omega), hj _ (by omega), if_neg (by omega), h2]
    · rw [if_neg h2, hj j hjl]
      by_cases h3 : j < i ∨ O.length - i ≤ j
      · rw [if_pos h3, if_pos (by omega)]
      · rw [if_neg h3, if_neg (by omega)]
theorem Turned.done {O M : List Nat} {i : Nat} (h : Turned O M i) (hi : O.length / 2 ≤ i) (hi2 : i ≤ O.length) : M = O.reverse := by
  obtain ⟨hl, hj⟩ := h
  apply List.ext_getElem?
  intro j
  by_cases hjl : j < O.length
  · have := hj j hjl
    rw [List.getD_eq_getElem?_getD, List.getD_eq_getElem?_getD, List.getD_eq_getElem?_getD] at this
    rw [List.getElem?_reverse hjl]
    have e1 : M[j]? = some (M[j]'(by omega)) := List.getElem?_eq_getElem (by omega)
    have e2 : O[O.length - 1 - j]? = some (O[O.length - 1 - j]'(by omega)) := List.getElem?_eq_getElem (by omega)
    have e3 : O[j]? = some (O[j]'hjl) := List.getElem?_eq_getElem hjl
    rw [e1, e2, e3] at this
    rw [e1, e2]
    simp only [Option.getD_some] at this
    split at this
    · rw [this]
    · have : O.length - 1 - j = j := by omega
      simp only [this]; rw [‹M[j] = O[j]›]
  · rw [List.getElem?_eq_none (by omega), List.getElem?_eq_none (by simp; omega)]

theorem val_times {M O L : List Nat} {n : Nat} (h : M = O.reverse) (h2 : le O = num L * n) (K : Nat) (e : Int) : val K M e = val K L e * n := by
  unfold val
  rw [h, show num O.reverse = le O from by unfold num; rw [List.reverse_reverse], h2, Nat.mul_assoc, Nat.mul_comm n, ← Nat.mul_assoc]

theorem val_mul_zero {L : List Nat} {n K : Nat} {e : Int} (h : num L * n = 0) : val K L e * n = 0 := by
  unfold val; rw [Nat.mul_assoc, Nat.mul_comm _ n, ← Nat.mul_assoc, h, Nat.zero_mul]

/-- -1, 0, 1: less, the same, greater. -/
def cmpN (a b : Nat) : Int := if a < b then -1 else if a = b then 0 else 1
theorem cmpN_lt {a b : Nat} (h : a < b) : cmpN a b = -1 := by simp [cmpN, h]
theorem cmpN_eq {a b : Nat} (h : a = b) : cmpN a b = 0 := by simp [cmpN, h]
theorem cmpN_gt {a b : Nat} (h : b < a) : cmpN a b = 1 := by unfold cmpN; rw [if_neg (by omega), if_neg (by omega)]
theorem cmp_step {L1 L2 : List Nat} {e1 e2 p : Int} {K : Nat} (h1 : Digs L1) (h2 : Digs L2) (k1 : -(K : Int) ≤ e1) (k2 : -(K : Int) ≤ e2) (kp : -(K : Int) ≤ p)
    (h : val K L1 e1 / 10 ^ (p + 1 + K).toNat = val K L2 e2 / 10 ^ (p + 1 + K).toNat) :
    (dig L1 e1 p = dig L2 e2 p → val K L1 e1 / 10 ^ (p + K).toNat = val K L2 e2 / 10 ^ (p + K).toNat) ∧
    (dig L1 e1 p < dig L2 e2 p → val K L1 e1 < val K L2 e2) ∧ (dig L2 e2 p < dig L1 e1 p → val K L2 e2 < val K L1 e1) := by
  have g1 := dig_val h1 K e1 p k1 kp
  have g2 := dig_val h2 K e2 p k2 kp
  have s1 := hi_step (val K L1 e1) (p + K).toNat
  have s2 := hi_step (val K L2 e2) (p + K).toNat
  rw [show (p + K).toNat + 1 = (p + 1 + K).toNat from by omega] at s1 s2
  refine ⟨fun hh => by omega, fun hh => ?_, fun hh => ?_⟩
  · apply lt_of_hi (P := 10 ^ (p + K).toNat); omega
  · apply lt_of_hi (P := 10 ^ (p + K).toNat); omega
theorem cmp_done {L1 L2 : List Nat} {e1 e2 : Int} {K : Nat} (k1 : -(K : Int) ≤ e1) (k2 : -(K : Int) ≤ e2)
    (h : val K L1 e1 / 10 ^ (min e1 e2 + K).toNat = val K L2 e2 / 10 ^ (min e1 e2 + K).toNat) : val K L1 e1 = val K L2 e2 := by
  have m1 := val_mod L1 K e1 (min e1 e2) (by omega) (by omega)
  have m2 := val_mod L2 K e2 (min e1 e2) (by omega) (by omega)
  rw [← Nat.div_add_mod (val K L1 e1) (10 ^ (min e1 e2 + K).toNat), ← Nat.div_add_mod (val K L2 e2) (10 ^ (min e1 e2 + K).toNat), m1, m2, h]

/-- The lower part, a place more. -/
theorem mod_step (V P : Nat) : V % 10 ^ (P + 1) = V % 10 ^ P + (V / 10 ^ P % 10) * 10 ^ P := by
  rw [Nat.pow_succ, Nat.mod_mul, Nat.mul_comm (10 ^ P)]
theorem add_step {L1 L2 M : List Nat} {e1 e2 p low high : Int} {K c : Nat} (h1 : Digs L1) (h2 : Digs L2) (k1 : -(K : Int) ≤ e1) (k2 : -(K : Int) ≤ e2) (kl : -(K : Int) ≤ low) (hlp : low ≤ p)
    (hM : (M.length : Int) = high - low + 1) (j : Nat) (hj : (j : Int) = high - p) (h0 : M.getD j 0 = 0)
    (h : num M * 10 ^ (low + K).toNat + c * 10 ^ (p + K).toNat = val K L1 e1 % 10 ^ (p + K).toNat + val K L2 e2 % 10 ^ (p + K).toNat) :
    num (M.set j ((c + dig L1 e1 p + dig L2 e2 p) % 10)) * 10 ^ (low + K).toNat + (c + dig L1 e1 p + dig L2 e2 p) / 10 * 10 ^ (p + 1 + K).toNat = val K L1 e1 % 10 ^ (p + 1 + K).toNat + val K L2 e2 % 10 ^ (p + 1 + K).toNat := by
  have g1 := dig_val h1 K e1 p k1 (by omega)
  have g2 := dig_val h2 K e2 p k2 (by omega)
  rw [show (p + 1 + K).toNat = (p + K).toNat + 1 from by omega, mod_step, mod_step, g1, g2, num_set M j _ (by omega) h0]
  generalize dig L1 e1 p = d1 at *
  generalize dig L2 e2 p = d2 at *
  have e3 : 10 ^ (M.length - 1 - j) * 10 ^ (low + K).toNat = 10 ^ (p + K).toNat := by
    rw [← Nat.pow_add]; congr 1; omega
  rw [Nat.add_mul, Nat.mul_assoc _ (10 ^ (M.length - 1 - j)), e3, Nat.pow_succ]
  generalize 10 ^ (p + K).toNat = T at *
  generalize val K L1 e1 % T = r1 at *
  generalize val K L2 e2 % T = r2 at *
  have hs := mul_split T (c + d1 + d2)
  have e4 : (c + d1 + d2) % 10 * T + (c + d1 + d2) / 10 * (T * 10) = T * (c + d1 + d2) := by rw [← hs, Nat.mul_comm T ((c + d1 + d2) % 10)]
  calc _ = num M * 10 ^ (low + K).toNat + ((c + d1 + d2) % 10 * T + (c + d1 + d2) / 10 * (T * 10)) := by omega
    _ = num M * 10 ^ (low + K).toNat + (c * T + (d1 * T + d2 * T)) := by rw [e4]; grind
    _ = _ := by omega
theorem add_done {L1 L2 M : List Nat} {e1 e2 low high : Int} {K c : Nat} (h1 : Digs L1) (h2 : Digs L2) (k1 : -(K : Int) ≤ e1) (k2 : -(K : Int) ≤ e2) (hh1 : e1 + L1.length ≤ high) (hh2 : e2 + L2.length ≤ high)
    (h : num M * 10 ^ (low + K).toNat + c * 10 ^ (high + 1 + K).toNat = val K L1 e1 % 10 ^ (high + 1 + K).toNat + val K L2 e2 % 10 ^ (high + 1 + K).toNat) :
    val K M low = val K L1 e1 + val K L2 e2 := by
  have g1 := val_hi h1 K e1 high hh1 k1
  have g2 := val_hi h2 K e2 high hh2 k2
  have hp : 0 < 10 ^ (high + K).toNat := Nat.pow_pos (by omega)
  have l1 : val K L1 e1 < 10 ^ (high + K).toNat := (Nat.div_eq_zero_iff_lt hp).1 g1
  have l2 : val K L2 e2 < 10 ^ (high + K).toNat := (Nat.div_eq_zero_iff_lt hp).1 g2
  have l3 : 10 ^ (high + 1 + K).toNat = 10 ^ (high + K).toNat * 10 := by rw [← Nat.pow_succ]; congr 1; omega
  rw [Nat.mod_eq_of_lt (by omega), Nat.mod_eq_of_lt (by omega)] at h
  have hc : c = 0 := by
    cases c with
    | zero => rfl
    | succ c =>
      exfalso
      rw [Nat.succ_mul] at h
      omega
  subst hc
  unfold val at *
  omega

end Go.Proofs.YtbkdaoicnobllabGreatDoor

/- Plain mathematics: powers of two as decimals. -/
namespace Go.Proofs.YtbkdaoicnobllabGreatDoor

/-- 2^t times 10^K. -/
def two (K : Nat) (t : Int) : Nat := if 0 ≤ t then 2 ^ t.toNat * 10 ^ K else 5 ^ (-t).toNat * 10 ^ (K + t).toNat

theorem two_zero (K : Nat) : two K 0 = 10 ^ K := by simp [two]
theorem two_pos (K : Nat) (t : Int) : 0 < two K t := by
  unfold two; split
  · exact Nat.mul_pos (Nat.pow_pos (by omega)) (Nat.pow_pos (by omega))
  · exact Nat.mul_pos (Nat.pow_pos (by omega)) (Nat.pow_pos (by omega))
theorem two_up (K n : Nat) (t : Int) (h : 0 ≤ t) : two K (t + n) = two K t * 2 ^ n := by
  unfold two; rw [if_pos (by omega), if_pos h, show (t + n).toNat = t.toNat + n from by omega, Nat.pow_add]
  rw [Nat.mul_assoc, Nat.mul_comm (2 ^ n), ← Nat.mul_assoc]
theorem two_down (K n : Nat) (t : Int) (h : t ≤ 0) (hk : -(K : Int) ≤ t - n) : two K (t - n) * 10 ^ n = two K t * 5 ^ n := by
  have h1 : two K (t - n) = 5 ^ ((-t).toNat + n) * 10 ^ (K + (t - n)).toNat := by
    unfold two
    by_cases h0 : 0 ≤ t - n
    · have : t = 0 := by omega
      have : n = 0 := by omega
      subst_vars; simp
    · rw [if_neg h0, show (-(t - n)).toNat = (-t).toNat + n from by omega]
  have h2 : two K t = 5 ^ (-t).toNat * 10 ^ ((K + (t - n)).toNat + n) := by
    unfold two
    by_cases h0 : 0 ≤ t
    · have : t = 0 := by omega
      subst this; simp; congr 1; omega
    · rw [if_neg h0, show (K + t).toNat = (K + (t - n)).toNat + n from by omega]
  rw [h1, h2, Nat.pow_add, Nat.pow_add]
  grind
theorem val_down (K n : Nat) (L : List Nat) (e : Int) (hk : -(K : Int) ≤ e - n) : val K L (e - n) * 10 ^ n = val K L e := by
  unfold val; rw [Nat.mul_assoc, ← Nat.pow_add]; congr 2; omega
/-- Twice as much, half as much: all powers of two are in step. -/
theorem two_mul (K : Nat) (t : Int) (hk : -(K : Int) ≤ t) (n : Nat) : two K (t + n) = two K t * 2 ^ n := by
  by_cases h0 : 0 ≤ t
  · exact two_up K n t h0
  · by_cases h1 : t + n ≤ 0
    · have := two_down K n (t + n) h1 (by omega)
      rw [show t + n - n = t from by omega, show (10 : Nat) = 5 * 2 from rfl, Nat.mul_pow] at this
      have hp : 0 < 5 ^ n := Nat.pow_pos (by omega)
      apply Nat.eq_of_mul_eq_mul_right hp
      rw [← this]; grind
    · obtain ⟨a, ha⟩ : ∃ a : Nat, (a : Int) = -t := ⟨(-t).toNat, by omega⟩
      obtain ⟨b, hb⟩ : ∃ b : Nat, n = a + b := ⟨n - a, by omega⟩
      have h2 := two_down K a 0 (by omega) (by omega)
      rw [show (0 : Int) - a = t from by omega, two_zero] at h2
      have h3 := two_up K b 0 (by omega)
      rw [two_zero, show (0 : Int) + b = t + n from by omega] at h3
      rw [h3, hb, Nat.pow_add, ← Nat.mul_assoc]
      congr 1
      have hp : 0 < 5 ^ a := Nat.pow_pos (by omega)
      apply Nat.eq_of_mul_eq_mul_right hp
      rw [← h2, show (10 : Nat) = 5 * 2 from rfl, Nat.mul_pow]; grind

end Go.Proofs.YtbkdaoicnobllabGreatDoor

namespace Go.Proofs.YtbkdaoicnobllabGreatDoor

/-- The number's bits and the power of two of the last, less the least power, of an amount in a format of q bits behind the first. -/
def mA (q a : Nat) : Nat := if a / 2 ^ q = 0 then a % 2 ^ q else a % 2 ^ q + 2 ^ q
def xA (q a : Nat) : Nat := a / 2 ^ q - 1
/-- Bits behind the first; the power of two of the last bit of the least numbers. -/
def fQ (f : Int) : Nat := if f = 0 then 10 else if f = 1 then 23 else 52
def fE (f : Int) : Int := if f = 0 then -24 else if f = 1 then -149 else -1074
/-- The number that an amount says, times 10^K. -/
def valA (K : Nat) (f : Int) (a : Nat) : Nat := two K (fE f + xA (fQ f) a) * mA (fQ f) a
/-- The amount of infinity. -/
def infA (f : Int) : Int := if f = 0 then 31744 else if f = 1 then 2139095040 else 9218868437227405312
/-- Of two neighbours, is it the one away from 0 that is taken? -/
def awayB (mode : Int) (neg : Bool) (half : Int) (odd : Bool) : Bool :=
  if mode = 0 then half == 3 || (half == 2 && odd) else if mode = 1 then decide (2 ≤ half) else if mode = 3 then !neg else if mode = 4 then neg else false
end Go.Proofs.YtbkdaoicnobllabGreatDoor

/- Plain mathematics: amounts and their numbers. -/
namespace Go.Proofs.YtbkdaoicnobllabGreatDoor

theorem pQ0 : 2 ^ fQ 0 = 1024 := by simp [fQ]
theorem pQ1 : 2 ^ fQ 1 = 8388608 := by simp [fQ]
theorem pQ2 : 2 ^ fQ 2 = 4503599627370496 := by simp [fQ]
theorem fE_ge (f : Int) : -1074 ≤ fE f := by unfold fE; split <;> (try split) <;> omega
/-- An amount of exponent lo and of r more. -/
theorem valA_at (K : Nat) (f : Int) (lo r : Nat) (hr : r ≤ 2 ^ fQ f) (hK : 1100 ≤ K) :
    valA K f (lo * 2 ^ fQ f + r) = if lo = 0 then two K (fE f) * r else two K (fE f + (lo - 1 : Nat)) * (2 ^ fQ f + r) := by
  have hge := fE_ge f
  have hp : 0 < 2 ^ fQ f := Nat.pow_pos (by omega)
  unfold valA mA xA
  generalize 2 ^ fQ f = Q at *
  by_cases h : r = Q
  · subst h
    have e1 : (lo * r + r) / r = lo + 1 := by rw [← Nat.succ_mul, Nat.mul_div_cancel _ hp]
    have e2 : (lo * r + r) % r = 0 := by rw [← Nat.succ_mul, Nat.mul_mod_left]
    rw [e1, e2, if_neg (by omega)]
    by_cases h0 : lo = 0
    · rw [if_pos h0, h0]; simp
    · rw [if_neg h0, Nat.zero_add, show fE f + ((lo + 1 - 1 : Nat) : Int) = fE f + ((lo - 1 : Nat) : Int) + (1 : Nat) from by omega, two_mul K _ (by omega)]
      rw [Nat.pow_one, Nat.mul_assoc, Nat.two_mul]
  · have e1 : (lo * Q + r) / Q = lo := by rw [Nat.mul_comm, Nat.mul_add_div hp, Nat.div_eq_of_lt (by omega)]; omega
    have e2 : (lo * Q + r) % Q = r := by rw [Nat.mul_comm, Nat.mul_add_mod, Nat.mod_eq_of_lt (by omega)]
    rw [e1, e2]
    by_cases h0 : lo = 0
    · rw [if_pos h0, if_pos h0, h0]; simp
    · rw [if_neg h0, if_neg h0, Nat.add_comm r]
theorem valA_zero (K : Nat) (f : Int) : valA K f 0 = 0 := by unfold valA mA; simp

/-- Bit by bit: the last bits' worth. -/
theorem below_end (K : Nat) (f : Int) (lo m X : Nat) (hK : 1100 ≤ K)
    (h0 : lo = 0 → m < 2 ^ fQ f ∧ two K (fE f) * m ≤ X ∧ X < two K (fE f) * (m + 1))
    (h1 : lo ≠ 0 → 2 ^ fQ f ≤ m ∧ m < 2 * 2 ^ fQ f ∧ two K (fE f + (lo - 1 : Nat)) * m ≤ X ∧ X < two K (fE f + (lo - 1 : Nat)) * (m + 1)) :
    valA K f (lo * 2 ^ fQ f + (if lo = 0 then m else m - 2 ^ fQ f)) ≤ X ∧ X < valA K f (lo * 2 ^ fQ f + (if lo = 0 then m else m - 2 ^ fQ f) + 1) := by
  by_cases h : lo = 0
  · obtain ⟨a, b, c⟩ := h0 h
    rw [if_pos h, Nat.add_assoc, valA_at K f lo m (by omega) hK, valA_at K f lo (m + 1) (by omega) hK, if_pos h, if_pos h]
    exact ⟨b, c⟩
  · obtain ⟨a, b, c, d⟩ := h1 h
    rw [if_neg h, Nat.add_assoc, valA_at K f lo (m - 2 ^ fQ f) (by omega) hK, valA_at K f lo (m - 2 ^ fQ f + 1) (by omega) hK, if_neg h, if_neg h,
      show 2 ^ fQ f + (m - 2 ^ fQ f) = m from by omega, show 2 ^ fQ f + (m - 2 ^ fQ f + 1) = m + 1 from by omega]
    exact ⟨c, d⟩
end Go.Proofs.YtbkdaoicnobllabGreatDoor

/- Plain mathematics: what a number is rounded to. -/
namespace Go.Proofs.YtbkdaoicnobllabGreatDoor

/-- The least normal number's power of two. -/
def fLow (f : Int) : Int := if f = 0 then -14 else if f = 1 then -126 else -1022
/-- The amount of infinity. -/
def infN (f : Int) : Nat := if f = 0 then 31744 else if f = 1 then 2139095040 else 9218868437227405312

/-- The amount r and the flags fl to which the number X / 10^K is rounded (P6, P7). -/
def RoundSpec (K : Nat) (f mode : Int) (neg : Bool) (X : Nat) (r fl : Int) : Prop :=
  (X = 0 ∧ r = 0 ∧ fl = 0) ∨
  (0 < X ∧ valA K f (infN f) ≤ X ∧ fl = 3 ∧ r = if awayB mode neg 3 true = true then (infN f : Int) else (infN f : Int) - 1) ∨
  (0 < X ∧ X < valA K f (infN f) ∧ ∃ a : Nat, a < infN f ∧ valA K f a ≤ X ∧ X < valA K f (a + 1) ∧
    ((X = valA K f a ∧ r = a ∧ fl = 0) ∨
     (X ≠ valA K f a ∧ r = (if awayB mode neg (cmpN (X * 2) (valA K f a + valA K f (a + 1)) + 2) (a % 2 == 1) = true then (a : Int) + 1 else (a : Int)) ∧
      fl = 1 + (if X < two K (fLow f) then 4 else 0) + (if r = infN f then 2 else 0))))

theorem infN_le (f : Int) : 1 ≤ infN f ∧ infN f ≤ 9218868437227405312 := by unfold infN; split <;> (try split) <;> omega
end Go.Proofs.YtbkdaoicnobllabGreatDoor

/- Plain mathematics: the numbers of amounts, in their order. -/
namespace Go.Proofs.YtbkdaoicnobllabGreatDoor

/-- The format's bias. -/
def fB (f : Int) : Int := if f = 0 then 15 else if f = 1 then 127 else 1023
structure Fmt (f : Int) : Prop where
  e : fE f = 1 - fB f - fQ f
  low : fLow f = 1 - fB f
  b1 : 15 ≤ fB f
  b2 : fB f ≤ 1023
  q : fQ f ≤ 52
  i : (infN f : Int) = (2 * fB f + 1) * ((2 ^ fQ f : Nat) : Int)
  odd : ((infN f : Int) - 1) % 2 = 1
theorem fmt_of {f : Int} (h : 0 ≤ f ∧ f ≤ 2) : Fmt f := by
  have : f = 0 ∨ f = 1 ∨ f = 2 := by omega
  rcases this with rfl | rfl | rfl
  · exact ⟨by decide, by decide, by decide, by decide, by decide, by decide, by decide⟩
  · exact ⟨by decide, by decide, by decide, by decide, by decide, by decide, by decide⟩
  · exact ⟨by decide, by decide, by decide, by decide, by decide, by decide, by decide⟩

theorem valA_lt (K : Nat) (f : Int) (a : Nat) (hK : 1100 ≤ K) : valA K f a < valA K f (a + 1) := by
  have hp : 0 < 2 ^ fQ f := Nat.pow_pos (by omega)
  have ha : a = a / 2 ^ fQ f * 2 ^ fQ f + a % 2 ^ fQ f := by rw [Nat.mul_comm]; exact (Nat.div_add_mod a _).symm
  have hm : a % 2 ^ fQ f < 2 ^ fQ f := Nat.mod_lt _ hp
  rw [ha, Nat.add_assoc, valA_at K f _ _ (by omega) hK, valA_at K f _ _ (by omega) hK]
  split
  · exact Nat.mul_lt_mul_of_pos_left (by omega) (two_pos _ _)
  · exact Nat.mul_lt_mul_of_pos_left (by omega) (two_pos _ _)
theorem valA_mono (K : Nat) (f : Int) (hK : 1100 ≤ K) {a b : Nat} (h : a ≤ b) : valA K f a ≤ valA K f b := by
  induction b with
  | zero => rw [show a = 0 from by omega]; exact Nat.le_refl _
  | succ b ih =>
    rcases Nat.lt_or_ge a (b + 1) with h1 | h1
    · exact Nat.le_trans (ih (by omega)) (Nat.le_of_lt (valA_lt K f b hK))
    · rw [show a = b + 1 from by omega]; exact Nat.le_refl _
theorem valA_one {K : Nat} {f : Int} {a b X : Nat} (hK : 1100 ≤ K) (h1 : valA K f a ≤ X) (h2 : X < valA K f (a + 1)) (h3 : valA K f b ≤ X) (h4 : X < valA K f (b + 1)) : a = b := by
  rcases Nat.lt_trichotomy a b with h | h | h
  · have := valA_mono K f hK (show a + 1 ≤ b from h); omega
  · exact h
  · have := valA_mono K f hK (show b + 1 ≤ a from h); omega
end Go.Proofs.YtbkdaoicnobllabGreatDoor

/- Plain mathematics: the rounding does not depend on the power of ten that all is measured by. -/
namespace Go.Proofs.YtbkdaoicnobllabGreatDoor

theorem two_scale (K c : Nat) (t : Int) (h : -(K : Int) ≤ t) : two (K + c) t = two K t * 10 ^ c := by
  unfold two
  split
  · rw [Nat.pow_add, Nat.mul_assoc]
  · rw [show (((K + c : Nat) : Int) + t).toNat = ((K : Int) + t).toNat + c from by omega, Nat.pow_add, Nat.mul_assoc]
theorem valA_scale (K c : Nat) (f : Int) (a : Nat) (hK : 1100 ≤ K) : valA (K + c) f a = valA K f a * 10 ^ c := by
  have h : -(K : Int) ≤ fE f + xA (fQ f) a := by
    have : -1074 ≤ fE f := by unfold fE; split <;> (try split) <;> omega
    omega
  unfold valA
  rw [two_scale K c _ h, Nat.mul_right_comm]
theorem cmp_scale (a b P : Nat) (h : 0 < P) : cmpN (a * P) (b * P) = cmpN a b := by
  unfold cmpN
  have h1 : a * P < b * P ↔ a < b := Nat.mul_lt_mul_right h
  have h2 : a * P = b * P ↔ a = b := ⟨fun e => Nat.eq_of_mul_eq_mul_right h e, fun e => by rw [e]⟩
  simp only [h1, h2]
theorem round_scale {K c : Nat} {f mode : Int} {neg : Bool} {X : Nat} {r fl : Int} (hK : 1100 ≤ K) (h : RoundSpec (K + c) f mode neg (X * 10 ^ c) r fl) : RoundSpec K f mode neg X r fl := by
  have hP : 0 < 10 ^ c := Nat.pow_pos (by omega)
  have hl : two (K + c) (fLow f) = two K (fLow f) * 10 ^ c := two_scale K c _ (by
    have : -1022 ≤ fLow f := by unfold fLow; split <;> (try split) <;> omega
    omega)
  unfold RoundSpec at h ⊢
  simp only [valA_scale K c _ _ hK, hl] at h
  generalize 10 ^ c = P at *
  have le_iff : ∀ a b : Nat, a * P ≤ b * P ↔ a ≤ b := fun a b => Nat.mul_le_mul_right_iff hP
  have lt_iff : ∀ a b : Nat, a * P < b * P ↔ a < b := fun a b => Nat.mul_lt_mul_right hP
  have eq_iff : ∀ a b : Nat, a * P = b * P ↔ a = b := fun a b => ⟨fun e => Nat.eq_of_mul_eq_mul_right hP e, fun e => by rw [e]⟩
  have z1 : X * P = 0 ↔ X = 0 := by have := eq_iff X 0; rwa [Nat.zero_mul] at this
  have z2 : 0 < X * P ↔ 0 < X := by have := lt_iff 0 X; rwa [Nat.zero_mul] at this
  have cm : ∀ a b : Nat, cmpN (X * P * 2) (a * P + b * P) = cmpN (X * 2) (a + b) := fun a b => by
    rw [← Nat.add_mul, Nat.mul_right_comm, cmp_scale _ _ _ hP]
  simp only [le_iff, lt_iff, eq_iff, z1, z2, cm, ne_eq] at h
  exact h
/-- A number of the format is rounded to itself. -/
theorem round_self {K : Nat} {f mode : Int} {neg : Bool} {a : Nat} {r fl : Int} (hK : 1100 ≤ K) (ha : a < infN f) (h : RoundSpec K f mode neg (valA K f a) r fl) : r = a ∧ fl = 0 := by
  rcases h with ⟨h0, h1, h2⟩ | ⟨h0, h1, h2, h3⟩ | ⟨h0, h1, b, hb, h2, h3, h4⟩
  · have : a = 0 := by
      apply Nat.eq_zero_of_not_pos; intro hp
      have := valA_mono K f hK (show 1 ≤ a from hp)
      have h5 := valA_lt K f 0 hK
      simp only [Nat.zero_add] at h5
      omega
    exact ⟨by rw [h1, this]; rfl, h2⟩
  · have h5 := valA_mono K f hK (show a + 1 ≤ infN f from ha)
    have h6 := valA_lt K f a hK
    omega
  · have hab : a = b := valA_one (X := valA K f a) hK (Nat.le_refl _) (valA_lt K f a hK) h2 h3
    subst hab
    rcases h4 with ⟨_, h5, h6⟩ | ⟨h5, _⟩
    · exact ⟨h5, h6⟩
    · exact absurd rfl h5
end Go.Proofs.YtbkdaoicnobllabGreatDoor
