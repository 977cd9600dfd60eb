import Init

/- Plain mathematics: rows of digits. Nothing of the program. -/
namespace Go.Proofs.YtbkdaoicnobllabDoor

/-- The number of a row of digits, the lowest first. -/
def le : List Nat → Nat
  | [] => 0
  | d :: r => d + 10 * le r
/-- The number of a row of digits, the highest first. -/
def num (L : List Nat) : Nat := le L.reverse
/-- All are digits. -/
def Digs (L : List Nat) : Prop := ∀ d, d ∈ L → d ≤ 9
/-- No nought at either end; all are digits. -/
structure Norm (L : List Nat) : Prop where
  digs : Digs L
  head : ∀ h : 0 < L.length, L[0] ≠ 0
  last : ∀ h : 0 < L.length, L[L.length - 1] ≠ 0
/-- The number times 10^K, a whole number where -K ≤ e. -/
def val (K : Nat) (L : List Nat) (e : Int) : Nat := num L * 10 ^ (e + K).toNat

theorem le_append (a b : List Nat) : le (a ++ b) = le a + 10 ^ a.length * le b := by
  induction a with
  | nil => simp [le]
  | cons d r ih =>
    simp only [List.cons_append, le, ih, List.length_cons, Nat.pow_succ]
    rw [Nat.mul_add, Nat.mul_comm (10 ^ r.length) 10, Nat.mul_assoc, Nat.add_assoc]

theorem num_nil : num [] = 0 := rfl
theorem num_snoc (L : List Nat) (d : Nat) : num (L ++ [d]) = 10 * num L + d := by
  simp [num, le]; omega
theorem num_cons (d : Nat) (L : List Nat) : num (d :: L) = d * 10 ^ L.length + num L := by
  simp [num, le_append, le]; rw [Nat.mul_comm]; omega
theorem num_append (a b : List Nat) : num (a ++ b) = num a * 10 ^ b.length + num b := by
  simp [num, le_append]; rw [Nat.mul_comm]; omega

theorem Digs.nil : Digs [] := fun _ h => by cases h
theorem Digs.cons {d : Nat} {L : List Nat} (h : d ≤ 9) (hl : Digs L) : Digs (d :: L) := by
  intro x hx
  rcases List.mem_cons.1 hx with rfl | hx
  · exact h
  · exact hl x hx
theorem Digs.append {a b : List Nat} (ha : Digs a) (hb : Digs b) : Digs (a ++ b) := by
  intro x hx
  rcases List.mem_append.1 hx with hx | hx
  · exact ha x hx
  · exact hb x hx
theorem Digs.reverse {L : List Nat} (h : Digs L) : Digs L.reverse := fun x hx => h x (List.mem_reverse.1 hx)
theorem Digs.take {L : List Nat} (h : Digs L) (n : Nat) : Digs (L.take n) := fun x hx => h x (List.mem_of_mem_take hx)
theorem Digs.drop {L : List Nat} (h : Digs L) (n : Nat) : Digs (L.drop n) := fun x hx => h x (List.mem_of_mem_drop hx)
theorem Digs.getD {L : List Nat} (h : Digs L) (i : Nat) : L.getD i 0 ≤ 9 := by
  rw [List.getD_eq_getElem?_getD]
  cases hi : L[i]? with
  | none => simp
  | some d => simpa using h d (List.mem_of_getElem? hi)
theorem Digs.set {L : List Nat} (h : Digs L) (i d : Nat) (hd : d ≤ 9) : Digs (L.set i d) := by
  intro x hx
  rcases List.mem_or_eq_of_mem_set hx with hx | rfl
  · exact h x hx
  · exact hd

theorem le_lt {L : List Nat} (h : Digs L) : le L < 10 ^ L.length := by
  induction L with
  | nil => simp [le]
  | cons d r ih =>
    have h1 := ih (fun x hx => h x (List.mem_cons_of_mem _ hx))
    have h2 := h d (List.mem_cons_self)
    simp only [le, List.length_cons, Nat.pow_succ]; omega
theorem num_lt {L : List Nat} (h : Digs L) : num L < 10 ^ L.length := by
  have := le_lt h.reverse; simpa [num] using this

theorem le_div {L : List Nat} (h : Digs L) (i : Nat) : le L / 10 ^ i = le (L.drop i) := by
  induction i generalizing L with
  | zero => simp
  | succ i ih =>
    cases L with
    | nil => simp [le]
    | cons d r =>
      have h1 := ih (L := r) (fun x hx => h x (List.mem_cons_of_mem _ hx))
      have h2 := h d (List.mem_cons_self)
      simp only [List.drop_succ_cons, ← h1, le, Nat.pow_succ]
      rw [Nat.mul_comm (10 ^ i) 10, ← Nat.div_div_eq_div_mul]
      congr 1; omega
theorem le_mod (L : List Nat) (h : Digs L) : le L % 10 = L.getD 0 0 := by
  cases L with
  | nil => simp [le]
  | cons d r => have h2 := h d (List.mem_cons_self); simp only [le, List.getD_cons_zero]; omega
/-- The digit at a place. -/
theorem le_at {L : List Nat} (h : Digs L) (i : Nat) : le L / 10 ^ i % 10 = L.getD i 0 := by
  rw [le_div h, le_mod _ (h.drop i)]; simp [List.getD_eq_getElem?_getD]

/-- The digit that stands at 10^p. -/
def dig (L : List Nat) (e p : Int) : Nat := if p < e then 0 else L.reverse.getD (p - e).toNat 0
theorem dig_le {L : List Nat} (h : Digs L) (e p : Int) : dig L e p ≤ 9 := by
  unfold dig; split
  · omega
  · exact h.reverse.getD _
theorem dig_lo (L : List Nat) {e p : Int} (h : p < e) : dig L e p = 0 := by simp [dig, h]
theorem dig_hi (L : List Nat) {e p : Int} (h : e + L.length ≤ p) : dig L e p = 0 := by
  unfold dig; split
  · rfl
  · rw [List.getD_eq_getElem?_getD, List.getElem?_eq_none (by simp; omega)]; rfl
theorem dig_mid (L : List Nat) {e p : Int} (h : e ≤ p) (h2 : p < e + L.length) (j : Nat) (hj : (j : Int) = L.length - 1 - (p - e)) : dig L e p = L.getD j 0 := by
  unfold dig; rw [if_neg (by omega), List.getD_eq_getElem?_getD, List.getElem?_reverse (by omega), List.getD_eq_getElem?_getD, show L.length - 1 - (p - e).toNat = j from by omega]
theorem dig_val {L : List Nat} (h : Digs L) (K : Nat) (e p : Int) (he : -(K : Int) ≤ e) (hp : -(K : Int) ≤ p) : val K L e / 10 ^ (p + K).toNat % 10 = dig L e p := by
  unfold val dig num
  split
  · obtain ⟨m, hm⟩ : ∃ m : Nat, (e + K).toNat = (p + K).toNat + 1 + m := ⟨(e - p - 1).toNat, by omega⟩
    rw [hm, Nat.pow_add, Nat.pow_succ, show le L.reverse * (10 ^ (p + K).toNat * 10 * 10 ^ m) = 10 ^ (p + K).toNat * (10 * (le L.reverse * 10 ^ m)) from by grind]
    rw [Nat.mul_div_cancel_left _ (Nat.pow_pos (by omega))]; omega
  · have hm : (p + K).toNat = (e + K).toNat + (p - e).toNat := by omega
    rw [hm, Nat.pow_add, Nat.mul_comm (le _), Nat.mul_div_mul_left _ _ (Nat.pow_pos (by omega)), le_at h.reverse]
/-- What stands at 10^p and above. -/
theorem hi_step (V P : Nat) : V / 10 ^ P = 10 * (V / 10 ^ (P + 1)) + V / 10 ^ P % 10 := by
  rw [Nat.pow_succ, ← Nat.div_div_eq_div_mul]; omega

/-- Below the last place nothing stands; above the first nothing stands. -/
theorem val_hi {L : List Nat} (h : Digs L) (K : Nat) (e p : Int) (hp : e + L.length ≤ p) (he : -(K : Int) ≤ e) : val K L e / 10 ^ (p + K).toNat = 0 := by
  apply Nat.div_eq_of_lt
  unfold val
  have h1 := num_lt h
  obtain ⟨m, hm⟩ : ∃ m : Nat, (p + K).toNat = L.length + (e + K).toNat + m := ⟨(p - e - L.length).toNat, by omega⟩
  rw [hm, Nat.pow_add, Nat.pow_add]
  have hpos : 0 < 10 ^ (e + K).toNat := Nat.pow_pos (by omega)
  have hm1 : 1 ≤ 10 ^ m := Nat.pow_pos (by omega)
  calc num L * 10 ^ (e + K).toNat < 10 ^ L.length * 10 ^ (e + K).toNat := Nat.mul_lt_mul_of_pos_right h1 hpos
    _ = 10 ^ L.length * 10 ^ (e + K).toNat * 1 := by rw [Nat.mul_one]
    _ ≤ 10 ^ L.length * 10 ^ (e + K).toNat * 10 ^ m := Nat.mul_le_mul_left _ hm1
theorem val_mod (L : List Nat) (K : Nat) (e p : Int) (hp : p ≤ e) (hk : -(K : Int) ≤ p) : val K L e % 10 ^ (p + K).toNat = 0 := by
  unfold val
  obtain ⟨m, hm⟩ : ∃ m : Nat, (e + K).toNat = (p + K).toNat + m := ⟨(e - p).toNat, by omega⟩
  rw [hm, Nat.pow_add, show num L * (10 ^ (p + K).toNat * 10 ^ m) = 10 ^ (p + K).toNat * (num L * 10 ^ m) from by grind, Nat.mul_mod_right]

/-- Of two numbers the greater by their higher parts. -/
theorem lt_of_hi {a b P : Nat} (h : a / P < b / P) : a < b := by
  apply Nat.lt_of_not_le; intro hle
  have := Nat.div_le_div_right (c := P) hle; omega

theorem num_pos {L : List Nat} (h : Norm L) (hl : 0 < L.length) : 10 ^ (L.length - 1) ≤ num L := by
  cases L with
  | nil => simp at hl
  | cons d r =>
    have := h.head hl
    simp at this
    rw [num_cons]; simp
    have : 1 * 10 ^ r.length ≤ d * 10 ^ r.length := Nat.mul_le_mul_right _ (by omega)
    omega
theorem val_pos {L : List Nat} (h : Norm L) (hl : 0 < L.length) (K : Nat) (e : Int) : 0 < val K L e := by
  have := num_pos h hl
  exact Nat.mul_pos (Nat.lt_of_lt_of_le (Nat.pow_pos (by omega)) this) (Nat.pow_pos (by omega))
theorem val_nil (K : Nat) (e : Int) : val K [] e = 0 := by simp [val, num_nil]

/-- Noughts at the head. -/
theorem num_zero_cons (L : List Nat) : num (0 :: L) = num L := by rw [num_cons]; simp
theorem val_snoc_zero (K : Nat) (L : List Nat) (e : Int) (he : -(K : Int) ≤ e) : val K (L ++ [0]) e = val K L (e + 1) := by
  unfold val; rw [num_snoc, show (e + 1 + K).toNat = (e + K).toNat + 1 from by omega, Nat.pow_succ]
  simp [Nat.mul_comm, Nat.mul_left_comm]; rw [Nat.mul_assoc]

theorem num_set (L : List Nat) (i d : Nat) (hi : i < L.length) (h0 : L.getD i 0 = 0) : num (L.set i d) = num L + d * 10 ^ (L.length - 1 - i) := by
  induction L generalizing i with
  | nil => simp at hi
  | cons x r ih =>
    cases i with
    | zero => simp at h0; subst h0; simp [num_cons]; omega
    | succ i =>
      simp at hi h0
      rw [List.set_cons_succ, num_cons, num_cons, ih i hi (by simpa using h0)]
      simp
      rw [show r.length - (i + 1) = r.length - 1 - i from by omega]; omega

theorem num_all_zero (L : List Nat) (h : ∀ j, j < L.length → L.getD j 0 = 0) : num L = 0 := by
  induction L with
  | nil => rfl
  | cons d r ih =>
    have h0 := h 0 (by simp)
    simp at h0
    rw [num_cons, h0, ih (fun j hj => by have := h (j + 1) (by simp; omega); simpa using this)]; simp
theorem num_drop_zeros (L : List Nat) (a : Nat) (h : ∀ j, j < a → L.getD j 0 = 0) : num L = num (L.drop a) := by
  induction a generalizing L with
  | zero => simp
  | succ a ih =>
    cases L with
    | nil => simp
    | cons d r =>
      have h0 := h 0 (by omega)
      simp at h0
      rw [List.drop_succ_cons, ← ih r (fun j hj => by have := h (j + 1) (by omega); simpa using this), num_cons, h0]; simp
theorem num_take_zeros (L : List Nat) (z : Nat) (hz : z ≤ L.length) (h : ∀ j, z ≤ j → j < L.length → L.getD j 0 = 0) : num L = num (L.take z) * 10 ^ (L.length - z) := by
  conv => lhs; rw [← List.take_append_drop z L]
  rw [num_append, num_all_zero (L.drop z) (fun j hj => by
    have := h (z + j) (by omega) (by simp at hj; omega)
    simpa [List.getD_eq_getElem?_getD] using this)]
  simp
/-- What 'made' makes. -/
theorem made_val (L : List Nat) (a z : Nat) (haz : a < z) (hz : z ≤ L.length) (ha0 : ∀ j, j < a → L.getD j 0 = 0) (hz0 : ∀ j, z ≤ j → j < L.length → L.getD j 0 = 0) (K : Nat) (e : Int) (he : -(K : Int) ≤ e) :
    val K ((L.take z).drop a) (e + ((L.length : Int) - z)) = val K L e := by
  unfold val
  rw [num_take_zeros L z hz hz0, ← num_drop_zeros (L.take z) a (fun j hj => by
    have := ha0 j hj
    rw [List.getD_eq_getElem?_getD] at this ⊢
    rw [List.getElem?_take_of_lt (by omega)]; exact this)]
  rw [show (e + ((L.length : Int) - z) + K).toNat = (L.length - z) + (e + K).toNat from by omega, Nat.pow_add, Nat.mul_assoc]
theorem made_norm (L : List Nat) (a z : Nat) (haz : a < z) (hz : z ≤ L.length) (hd : Digs L) (ha : L.getD a 0 ≠ 0) (hl : L.getD (z - 1) 0 ≠ 0) : Norm ((L.take z).drop a) := by
  refine ⟨(hd.take z).drop a, fun h => ?_, fun h => ?_⟩
  · rw [List.getD_eq_getElem?_getD, List.getElem?_eq_getElem (by omega)] at ha
    simpa using ha
  · rw [List.getD_eq_getElem?_getD, List.getElem?_eq_getElem (by omega)] at hl
    have : a + (min z L.length - a - 1) = z - 1 := by omega
    simp [this]; simpa using hl
theorem made_getD (L : List Nat) (a z j : Nat) (hj : j < z - a) : ((L.take z).drop a).getD j 0 = L.getD (a + j) 0 := by
  rw [List.getD_eq_getElem?_getD, List.getD_eq_getElem?_getD, List.getElem?_drop, List.getElem?_take_of_lt (by omega)]
theorem norm_nil : Norm [] := ⟨Digs.nil, fun h => by simp at h, fun h => by simp at h⟩

/-- A digit more of a row that is taken apart from its end. -/
theorem take_succ_getD (R : List Nat) (k : Nat) (hk : k < R.length) : R.take (k + 1) = R.take k ++ [R.getD k 0] := by
  rw [List.take_succ_eq_append_getElem hk, List.getD_eq_getElem?_getD, List.getElem?_eq_getElem hk]; rfl
theorem mul_split (P v : Nat) : P * (v % 10) + v / 10 * (P * 10) = P * v := by
  have h : v % 10 + 10 * (v / 10) = v := Nat.mod_add_div v 10
  calc P * (v % 10) + v / 10 * (P * 10) = P * (v % 10 + 10 * (v / 10)) := by grind
    _ = P * v := by rw [h]
/-- A digit's step of a product. -/
theorem times_step (R O : List Nat) (k n c : Nat) (hk : k < R.length) (hO : O.length = k) (h : le O + c * 10 ^ k = le (R.take k) * n) :
    le (O ++ [(R.getD k 0 * n + c) % 10]) + (R.getD k 0 * n + c) / 10 * 10 ^ (k + 1) = le (R.take (k + 1)) * n := by
  rw [take_succ_getD R k hk, le_append, le_append, List.length_take, Nat.min_eq_left (by omega), hO]
  simp only [le, Nat.mul_zero, Nat.add_zero]
  rw [Nat.add_mul, ← h, Nat.pow_succ, Nat.add_assoc, mul_split]
  grind
/-- A digit's step of what is carried at the end. -/
theorem carry_step (O : List Nat) (c M : Nat) (h : le O + c * 10 ^ O.length = M) : le (O ++ [c % 10]) + c / 10 * 10 ^ (O ++ [c % 10]).length = M := by
  rw [le_append, List.length_append]
  simp only [le, Nat.mul_zero, Nat.add_zero, List.length_singleton, Nat.pow_succ]
  rw [Nat.add_assoc, mul_split, ← h]; grind
theorem carry_lt (c t : Nat) (hc : c < 10 ^ (17 - t)) (h0 : 0 < c) : t < 17 ∧ c / 10 < 10 ^ (17 - (t + 1)) := by
  have ht : t < 17 := by
    apply Nat.lt_of_not_le; intro h
    rw [Nat.sub_eq_zero_of_le h] at hc; simp at hc; omega
  refine ⟨ht, ?_⟩
  rw [show 17 - t = (17 - (t + 1)) + 1 from by omega, Nat.pow_succ] at hc
  omega
/-- A row, turned at its ends so far. -/
def Turned (O M : List Nat) (i : Nat) : Prop := M.length = O.length ∧ ∀ j, j < O.length → M.getD j 0 = if j < i ∨ O.length - i ≤ j then O.getD (O.length - 1 - j) 0 else O.getD j 0
theorem Turned.start (O : List Nat) : Turned O O 0 := ⟨rfl, fun j hj => by rw [if_neg (by omega)]⟩
theorem getD_set (M : List Nat) (i j x : Nat) (hi : i < M.length) : (M.set i x).getD j 0 = if j = i then x else M.getD j 0 := by
  rw [List.getD_eq_getElem?_getD, List.getD_eq_getElem?_getD, List.getElem?_set]
  by_cases h : i = j
  · subst h; simp [hi]
  · rw [if_neg h, if_neg (by omega)]
theorem Turned.step {O M : List Nat} {i : Nat} (h : Turned O M i) (hi : i < O.length / 2) :
    Turned O ((M.set i (M.getD (O.length - 1 - i) 0)).set (O.length - 1 - i) (M.getD i 0)) (i + 1) := by
  obtain ⟨hl, hj⟩ := h
  refine ⟨by simpa using hl, fun j hjl => ?_⟩
  rw [getD_set _ _ _ _ (by simp; omega), getD_set _ _ _ _ (by omega)]
  by_cases h1 : j = O.length - 1 - i
  · rw [if_pos h1, if_pos (by omega), hj i (by omega), if_neg (by omega), h1]; congr 1; omega
  · rw [if_neg h1]
    by_cases h2 : j = i
    · rw [if_pos h2, if_pos (by omega), hj _ (by omega), if_neg (by omega), h2]
    · rw [if_neg h2, hj j hjl]
      by_cases h3 : j < i ∨ O.length - i ≤ j
      · rw [if_pos h3, if_pos (by omega)]
      · rw [if_neg h3, if_neg (by omega)]
theorem Turned.done {O M : List Nat} {i : Nat} (h : Turned O M i) (hi : O.length / 2 ≤ i) (hi2 : i ≤ O.length) : M = O.reverse := by
  obtain ⟨hl, hj⟩ := h
  apply List.ext_getElem?
  intro j
  by_cases hjl : j < O.length
  · have := hj j hjl
    rw [List.getD_eq_getElem?_getD, List.getD_eq_getElem?_getD, List.getD_eq_getElem?_getD] at this
    rw [List.getElem?_reverse hjl]
    have e1 : M[j]? = some (M[j]'(by omega)) := List.getElem?_eq_getElem (by omega)
    have e2 : O[O.length - 1 - j]? = some (O[O.length - 1 - j]'(by omega)) := List.getElem?_eq_getElem (by omega)
    have e3 : O[j]? = some (O[j]'hjl) := List.getElem?_eq_getElem hjl
    rw [e1, e2, e3] at this
    rw [e1, e2]
    simp only [Option.getD_some] at this
    split at this
    · rw [this]
    · have : O.length - 1 - j = j := by omega
      simp only [this]; rw [‹M[j] = O[j]›]
  · rw [List.getElem?_eq_none (by omega), List.getElem?_eq_none (by simp; omega)]

theorem val_times {M O L : List Nat} {n : Nat} (h : M = O.reverse) (h2 : le O = num L * n) (K : Nat) (e : Int) : val K M e = val K L e * n := by
  unfold val
  rw [h, show num O.reverse = le O from by unfold num; rw [List.reverse_reverse], h2, Nat.mul_assoc, Nat.mul_comm n, ← Nat.mul_assoc]

theorem val_mul_zero {L : List Nat} {n K : Nat} {e : Int} (h : num L * n = 0) : val K L e * n = 0 := by
  unfold val; rw [Nat.mul_assoc, Nat.mul_comm _ n, ← Nat.mul_assoc, h, Nat.zero_mul]

/-- -1, 0, 1: less, the same, greater. -/
def cmpN (a b : Nat) : Int := if a < b then -1 else if a = b then 0 else 1
theorem cmpN_lt {a b : Nat} (h : a < b) : cmpN a b = -1 := by simp [cmpN, h]
theorem cmpN_eq {a b : Nat} (h : a = b) : cmpN a b = 0 := by simp [cmpN, h]
theorem cmpN_gt {a b : Nat} (h : b < a) : cmpN a b = 1 := by unfold cmpN; rw [if_neg (by omega), if_neg (by omega)]
theorem cmp_step {L1 L2 : List Nat} {e1 e2 p : Int} {K : Nat} (h1 : Digs L1) (h2 : Digs L2) (k1 : -(K : Int) ≤ e1) (k2 : -(K : Int) ≤ e2) (kp : -(K : Int) ≤ p)
    (h : val K L1 e1 / 10 ^ (p + 1 + K).toNat = val K L2 e2 / 10 ^ (p + 1 + K).toNat) :
    (dig L1 e1 p = dig L2 e2 p → val K L1 e1 / 10 ^ (p + K).toNat = val K L2 e2 / 10 ^ (p + K).toNat) ∧
    (dig L1 e1 p < dig L2 e2 p → val K L1 e1 < val K L2 e2) ∧ (dig L2 e2 p < dig L1 e1 p → val K L2 e2 < val K L1 e1) := by
  have g1 := dig_val h1 K e1 p k1 kp
  have g2 := dig_val h2 K e2 p k2 kp
  have s1 := hi_step (val K L1 e1) (p + K).toNat
  have s2 := hi_step (val K L2 e2) (p + K).toNat
  rw [show (p + K).toNat + 1 = (p + 1 + K).toNat from by omega] at s1 s2
  refine ⟨fun hh => by omega, fun hh => ?_, fun hh => ?_⟩
  · apply lt_of_hi (P := 10 ^ (p + K).toNat); omega
  · apply lt_of_hi (P := 10 ^ (p + K).toNat); omega
theorem cmp_done {L1 L2 : List Nat} {e1 e2 : Int} {K : Nat} (k1 : -(K : Int) ≤ e1) (k2 : -(K : Int) ≤ e2)
    (h : val K L1 e1 / 10 ^ (min e1 e2 + K).toNat = val K L2 e2 / 10 ^ (min e1 e2 + K).toNat) : val K L1 e1 = val K L2 e2 := by
  have m1 := val_mod L1 K e1 (min e1 e2) (by omega) (by omega)
  have m2 := val_mod L2 K e2 (min e1 e2) (by omega) (by omega)
  rw [← Nat.div_add_mod (val K L1 e1) (10 ^ (min e1 e2 + K).toNat), ← Nat.div_add_mod (val K L2 e2) (10 ^ (min e1 e2 + K).toNat), m1, m2, h]

/-- The lower part, a place more. -/
theorem mod_step (V P : Nat) : V % 10 ^ (P + 1) = V % 10 ^ P + (V / 10 ^ P % 10) * 10 ^ P := by
  rw [Nat.pow_succ, Nat.mod_mul, Nat.mul_comm (10 ^ P)]
theorem add_step {L1 L2 M : List Nat} {e1 e2 p low high : Int} {K c : Nat} (h1 : Digs L1) (h2 : Digs L2) (k1 : -(K : Int) ≤ e1) (k2 : -(K : Int) ≤ e2) (kl : -(K : Int) ≤ low) (hlp : low ≤ p)
    (hM : (M.length : Int) = high - low + 1) (j : Nat) (hj : (j : Int) = high - p) (h0 : M.getD j 0 = 0)
    (h : num M * 10 ^ (low + K).toNat + c * 10 ^ (p + K).toNat = val K L1 e1 % 10 ^ (p + K).toNat + val K L2 e2 % 10 ^ (p + K).toNat) :
    num (M.set j ((c + dig L1 e1 p + dig L2 e2 p) % 10)) * 10 ^ (low + K).toNat + (c + dig L1 e1 p + dig L2 e2 p) / 10 * 10 ^ (p + 1 + K).toNat = val K L1 e1 % 10 ^ (p + 1 + K).toNat + val K L2 e2 % 10 ^ (p + 1 + K).toNat := by
  have g1 := dig_val h1 K e1 p k1 (by omega)
  have g2 := dig_val h2 K e2 p k2 (by omega)
  rw [show (p + 1 + K).toNat = (p + K).toNat + 1 from by omega, mod_step, mod_step, g1, g2, num_set M j _ (by omega) h0]
  generalize dig L1 e1 p = d1 at *
  generalize dig L2 e2 p = d2 at *
  have e3 : 10 ^ (M.length - 1 - j) * 10 ^ (low + K).toNat = 10 ^ (p + K).toNat := by
    rw [← Nat.pow_add]; congr 1; omega
  rw [Nat.add_mul, Nat.mul_assoc _ (10 ^ (M.length - 1 - j)), e3, Nat.pow_succ]
  generalize 10 ^ (p + K).toNat = T at *
  generalize val K L1 e1 % T = r1 at *
  generalize val K L2 e2 % T = r2 at *
  have hs := mul_split T (c + d1 + d2)
  have e4 : (c + d1 + d2) % 10 * T + (c + d1 + d2) / 10 * (T * 10) = T * (c + d1 + d2) := by rw [← hs, Nat.mul_comm T ((c + d1 + d2) % 10)]
  calc _ = num M * 10 ^ (low + K).toNat + ((c + d1 + d2) % 10 * T + (c + d1 + d2) / 10 * (T * 10)) := by omega
    _ = num M * 10 ^ (low + K).toNat + (c * T + (d1 * T + d2 * T)) := by rw [e4]; grind
    _ = _ := by omega
theorem add_done {L1 L2 M : List Nat} {e1 e2 low high : Int} {K c : Nat} (h1 : Digs L1) (h2 : Digs L2) (k1 : -(K : Int) ≤ e1) (k2 : -(K : Int) ≤ e2) (hh1 : e1 + L1.length ≤ high) (hh2 : e2 + L2.length ≤ high)
    (h : num M * 10 ^ (low + K).toNat + c * 10 ^ (high + 1 + K).toNat = val K L1 e1 % 10 ^ (high + 1 + K).toNat + val K L2 e2 % 10 ^ (high + 1 + K).toNat) :
    val K M low = val K L1 e1 + val K L2 e2 := by
  have g1 := val_hi h1 K e1 high hh1 k1
  have g2 := val_hi h2 K e2 high hh2 k2
  have hp : 0 < 10 ^ (high + K).toNat := Nat.pow_pos (by omega)
  have l1 : val K L1 e1 < 10 ^ (high + K).toNat := (Nat.div_eq_zero_iff_lt hp).1 g1
  have l2 : val K L2 e2 < 10 ^ (high + K).toNat := (Nat.div_eq_zero_iff_lt hp).1 g2
  have l3 : 10 ^ (high + 1 + K).toNat = 10 ^ (high + K).toNat * 10 := by rw [← Nat.pow_succ]; congr 1; omega
  rw [Nat.mod_eq_of_lt (by omega), Nat.mod_eq_of_lt (by omega)] at h
  have hc : c = 0 := by
    cases c with
    | zero => rfl
    | succ c =>
      exfalso
      rw [Nat.succ_mul] at h
      omega
  subst hc
  unfold val at *
  omega

end Go.Proofs.YtbkdaoicnobllabDoor

/- Plain mathematics: digits that are written, numbers that are cut at a power of ten. -/
namespace Go.Proofs.YtbkdaoicnobllabDoor

/-- The bytes of n digits from 10^hi down. -/
def rowT (L : List Nat) (e hi : Int) : Nat → List UInt8
  | 0 => []
  | n + 1 => rowT L e hi n ++ [UInt8.ofNat (48 + dig L e (hi - n))]
theorem rowT_length (L : List Nat) (e hi : Int) (n : Nat) : (rowT L e hi n).length = n := by
  induction n with
  | zero => rfl
  | succ n ih => simp [rowT, ih]
theorem rowT_congr {L M : List Nat} {e g hi : Int} (n : Nat) (h : ∀ p, hi - n < p → p ≤ hi → dig L e p = dig M g p) : rowT L e hi n = rowT M g hi n := by
  induction n with
  | zero => rfl
  | succ n ih => simp only [rowT]; rw [ih (fun p h1 h2 => h p (by omega) h2), h (hi - n) (by omega) (by omega)]
theorem rowT_cons (L : List Nat) (e hi : Int) (n : Nat) : rowT L e hi (n + 1) = UInt8.ofNat (48 + dig L e hi) :: rowT L e (hi - 1) n := by
  induction n with
  | zero => simp [rowT]
  | succ n ih =>
    rw [rowT, ih, rowT]
    simp only [List.cons_append]
    rw [show hi - ((n + 1 : Nat) : Int) = hi - 1 - n from by omega]

theorem dig_same {L M : List Nat} {e g : Int} {K : Nat} (h1 : Digs L) (h2 : Digs M) (k1 : -(K : Int) ≤ e) (k2 : -(K : Int) ≤ g) (h : val K L e = val K M g) (p : Int) (hp : -(K : Int) ≤ p) : dig L e p = dig M g p := by
  rw [← dig_val h1 K e p k1 hp, ← dig_val h2 K g p k2 hp, h]

/-- What is left behind a cut at P, against half of P. -/
def leftN (V P : Nat) : Int := if V % P = 0 then 0 else if 2 * (V % P) < P then 1 else if 2 * (V % P) = P then 2 else 3
theorem leftN_range (V P : Nat) : 0 ≤ leftN V P ∧ leftN V P ≤ 3 := by unfold leftN; split <;> (try split) <;> (try split) <;> omega
theorem left_of (V Q : Nat) (hq : 0 < Q) : leftN V (Q * 10) = if V / Q % 10 = 0 ∧ V % Q = 0 then 0 else if V / Q % 10 < 5 then 1 else if V / Q % 10 = 5 ∧ V % Q = 0 then 2 else 3 := by
  have h1 : V % (Q * 10) = V % Q + Q * (V / Q % 10) := Nat.mod_mul
  have h2 : V % Q < Q := Nat.mod_lt _ hq
  have h3 : V / Q % 10 < 10 := Nat.mod_lt _ (by omega)
  unfold leftN
  rw [h1]
  generalize V / Q % 10 = d at *
  generalize V % Q = r at *
  clear h1
  rcases (by omega : d = 0 ∨ d = 1 ∨ d = 2 ∨ d = 3 ∨ d = 4 ∨ d = 5 ∨ d = 6 ∨ d = 7 ∨ d = 8 ∨ d = 9) with rfl | rfl | rfl | rfl | rfl | rfl | rfl | rfl | rfl | rfl
  all_goals (repeat' split) <;> omega

theorem num_take {L : List Nat} (h : Digs L) (k : Nat) (_hk : k ≤ L.length) : num (L.take k) = num L / 10 ^ (L.length - k) := by
  conv => rhs; rw [← List.take_append_drop k L]
  rw [num_append, List.length_drop]
  have := num_lt (h.drop k)
  rw [List.length_drop] at this
  have hpos : 0 < 10 ^ (L.length - k) := Nat.pow_pos (by omega)
  rw [show (List.take k L ++ List.drop k L).length = L.length from by rw [List.take_append_drop], Nat.mul_comm, Nat.mul_add_div hpos, Nat.div_eq_of_lt this]; omega
theorem num_drop {L : List Nat} (h : Digs L) (k : Nat) (_hk : k ≤ L.length) : num (L.drop k) = num L % 10 ^ (L.length - k) := by
  conv => rhs; rw [← List.take_append_drop k L]
  rw [num_append, List.length_drop]
  have := num_lt (h.drop k)
  rw [List.length_drop] at this
  rw [show (List.take k L ++ List.drop k L).length = L.length from by rw [List.take_append_drop], Nat.mul_comm, Nat.mul_add_mod, Nat.mod_eq_of_lt this]
theorem mul_pow_div (x a b : Nat) (h : a ≤ b) : x * 10 ^ a / 10 ^ b = x / 10 ^ (b - a) := by
  obtain ⟨c, rfl⟩ : ∃ c, b = a + c := ⟨b - a, by omega⟩
  rw [Nat.pow_add, Nat.mul_comm x, Nat.mul_div_mul_left _ _ (Nat.pow_pos (by omega)), Nat.add_sub_cancel_left]
theorem mul_pow_mod (x a b : Nat) (h : a ≤ b) : x * 10 ^ a % 10 ^ b = x % 10 ^ (b - a) * 10 ^ a := by
  obtain ⟨c, rfl⟩ : ∃ c, b = a + c := ⟨b - a, by omega⟩
  rw [Nat.pow_add, Nat.mul_comm x, Nat.mul_mod_mul_left, Nat.add_sub_cancel_left, Nat.mul_comm]
theorem num_digit {L : List Nat} (h : Digs L) (k : Nat) (hk : k < L.length) : num L / 10 ^ (L.length - 1 - k) % 10 = L.getD k 0 := by
  unfold num
  rw [le_at h.reverse, List.getD_eq_getElem?_getD, List.getElem?_reverse (by omega), List.getD_eq_getElem?_getD, show L.length - 1 - (L.length - 1 - k) = k from by omega]
theorem num_zero_iff (L : List Nat) : num L = 0 ↔ ∀ d ∈ L, d = 0 := by
  induction L with
  | nil => simp [num_nil]
  | cons d r ih =>
    rw [num_cons]
    have hp : 0 < 10 ^ r.length := Nat.pow_pos (by omega)
    constructor
    · intro h x hx
      have h1 : d * 10 ^ r.length = 0 := by omega
      have h2 : num r = 0 := by omega
      rcases List.mem_cons.1 hx with rfl | hx
      · rcases Nat.mul_eq_zero.1 h1 with h | h
        · exact h
        · omega
      · exact ih.1 h2 x hx
    · intro h
      rw [h d (by simp), ih.2 (fun x hx => h x (List.mem_cons_of_mem _ hx))]; simp
/-- A number cut among its digits. -/
theorem cut_mid {L : List Nat} (h : Digs L) (K : Nat) (e p : Int) (he : -(K : Int) ≤ e) (k : Nat) (hk : (k : Int) = L.length + e - p) (hkl : k < L.length) :
    val K L e / 10 ^ (p + K).toNat = num (L.take k) ∧
    leftN (val K L e) (10 ^ (p + K).toNat) = if L.getD k 0 = 0 ∧ num (L.drop (k + 1)) = 0 then 0 else if L.getD k 0 < 5 then 1 else if L.getD k 0 = 5 ∧ num (L.drop (k + 1)) = 0 then 2 else 3 := by
  unfold val
  have hp : 0 < 10 ^ (e + K).toNat := Nat.pow_pos (by omega)
  constructor
  · rw [mul_pow_div _ _ _ (by omega), num_take h k (by omega), show (p + K).toNat - (e + K).toNat = L.length - k from by omega]
  · rw [show (p + K).toNat = (p - 1 + K).toNat + 1 from by omega, Nat.pow_succ, left_of _ _ (Nat.pow_pos (by omega))]
    rw [mul_pow_div _ _ _ (by omega), mul_pow_mod _ _ _ (by omega), show (p - 1 + K).toNat - (e + K).toNat = L.length - 1 - k from by omega, num_digit h k hkl]
    rw [num_drop h (k + 1) (by omega), show L.length - (k + 1) = L.length - 1 - k from by omega]
    have e1 : (num L % 10 ^ (L.length - 1 - k) * 10 ^ (e + K).toNat = 0) ↔ (num L % 10 ^ (L.length - 1 - k) = 0) := by
      rw [Nat.mul_eq_zero]; constructor
      · rintro (h | h)
        · exact h
        · omega
      · exact .inl
    simp only [e1]
/-- A number cut below its digits. -/
theorem cut_low (L : List Nat) (K : Nat) (e p : Int) (hk : -(K : Int) ≤ p) (k : Nat) (hkl : (k : Int) = L.length + e - p) (hl : L.length ≤ k) :
    val K L e / 10 ^ (p + K).toNat = num L * 10 ^ (k - L.length) ∧ leftN (val K L e) (10 ^ (p + K).toNat) = 0 := by
  have h1 := val_mod L K e p (by omega) hk
  constructor
  · unfold val
    obtain ⟨m, hm⟩ : ∃ m : Nat, (e + K).toNat = (p + K).toNat + m := ⟨(e - p).toNat, by omega⟩
    rw [hm, Nat.pow_add, show num L * (10 ^ (p + K).toNat * 10 ^ m) = 10 ^ (p + K).toNat * (num L * 10 ^ m) from by grind, Nat.mul_div_cancel_left _ (Nat.pow_pos (by omega)), show k - L.length = m from by omega]
  · unfold leftN; rw [if_pos h1]
/-- A number cut above its digits. -/
theorem cut_high {L : List Nat} (h : Digs L) (K : Nat) (e p : Int) (he : -(K : Int) ≤ e) (hp : L.length + e < p) (h0 : 0 < num L) :
    val K L e / 10 ^ (p + K).toNat = 0 ∧ leftN (val K L e) (10 ^ (p + K).toNat) = 1 := by
  have h1 := val_hi h K e p (by omega) he
  have h2 : val K L e < 10 ^ (p - 1 + K).toNat := by
    have := val_hi h K e (p - 1) (by omega) he
    rcases Nat.div_eq_zero_iff.1 this with h | h
    · have : 0 < 10 ^ (p - 1 + K).toNat := Nat.pow_pos (by omega)
      omega
    · exact h
  have h3 : 0 < val K L e := Nat.mul_pos h0 (Nat.pow_pos (by omega))
  refine ⟨h1, ?_⟩
  unfold leftN
  rw [show (p + K).toNat = (p - 1 + K).toNat + 1 from by omega, Nat.pow_succ, Nat.mod_eq_of_lt (by omega), if_neg (by omega), if_pos (by omega)]

/-- The first digit is none of 0. -/
def Headed (L : List Nat) : Prop := ∀ h : 0 < L.length, L[0] ≠ 0
theorem Headed.lo {L : List Nat} (h : Headed L) (hl : 0 < L.length) : 10 ^ (L.length - 1) ≤ num L := by
  cases L with
  | nil => simp at hl
  | cons d r =>
    have := h hl
    simp at this
    rw [num_cons]; simp
    have : 1 * 10 ^ r.length ≤ d * 10 ^ r.length := Nat.mul_le_mul_right _ (by omega)
    omega
theorem Headed.pos {L : List Nat} (h : Headed L) (hl : 0 < L.length) : 0 < num L := Nat.lt_of_lt_of_le (Nat.pow_pos (by omega)) (h.lo hl)
theorem Norm.headed {L : List Nat} (h : Norm L) : Headed L := h.head
/-- Where the first digit of a number stands. -/
theorem top_same {L M : List Nat} {e g : Int} {K : Nat} (h1 : Digs L) (h2 : Digs M) (d1 : Headed L) (d2 : Headed M) (l1 : 0 < L.length) (l2 : 0 < M.length) (k1 : -(K : Int) ≤ e) (k2 : -(K : Int) ≤ g) (h : val K L e = val K M g) : e + L.length = g + M.length := by
  have key : ∀ {L M : List Nat} {e g : Int}, Digs L → Headed M → 0 < M.length → -(K : Int) ≤ e → -(K : Int) ≤ g → val K L e = val K M g → g + M.length ≤ e + L.length := by
    intro L M e g h1 d2 l2 k1 k2 h
    apply Int.not_lt.1
    intro hlt
    have a := val_hi h1 K e (e + L.length) (by omega) k1
    have b : 10 ^ (e + L.length + K).toNat ≤ val K M g := by
      unfold val
      refine Nat.le_trans ?_ (Nat.mul_le_mul_right _ (d2.lo l2))
      rw [← Nat.pow_add]
      exact Nat.pow_le_pow_right (by omega) (by omega)
    rw [h] at a
    have hp : 0 < 10 ^ (e + L.length + K).toNat := Nat.pow_pos (by omega)
    have := Nat.div_pos b hp
    omega
  have a := key h1 d2 l2 k1 k2 h
  have b := key h2 d1 l1 k2 k1 h.symm
  omega

/-- The digits of the next whole number; so many nines at the end. -/
def nextAt (D : List Nat) (z : Nat) (i : Nat) : Nat := if D.length ≤ i + z then 0 else if i + z + 1 = D.length then D.getD i 0 + 1 else D.getD i 0
def nextL (D : List Nat) (z : Nat) : List Nat := (if z = D.length then [1] else []) ++ (List.range D.length).map (nextAt D z)
/-- z nines stand at the end, and no more. -/
def Nines (D : List Nat) (z : Nat) : Prop := z ≤ D.length ∧ (∀ i, D.length - z ≤ i → i < D.length → D.getD i 0 = 9) ∧ (z < D.length → D.getD (D.length - 1 - z) 0 ≠ 9)
theorem num_nines (L : List Nat) (h : ∀ d ∈ L, d = 9) : num L + 1 = 10 ^ L.length := by
  induction L with
  | nil => simp [num_nil]
  | cons d r ih =>
    have h1 := ih (fun x hx => h x (List.mem_cons_of_mem _ hx))
    rw [num_cons, h d (by simp), List.length_cons, Nat.pow_succ]; omega
theorem num_zeros (n : Nat) : num (List.replicate n 0) = 0 := (num_zero_iff _).2 (fun _ hd => List.eq_of_mem_replicate hd)
theorem map_getD (D : List Nat) : (List.range D.length).map (fun i => D.getD i 0) = D := by
  apply List.ext_getElem
  · simp
  · intro i h1 h2
    simp [List.getD_eq_getElem?_getD, List.getElem?_eq_getElem h2]
theorem range_split (n a : Nat) (h : a ≤ n) : List.range n = List.range a ++ (List.range (n - a)).map (a + ·) := by
  obtain ⟨b, rfl⟩ : ∃ b, n = a + b := ⟨n - a, by omega⟩
  rw [List.range_add, Nat.add_sub_cancel_left]
theorem next_shape (D : List Nat) (z : Nat) (h : Nines D z) :
    (z = D.length ∧ nextL D z = 1 :: List.replicate D.length 0) ∨
    (∃ (A : List Nat) (x : Nat), z < D.length ∧ D = A ++ x :: List.replicate z 9 ∧ x ≠ 9 ∧ nextL D z = A ++ (x + 1) :: List.replicate z 0) := by
  obtain ⟨h1, h2, h3⟩ := h
  by_cases hz : z = D.length
  · refine .inl ⟨hz, ?_⟩
    unfold nextL
    rw [if_pos hz]
    simp only [List.cons_append, List.nil_append, List.cons.injEq, true_and]
    rw [List.eq_replicate_iff]
    refine ⟨by simp, fun b hb => ?_⟩
    obtain ⟨i, hi, rfl⟩ := List.mem_map.1 hb
    unfold nextAt; rw [if_pos (by omega)]
  · refine .inr ⟨D.take (D.length - 1 - z), D.getD (D.length - 1 - z) 0, by omega, ?_, h3 (by omega), ?_⟩
    · apply List.ext_getElem?
      intro i
      by_cases hi : i < D.length - 1 - z
      · rw [List.getElem?_append_left (by simp; omega), List.getElem?_take_of_lt hi]
      · rw [List.getElem?_append_right (by simp; omega), List.length_take, Nat.min_eq_left (by omega)]
        by_cases hj : i = D.length - 1 - z
        · subst hj
          rw [Nat.sub_self, List.getElem?_cons_zero, List.getD_eq_getElem?_getD, List.getElem?_eq_getElem (by omega)]; rfl
        · rw [show i - (D.length - 1 - z) = (i - (D.length - z)) + 1 from by omega, List.getElem?_cons_succ, List.getElem?_replicate]
          by_cases hl : i < D.length
          · have := h2 i (by omega) hl
            rw [List.getD_eq_getElem?_getD, List.getElem?_eq_getElem hl] at this
            rw [if_pos (by omega), List.getElem?_eq_getElem hl]
            simpa using this
          · rw [if_neg (by omega), List.getElem?_eq_none (by omega)]
    · unfold nextL
      rw [if_neg hz]
      apply List.ext_getElem?
      intro i
      simp only [List.nil_append]
      rw [List.getElem?_map]
      by_cases hl : i < D.length
      · rw [List.getElem?_range hl]
        simp only [Option.map_some]
        unfold nextAt
        by_cases hi : i < D.length - 1 - z
        · rw [List.getElem?_append_left (by simp; omega), List.getElem?_take_of_lt hi, if_neg (by omega), if_neg (by omega), List.getD_eq_getElem?_getD, List.getElem?_eq_getElem hl]; rfl
        · rw [List.getElem?_append_right (by simp; omega), List.length_take, Nat.min_eq_left (by omega)]
          by_cases hj : i = D.length - 1 - z
          · subst hj
            rw [if_neg (by omega), if_pos (by omega), Nat.sub_self, List.getElem?_cons_zero]
          · rw [if_pos (by omega), show i - (D.length - 1 - z) = (i - (D.length - z)) + 1 from by omega, List.getElem?_cons_succ, List.getElem?_replicate, if_pos (by omega)]
      · rw [List.getElem?_eq_none (by simpa using hl), List.getElem?_eq_none (by simp; omega)]; rfl
theorem num_next (D : List Nat) (z : Nat) (h : Nines D z) : num (nextL D z) = num D + 1 := by
  rcases next_shape D z h with ⟨h1, h2⟩ | ⟨A, x, h1, h2, _, h3⟩
  · rw [h2, num_cons, num_zeros, List.length_replicate]
    have := num_nines D (fun d hd => by
      obtain ⟨i, hi, rfl⟩ := List.mem_iff_getElem.1 hd
      have := h.2.1 i (by omega) hi
      rw [List.getD_eq_getElem?_getD, List.getElem?_eq_getElem hi] at this
      simpa using this)
    omega
  · rw [h3]
    conv => rhs; rw [h2]
    rw [num_append, num_append, num_cons, num_cons, num_zeros]
    have := num_nines (List.replicate z 9) (fun d hd => List.eq_of_mem_replicate hd)
    simp only [List.length_cons, List.length_replicate] at this ⊢
    rw [Nat.add_mul]; omega
theorem digs_next {D : List Nat} {z : Nat} (hd : Digs D) (h : Nines D z) : Digs (nextL D z) := by
  rcases next_shape D z h with ⟨h1, h2⟩ | ⟨A, x, h1, h2, hx, h3⟩
  · rw [h2]; intro d hd
    rcases List.mem_cons.1 hd with rfl | hd
    · omega
    · rw [List.eq_of_mem_replicate hd]; omega
  · rw [h3]; intro d hdd
    have hx9 := hd x (by rw [h2]; simp)
    rcases List.mem_append.1 hdd with g | g
    · exact hd d (by rw [h2]; exact List.mem_append_left _ g)
    · rcases List.mem_cons.1 g with rfl | g
      · omega
      · rw [List.eq_of_mem_replicate g]; omega
theorem headed_next {D : List Nat} {z : Nat} (hd : Headed D) (h : Nines D z) : Headed (nextL D z) := by
  rcases next_shape D z h with ⟨h1, h2⟩ | ⟨A, x, h1, h2, hx, h3⟩
  · rw [h2]; intro h; simp
  · rw [h3]; intro h
    cases A with
    | nil => simp
    | cons a r =>
      have := hd (by omega)
      simp only [h2, List.cons_append, List.getElem_cons_zero] at this ⊢
      exact this
theorem next_length (D : List Nat) (z : Nat) : (nextL D z).length = D.length + (if z = D.length then 1 else 0) := by
  unfold nextL; split <;> simp <;> omega
end Go.Proofs.YtbkdaoicnobllabDoor
