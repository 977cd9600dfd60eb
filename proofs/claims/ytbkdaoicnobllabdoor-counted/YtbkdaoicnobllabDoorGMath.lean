import Init

/- Plain mathematics: rows of digits. Nothing of the program. -/
namespace Go.Proofs.YtbkdaoicnobllabDoor

/-- The number of a row of digits, the lowest first. -/
def le : List Nat → Nat
  | [] => 0
  | d :: r => d + 10 * le r
/-- The number of a row of digits, the highest first. -/
def num (L : List Nat) : Nat := le L.reverse
/-- All are digits. -/
def Digs (L : List Nat) : Prop := ∀ d, d ∈ L → d ≤ 9
/-- No nought at either end; all are digits. -/
structure Norm (L : List Nat) : Prop where
  digs : Digs L
  head : ∀ h : 0 < L.length, L[0] ≠ 0
  last : ∀ h : 0 < L.length, L[L.length - 1] ≠ 0
/-- The number times 10^K, a whole number where -K ≤ e. -/
def val (K : Nat) (L : List Nat) (e : Int) : Nat := num L * 10 ^ (e + K).toNat

theorem le_append (a b : List Nat) : le (a ++ b) = le a + 10 ^ a.length * le b := by
  induction a with
  | nil => simp [le]
  | cons d r ih =>
    simp only [List.cons_append, le, ih, List.length_cons, Nat.pow_succ]
    rw [Nat.mul_add, Nat.mul_comm (10 ^ r.length) 10, Nat.mul_assoc, Nat.add_assoc]

theorem num_nil : num [] = 0 := rfl
theorem num_snoc (L : List Nat) (d : Nat) : num (L ++ [d]) = 10 * num L + d := by
  simp [num, le]; omega
theorem num_cons (d : Nat) (L : List Nat) : num (d :: L) = d * 10 ^ L.length + num L := by
  simp [num, le_append, le]; rw [Nat.mul_comm]; omega
theorem num_append (a b : List Nat) : num (a ++ b) = num a * 10 ^ b.length + num b := by
  simp [num, le_append]; rw [Nat.mul_comm]; omega

theorem Digs.nil : Digs [] := fun _ h => by cases h
theorem Digs.cons {d : Nat} {L : List Nat} (h : d ≤ 9) (hl : Digs L) : Digs (d :: L) := by
  intro x hx
  rcases List.mem_cons.1 hx with rfl | hx
  · exact h
  · exact hl x hx
theorem Digs.append {a b : List Nat} (ha : Digs a) (hb : Digs b) : Digs (a ++ b) := by
  intro x hx
  rcases List.mem_append.1 hx with hx | hx
  · exact ha x hx
  · exact hb x hx
theorem Digs.reverse {L : List Nat} (h : Digs L) : Digs L.reverse := fun x hx => h x (List.mem_reverse.1 hx)
theorem Digs.take {L : List Nat} (h : Digs L) (n : Nat) : Digs (L.take n) := fun x hx => h x (List.mem_of_mem_take hx)
theorem Digs.drop {L : List Nat} (h : Digs L) (n : Nat) : Digs (L.drop n) := fun x hx => h x (List.mem_of_mem_drop hx)
theorem Digs.getD {L : List Nat} (h : Digs L) (i : Nat) : L.getD i 0 ≤ 9 := by
  rw [List.getD_eq_getElem?_getD]
  cases hi : L[i]? with
  | none => simp
  | some d => simpa using h d (List.mem_of_getElem? hi)
theorem Digs.set {L : List Nat} (h : Digs L) (i d : Nat) (hd : d ≤ 9) : Digs (L.set i d) := by
  intro x hx
  rcases List.mem_or_eq_of_mem_set hx with hx | rfl
  · exact h x hx
  · exact hd

theorem le_lt {L : List Nat} (h : Digs L) : le L < 10 ^ L.length := by
  induction L with
  | nil => simp [le]
  | cons d r ih =>
    have h1 := ih (fun x hx => h x (List.mem_cons_of_mem _ hx))
    have h2 := h d (List.mem_cons_self)
    simp only [le, List.length_cons, Nat.pow_succ]; omega
theorem num_lt {L : List Nat} (h : Digs L) : num L < 10 ^ L.length := by
  have := le_lt h.reverse; simpa [num] using this

theorem le_div {L : List Nat} (h : Digs L) (i : Nat) : le L / 10 ^ i = le (L.drop i) := by
  induction i generalizing L with
  | zero => simp
  | succ i ih =>
    cases L with
    | nil => simp [le]
    | cons d r =>
      have h1 := ih (L := r) (fun x hx => h x (List.mem_cons_of_mem _ hx))
      have h2 := h d (List.mem_cons_self)
      simp only [List.drop_succ_cons, ← h1, le, Nat.pow_succ]
      rw [Nat.mul_comm (10 ^ i) 10, ← Nat.div_div_eq_div_mul]
      congr 1; omega
theorem le_mod (L : List Nat) (h : Digs L) : le L % 10 = L.getD 0 0 := by
  cases L with
  | nil => simp [le]
  | cons d r => have h2 := h d (List.mem_cons_self); simp only [le, List.getD_cons_zero]; omega
/-- The digit at a place. -/
theorem le_at {L : List Nat} (h : Digs L) (i : Nat) : le L / 10 ^ i % 10 = L.getD i 0 := by
  rw [le_div h, le_mod _ (h.drop i)]; simp [List.getD_eq_getElem?_getD]

/-- The digit that stands at 10^p. -/
def dig (L : List Nat) (e p : Int) : Nat := if p < e then 0 else L.reverse.getD (p - e).toNat 0
theorem dig_le {L : List Nat} (h : Digs L) (e p : Int) : dig L e p ≤ 9 := by
  unfold dig; split
  · omega
  · exact h.reverse.getD _
theorem dig_lo (L : List Nat) {e p : Int} (h : p < e) : dig L e p = 0 := by simp [dig, h]
theorem dig_hi (L : List Nat) {e p : Int} (h : e + L.length ≤ p) : dig L e p = 0 := by
  unfold dig; split
  · rfl
  · rw [List.getD_eq_getElem?_getD, List.getElem?_eq_none (by simp; omega)]; rfl
theorem dig_mid (L : List Nat) {e p : Int} (h : e ≤ p) (h2 : p < e + L.length) (j : Nat) (hj : (j : Int) = L.length - 1 - (p - e)) : dig L e p = L.getD j 0 := by
  unfold dig; rw [if_neg (by omega), List.getD_eq_getElem?_getD, List.getElem?_reverse (by omega), List.getD_eq_getElem?_getD, show L.length - 1 - (p - e).toNat = j from by omega]
theorem dig_val {L : List Nat} (h : Digs L) (K : Nat) (e p : Int) (he : -(K : Int) ≤ e) (hp : -(K : Int) ≤ p) : val K L e / 10 ^ (p + K).toNat % 10 = dig L e p := by
  unfold val dig num
  split
  · obtain ⟨m, hm⟩ : ∃ m : Nat, (e + K).toNat = (p + K).toNat + 1 + m := ⟨(e - p - 1).toNat, by omega⟩
    rw [hm, Nat.pow_add, Nat.pow_succ, show le L.reverse * (10 ^ (p + K).toNat * 10 * 10 ^ m) = 10 ^ (p + K).toNat * (10 * (le L.reverse * 10 ^ m)) from by grind]
    rw [Nat.mul_div_cancel_left _ (Nat.pow_pos (by omega))]; omega
  · have hm : (p + K).toNat = (e + K).toNat + (p - e).toNat := by omega
    rw [hm, Nat.pow_add, Nat.mul_comm (le _), Nat.mul_div_mul_left _ _ (Nat.pow_pos (by omega)), le_at h.reverse]
/-- What stands at 10^p and above. -/
theorem hi_step (V P : Nat) : V / 10 ^ P = 10 * (V / 10 ^ (P + 1)) + V / 10 ^ P % 10 := by
  rw [Nat.pow_succ, ← Nat.div_div_eq_div_mul]; omega

/-- Below the last place nothing stands; above the first nothing stands. -/
theorem val_hi {L : List Nat} (h : Digs L) (K : Nat) (e p : Int) (hp : e + L.length ≤ p) (he : -(K : Int) ≤ e) : val K L e / 10 ^ (p + K).toNat = 0 := by
  apply Nat.div_eq_of_lt
  unfold val
  have h1 := num_lt h
  obtain ⟨m, hm⟩ : ∃ m : Nat, (p + K).toNat = L.length + (e + K).toNat + m := ⟨(p - e - L.length).toNat, by omega⟩
  rw [hm, Nat.pow_add, Nat.pow_add]
  have hpos : 0 < 10 ^ (e + K).toNat := Nat.pow_pos (by omega)
  have hm1 : 1 ≤ 10 ^ m := Nat.pow_pos (by omega)
  calc num L * 10 ^ (e + K).toNat < 10 ^ L.length * 10 ^ (e + K).toNat := Nat.mul_lt_mul_of_pos_right h1 hpos
    _ = 10 ^ L.length * 10 ^ (e + K).toNat * 1 := by rw [Nat.mul_one]
    _ ≤ 10 ^ L.length * 10 ^ (e + K).toNat * 10 ^ m := Nat.mul_le_mul_left _ hm1
theorem val_mod (L : List Nat) (K : Nat) (e p : Int) (hp : p ≤ e) (hk : -(K : Int) ≤ p) : val K L e % 10 ^ (p + K).toNat = 0 := by
  unfold val
  obtain ⟨m, hm⟩ : ∃ m : Nat, (e + K).toNat = (p + K).toNat + m := ⟨(e - p).toNat, by omega⟩
  rw [hm, Nat.pow_add, show num L * (10 ^ (p + K).toNat * 10 ^ m) = 10 ^ (p + K).toNat * (num L * 10 ^ m) from by grind, Nat.mul_mod_right]

/-- Of two numbers the greater by their higher parts. -/
theorem lt_of_hi {a b P : Nat} (h : a / P < b / P) : a < b := by
  apply Nat.lt_of_not_le; intro hle
  have := Nat.div_le_div_right (c := P) hle; omega

theorem num_pos {L : List Nat} (h : Norm L) (hl : 0 < L.length) : 10 ^ (L.length - 1) ≤ num L := by
  cases L with
  | nil => simp at hl
  | cons d r =>
    have := h.head hl
    simp at this
    rw [num_cons]; simp
    have : 1 * 10 ^ r.length ≤ d * 10 ^ r.length := Nat.mul_le_mul_right _ (by omega)
    omega
theorem val_pos {L : List Nat} (h : Norm L) (hl : 0 < L.length) (K : Nat) (e : Int) : 0 < val K L e := by
  have := num_pos h hl
  exact Nat.mul_pos (Nat.lt_of_lt_of_le (Nat.pow_pos (by omega)) this) (Nat.pow_pos (by omega))
theorem val_nil (K : Nat) (e : Int) : val K [] e = 0 := by simp [val, num_nil]

/-- Noughts at the head. -/
theorem num_zero_cons (L : List Nat) : num (0 :: L) = num L := by rw [num_cons]; simp
theorem val_snoc_zero (K : Nat) (L : List Nat) (e : Int) (he : -(K : Int) ≤ e) : val K (L ++ [0]) e = val K L (e + 1) := by
  unfold val; rw [num_snoc, show (e + 1 + K).toNat = (e + K).toNat + 1 from by omega, Nat.pow_succ]
  simp [Nat.mul_comm, Nat.mul_left_comm]; rw [Nat.mul_assoc]

theorem num_set (L : List Nat) (i d : Nat) (hi : i < L.length) (h0 : L.getD i 0 = 0) : num (L.set i d) = num L + d * 10 ^ (L.length - 1 - i) := by
  induction L generalizing i with
  | nil => simp at hi
  | cons x r ih =>
    cases i with
    | zero => simp at h0; subst h0; simp [num_cons]; omega
    | succ i =>
      simp at hi h0
      rw [List.set_cons_succ, num_cons, num_cons, ih i hi (by simpa using h0)]
      simp
      rw [show r.length - (i + 1) = r.length - 1 - i from by omega]; omega

theorem num_all_zero (L : List Nat) (h : ∀ j, j < L.length → L.getD j 0 = 0) : num L = 0 := by
  induction L with
  | nil => rfl
  | cons d r ih =>
    have h0 := h 0 (by simp)
    simp at h0
    rw [num_cons, h0, ih (fun j hj => by have := h (j + 1) (by simp; omega); simpa using this)]; simp
theorem num_drop_zeros (L : List Nat) (a : Nat) (h : ∀ j, j < a → L.getD j 0 = 0) : num L = num (L.drop a) := by
  induction a generalizing L with
  | zero => simp
  | succ a ih =>
    cases L with
    | nil => simp
    | cons d r =>
      have h0 := h 0 (by omega)
      simp at h0
      rw [List.drop_succ_cons, ← ih r (fun j hj => by have := h (j + 1) (by omega); simpa using this), num_cons, h0]; simp
theorem num_take_zeros (L : List Nat) (z : Nat) (hz : z ≤ L.length) (h : ∀ j, z ≤ j → j < L.length → L.getD j 0 = 0) : num L = num (L.take z) * 10 ^ (L.length - z) := by
  conv => lhs; rw [← List.take_append_drop z L]
  rw [num_append, num_all_zero (L.drop z) (fun j hj => by
    have := h (z + j) (by omega) (by simp at hj; omega)
    simpa [List.getD_eq_getElem?_getD] using this)]
  simp
/-- What 'made' makes. -/
theorem made_val (L : List Nat) (a z : Nat) (haz : a < z) (hz : z ≤ L.length) (ha0 : ∀ j, j < a → L.getD j 0 = 0) (hz0 : ∀ j, z ≤ j → j < L.length → L.getD j 0 = 0) (K : Nat) (e : Int) (he : -(K : Int) ≤ e) :
    val K ((L.take z).drop a) (e + ((L.length : Int) - z)) = val K L e := by
  unfold val
  rw [num_take_zeros L z hz hz0, ← num_drop_zeros (L.take z) a (fun j hj => by
    have := ha0 j hj
    rw [List.getD_eq_getElem?_getD] at this ⊢
    rw [List.getElem?_take_of_lt (by omega)]; exact this)]
  rw [show (e + ((L.length : Int) - z) + K).toNat = (L.length - z) + (e + K).toNat from by omega, Nat.pow_add, Nat.mul_assoc]
theorem made_norm (L : List Nat) (a z : Nat) (haz : a < z) (hz : z ≤ L.length) (hd : Digs L) (ha : L.getD a 0 ≠ 0) (hl : L.getD (z - 1) 0 ≠ 0) : Norm ((L.take z).drop a) := by
  refine ⟨(hd.take z).drop a, fun h => ?_, fun h => ?_⟩
  · rw [List.getD_eq_getElem?_getD, List.getElem?_eq_getElem (by omega)] at ha
    simpa using ha
  · rw [List.getD_eq_getElem?_getD, List.getElem?_eq_getElem (by omega)] at hl
    have : a + (min z L.length - a - 1) = z - 1 := by omega
    simp [this]; simpa using hl
theorem made_getD (L : List Nat) (a z j : Nat) (hj : j < z - a) : ((L.take z).drop a).getD j 0 = L.getD (a + j) 0 := by
  rw [List.getD_eq_getElem?_getD, List.getD_eq_getElem?_getD, List.getElem?_drop, List.getElem?_take_of_lt (by omega)]
theorem norm_nil : Norm [] := ⟨Digs.nil, fun h => by simp at h, fun h => by simp at h⟩

/-- A digit more of a row that is taken apart from its end. -/
theorem take_succ_getD (R : List Nat) (k : Nat) (hk : k < R.length) : R.take (k + 1) = R.take k ++ [R.getD k 0] := by
  rw [List.take_succ_eq_append_getElem hk, List.getD_eq_getElem?_getD, List.getElem?_eq_getElem hk]; rfl
theorem mul_split (P v : Nat) : P * (v % 10) + v / 10 * (P * 10) = P * v := by
  have h : v % 10 + 10 * (v / 10) = v := Nat.mod_add_div v 10
  calc P * (v % 10) + v / 10 * (P * 10) = P * (v % 10 + 10 * (v / 10)) := by grind
    _ = P * v := by rw [h]
/-- A digit's step of a product. -/
theorem times_step (R O : List Nat) (k n c : Nat) (hk : k < R.length) (hO : O.length = k) (h : le O + c * 10 ^ k = le (R.take k) * n) :
    le (O ++ [(R.getD k 0 * n + c) % 10]) + (R.getD k 0 * n + c) / 10 * 10 ^ (k + 1) = le (R.take (k + 1)) * n := by
  rw [take_succ_getD R k hk, le_append, le_append, List.length_take, Nat.min_eq_left (by omega), hO]
  simp only [le, Nat.mul_zero, Nat.add_zero]
  rw [Nat.add_mul, ← h, Nat.pow_succ, Nat.add_assoc, mul_split]
  grind
/-- A digit's step of what is carried at the end. -/
theorem carry_step (O : List Nat) (c M : Nat) (h : le O + c * 10 ^ O.length = M) : le (O ++ [c % 10]) + c / 10 * 10 ^ (O ++ [c % 10]).length = M := by
  rw [le_append, List.length_append]
  simp only [le, Nat.mul_zero, Nat.add_zero, List.length_singleton, Nat.pow_succ]
  rw [Nat.add_assoc, mul_split, ← h]; grind
theorem carry_lt (c t : Nat) (hc : c < 10 ^ (17 - t)) (h0 : 0 < c) : t < 17 ∧ c / 10 < 10 ^ (17 - (t + 1)) := by
  have ht : t < 17 := by
    apply Nat.lt_of_not_le; intro h
    rw [Nat.sub_eq_zero_of_le h] at hc; simp at hc; omega
  refine ⟨ht, ?_⟩
  rw [show 17 - t = (17 - (t + 1)) + 1 from by omega, Nat.pow_succ] at hc
  omega
/-- A row, turned at its ends so far. -/
def Turned (O M : List Nat) (i : Nat) : Prop := M.length = O.length ∧ ∀ j, j < O.length → M.getD j 0 = if j < i ∨ O.length - i ≤ j then O.getD (O.length - 1 - j) 0 else O.getD j 0
theorem Turned.start (O : List Nat) : Turned O O 0 := ⟨rfl, fun j hj => by rw [if_neg (by omega)]⟩
theorem getD_set (M : List Nat) (i j x : Nat) (hi : i < M.length) : (M.set i x).getD j 0 = if j = i then x else M.getD j 0 := by
  rw [List.getD_eq_getElem?_getD, List.getD_eq_getElem?_getD, List.getElem?_set]
  by_cases h : i = j
  · subst h; simp [hi]
  · rw [if_neg h, if_neg (by omega)]
theorem Turned.step {O M : List Nat} {i : Nat} (h : Turned O M i) (hi : i < O.length / 2) :
    Turned O ((M.set i (M.getD (O.length - 1 - i) 0)).set (O.length - 1 - i) (M.getD i 0)) (i + 1) := by
  obtain ⟨hl, hj⟩ := h
  refine ⟨by simpa using hl, fun j hjl => ?_⟩
  rw [getD_set _ _ _ _ (by simp; omega), getD_set _ _ _ _ (by omega)]
  by_cases h1 : j = O.length - 1 - i
  · rw [if_pos h1, if_pos (by omega), hj i (by omega), if_neg (by omega), h1]; congr 1; omega
  · rw [if_neg h1]
    by_cases h2 : j = i
    · rw [if_pos h2, if_pos (by omega), hj _ (by omega), if_neg (by omega), h2]
    · rw [if_neg h2, hj j hjl]
      by_cases h3 : j < i ∨ O.length - i ≤ j
      · rw [if_pos h3, if_pos (by omega)]
      · rw [if_neg h3, if_neg (by omega)]
theorem Turned.done {O M : List Nat} {i : Nat} (h : Turned O M i) (hi : O.length / 2 ≤ i) (hi2 : i ≤ O.length) : M = O.reverse := by
  obtain ⟨hl, hj⟩ := h
  apply List.ext_getElem?
  intro j
  by_cases hjl : j < O.length
  · have := hj j hjl
    rw [List.getD_eq_getElem?_getD, List.getD_eq_getElem?_getD, List.getD_eq_getElem?_getD] at this
    rw [List.getElem?_reverse hjl]
    have e1 : M[j]? = some (M[j]'(by omega)) := List.getElem?_eq_getElem (by omega)
    have e2 : O[O.length - 1 - j]? = some (O[O.length - 1 - j]'(by omega)) := List.getElem?_eq_getElem (by omega)
    have e3 : O[j]? = some (O[j]'hjl) := List.getElem?_eq_getElem hjl
    rw [e1, e2, e3] at this
    rw [e1, e2]
    simp only [Option.getD_some] at this
    split at this
    · rw [this]
    · have : O.length - 1 - j = j := by omega
      simp only [this]; rw [‹M[j] = O[j]›]
  · rw [List.getElem?_eq_none (by omega), List.getElem?_eq_none (by simp; omega)]

theorem val_times {M O L : List Nat} {n : Nat} (h : M = O.reverse) (h2 : le O = num L * n) (K : Nat) (e : Int) : val K M e = val K L e * n := by
  unfold val
  rw [h, show num O.reverse = le O from by unfold num; rw [List.reverse_reverse], h2, Nat.mul_assoc, Nat.mul_comm n, ← Nat.mul_assoc]

theorem val_mul_zero {L : List Nat} {n K : Nat} {e : Int} (h : num L * n = 0) : val K L e * n = 0 := by
  unfold val; rw [Nat.mul_assoc, Nat.mul_comm _ n, ← Nat.mul_assoc, h, Nat.zero_mul]

/-- -1, 0, 1: less, the same, greater. -/
def cmpN (a b : Nat) : Int := if a < b then -1 else if a = b then 0 else 1
theorem cmpN_lt {a b : Nat} (h : a < b) : cmpN a b = -1 := by simp [cmpN, h]
theorem cmpN_eq {a b : Nat} (h : a = b) : cmpN a b = 0 := by simp [cmpN, h]
theorem cmpN_gt {a b : Nat} (h : b < a) : cmpN a b = 1 := by unfold cmpN; rw [if_neg (by omega), if_neg (by omega)]
theorem cmp_step {L1 L2 : List Nat} {e1 e2 p : Int} {K : Nat} (h1 : Digs L1) (h2 : Digs L2) (k1 : -(K : Int) ≤ e1) (k2 : -(K : Int) ≤ e2) (kp : -(K : Int) ≤ p)
    (h : val K L1 e1 / 10 ^ (p + 1 + K).toNat = val K L2 e2 / 10 ^ (p + 1 + K).toNat) :
    (dig L1 e1 p = dig L2 e2 p → val K L1 e1 / 10 ^ (p + K).toNat = val K L2 e2 / 10 ^ (p + K).toNat) ∧
    (dig L1 e1 p < dig L2 e2 p → val K L1 e1 < val K L2 e2) ∧ (dig L2 e2 p < dig L1 e1 p → val K L2 e2 < val K L1 e1) := by
  have g1 := dig_val h1 K e1 p k1 kp
  have g2 := dig_val h2 K e2 p k2 kp
  have s1 := hi_step (val K L1 e1) (p + K).toNat
  have s2 := hi_step (val K L2 e2) (p + K).toNat
  rw [show (p + K).toNat + 1 = (p + 1 + K).toNat from by omega] at s1 s2
  refine ⟨fun hh => by omega, fun hh => ?_, fun hh => ?_⟩
  · apply lt_of_hi (P := 10 ^ (p + K).toNat); omega
  · apply lt_of_hi (P := 10 ^ (p + K).toNat); omega
theorem cmp_done {L1 L2 : List Nat} {e1 e2 : Int} {K : Nat} (k1 : -(K : Int) ≤ e1) (k2 : -(K : Int) ≤ e2)
    (h : val K L1 e1 / 10 ^ (min e1 e2 + K).toNat = val K L2 e2 / 10 ^ (min e1 e2 + K).toNat) : val K L1 e1 = val K L2 e2 := by
  have m1 := val_mod L1 K e1 (min e1 e2) (by omega) (by omega)
  have m2 := val_mod L2 K e2 (min e1 e2) (by omega) (by omega)
  rw [← Nat.div_add_mod (val K L1 e1) (10 ^ (min e1 e2 + K).toNat), ← Nat.div_add_mod (val K L2 e2) (10 ^ (min e1 e2 + K).toNat), m1, m2, h]

/-- The lower part, a place more. -/
theorem mod_step (V P : Nat) : V % 10 ^ (P + 1) = V % 10 ^ P + (V / 10 ^ P % 10) * 10 ^ P := by
  rw [Nat.pow_succ, Nat.mod_mul, Nat.mul_comm (10 ^ P)]
theorem add_step {L1 L2 M : List Nat} {e1 e2 p low high : Int} {K c : Nat} (h1 : Digs L1) (h2 : Digs L2) (k1 : -(K : Int) ≤ e1) (k2 : -(K : Int) ≤ e2) (kl : -(K : Int) ≤ low) (hlp : low ≤ p)
    (hM : (M.length : Int) = high - low + 1) (j : Nat) (hj : (j : Int) = high - p) (h0 : M.getD j 0 = 0)
    (h : num M * 10 ^ (low + K).toNat + c * 10 ^ (p + K).toNat = val K L1 e1 % 10 ^ (p + K).toNat + val K L2 e2 % 10 ^ (p + K).toNat) :
    num (M.set j ((c + dig L1 e1 p + dig L2 e2 p) % 10)) * 10 ^ (low + K).toNat + (c + dig L1 e1 p + dig L2 e2 p) / 10 * 10 ^ (p + 1 + K).toNat = val K L1 e1 % 10 ^ (p + 1 + K).toNat + val K L2 e2 % 10 ^ (p + 1 + K).toNat := by
  have g1 := dig_val h1 K e1 p k1 (by omega)
  have g2 := dig_val h2 K e2 p k2 (by omega)
  rw [show (p + 1 + K).toNat = (p + K).toNat + 1 from by omega, mod_step, mod_step, g1, g2, num_set M j _ (by omega) h0]
  generalize dig L1 e1 p = d1 at *
  generalize dig L2 e2 p = d2 at *
  have e3 : 10 ^ (M.length - 1 - j) * 10 ^ (low + K).toNat = 10 ^ (p + K).toNat := by
    rw [← Nat.pow_add]; congr 1; omega
  rw [Nat.add_mul, Nat.mul_assoc _ (10 ^ (M.length - 1 - j)), e3, Nat.pow_succ]
  generalize 10 ^ (p + K).toNat = T at *
  generalize val K L1 e1 % T = r1 at *
  generalize val K L2 e2 % T = r2 at *
  have hs := mul_split T (c + d1 + d2)
  have e4 : (c + d1 + d2) % 10 * T + (c + d1 + d2) / 10 * (T * 10) = T * (c + d1 + d2) := by rw [← hs, Nat.mul_comm T ((c + d1 + d2) % 10)]
  calc _ = num M * 10 ^ (low + K).toNat + ((c + d1 + d2) % 10 * T + (c + d1 + d2) / 10 * (T * 10)) := by omega
    _ = num M * 10 ^ (low + K).toNat + (c * T + (d1 * T + d2 * T)) := by rw [e4]; grind
    _ = _ := by omega
theorem add_done {L1 L2 M : List Nat} {e1 e2 low high : Int} {K c : Nat} (h1 : Digs L1) (h2 : Digs L2) (k1 : -(K : Int) ≤ e1) (k2 : -(K : Int) ≤ e2) (hh1 : e1 + L1.length ≤ high) (hh2 : e2 + L2.length ≤ high)
    (h : num M * 10 ^ (low + K).toNat + c * 10 ^ (high + 1 + K).toNat = val K L1 e1 % 10 ^ (high + 1 + K).toNat + val K L2 e2 % 10 ^ (high + 1 + K).toNat) :
    val K M low = val K L1 e1 + val K L2 e2 := by
  have g1 := val_hi h1 K e1 high hh1 k1
  have g2 := val_hi h2 K e2 high hh2 k2
  have hp : 0 < 10 ^ (high + K).toNat := Nat.pow_pos (by omega)
  have l1 : val K L1 e1 < 10 ^ (high + K).toNat := (Nat.div_eq_zero_iff_lt hp).1 g1
  have l2 : val K L2 e2 < 10 ^ (high + K).toNat := (Nat.div_eq_zero_iff_lt hp).1 g2
  have l3 : 10 ^ (high + 1 + K).toNat = 10 ^ (high + K).toNat * 10 := by rw [← Nat.pow_succ]; congr 1; omega
  rw [Nat.mod_eq_of_lt (by omega), Nat.mod_eq_of_lt (by omega)] at h
  have hc : c = 0 := by
    cases c with
    | zero => rfl
    | succ c =>
      exfalso
      rw [Nat.succ_mul] at h
      omega
  subst hc
  unfold val at *
  omega

end Go.Proofs.YtbkdaoicnobllabDoor

/- Plain mathematics: powers of two as decimals. -/
namespace Go.Proofs.YtbkdaoicnobllabDoor

/-- 2^t times 10^K. -/
def two (K : Nat) (t : Int) : Nat := if 0 ≤ t then 2 ^ t.toNat * 10 ^ K else 5 ^ (-t).toNat * 10 ^ (K + t).toNat

theorem two_zero (K : Nat) : two K 0 = 10 ^ K := by simp [two]
theorem two_pos (K : Nat) (t : Int) : 0 < two K t := by
  unfold two; split
  · exact Nat.mul_pos (Nat.pow_pos (by omega)) (Nat.pow_pos (by omega))
  · exact Nat.mul_pos (Nat.pow_pos (by omega)) (Nat.pow_pos (by omega))
theorem two_up (K n : Nat) (t : Int) (h : 0 ≤ t) : two K (t + n) = two K t * 2 ^ n := by
  unfold two; rw [if_pos (by omega), if_pos h, show (t + n).toNat = t.toNat + n from by omega, Nat.pow_add]
  rw [Nat.mul_assoc, Nat.mul_comm (2 ^ n), ← Nat.mul_assoc]
theorem two_down (K n : Nat) (t : Int) (h : t ≤ 0) (hk : -(K : Int) ≤ t - n) : two K (t - n) * 10 ^ n = two K t * 5 ^ n := by
  have h1 : two K (t - n) = 5 ^ ((-t).toNat + n) * 10 ^ (K + (t - n)).toNat := by
    unfold two
    by_cases h0 : 0 ≤ t - n
    · have : t = 0 := by omega
      have : n = 0 := by omega
      subst_vars; simp
    · rw [if_neg h0, show (-(t - n)).toNat = (-t).toNat + n from by omega]
  have h2 : two K t = 5 ^ (-t).toNat * 10 ^ ((K + (t - n)).toNat + n) := by
    unfold two
    by_cases h0 : 0 ≤ t
    · have : t = 0 := by omega
      subst this; simp; congr 1; omega
    · rw [if_neg h0, show (K + t).toNat = (K + (t - n)).toNat + n from by omega]
  rw [h1, h2, Nat.pow_add, Nat.pow_add]
  grind
theorem val_down (K n : Nat) (L : List Nat) (e : Int) (hk : -(K : Int) ≤ e - n) : val K L (e - n) * 10 ^ n = val K L e := by
  unfold val; rw [Nat.mul_assoc, ← Nat.pow_add]; congr 2; omega
/-- Twice as much, half as much: all powers of two are in step. -/
theorem two_mul (K : Nat) (t : Int) (hk : -(K : Int) ≤ t) (n : Nat) : two K (t + n) = two K t * 2 ^ n := by
  by_cases h0 : 0 ≤ t
  · exact two_up K n t h0
  · by_cases h1 : t + n ≤ 0
    · have := two_down K n (t + n) h1 (by omega)
      rw [show t + n - n = t from by omega, show (10 : Nat) = 5 * 2 from rfl, Nat.mul_pow] at this
      have hp : 0 < 5 ^ n := Nat.pow_pos (by omega)
      apply Nat.eq_of_mul_eq_mul_right hp
      rw [← this]; grind
    · obtain ⟨a, ha⟩ : ∃ a : Nat, (a : Int) = -t := ⟨(-t).toNat, by omega⟩
      obtain ⟨b, hb⟩ : ∃ b : Nat, n = a + b := ⟨n - a, by omega⟩
      have h2 := two_down K a 0 (by omega) (by omega)
      rw [show (0 : Int) - a = t from by omega, two_zero] at h2
      have h3 := two_up K b 0 (by omega)
      rw [two_zero, show (0 : Int) + b = t + n from by omega] at h3
      rw [h3, hb, Nat.pow_add, ← Nat.mul_assoc]
      congr 1
      have hp : 0 < 5 ^ a := Nat.pow_pos (by omega)
      apply Nat.eq_of_mul_eq_mul_right hp
      rw [← h2, show (10 : Nat) = 5 * 2 from rfl, Nat.mul_pow]; grind

end Go.Proofs.YtbkdaoicnobllabDoor

/- Plain mathematics: digits that are written, numbers that are cut at a power of ten. -/
namespace Go.Proofs.YtbkdaoicnobllabDoor

/-- The bytes of n digits from 10^hi down. -/
def rowT (L : List Nat) (e hi : Int) : Nat → List UInt8
  | 0 => []
  | n + 1 => rowT L e hi n ++ [UInt8.ofNat (48 + dig L e (hi - n))]
theorem rowT_length (L : List Nat) (e hi : Int) (n : Nat) : (rowT L e hi n).length = n := by
  induction n with
  | zero => rfl
  | succ n ih => simp [rowT, ih]
theorem rowT_congr {L M : List Nat} {e g hi : Int} (n : Nat) (h : ∀ p, hi - n < p → p ≤ hi → dig L e p = dig M g p) : rowT L e hi n = rowT M g hi n := by
  induction n with
  | zero => rfl
  | succ n ih => simp only [rowT]; rw [ih (fun p h1 h2 => h p (by omega) h2), h (hi - n) (by omega) (by omega)]
theorem rowT_cons (L : List Nat) (e hi : Int) (n : Nat) : rowT L e hi (n + 1) = UInt8.ofNat (48 + dig L e hi) :: rowT L e (hi - 1) n := by
  induction n with
  | zero => simp [rowT]
  | succ n ih =>
    rw [rowT, ih, rowT]
    simp only [List.cons_append]
    rw [show hi - ((n + 1 : Nat) : Int) = hi - 1 - n from by omega]

theorem dig_same {L M : List Nat} {e g : Int} {K : Nat} (h1 : Digs L) (h2 : Digs M) (k1 : -(K : Int) ≤ e) (k2 : -(K : Int) ≤ g) (h : val K L e = val K M g) (p : Int) (hp : -(K : Int) ≤ p) : dig L e p = dig M g p := by
  rw [← dig_val h1 K e p k1 hp, ← dig_val h2 K g p k2 hp, h]

/-- What is left behind a cut at P, against half of P. -/
def leftN (V P : Nat) : Int := if V % P = 0 then 0 else if 2 * (V % P) < P then 1 else if 2 * (V % P) = P then 2 else 3
theorem leftN_range (V P : Nat) : 0 ≤ leftN V P ∧ leftN V P ≤ 3 := by unfold leftN; split <;> (try split) <;> (try split) <;> omega
theorem left_of (V Q : Nat) (hq : 0 < Q) : leftN V (Q * 10) = if V / Q % 10 = 0 ∧ V % Q = 0 then 0 else if V / Q % 10 < 5 then 1 else if V / Q % 10 = 5 ∧ V % Q = 0 then 2 else 3 := by
  have h1 : V % (Q * 10) = V % Q + Q * (V / Q % 10) := Nat.mod_mul
  have h2 : V % Q < Q := Nat.mod_lt _ hq
  have h3 : V / Q % 10 < 10 := Nat.mod_lt _ (by omega)
  unfold leftN
  rw [h1]
  generalize V / Q % 10 = d at *
  generalize V % Q = r at *
  clear h1
  rcases (by omega : d = 0 ∨ d = 1 ∨ d = 2 ∨ d = 3 ∨ d = 4 ∨ d = 5 ∨ d = 6 ∨ d = 7 ∨ d = 8 ∨ d = 9) with rfl | rfl | rfl | rfl | rfl | rfl | rfl | rfl | rfl | rfl
  all_goals (repeat' split) <;> omega

theorem num_take {L : List Nat} (h : Digs L) (k : Nat) (_hk : k ≤ L.length) : num (L.take k) = num L / 10 ^ (L.length - k) := by
  conv => rhs; rw [← List.take_append_drop k L]
  rw [num_append, List.length_drop]
  have := num_lt (h.drop k)
  rw [List.length_drop] at this
  have hpos : 0 < 10 ^ (L.length - k) := Nat.pow_pos (by omega)
  rw [show (List.take k L ++ List.drop k L).length = L.length from by rw [List.take_append_drop], Nat.mul_comm, Nat.mul_add_div hpos, Nat.div_eq_of_lt this]; omega
theorem num_drop {L : List Nat} (h : Digs L) (k : Nat) (_hk : k ≤ L.length) : num (L.drop k) = num L % 10 ^ (L.length - k) := by
  conv => rhs; rw [← List.take_append_drop k L]
  rw [num_append, List.length_drop]
  have := num_lt (h.drop k)
  rw [List.length_drop] at this
  rw [show (List.take k L ++ List.drop k L).length = L.length from by rw [List.take_append_drop], Nat.mul_comm, Nat.mul_add_mod, Nat.mod_eq_of_lt this]
theorem mul_pow_div (x a b : Nat) (h : a ≤ b) : x * 10 ^ a / 10 ^ b = x / 10 ^ (b - a) := by
  obtain ⟨c, rfl⟩ : ∃ c, b = a + c := ⟨b - a, by omega⟩
  rw [Nat.pow_add, Nat.mul_comm x, Nat.mul_div_mul_left _ _ (Nat.pow_pos (by omega)), Nat.add_sub_cancel_left]
theorem mul_pow_mod (x a b : Nat) (h : a ≤ b) : x * 10 ^ a % 10 ^ b = x % 10 ^ (b - a) * 10 ^ a := by
  obtain ⟨c, rfl⟩ : ∃ c, b = a + c := ⟨b - a, by omega⟩
  rw [Nat.pow_add, Nat.mul_comm x, Nat.mul_mod_mul_left, Nat.add_sub_cancel_left, Nat.mul_comm]
theorem num_digit {L : List Nat} (h : Digs L) (k : Nat) (hk : k < L.length) : num L / 10 ^ (L.length - 1 - k) % 10 = L.getD k 0 := by
  unfold num
  rw [le_at h.reverse, List.getD_eq_getElem?_getD, List.getElem?_reverse (by omega), List.getD_eq_getElem?_getD, show L.length - 1 - (L.length - 1 - k) = k from by omega]
theorem num_zero_iff (L : List Nat) : num L = 0 ↔ ∀ d ∈ L, d = 0 := by
  induction L with
  | nil => simp [num_nil]
  | cons d r ih =>
    rw [num_cons]
    have hp : 0 < 10 ^ r.length := Nat.pow_pos (by omega)
    constructor
    · intro h x hx
      have h1 : d * 10 ^ r.length = 0 := by omega
      have h2 : num r = 0 := by omega
      rcases List.mem_cons.1 hx with rfl | hx
      · rcases Nat.mul_eq_zero.1 h1 with h | h
        · exact h
        · omega
      · exact ih.1 h2 x hx
    · intro h
      rw [h d (by simp), ih.2 (fun x hx => h x (List.mem_cons_of_mem _ hx))]; simp
/-- A number cut among its digits. -/
theorem cut_mid {L : List Nat} (h : Digs L) (K : Nat) (e p : Int) (he : -(K : Int) ≤ e) (k : Nat) (hk : (k : Int) = L.length + e - p) (hkl : k < L.length) :
    val K L e / 10 ^ (p + K).toNat = num (L.take k) ∧
    leftN (val K L e) (10 ^ (p + K).toNat) = if L.getD k 0 = 0 ∧ num (L.drop (k + 1)) = 0 then 0 else if L.getD k 0 < 5 then 1 else if L.getD k 0 = 5 ∧ num (L.drop (k + 1)) = 0 then 2 else 3 := by
  unfold val
  have hp : 0 < 10 ^ (e + K).toNat := Nat.pow_pos (by omega)
  constructor
  · rw [mul_pow_div _ _ _ (by omega), num_take h k (by omega), show (p + K).toNat - (e + K).toNat = L.length - k from by omega]
  · rw [show (p + K).toNat = (p - 1 + K).toNat + 1 from by omega, Nat.pow_succ, left_of _ _ (Nat.pow_pos (by omega))]
    rw [mul_pow_div _ _ _ (by omega), mul_pow_mod _ _ _ (by omega), show (p - 1 + K).toNat - (e + K).toNat = L.length - 1 - k from by omega, num_digit h k hkl]
    rw [num_drop h (k + 1) (by omega), show L.length - (k + 1) = L.length - 1 - k from by omega]
    have e1 : (num L % 10 ^ (L.length - 1 - k) * 10 ^ (e + K).toNat = 0) ↔ (num L % 10 ^ (L.length - 1 - k) = 0) := by
      rw [Nat.mul_eq_zero]; constructor
      · rintro (h | h)
        · exact h
        · omega
      · exact .inl
    simp only [e1]
/-- A number cut below its digits. -/
theorem cut_low (L : List Nat) (K : Nat) (e p : Int) (hk : -(K : Int) ≤ p) (k : Nat) (hkl : (k : Int) = L.length + e - p) (hl : L.length ≤ k) :
    val K L e / 10 ^ (p + K).toNat = num L * 10 ^ (k - L.length) ∧ leftN (val K L e) (10 ^ (p + K).toNat) = 0 := by
  have h1 := val_mod L K e p (by omega) hk
  constructor
  · unfold val
    obtain ⟨m, hm⟩ : ∃ m : Nat, (e + K).toNat = (p + K).toNat + m := ⟨(e - p).toNat, by omega⟩
    rw [hm, Nat.pow_add, show num L * (10 ^ (p + K).toNat * 10 ^ m) = 10 ^ (p + K).toNat * (num L * 10 ^ m) from by grind, Nat.mul_div_cancel_left _ (Nat.pow_pos (by omega)), show k - L.length = m from by omega]
  · unfold leftN; rw [if_pos h1]
/-- A number cut above its digits. -/
theorem cut_high {L : List Nat} (h : Digs L) (K : Nat) (e p : Int) (he : -(K : Int) ≤ e) (hp : L.length + e < p) (h0 : 0 < num L) :
    val K L e / 10 ^ (p + K).toNat = 0 ∧ leftN (val K L e) (10 ^ (p + K).toNat) = 1 := by
  have h1 := val_hi h K e p (by omega) he
  have h2 : val K L e < 10 ^ (p - 1 + K).toNat := by
    have := val_hi h K e (p - 1) (by omega) he
    rcases Nat.div_eq_zero_iff.1 this with h | h
    · have : 0 < 10 ^ (p - 1 + K).toNat := Nat.pow_pos (by omega)
      omega
    · exact h
  have h3 : 0 < val K L e := Nat.mul_pos h0 (Nat.pow_pos (by omega))
  refine ⟨h1, ?_⟩
  unfold leftN
  rw [show (p + K).toNat = (p - 1 + K).toNat + 1 from by omega, Nat.pow_succ, Nat.mod_eq_of_lt (by omega), if_neg (by omega), if_pos (by omega)]

/-- The first digit is none of 0. -/
def Headed (L : List Nat) : Prop := ∀ h : 0 < L.length, L[0] ≠ 0
theorem Headed.lo {L : List Nat} (h : Headed L) (hl : 0 < L.length) : 10 ^ (L.length - 1) ≤ num L := by
  cases L with
  | nil => simp at hl
  | cons d r =>
    have := h hl
    simp at this
    rw [num_cons]; simp
    have : 1 * 10 ^ r.length ≤ d * 10 ^ r.length := Nat.mul_le_mul_right _ (by omega)
    omega
theorem Headed.pos {L : List Nat} (h : Headed L) (hl : 0 < L.length) : 0 < num L := Nat.lt_of_lt_of_le (Nat.pow_pos (by omega)) (h.lo hl)
theorem Norm.headed {L : List Nat} (h : Norm L) : Headed L := h.head
/-- Where the first digit of a number stands. -/
theorem top_same {L M : List Nat} {e g : Int} {K : Nat} (h1 : Digs L) (h2 : Digs M) (d1 : Headed L) (d2 : Headed M) (l1 : 0 < L.length) (l2 : 0 < M.length) (k1 : -(K : Int) ≤ e) (k2 : -(K : Int) ≤ g) (h : val K L e = val K M g) : e + L.length = g + M.length := by
  have key : ∀ {L M : List Nat} {e g : Int}, Digs L → Headed M → 0 < M.length → -(K : Int) ≤ e → -(K : Int) ≤ g → val K L e = val K M g → g + M.length ≤ e + L.length := by
    intro L M e g h1 d2 l2 k1 k2 h
    apply Int.not_lt.1
    intro hlt
    have a := val_hi h1 K e (e + L.length) (by omega) k1
    have b : 10 ^ (e + L.length + K).toNat ≤ val K M g := by
      unfold val
      refine Nat.le_trans ?_ (Nat.mul_le_mul_right _ (d2.lo l2))
      rw [← Nat.pow_add]
      exact Nat.pow_le_pow_right (by omega) (by omega)
    rw [h] at a
    have hp : 0 < 10 ^ (e + L.length + K).toNat := Nat.pow_pos (by omega)
    have := Nat.div_pos b hp
    omega
  have a := key h1 d2 l2 k1 k2 h
  have b := key h2 d1 l1 k2 k1 h.symm
  omega

/-- The digits of the next whole number; so many nines at the end. -/
def nextAt (D : List Nat) (z : Nat) (i : Nat) : Nat := if D.length ≤ i + z then 0 else if i + z + 1 = D.length then D.getD i 0 + 1 else D.getD i 0
def nextL (D : List Nat) (z : Nat) : List Nat := (if z = D.length then [1] else []) ++ (List.range D.length).map (nextAt D z)
/-- z nines stand at the end, and no more. -/
def Nines (D : List Nat) (z : Nat) : Prop := z ≤ D.length ∧ (∀ i, D.length - z ≤ i → i < D.length → D.getD i 0 = 9) ∧ (z < D.length → D.getD (D.length - 1 - z) 0 ≠ 9)
theorem num_nines (L : List Nat) (h : ∀ d ∈ L, d = 9) : num L + 1 = 10 ^ L.length := by
  induction L with
  | nil => simp [num_nil]
  | cons d r ih =>
    have h1 := ih (fun x hx => h x (List.mem_cons_of_mem _ hx))
    rw [num_cons, h d (by simp), List.length_cons, Nat.pow_succ]; omega
theorem num_zeros (n : Nat) : num (List.replicate n 0) = 0 := (num_zero_iff _).2 (fun _ hd => List.eq_of_mem_replicate hd)
theorem map_getD (D : List Nat) : (List.range D.length).map (fun i => D.getD i 0) = D := by
  apply List.ext_getElem
  · simp
  · intro i h1 h2
    simp [List.getD_eq_getElem?_getD, List.getElem?_eq_getElem h2]
theorem range_split (n a : Nat) (h : a ≤ n) : List.range n = List.range a ++ (List.range (n - a)).map (a + ·) := by
  obtain ⟨b, rfl⟩ : ∃ b, n = a + b := ⟨n - a, by omega⟩
  rw [List.range_add, Nat.add_sub_cancel_left]
theorem next_shape (D : List Nat) (z : Nat) (h : Nines D z) :
    (z = D.length ∧ nextL D z = 1 :: List.replicate D.length 0) ∨
    (∃ (A : List Nat) (x : Nat), z < D.length ∧ D = A ++ x :: List.replicate z 9 ∧ x ≠ 9 ∧ nextL D z = A ++ (x + 1) :: List.replicate z 0) := by
  obtain ⟨h1, h2, h3⟩ := h
  by_cases hz : z = D.length
  · refine .inl ⟨hz, ?_⟩
    unfold nextL
    rw [if_pos hz]
    simp only [List.cons_append, List.nil_append, List.cons.injEq, true_and]
    rw [List.eq_replicate_iff]
    refine ⟨by simp, fun b hb => ?_⟩
    obtain ⟨i, hi, rfl⟩ := List.mem_map.1 hb
    unfold nextAt; rw [if_pos (by omega)]
  · refine .inr ⟨D.take (D.length - 1 - z), D.getD (D.length - 1 - z) 0, by omega, ?_, h3 (by omega), ?_⟩
    · apply List.ext_getElem?
      intro i
      by_cases hi : i < D.length - 1 - z
      · rw [List.getElem?_append_left (by simp; omega), List.getElem?_take_of_lt hi]
      · rw [List.getElem?_append_right (by simp; omega), List.length_take, Nat.min_eq_left (by omega)]
        by_cases hj : i = D.length - 1 - z
        · subst hj
          rw [Nat.sub_self, List.getElem?_cons_zero, List.getD_eq_getElem?_getD, List.getElem?_eq_getElem (by omega)]; rfl
        · rw [show i - (D.length - 1 - z) = (i - (D.length - z)) + 1 from by omega, List.getElem?_cons_succ, List.getElem?_replicate]
          by_cases hl : i < D.length
          · have := h2 i (by omega) hl
            rw [List.getD_eq_getElem?_getD, List.getElem?_eq_getElem hl] at this
            rw [if_pos (by omega), List.getElem?_eq_getElem hl]
            simpa using this
          · rw [if_neg (by omega), List.getElem?_eq_none (by omega)]
    · unfold nextL
      rw [if_neg hz]
      apply List.ext_getElem?
      intro i
      simp only [List.nil_append]
      rw [List.getElem?_map]
      by_cases hl : i < D.length
      · rw [List.getElem?_range hl]
        simp only [Option.map_some]
        unfold nextAt
        by_cases hi : i < D.length - 1 - z
        · rw [List.getElem?_append_left (by simp; omega), List.getElem?_take_of_lt hi, if_neg (by omega), if_neg (by omega), List.getD_eq_getElem?_getD, List.getElem?_eq_getElem hl]; rfl
        · rw [List.getElem?_append_right (by simp; omega), List.length_take, Nat.min_eq_left (by omega)]
          by_cases hj : i = D.length - 1 - z
          · subst hj
            rw [if_neg (by omega), if_pos (by omega), Nat.sub_self, List.getElem?_cons_zero]
          · rw [if_pos (by omega), show i - (D.length - 1 - z) = (i - (D.length - z)) + 1 from by omega, List.getElem?_cons_succ, List.getElem?_replicate, if_pos (by omega)]
      · rw [List.getElem?_eq_none (by simpa using hl), List.getElem?_eq_none (by simp; omega)]; rfl
theorem num_next (D : List Nat) (z : Nat) (h : Nines D z) : num (nextL D z) = num D + 1 := by
  rcases next_shape D z h with ⟨h1, h2⟩ | ⟨A, x, h1, h2, _, h3⟩
  · rw [h2, num_cons, num_zeros, List.length_replicate]
    have := num_nines D (fun d hd => by
      obtain ⟨i, hi, rfl⟩ := List.mem_iff_getElem.1 hd
      have := h.2.1 i (by omega) hi
      rw [List.getD_eq_getElem?_getD, List.getElem?_eq_getElem hi] at this
      simpa using this)
    omega
  · rw [h3]
    conv => rhs; rw [h2]
    rw [num_append, num_append, num_cons, num_cons, num_zeros]
    have := num_nines (List.replicate z 9) (fun d hd => List.eq_of_mem_replicate hd)
    simp only [List.length_cons, List.length_replicate] at this ⊢
    rw [Nat.add_mul]; omega
theorem digs_next {D : List Nat} {z : Nat} (hd : Digs D) (h : Nines D z) : Digs (nextL D z) := by
  rcases next_shape D z h with ⟨h1, h2⟩ | ⟨A, x, h1, h2, hx, h3⟩
  · rw [h2]; intro d hd
    rcases List.mem_cons.1 hd with rfl | hd
    · omega
    · rw [List.eq_of_mem_replicate hd]; omega
  · rw [h3]; intro d hdd
    have hx9 := hd x (by rw [h2]; simp)
    rcases List.mem_append.1 hdd with g | g
    · exact hd d (by rw [h2]; exact List.mem_append_left _ g)
    · rcases List.mem_cons.1 g with rfl | g
      · omega
      · rw [List.eq_of_mem_replicate g]; omega
theorem headed_next {D : List Nat} {z : Nat} (hd : Headed D) (h : Nines D z) : Headed (nextL D z) := by
  rcases next_shape D z h with ⟨h1, h2⟩ | ⟨A, x, h1, h2, hx, h3⟩
  · rw [h2]; intro h; simp
  · rw [h3]; intro h
    cases A with
    | nil => simp
    | cons a r =>
      have := hd (by omega)
      simp only [h2, List.cons_append, List.getElem_cons_zero] at this ⊢
      exact this
theorem next_length (D : List Nat) (z : Nat) : (nextL D z).length = D.length + (if z = D.length then 1 else 0) := by
  unfold nextL; split <;> simp <;> omega
end Go.Proofs.YtbkdaoicnobllabDoor

/- Plain mathematics: digits of base 16 behind the point. -/
namespace Go.Proofs.YtbkdaoicnobllabDoor

/-- The byte of a digit of base 16. -/
def hexD (d : Nat) : UInt8 := UInt8.ofNat (if d < 10 then 48 + d else 87 + d)
/-- What is left behind i digits of r / u. -/
def hexR (u r i : Nat) : Nat := r * 16 ^ i % u
/-- The first n digits of r / u. -/
def hexP (u r : Nat) : Nat → List UInt8
  | 0 => []
  | n + 1 => hexP u r n ++ [hexD (hexR u r n * 16 / u)]
/-- They are all. -/
def HexEnd (u r n : Nat) : Prop := hexR u r n = 0 ∧ ∀ i, i < n → hexR u r i ≠ 0
theorem HexEnd.same {u r n m : Nat} (h1 : HexEnd u r n) (h2 : HexEnd u r m) : n = m := by
  rcases Nat.lt_trichotomy n m with h | h | h
  · exact absurd h1.1 (h2.2 n h)
  · exact h
  · exact absurd h2.1 (h1.2 m h)
theorem hexR_zero (u r : Nat) (h : r < u) : hexR u r 0 = r := by unfold hexR; rw [Nat.pow_zero, Nat.mul_one, Nat.mod_eq_of_lt h]
theorem hexR_succ (u r i : Nat) : hexR u r (i + 1) = hexR u r i * 16 % u := by
  unfold hexR; rw [Nat.pow_succ, ← Nat.mul_assoc, Nat.mod_mul_mod]
theorem hexR_lt (u r i : Nat) (h : 0 < u) : hexR u r i < u := Nat.mod_lt _ h
theorem hexR_scale (u r s i : Nat) : hexR (u * s) (r * s) i = hexR u r i * s := by
  unfold hexR; rw [Nat.mul_right_comm, Nat.mul_mod_mul_right]
theorem hexP_scale (u r s n : Nat) (hs : 0 < s) : hexP (u * s) (r * s) n = hexP u r n := by
  induction n with
  | zero => rfl
  | succ n ih => simp only [hexP]; rw [ih, hexR_scale, Nat.mul_right_comm, Nat.mul_div_mul_right _ _ hs]
theorem HexEnd.scale {u r s n : Nat} (hs : 0 < s) (h : HexEnd (u * s) (r * s) n) : HexEnd u r n := by
  obtain ⟨h1, h2⟩ := h
  rw [hexR_scale] at h1
  refine ⟨(Nat.mul_eq_zero.1 h1).elim id (fun h => by omega), fun i hi h0 => h2 i hi (by rw [hexR_scale, h0]; simp)⟩
theorem hexR_end (j r i : Nat) (h : j ≤ 4 * i) : hexR (2 ^ j) r i = 0 := by
  unfold hexR
  rw [show (16 : Nat) = 2 ^ 4 from rfl, ← Nat.pow_mul]
  obtain ⟨c, hc⟩ : ∃ c, 4 * i = j + c := ⟨4 * i - j, by omega⟩
  rw [hc, Nat.pow_add, show r * (2 ^ j * 2 ^ c) = 2 ^ j * (r * 2 ^ c) from by grind]
  exact Nat.mul_mod_right _ _
theorem hexR_more (j r i : Nat) (hj : j ≤ 52) (h : hexR (2 ^ j) r i ≠ 0) : i < 13 := by
  apply Nat.lt_of_not_le; intro hi
  exact h (hexR_end j r i (by omega))
theorem hexP_length (u r n : Nat) : (hexP u r n).length = n := by
  induction n with
  | zero => rfl
  | succ n ih => simp [hexP, ih]
/-- A number of j + 1 bits. -/
def Bits (m j : Nat) : Prop := 2 ^ j ≤ m ∧ m < 2 ^ (j + 1)
theorem Bits.same {m j k : Nat} (h1 : Bits m j) (h2 : Bits m k) : j = k := by
  unfold Bits at *
  rcases Nat.lt_trichotomy j k with h | h | h
  · have := Nat.pow_le_pow_right (n := 2) (by omega) (show j + 1 ≤ k from h); omega
  · exact h
  · have := Nat.pow_le_pow_right (n := 2) (by omega) (show k + 1 ≤ j from h); omega
/-- The text of m times 2^e, without its power: m of j + 1 bits, n digits behind the point. -/
def HexText (m : Nat) (e : Int) (T : List UInt8) (E : Int) : Prop := ∃ j n, Bits m j ∧ HexEnd (2 ^ j) (m - 2 ^ j) n ∧ T = hexP (2 ^ j) (m - 2 ^ j) n ∧ E = e + j
theorem HexText.same {m : Nat} {e E E' : Int} {T T' : List UInt8} (h1 : HexText m e T E) (h2 : HexText m e T' E') : T = T' ∧ E = E' := by
  obtain ⟨j, n, a, b, c, d⟩ := h1
  obtain ⟨j', n', a', b', c', d'⟩ := h2
  have := a.same a'; subst this
  have := b.same b'; subst this
  exact ⟨c.trans c'.symm, d.trans d'.symm⟩
end Go.Proofs.YtbkdaoicnobllabDoor

/- Plain mathematics: numbers rounded at a power of ten, and their texts. -/
namespace Go.Proofs.YtbkdaoicnobllabDoor

/-- How many times P, rounded. -/
def rndN (aw : Int → Bool → Bool) (V P : Nat) : Nat := if leftN V P ≠ 0 ∧ aw (leftN V P) (V / P % 2 == 1) = true then V / P + 1 else V / P
/-- So many digits from the first on. -/
def firstL (D : List Nat) (k : Nat) : List Nat := (List.range k).map fun i => D.getD i 0
theorem firstL_length (D : List Nat) (k : Nat) : (firstL D k).length = k := by simp [firstL]
theorem firstL_succ (D : List Nat) (k : Nat) : firstL D (k + 1) = firstL D k ++ [D.getD k 0] := by simp [firstL, List.range_succ]
theorem firstL_take (D : List Nat) (k : Nat) (h : k ≤ D.length) : firstL D k = D.take k := by
  induction k with
  | zero => simp [firstL]
  | succ k ih => rw [firstL_succ, ih (by omega), take_succ_getD D k (by omega)]
theorem firstL_more (D : List Nat) (k : Nat) : firstL D (D.length + k) = D ++ List.replicate k 0 := by
  induction k with
  | zero => rw [Nat.add_zero, firstL_take D _ (Nat.le_refl _), List.take_length]; simp
  | succ k ih =>
    rw [← Nat.add_assoc, firstL_succ, ih, List.replicate_succ', ← List.append_assoc]
    congr 2
    rw [List.getD_eq_getElem?_getD, List.getElem?_eq_none (by omega)]; rfl
theorem firstL_digs {D : List Nat} (h : Digs D) (k : Nat) : Digs (firstL D k) := by
  intro d hd
  obtain ⟨i, _, rfl⟩ := List.mem_map.1 hd
  exact h.getD i
theorem firstL_headed {D : List Nat} (h : Headed D) (hl : 0 < D.length) (k : Nat) : Headed (firstL D k) := by
  intro hk
  have := h hl
  have e : (firstL D k)[0] = D.getD 0 0 := by simp [firstL]
  rw [e, List.getD_eq_getElem?_getD, List.getElem?_eq_getElem hl]; exact this
theorem num_odd (D : List Nat) : num D % 2 = D.getD (D.length - 1) 0 % 2 := by
  rcases List.eq_nil_or_concat D with h | ⟨A, x, h⟩
  · subst h; rfl
  · rw [h, List.concat_eq_append, num_snoc]
    rw [List.getD_eq_getElem?_getD, List.getElem?_append_right (by simp)]
    simp; omega
/-- What is kept of a number in steps of 10^p. -/
theorem kept_num {D : List Nat} (h : Digs D) (K : Nat) (e p : Int) (he : -(K : Int) ≤ e) (hp : -(K : Int) ≤ p) :
    num (firstL D (D.length + e - p).toNat) = val K D e / 10 ^ (p + K).toNat := by
  by_cases h0 : D.length + e - p ≤ 0
  · rw [show (D.length + e - p).toNat = 0 from by omega, val_hi h K e p (by omega) he]; simp [firstL, num_nil]
  · obtain ⟨k, hk⟩ : ∃ k : Nat, (k : Int) = D.length + e - p := ⟨(D.length + e - p).toNat, by omega⟩
    rw [← hk, Int.toNat_natCast]
    by_cases hl : k < D.length
    · rw [firstL_take D k (by omega), (cut_mid h K e p he k hk hl).1]
    · rw [(cut_low D K e p hp k hk (by omega)).1]
      obtain ⟨c, rfl⟩ : ∃ c, k = D.length + c := ⟨k - D.length, by omega⟩
      rw [firstL_more, num_append, num_zeros]; simp
/-- The digits of a rounded number, out of those of the number. -/
def rndL (aw : Int → Bool → Bool) (D : List Nat) (e p : Int) (K z : Nat) : List Nat :=
  if leftN (val K D e) (10 ^ (p + K).toNat) ≠ 0 ∧ aw (leftN (val K D e) (10 ^ (p + K).toNat)) (val K D e / 10 ^ (p + K).toNat % 2 == 1) = true then nextL (firstL D (D.length + e - p).toNat) z else firstL D (D.length + e - p).toNat
/-- What a rounding gives: the digits R of how many times 10^p. -/
structure Rnd (aw : Int → Bool → Bool) (D : List Nat) (e p : Int) (R : List Nat) : Prop where
  digs : Digs R
  headed : Headed R
  nval : ∀ K : Nat, -(K : Int) ≤ e → -(K : Int) ≤ p → num R = rndN aw (val K D e) (10 ^ (p + K).toNat)
  len : R.length ≤ (D.length + e - p).toNat + 1
  ge : (D.length + e - p).toNat ≤ R.length
theorem leftN_mul (V P c : Nat) (hc : 0 < c) : leftN (V * c) (P * c) = leftN V P := by
  unfold leftN
  rw [Nat.mul_mod_mul_right]
  have e1 : (V % P * c = 0) = (V % P = 0) := propext ⟨fun h => (Nat.mul_eq_zero.1 h).elim id (fun h => by omega), fun h => by rw [h]; simp⟩
  have e2 : (2 * (V % P * c) < P * c) = (2 * (V % P) < P) := by
    rw [← Nat.mul_assoc]; simp [Nat.mul_lt_mul_right hc]
  have e3 : (2 * (V % P * c) = P * c) = (2 * (V % P) = P) := by
    rw [← Nat.mul_assoc]
    exact propext ⟨fun h => Nat.eq_of_mul_eq_mul_right hc h, fun h => by rw [h]⟩
  simp only [e1, e2, e3]
theorem rndN_mul (aw : Int → Bool → Bool) (V P c : Nat) (hc : 0 < c) : rndN aw (V * c) (P * c) = rndN aw V P := by
  unfold rndN
  rw [leftN_mul V P c hc, Nat.mul_div_mul_right _ _ hc]
theorem val_more (K c : Nat) (L : List Nat) (e : Int) (h : -(K : Int) ≤ e) : val (K + c) L e = val K L e * 10 ^ c := by
  unfold val
  rw [show (e + ((K + c : Nat) : Int)).toNat = (e + K).toNat + c from by omega, Nat.pow_add, Nat.mul_assoc]
theorem pow_more (K c : Nat) (p : Int) (h : -(K : Int) ≤ p) : 10 ^ (p + ((K + c : Nat) : Int)).toNat = 10 ^ (p + K).toNat * 10 ^ c := by
  rw [show (p + ((K + c : Nat) : Int)).toNat = (p + K).toNat + c from by omega, Nat.pow_add]
theorem left_any (D : List Nat) (e p : Int) (K K2 : Nat) (h1 : -(K : Int) ≤ e) (h2 : -(K : Int) ≤ p) (h3 : -(K2 : Int) ≤ e) (h4 : -(K2 : Int) ≤ p) : leftN (val K D e) (10 ^ (p + K).toNat) = leftN (val K2 D e) (10 ^ (p + K2).toNat) := by
  have key : ∀ K c : Nat, -(K : Int) ≤ e → -(K : Int) ≤ p → leftN (val (K + c) D e) (10 ^ (p + ((K + c : Nat) : Int)).toNat) = leftN (val K D e) (10 ^ (p + K).toNat) := fun K c a b => by
    rw [val_more K c D e a, pow_more K c p b, leftN_mul _ _ _ (Nat.pow_pos (by omega))]
  rcases Nat.le_total K K2 with h | h
  · obtain ⟨c, rfl⟩ : ∃ c, K2 = K + c := ⟨K2 - K, by omega⟩
    exact (key K c h1 h2).symm
  · obtain ⟨c, rfl⟩ : ∃ c, K = K2 + c := ⟨K - K2, by omega⟩
    exact key K2 c h3 h4
theorem Rnd.up {aw : Int → Bool → Bool} {D : List Nat} {e p : Int} {z K : Nat} {left : Int} {odd : Bool} (hd : Digs D) (hh : Headed D) (hl : 0 < D.length) (h1 : -(K : Int) ≤ e) (h2 : -(K : Int) ≤ p) (hz : Nines (firstL D (D.length + e - p).toNat) z)
    (hleft : left = leftN (val K D e) (10 ^ (p + K).toNat)) (hodd : odd = (num (firstL D (D.length + e - p).toNat) % 2 == 1)) (h0 : left ≠ 0) (ha : aw left odd = true) : Rnd aw D e p (nextL (firstL D (D.length + e - p).toNat) z) := by
  refine ⟨digs_next (firstL_digs hd _) hz, headed_next (firstL_headed hh hl _) hz, fun K2 k1 k2 => ?_, ?_, ?_⟩
  · rw [num_next _ _ hz, kept_num hd K2 e p k1 k2]
    unfold rndN
    rw [if_pos]
    rw [← left_any D e p K K2 h1 h2 k1 k2, ← hleft, ← kept_num hd K2 e p k1 k2, ← hodd]
    exact ⟨h0, ha⟩
  · rw [next_length, firstL_length]; split <;> omega
  · rw [next_length, firstL_length]; omega
theorem Rnd.stay {aw : Int → Bool → Bool} {D : List Nat} {e p : Int} {K : Nat} {left : Int} {odd : Bool} (hd : Digs D) (hh : Headed D) (hl : 0 < D.length) (h1 : -(K : Int) ≤ e) (h2 : -(K : Int) ≤ p)
    (hleft : left = leftN (val K D e) (10 ^ (p + K).toNat)) (hodd : odd = (num (firstL D (D.length + e - p).toNat) % 2 == 1)) (ha : left = 0 ∨ aw left odd = false) : Rnd aw D e p (firstL D (D.length + e - p).toNat) := by
  refine ⟨firstL_digs hd _, firstL_headed hh hl _, fun K2 k1 k2 => ?_, ?_, ?_⟩
  · rw [kept_num hd K2 e p k1 k2]
    unfold rndN
    rw [if_neg]
    rw [← left_any D e p K K2 h1 h2 k1 k2, ← hleft, ← kept_num hd K2 e p k1 k2, ← hodd]
    rintro ⟨a, b⟩
    rcases ha with h | h
    · exact a h
    · rw [h] at b; cases b
  · rw [firstL_length]; omega
  · rw [firstL_length]; omega
theorem rndN_le (aw : Int → Bool → Bool) (V P n : Nat) (h : V < n * P) (hP : 0 < P) : rndN aw V P ≤ n := by
  have : V / P < n := (Nat.div_lt_iff_lt_mul hP).2 h
  unfold rndN; split <;> omega
theorem rndN_ge (aw : Int → Bool → Bool) (V P : Nat) : V / P ≤ rndN aw V P := by unfold rndN; split <;> omega
/-- So many digits, the number's first ones, with a nought too many struck. -/
theorem Rnd.cut {aw : Int → Bool → Bool} {D R : List Nat} {e p : Int} {c : Nat} (h : Rnd aw D e p R) (hd : Digs D) (hc : (c : Int) = D.length + e - p) (h0 : 0 < c) : Digs (R.take c) ∧ Headed (R.take c) ∧ (R.take c).length = c ∧
    ∀ K : Nat, -(K : Int) ≤ e → -(K : Int) ≤ p → val K (R.take c) (p + R.length - c) = val K R p := by
  have hge := h.ge
  have hle := h.len
  rw [← hc, Int.toNat_natCast] at hge hle
  refine ⟨h.digs.take c, fun hh => ?_, by rw [List.length_take]; omega, fun K k1 k2 => ?_⟩
  · have := h.headed (by omega)
    simpa using this
  · rcases (by omega : R.length = c ∨ R.length = c + 1) with hr | hr
    · rw [List.take_of_length_le (by omega), show p + (R.length : Int) - c = p from by omega]
    · have hP : 0 < 10 ^ (p + K).toNat := Nat.pow_pos (by omega)
      have hV : val K D e < 10 ^ c * 10 ^ (p + K).toNat := by
        have := val_hi hd K e (p + c) (by omega) k1
        rcases Nat.div_eq_zero_iff.1 this with g | g
        · have : 0 < 10 ^ (p + c + K).toNat := Nat.pow_pos (by omega)
          omega
        · rw [show (p + c + K).toNat = c + (p + K).toNat from by omega, Nat.pow_add] at g; exact g
      have hu := rndN_le aw _ _ _ hV hP
      rw [← h.nval K k1 k2] at hu
      have hlo := h.headed.lo (by omega)
      rw [hr, Nat.add_sub_cancel] at hlo
      have hn : num R = 10 ^ c := by omega
      have ht : num (R.take c) = 10 ^ (c - 1) := by
        rw [num_take h.digs c (by omega), hn, hr, show c + 1 - c = 1 from by omega]
        obtain ⟨d, rfl⟩ : ∃ d, c = d + 1 := ⟨c - 1, by omega⟩
        rw [Nat.pow_succ]; simp
      unfold val
      rw [hn, ht, ← Nat.pow_add, ← Nat.pow_add, show c - 1 + (p + (R.length : Int) - c + K).toNat = c + (p + K).toNat from by rw [hr]; omega]

/-- The text with a power of ten, without the power: n digits behind the first. -/
def sciT (L : List Nat) (e top : Int) (n : Nat) : List UInt8 := rowT L e top 1 ++ (if n = 0 then [] else 46 :: rowT L e (top - 1) n)
/-- The text without a power of ten: from 10^high on, b digits behind the point. -/
def fixT (L : List Nat) (e : Int) (high b : Nat) : List UInt8 := rowT L e high (high + 1) ++ (if b = 0 then [] else 46 :: rowT L e (-1) b)
theorem sciT_same {L M : List Nat} {e g top : Int} {K n : Nat} (h1 : Digs L) (h2 : Digs M) (k1 : -(K : Int) ≤ e) (k2 : -(K : Int) ≤ g) (h : val K L e = val K M g) (hn : -(K : Int) ≤ top - n) : sciT L e top n = sciT M g top n := by
  unfold sciT
  rw [rowT_congr 1 (fun p a b => dig_same h1 h2 k1 k2 h p (by omega)), rowT_congr n (fun p a b => dig_same h1 h2 k1 k2 h p (by omega))]
theorem fixT_same {L M : List Nat} {e g : Int} {K high b : Nat} (h1 : Digs L) (h2 : Digs M) (k1 : -(K : Int) ≤ e) (k2 : -(K : Int) ≤ g) (h : val K L e = val K M g) (hn : b ≤ K) : fixT L e high b = fixT M g high b := by
  unfold fixT
  rw [rowT_congr (high + 1) (fun p a b => dig_same h1 h2 k1 k2 h p (by omega)), rowT_congr b (fun p a b => dig_same h1 h2 k1 k2 h p (by omega))]
/-- The digits of a row, a point behind the first. -/
def expB (D : List Nat) : Nat → List UInt8
  | 0 => []
  | n + 1 => (expB D n ++ if n = 1 then [46] else []) ++ [UInt8.ofNat (48 + D.getD n 0)]
theorem dig_at (D : List Nat) (top : Int) (i : Nat) (hi : i < D.length) : dig D (top - D.length + 1) (top - i) = D.getD i 0 := dig_mid D (by omega) (by omega) i (by omega)
theorem expB_rows (D : List Nat) (top : Int) (n : Nat) (h : n < D.length) : expB D (n + 1) = sciT D (top - D.length + 1) top n := by
  induction n with
  | zero =>
    have := dig_at D top 0 h
    simp at this
    simp [expB, sciT, rowT, this]
  | succ n ih =>
    rw [expB, ih (by omega)]
    unfold sciT
    rw [if_neg (show ¬ n + 1 = 0 by omega)]
    have e1 := dig_at D top (n + 1) h
    rw [show rowT D (top - D.length + 1) (top - 1) (n + 1) = rowT D (top - D.length + 1) (top - 1) n ++ [UInt8.ofNat (48 + dig D (top - D.length + 1) (top - 1 - n))] from rfl, show top - 1 - (n : Int) = top - ((n + 1 : Nat) : Int) from by omega, e1]
    by_cases h0 : n = 0
    · subst h0; simp [rowT]
    · rw [if_neg h0, if_neg (show ¬ n + 1 = 1 by omega)]; simp
/-- The digit in a place from the first on, 0 elsewhere. -/
def dAt (D : List Nat) (i : Int) : Nat := if i < 0 then 0 else D.getD i.toNat 0
theorem dAt_le {D : List Nat} (h : Digs D) (i : Int) : dAt D i ≤ 9 := by
  unfold dAt; split
  · omega
  · exact h.getD _
theorem dig_dAt (D : List Nat) (b i : Int) : dig D (-b) (D.length - b - 1 - i) = dAt D i := by
  unfold dAt
  by_cases h : i < 0
  · rw [if_pos h, dig_hi D (by omega)]
  · rw [if_neg h]
    by_cases h2 : i < D.length
    · exact dig_mid D (by omega) (by omega) i.toNat (by omega)
    · rw [dig_lo D (by omega), List.getD_eq_getElem?_getD, List.getElem?_eq_none (by omega)]; rfl
/-- What is written without a power of ten, out of a row of digits of which b stand behind the point. -/
theorem fix_rows (D : List Nat) (b : Int) :
    ((if D.length - b ≤ 0 then [48] else rowT D (-b) (D.length - b - 1) (D.length - b).toNat) ++ (if 0 < b then [46] else [])) ++ rowT D (-b) (-1) b.toNat = fixT D (-b) (D.length - b - 1).toNat b.toNat := by
  unfold fixT
  have h1 : (if (D.length : Int) - b ≤ 0 then [48] else rowT D (-b) (D.length - b - 1) (D.length - b).toNat) = rowT D (-b) ((D.length - b - 1).toNat : Int) ((D.length - b - 1).toNat + 1) := by
    by_cases h : (D.length : Int) - b ≤ 0
    · rw [if_pos h, show ((D.length : Int) - b - 1).toNat = 0 from by omega]
      simp only [rowT, List.nil_append]
      rw [dig_hi D (by omega)]; rfl
    · rw [if_neg h, show ((D.length : Int) - b).toNat = (D.length - b - 1).toNat + 1 from by omega, show (((D.length : Int) - b - 1).toNat : Int) = D.length - b - 1 from by omega]
  rw [h1]
  by_cases hb : 0 < b
  · rw [if_pos hb, if_neg (show ¬ b.toNat = 0 by omega)]; simp
  · rw [if_neg hb, if_pos (show b.toNat = 0 by omega), show b.toNat = 0 from by omega]; simp [rowT]
end Go.Proofs.YtbkdaoicnobllabDoor
