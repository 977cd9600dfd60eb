import Derived.Test.YtbkdaoicnobllabGreatDoorG23
import Derived.Test.YtbkdaoicnobllabGreatDoorG16
import Derived.Test.YtbkdaoicnobllabGreatDoorG00
import Derived.Test.YtbkdaoicnobllabGreatDoorG22
import Derived.Test.YtbkdaoicnobllabGreatDoorG01

/- Plain mathematics: half of the way between two neighbours, in a format of which Double holds it. -/
namespace Go.Proofs.YtbkdaoicnobllabGreatDoor
set_option exponentiation.threshold 40000

/-- The amount and its neighbour lie in one step of the format. -/
theorem valA_step {K : Nat} (f : Int) (a : Nat) (hK : 1100 ≤ K) : valA K f a = two K (fE f + (xA (fQ f) a : Nat)) * mA (fQ f) a ∧ valA K f (a + 1) = two K (fE f + (xA (fQ f) a : Nat)) * (mA (fQ f) a + 1) := by
  refine ⟨rfl, ?_⟩
  have hp : 0 < 2 ^ fQ f := Nat.pow_pos (by omega)
  have ha : a = a / 2 ^ fQ f * 2 ^ fQ f + a % 2 ^ fQ f := by rw [Nat.mul_comm]; exact (Nat.div_add_mod a _).symm
  have hm : a % 2 ^ fQ f < 2 ^ fQ f := Nat.mod_lt _ hp
  have h := valA_at K f (a / 2 ^ fQ f) (a % 2 ^ fQ f + 1) (by omega) hK
  rw [← Nat.add_assoc, ← ha] at h
  rw [h]
  unfold mA xA
  split
  · rename_i h0
    rw [h0]; simp
  · rename_i h0
    rw [show 2 ^ fQ f + (a % 2 ^ fQ f + 1) = a % 2 ^ fQ f + 2 ^ fQ f + 1 from by omega]
theorem ex_bits (m : Nat) (h : 0 < m) : ∃ j, Bits m j := by
  induction m using Nat.strongRecOn with
  | ind m ih =>
    by_cases h1 : m = 1
    · exact ⟨0, by subst h1; exact ⟨by decide, by decide⟩⟩
    · obtain ⟨j, h2, h3⟩ := ih (m / 2) (by omega) (by omega)
      refine ⟨j + 1, ?_, ?_⟩
      · rw [Nat.pow_succ]; omega
      · rw [Nat.pow_succ]; omega
/-- A double's amount: N / 2^52 times the power of two of lo. -/
def dblN (lo N : Nat) : Nat := (lo - 1) * 2 ^ 52 + N
theorem dbl_val {K : Nat} (lo N : Nat) (hK : 1100 ≤ K) (h0 : 1 ≤ lo) (h1 : 2 ^ 52 ≤ N) (h2 : N ≤ 2 ^ 53) : valA K 2 (dblN lo N) = two K ((lo : Int) - 1075) * N := by
  have h53 : (2 : Nat) ^ 53 = 2 ^ 52 + 2 ^ 52 := by decide
  have e : dblN lo N = lo * 2 ^ fQ 2 + (N - 2 ^ 52) := by
    unfold dblN
    rw [show fQ 2 = 52 from rfl]
    obtain ⟨k, rfl⟩ : ∃ k, lo = k + 1 := ⟨lo - 1, by omega⟩
    rw [Nat.add_mul]; omega
  have hv := valA_at K 2 lo (N - 2 ^ 52) (by rw [show fQ 2 = 52 from rfl]; omega) hK
  rw [e, hv, if_neg (by omega), show fQ 2 = 52 from rfl, show fE 2 = -1074 from rfl, show 2 ^ 52 + (N - 2 ^ 52) = N from by omega]
  congr 2; omega
/-- A number, its neighbour and what lies between, as doubles. -/
structure HalfAt (f : Int) (a lo N D : Nat) : Prop where
  lo1 : 874 ≤ lo
  lo2 : lo ≤ 1150
  n1 : 2 ^ 52 ≤ N
  n2 : N + 2 * D ≤ 2 ^ 53
  d : 2 ≤ D
  v0 : ∀ K : Nat, 1100 ≤ K → valA K f a = two K ((lo : Int) - 1075) * N
  v1 : ∀ K : Nat, 1100 ≤ K → valA K f (a + 1) = two K ((lo : Int) - 1075) * (N + 2 * D)
theorem half_bd {f : Int} (hf : f = 0 ∨ f = 1) {a : Nat} (h1 : (a : Int) < infN f) : -149 ≤ fE f + (xA (fQ f) a : Nat) ∧ fE f + (xA (fQ f) a : Nat) ≤ 104 ∧ mA (fQ f) a < 16777216 := by
  have hl := mA_lt (fQ f) a
  rcases hf with rfl | rfl
  · have hai : (a : Int) < 31744 := h1
    rw [pQ0] at hl
    have e : fE 0 = -24 := rfl
    have x : xA (fQ 0) a = a / 1024 - 1 := by unfold xA; rw [pQ0]
    rw [e, x]; omega
  · have hai : (a : Int) < 2139095040 := h1
    rw [pQ1] at hl
    have e : fE 1 = -149 := rfl
    have x : xA (fQ 1) a = a / 8388608 - 1 := by unfold xA; rw [pQ1]
    rw [e, x]; omega
theorem half_at {f : Int} (hf : f = 0 ∨ f = 1) {a : Nat} (h0 : 0 < a) (h1 : (a : Int) < infN f) : ∃ lo N D, HalfAt f a lo N D := by
  obtain ⟨b1, b2, b3⟩ := half_bd hf h1
  have hv := fun (K : Nat) (hK : 1100 ≤ K) => valA_step (K := K) f a hK
  have hm := mA_pos (fQ f) a h0
  generalize fE f + (xA (fQ f) a : Nat) = s at *
  generalize mA (fQ f) a = M at *
  obtain ⟨j, hj1, hj2⟩ := ex_bits M hm
  have hj : j ≤ 23 := by
    apply Nat.le_of_not_lt; intro hlt
    have h2 : 2 ^ 24 ≤ 2 ^ j := Nat.pow_le_pow_right (by omega) hlt
    have h3 : (2 : Nat) ^ 24 = 16777216 := by decide
    omega
  obtain ⟨c, hc⟩ : ∃ c : Nat, j + c = 51 := ⟨51 - j, by omega⟩
  have hP : 2 ^ (c + 1) = 2 * 2 ^ c := by rw [Nat.pow_succ, Nat.mul_comm]
  have hl1 : 2 ^ 52 = 2 ^ j * 2 ^ (c + 1) := by rw [← Nat.pow_add]; congr 1; omega
  have hl2 : 2 ^ 53 = 2 ^ (j + 1) * 2 ^ (c + 1) := by rw [← Nat.pow_add]; congr 1; omega
  have hd : 2 ≤ 2 ^ c := by
    have : 2 ^ 1 ≤ 2 ^ c := Nat.pow_le_pow_right (by omega) (by omega)
    omega
  have key : ∀ K : Nat, 1100 ≤ K → two K s = two K ((((s + j + 1023).toNat : Nat) : Int) - 1075) * 2 ^ (c + 1) := fun K hK => by
    rw [← two_mul K _ (by omega)]; congr 1; omega
  refine ⟨(s + j + 1023).toNat, M * 2 ^ (c + 1), 2 ^ c, by omega, by omega, ?_, ?_, hd, fun K hK => ?_, fun K hK => ?_⟩
  · rw [hl1]; exact Nat.mul_le_mul_right _ hj1
  · rw [hl2, ← hP, ← Nat.succ_mul]; exact Nat.mul_le_mul_right _ hj2
  · rw [(hv K hK).1, key K hK, Nat.mul_assoc, Nat.mul_comm (2 ^ (c + 1))]
  · rw [(hv K hK).2, key K hK, Nat.mul_assoc, ← hP, Nat.mul_comm (2 ^ (c + 1)), Nat.add_mul, Nat.one_mul]
theorem HalfAt.dbl {f : Int} {a lo N D : Nat} (h : HalfAt f a lo N D) (K : Nat) (hK : 1100 ≤ K) (d : Nat) (hd : d ≤ 2 * D) : valA K 2 (dblN lo (N + d)) = two K ((lo : Int) - 1075) * (N + d) := by
  have a1 := h.lo1
  have a2 := h.n1
  have a3 := h.n2
  exact dbl_val lo (N + d) hK (by omega) (by omega) (by omega)
theorem HalfAt.lt {f : Int} {a lo N D : Nat} (h : HalfAt f a lo N D) (d : Nat) (hd : d ≤ 2 * D) : dblN lo (N + d) < 5200000000000000000 ∧ 3900000000000000000 ≤ dblN lo (N + d) := by
  have a0 := h.lo1
  have a1 := h.lo2
  have a2 := h.n1
  have a3 := h.n2
  unfold dblN
  have e1 : (2 : Nat) ^ 52 = 4503599627370496 := by decide
  have e2 : (2 : Nat) ^ 53 = 9007199254740992 := by decide
  rw [e1] at a2 ⊢
  rw [e2] at a3
  omega
theorem HalfAt.fits {f : Int} {a lo N D : Nat} (h : HalfAt f a lo N D) (d : Nat) (hd : d ≤ 2 * D) : Fits (valA 3000 2 (dblN lo (N + d))) 300 := by
  have a0 := h.lo1
  have a1 := h.lo2
  have a3 := h.n2
  rw [h.dbl 3000 (by omega) d hd]
  have hN : N + d ≤ 9007199254740992 := by
    have e2 : (2 : Nat) ^ 53 = 9007199254740992 := by decide
    omega
  intro k hk0 hk
  refine two_exact (fun h => ?_) (fun h => ?_) hk0 hk
  · have h5 : 5 ^ (-((lo : Int) - 1075)).toNat ≤ 5 ^ 201 := Nat.pow_le_pow_right (by omega) (by omega)
    exact Nat.lt_of_le_of_lt (Nat.mul_le_mul hN h5) (by decide +kernel)
  · have h5 : 2 ^ ((lo : Int) - 1075).toNat ≤ 2 ^ 75 := Nat.pow_le_pow_right (by omega) (by omega)
    exact Nat.lt_of_le_of_lt (Nat.mul_le_mul hN h5) (by decide +kernel)
theorem hexQ_says {f : Int} {a : Nat} {T : List UInt8} (hf : 0 ≤ f ∧ f ≤ 2) (h0 : 0 < a) (h1 : (a : Int) < infN f) (h : HexQ f a T) : Says (chs (str T)) (valA 30000 f a) := by
  rcases h with ⟨h, _⟩ | ⟨_, T0, E, h, rfl⟩
  · omega
  · obtain ⟨b1, b2, b3⟩ := sx_bd hf h1
    have hl := mA_lt (fQ f) a
    have hm : mA (fQ f) a < 9007199254740992 := by
      rcases (by omega : f = 0 ∨ f = 1 ∨ f = 2) with rfl | rfl | rfl
      · rw [pQ0] at hl; omega
      · rw [pQ1] at hl; omega
      · rw [pQ2] at hl; omega
    exact hexText_says h hm (by omega) (by omega)
theorem hexQ_length {f : Int} {a : Nat} {T : List UInt8} (hf : 0 ≤ f ∧ f ≤ 2) (h1 : (a : Int) < infN f) (h : HexQ f a T) : T.length ≤ 40 := by
  rcases h with ⟨_, rfl⟩ | ⟨_, T0, E, ⟨j, n, hb, hx, rfl, rfl⟩, rfl⟩
  · decide
  · obtain ⟨b1, b2, b3⟩ := sx_bd hf h1
    have hl := mA_lt (fQ f) a
    have hm : mA (fQ f) a < 9007199254740992 := by
      rcases (by omega : f = 0 ∨ f = 1 ∨ f = 2) with rfl | rfl | rfl
      · rw [pQ0] at hl; omega
      · rw [pQ1] at hl; omega
      · rw [pQ2] at hl; omega
    have hj := bits_le hb (by omega) hm
    have hn := hexEnd_le hj hx
    have hi := (itoa_two (fE f + (xA (fQ f) a : Nat) + j) (by omega) (by omega)).2.2
    have hpl := hexP_length (2 ^ j) (mA (fQ f) a - 2 ^ j) n
    unfold hexS ptd
    split
    · simp; omega
    · simp [hpl]; omega
/-- What Hex writes is read as a double. -/
theorem HalfAt.parse {f : Int} {a lo N D : Nat} (h : HalfAt f a lo N D) (hf : f = 0 ∨ f = 1) (h0 : 0 < a) (h1 : (a : Int) < infN f) {T : List UInt8} {b fl at' err : Int} (hT : HexQ f a T) (hp : PParse (str T) 2 0 b fl at' err) : b = dblN lo N ∧ fl = 0 := by
  have hs := prog_spec (K := 30000) (by omega) hp
  have hl := hexQ_length (by omega) h1 hT
  obtain ⟨_, _, r, q3, q4⟩ := (hexQ_says (by omega) h0 h1 hT).reads (neg := false) (by show (chs (str T)).length ≤ 900; rw [chs_str, List.length_map]; omega) (by omega) hs
  have hv : valA 30000 f a = valA 30000 2 (dblN lo N) := by
    rw [h.v0 30000 (by omega)]
    exact (h.dbl 30000 (by omega) 0 (by omega)).symm
  rw [hv] at q3
  have hlt := (h.lt 0 (by omega)).1
  obtain ⟨z1, z2⟩ := round_self (by omega) (by show dblN lo N < 9218868437227405312; simp only [Nat.add_zero] at hlt; omega) q3
  exact ⟨by rw [q4, ← z1]; rfl, z2⟩
theorem HalfAt.parse2 {f : Int} {a lo N D : Nat} (h : HalfAt f a lo N D) (hf : f = 0 ∨ f = 1) (h1 : ((a + 1 : Nat) : Int) < infN f) {T : List UInt8} {b fl at' err : Int} (hT : HexQ f (a + 1) T) (hp : PParse (str T) 2 0 b fl at' err) : b = dblN lo (N + 2 * D) ∧ fl = 0 := by
  have hs := prog_spec (K := 30000) (by omega) hp
  have hl := hexQ_length (by omega) h1 hT
  obtain ⟨_, _, r, q3, q4⟩ := (hexQ_says (by omega) (by omega) h1 hT).reads (neg := false) (by show (chs (str T)).length ≤ 900; rw [chs_str, List.length_map]; omega) (by omega) hs
  have hv : valA 30000 f (a + 1) = valA 30000 2 (dblN lo (N + 2 * D)) := by
    rw [h.v1 30000 (by omega)]
    exact (h.dbl 30000 (by omega) (2 * D) (by omega)).symm
  rw [hv] at q3
  have hlt := (h.lt (2 * D) (by omega)).1
  obtain ⟨z1, z2⟩ := round_self (by omega) (by show dblN lo (N + 2 * D) < 9218868437227405312; omega) q3
  exact ⟨by rw [q4, ← z1]; rfl, z2⟩
theorem mid_round {f m b fl : Int} {a X : Nat} (hf : 0 ≤ f ∧ f ≤ 2) (h1 : a + 1 < infN f) (hx1 : valA 3000 f a < X) (hx2 : X < valA 3000 f (a + 1)) (h : RoundSpec 3000 f m false X b fl) :
    b = (if awayB m false (cmpN (X * 2) (valA 3000 f a + valA 3000 f (a + 1)) + 2) (a % 2 == 1) = true then (a : Int) + 1 else a) ∧ fl = if a < 2 ^ fQ f then 5 else 1 := by
  have hF := fmt_of hf
  have hlow := valA_low (K := 3000) hF (by omega)
  rcases h with ⟨g0, _⟩ | ⟨_, g1, _⟩ | ⟨g0, g1, a2, ga, g2, g3, g4⟩
  · omega
  · have := valA_mono 3000 f (by omega) (show a + 1 ≤ infN f by omega)
    omega
  · have hab := valA_one (K := 3000) (by omega) (Nat.le_of_lt hx1) hx2 g2 g3
    subst hab
    rcases g4 with ⟨g4, _⟩ | ⟨_, g5, g6⟩
    · omega
    · refine ⟨g5, ?_⟩
      have hr : b ≠ infN f := by rw [g5]; split <;> omega
      rw [g6, if_neg hr]
      by_cases hl : a < 2 ^ fQ f
      · have := valA_mono 3000 f (by omega) (show a + 1 ≤ 2 ^ fQ f from hl)
        rw [if_pos hl, if_pos (by omega)]; rfl
      · have := valA_mono 3000 f (by omega) (show 2 ^ fQ f ≤ a by omega)
        rw [if_neg hl, if_neg (by omega)]; rfl
/-- What is printed of a number between the two is read as one of them. -/
theorem HalfAt.reads {f : Int} {a lo N D d : Nat} (h : HalfAt f a lo N D) (hf : f = 0 ∨ f = 1) (h1 : a + 1 < infN f) (hd1 : 0 < d) (hd2 : d < 2 * D) {T : List UInt8} {m b fl at' err : Int} (hm : 0 ≤ m ∧ m ≤ 4) (hT : ExpQ (awayB 0 false) (valA 3000 2 (dblN lo (N + d))) 300 T) (hp : PParse (str T) f m b fl at' err) :
    b = (if awayB m false (cmpN d D + 2) (a % 2 == 1) = true then (a : Int) + 1 else a) ∧ fl = (if a < 2 ^ fQ f then 5 else 1) ∧ at' = 0 ∧ err = 0 := by
  have hs := prog_spec (K := 30000) (by omega) hp
  have hv : 0 ≤ f ∧ f ≤ 2 ∧ 0 ≤ m ∧ m ≤ 4 := ⟨by omega, by omega, hm.1, hm.2⟩
  have hlt := h.lt d (by omega)
  have hbd := valA_bd (f := 2) (a := dblN lo (N + d)) (by omega) (by omega) (by show ((dblN lo (N + d) : Nat) : Int) < (9218868437227405312 : Nat); omega)
  have e1 : 10 ^ 2610 ≤ valA 3000 2 (dblN lo (N + d)) := Nat.le_trans (Nat.pow_le_pow_right (by omega) (by omega)) hbd.1
  have e2 : valA 3000 2 (dblN lo (N + d)) < 10 ^ 3390 := Nat.lt_of_lt_of_le hbd.2 (Nat.pow_le_pow_right (by omega) (by omega))
  obtain ⟨q1, q2, q3⟩ := fit_reads (by omega) (h.fits d (by omega)) e1 e2 hv hT hs
  rw [h.dbl 3000 (by omega) d (by omega)] at q3
  have v0 := h.v0 3000 (by omega)
  have v1 := h.v1 3000 (by omega)
  have ht := two_pos 3000 ((lo : Int) - 1075)
  generalize two 3000 ((lo : Int) - 1075) = t at *
  obtain ⟨z1, z2⟩ := mid_round (by omega) h1 (by rw [v0]; exact Nat.mul_lt_mul_of_pos_left (by omega) ht) (by rw [v1]; exact Nat.mul_lt_mul_of_pos_left (by omega) ht) q3
  have hc : cmpN (t * (N + d) * 2) (valA 3000 f a + valA 3000 f (a + 1)) = cmpN d D := by
    rw [v0, v1, ← Nat.mul_add, Nat.mul_assoc]
    rcases Nat.lt_trichotomy d D with g | g | g
    · rw [cmpN_lt g, cmpN_lt (Nat.mul_lt_mul_of_pos_left (by omega) ht)]
    · rw [cmpN_eq g, cmpN_eq (by congr 1; omega)]
    · rw [cmpN_gt g, cmpN_gt (Nat.mul_lt_mul_of_pos_left (by omega) ht)]
  rw [hc] at z1
  exact ⟨z1, z2, q1, q2⟩
end Go.Proofs.YtbkdaoicnobllabGreatDoor

/- Plain mathematics: the decimals that are rounded to one number. -/
namespace Go.Proofs.YtbkdaoicnobllabGreatDoor

/-- X lies within the points half of the way to the neighbours of the amount a; these belong to it if a is even. -/
def Hold (K : Nat) (f : Int) (a X : Nat) : Prop :=
  if a % 2 = 0 then valA K f (a - 1) + valA K f a ≤ X * 2 ∧ X * 2 ≤ valA K f a + valA K f (a + 1) else valA K f (a - 1) + valA K f a < X * 2 ∧ X * 2 < valA K f a + valA K f (a + 1)
theorem Hold.iff (K : Nat) (f : Int) (a X : Nat) : Hold K f a X ↔ (a % 2 = 0 ∧ valA K f (a - 1) + valA K f a ≤ X * 2 ∧ X * 2 ≤ valA K f a + valA K f (a + 1)) ∨ (¬ a % 2 = 0 ∧ valA K f (a - 1) + valA K f a < X * 2 ∧ X * 2 < valA K f a + valA K f (a + 1)) := by
  unfold Hold; split <;> rename_i h <;> simp [h]
theorem away_zero (half : Int) (odd : Bool) : awayB 0 false half odd = (half == 3 || (half == 2 && odd)) := rfl
theorem round_hold {K : Nat} {f : Int} {X a : Nat} {r fl : Int} (hK : 1100 ≤ K) (hX : 0 < X) (ha : 0 < a) (ha2 : a < infN f) (h : RoundSpec K f 0 false X r fl) : r = (a : Int) ↔ Hold K f a X := by
  have m1 := valA_lt K f (a - 1) hK
  rw [show a - 1 + 1 = a from by omega] at m1
  have m2 := valA_lt K f a hK
  rw [Hold.iff]
  rcases h with ⟨h0, _⟩ | ⟨_, h1, _, h2⟩ | ⟨_, _, a0, h1, h2, h3, h4⟩
  · omega
  · have m3 := valA_mono K f hK (show a + 1 ≤ infN f from ha2)
    have : awayB 0 false 3 true = true := rfl
    rw [if_pos this] at h2
    constructor
    · intro h; omega
    · intro h; omega
  · rcases h4 with ⟨h5, h6, _⟩ | ⟨h5, h6, _⟩
    · rcases Nat.lt_trichotomy a0 a with hl | hl | hl
      · have m3 := valA_mono K f hK (show a0 ≤ a - 1 by omega)
        constructor <;> intro h <;> omega
      · subst hl
        constructor
        · intro _; by_cases he : a0 % 2 = 0
          · exact .inl ⟨he, by omega, by omega⟩
          · exact .inr ⟨he, by omega, by omega⟩
        · intro _; exact h6
      · have m3 := valA_mono K f hK (show a + 1 ≤ a0 by omega)
        constructor <;> intro h <;> omega
    · rw [away_zero] at h6
      rcases (by omega : a0 + 1 < a ∨ a0 + 1 = a ∨ a0 = a ∨ a < a0) with hl | hl | hl | hl
      · have m3 := valA_mono K f hK (show a0 + 1 ≤ a - 1 by omega)
        constructor
        · intro h; split at h6 <;> omega
        · intro h; omega
      · subst hl
        rw [show a0 + 1 - 1 = a0 from by omega] at *
        rcases Nat.lt_trichotomy (X * 2) (valA K f a0 + valA K f (a0 + 1)) with hc | hc | hc
        · rw [cmpN_lt hc] at h6
          have e : ((-1 + 2 : Int) == 3 || ((-1 + 2 : Int) == 2 && (a0 % 2 == 1))) = false := rfl
          rw [e] at h6
          simp at h6
          constructor <;> intro h <;> omega
        · rw [cmpN_eq hc] at h6
          by_cases ho : a0 % 2 = 1
          · have e : ((0 + 2 : Int) == 3 || ((0 + 2 : Int) == 2 && (a0 % 2 == 1))) = true := by rw [ho]; rfl
            rw [e] at h6
            simp at h6
            constructor <;> intro h <;> omega
          · have e : ((0 + 2 : Int) == 3 || ((0 + 2 : Int) == 2 && (a0 % 2 == 1))) = false := by rw [show a0 % 2 = 0 from by omega]; rfl
            rw [e] at h6
            simp at h6
            constructor <;> intro h <;> omega
        · rw [cmpN_gt hc] at h6
          have e : ((1 + 2 : Int) == 3 || ((1 + 2 : Int) == 2 && (a0 % 2 == 1))) = true := rfl
          rw [e] at h6
          simp at h6
          constructor <;> intro h <;> omega
      · subst hl
        rcases Nat.lt_trichotomy (X * 2) (valA K f a0 + valA K f (a0 + 1)) with hc | hc | hc
        · rw [cmpN_lt hc] at h6
          have e : ((-1 + 2 : Int) == 3 || ((-1 + 2 : Int) == 2 && (a0 % 2 == 1))) = false := rfl
          rw [e] at h6
          simp at h6
          constructor <;> intro h <;> omega
        · rw [cmpN_eq hc] at h6
          by_cases ho : a0 % 2 = 1
          · have e : ((0 + 2 : Int) == 3 || ((0 + 2 : Int) == 2 && (a0 % 2 == 1))) = true := by rw [ho]; rfl
            rw [e] at h6
            simp at h6
            constructor <;> intro h <;> omega
          · have e : ((0 + 2 : Int) == 3 || ((0 + 2 : Int) == 2 && (a0 % 2 == 1))) = false := by rw [show a0 % 2 = 0 from by omega]; rfl
            rw [e] at h6
            simp at h6
            constructor <;> intro h <;> omega
        · rw [cmpN_gt hc] at h6
          have e : ((1 + 2 : Int) == 3 || ((1 + 2 : Int) == 2 && (a0 % 2 == 1))) = true := rfl
          rw [e] at h6
          simp at h6
          constructor <;> intro h <;> omega
      · have m3 := valA_mono K f hK (show a + 1 ≤ a0 by omega)
        constructor
        · intro h; split at h6 <;> omega
        · intro h; omega
end Go.Proofs.YtbkdaoicnobllabGreatDoor

/- Plain mathematics: the shortest decimal that is rounded to an amount. -/
namespace Go.Proofs.YtbkdaoicnobllabGreatDoor
open Go.RowKit

/-- X is picked in steps of P: H says which are rounded to the amount. -/
def StepYes (H : Nat → Prop) (V P X : Nat) : Prop :=
  (V % P = 0 ∧ X = V) ∨ (V % P ≠ 0 ∧ ((H (V / P * P) ∧ H (V / P * P + P) ∧ X = rndN (awayB 0 false) V P * P) ∨ (H (V / P * P) ∧ ¬ H (V / P * P + P) ∧ X = V / P * P) ∨ (¬ H (V / P * P) ∧ H (V / P * P + P) ∧ X = V / P * P + P)))
def StepNo (H : Nat → Prop) (V P : Nat) : Prop := V % P ≠ 0 ∧ ¬ H (V / P * P) ∧ ¬ H (V / P * P + P)
theorem StepYes.same {H : Nat → Prop} {V P X X' : Nat} (h : StepYes H V P X) (h' : StepYes H V P X') : X = X' := by
  rcases h with ⟨a, b⟩ | ⟨a, b⟩
  · rcases h' with ⟨a', b'⟩ | ⟨a', b'⟩
    · rw [b, b']
    · exact absurd a a'
  · rcases h' with ⟨a', b'⟩ | ⟨a', b'⟩
    · exact absurd a' a
    · rcases b with ⟨c, d, e⟩ | ⟨c, d, e⟩ | ⟨c, d, e⟩
      · rcases b' with ⟨c', d', e'⟩ | ⟨c', d', e'⟩ | ⟨c', d', e'⟩
        · rw [e, e']
        · exact absurd d d'
        · exact absurd c c'
      · rcases b' with ⟨c', d', e'⟩ | ⟨c', d', e'⟩ | ⟨c', d', e'⟩
        · exact absurd d' d
        · rw [e, e']
        · exact absurd c c'
      · rcases b' with ⟨c', d', e'⟩ | ⟨c', d', e'⟩ | ⟨c', d', e'⟩
        · exact absurd c' c
        · exact absurd c' c
        · rw [e, e']
theorem StepYes.not {H : Nat → Prop} {V P X : Nat} (h : StepYes H V P X) : ¬ StepNo H V P := by
  rintro ⟨n0, n1, n2⟩
  rcases h with ⟨a, b⟩ | ⟨a, b⟩
  · exact n0 a
  · rcases b with ⟨c, d, e⟩ | ⟨c, d, e⟩ | ⟨c, d, e⟩
    · exact n1 c
    · exact n1 c
    · exact n2 d
theorem left_zero (V P : Nat) : leftN V P = 0 ↔ V % P = 0 := by
  unfold leftN
  constructor
  · intro h; split at h
    · assumption
    · split at h
      · omega
      · split at h <;> omega
  · intro h; rw [if_pos h]
theorem rnd_cut (V P : Nat) : rndN (awayB 2 false) V P = V / P := by
  unfold rndN; rw [if_neg]; rintro ⟨_, h⟩; rw [show awayB 2 false (leftN V P) (V / P % 2 == 1) = false from rfl] at h; cases h
theorem rnd_up (V P : Nat) (h : V % P ≠ 0) : rndN (awayB 3 false) V P = V / P + 1 := by
  unfold rndN; rw [if_pos]
  exact ⟨fun h0 => h ((left_zero V P).1 h0), rfl⟩
theorem rnd_exact (aw : Int → Bool → Bool) (V P : Nat) (h : V % P = 0) : rndN aw V P * P = V := by
  unfold rndN
  rw [if_neg (fun hh => hh.1 ((left_zero V P).2 h))]
  have := Nat.div_add_mod V P
  rw [h, Nat.add_zero, Nat.mul_comm] at this; exact this
theorem rnd_either (aw : Int → Bool → Bool) (V P : Nat) : rndN aw V P * P = V / P * P ∨ rndN aw V P * P = V / P * P + P := by
  unfold rndN; split
  · right; rw [Nat.add_mul, Nat.one_mul]
  · left; rfl
/-- The first of the three that holds is picked. -/
theorem step_even {H : Nat → Prop} {V P : Nat} (h : H (rndN (awayB 0 false) V P * P)) : StepYes H V P (rndN (awayB 0 false) V P * P) := by
  by_cases h0 : V % P = 0
  · exact .inl ⟨h0, rnd_exact _ V P h0⟩
  · right; refine ⟨h0, ?_⟩
    rcases rnd_either (awayB 0 false) V P with e | e
    · by_cases h1 : H (V / P * P + P)
      · exact .inl ⟨by rw [e] at h; exact h, h1, rfl⟩
      · exact .inr (.inl ⟨by rw [e] at h; exact h, h1, e⟩)
    · by_cases h1 : H (V / P * P)
      · exact .inl ⟨h1, by rw [e] at h; exact h, rfl⟩
      · exact .inr (.inr ⟨h1, by rw [e] at h; exact h, e⟩)
theorem step_up {H : Nat → Prop} {V P : Nat} (hV : H V) (h0 : ¬ H (rndN (awayB 0 false) V P * P)) (h : H (rndN (awayB 3 false) V P * P)) : StepYes H V P (rndN (awayB 3 false) V P * P) := by
  have hm : V % P ≠ 0 := fun hm => h0 (by rw [rnd_exact _ V P hm]; exact hV)
  have hu : rndN (awayB 3 false) V P * P = V / P * P + P := by rw [rnd_up V P hm, Nat.add_mul, Nat.one_mul]
  rw [hu] at h ⊢
  rcases rnd_either (awayB 0 false) V P with e | e
  · exact .inr ⟨hm, .inr (.inr ⟨by rw [e] at h0; exact h0, h, rfl⟩)⟩
  · rw [e] at h0; exact absurd h h0
theorem step_cut {H : Nat → Prop} {V P : Nat} (hV : H V) (h0 : ¬ H (rndN (awayB 0 false) V P * P)) (h1 : ¬ H (rndN (awayB 3 false) V P * P)) (h : H (rndN (awayB 2 false) V P * P)) : StepYes H V P (rndN (awayB 2 false) V P * P) := by
  have hm : V % P ≠ 0 := fun hm => h0 (by rw [rnd_exact _ V P hm]; exact hV)
  have hu : rndN (awayB 3 false) V P * P = V / P * P + P := by rw [rnd_up V P hm, Nat.add_mul, Nat.one_mul]
  rw [hu] at h1
  rw [rnd_cut] at h ⊢
  exact .inr ⟨hm, .inr (.inl ⟨h, h1, rfl⟩)⟩
theorem step_none {H : Nat → Prop} {V P : Nat} (hV : H V) (h0 : ¬ H (rndN (awayB 0 false) V P * P)) (h1 : ¬ H (rndN (awayB 3 false) V P * P)) (h : ¬ H (rndN (awayB 2 false) V P * P)) : StepNo H V P := by
  have hm : V % P ≠ 0 := fun hm => h0 (by rw [rnd_exact _ V P hm]; exact hV)
  have hu : rndN (awayB 3 false) V P * P = V / P * P + P := by rw [rnd_up V P hm, Nat.add_mul, Nat.one_mul]
  rw [hu] at h1
  rw [rnd_cut] at h
  exact ⟨hm, h, h1⟩
theorem hold_self (K : Nat) (f : Int) (a : Nat) (hK : 1100 ≤ K) (ha : 0 < a) : Hold K f a (valA K f a) := by
  have m1 := valA_lt K f (a - 1) hK
  rw [show a - 1 + 1 = a from by omega] at m1
  have m2 := valA_lt K f a hK
  rw [Hold.iff]
  by_cases h : a % 2 = 0
  · exact .inl ⟨h, by omega, by omega⟩
  · exact .inr ⟨h, by omega, by omega⟩
/-- The picked decimal, in the least steps that pick one. -/
structure ShortAt (f : Int) (a : Nat) (D : List Nat) (e p : Int) (X : Nat) : Prop where
  digs : Digs D
  headed : Headed D
  pos : 0 < D.length
  lo : -(3000 : Int) ≤ e
  val : val 3000 D e = valA 3000 f a
  le : p ≤ e + D.length - 1
  yes : StepYes (Hold 3000 f a) (valA 3000 f a) (10 ^ (p + (3000 : Nat)).toNat) X
  no : ∀ q, p < q → q ≤ e + D.length - 1 → StepNo (Hold 3000 f a) (valA 3000 f a) (10 ^ (q + (3000 : Nat)).toNat)
theorem ShortAt.same {f : Int} {a : Nat} {D D' : List Nat} {e e' p p' : Int} {X X' : Nat} (h : ShortAt f a D e p X) (h' : ShortAt f a D' e' p' X') : X = X' := by
  have ht := top_same (K := 3000) h.digs h'.digs h.headed h'.headed h.pos h'.pos h.lo h'.lo (h.val.trans h'.val.symm)
  rcases Int.lt_trichotomy p p' with hp | hp | hp
  · exact absurd (h.no p' hp (by have := h'.le; omega)) h'.yes.not
  · subst hp; exact h.yes.same h'.yes
  · exact absurd (h'.no p hp (by have := h.le; omega)) h.yes.not
/-- The shortest text, plain or with a power of ten. -/
def shortT (pl : Bool) (L : List Nat) (g : Int) : List UInt8 :=
  if pl = true then fixT L g (highN L g) (-(min g 0)).toNat else sciT L g (g + L.length - 1) (L.length - 1) ++ (101 :: Lib.itoa (g + L.length - 1))
def ShortQ (pl : Bool) (f : Int) (a : Nat) (T : List UInt8) : Prop :=
  (a = 0 ∧ T = [48]) ∨ (0 < a ∧ ∃ D e p X L g, ShortAt f a D e p X ∧ Norm L ∧ L ≠ [] ∧ -(3000 : Int) ≤ g ∧ val 3000 L g = X ∧ T = shortT pl L g)
theorem norm_same {L M : List Nat} {g k : Int} (h1 : Norm L) (h2 : Norm M) (l : L ≠ []) (a : -(3000 : Int) ≤ g) (b : -(3000 : Int) ≤ k) (h : val 3000 L g = val 3000 M k) : L = M ∧ g = k := by
  unfold val at h
  obtain ⟨e1, e2⟩ := norm_unique h1 h2 h
  have := e2 l
  exact ⟨e1, by omega⟩
theorem ShortQ.same {pl : Bool} {f : Int} {a : Nat} {T T' : List UInt8} (h : ShortQ pl f a T) (h' : ShortQ pl f a T') : T = T' := by
  rcases h with ⟨h0, rfl⟩ | ⟨h0, D, e, p, X, L, g, h1, h2, h3, h4, h5, rfl⟩
  · rcases h' with ⟨_, rfl⟩ | ⟨h0', _⟩
    · rfl
    · omega
  · rcases h' with ⟨h0', _⟩ | ⟨_, D', e', p', X', L', g', h1', h2', h3', h4', h5', rfl⟩
    · omega
    · obtain ⟨rfl, rfl⟩ := norm_same h2 h2' h3 h4 h4' (h5.trans ((h1.same h1').trans h5'.symm))
      rfl
end Go.Proofs.YtbkdaoicnobllabGreatDoor
