import Derived.Test.YtbkdaoicnobllaaGreatDoorG23
import Derived.Test.YtbkdaoicnobllaaGreatDoorG16
import Derived.Test.YtbkdaoicnobllaaGreatDoorG02
import Derived.Test.YtbkdaoicnobllaaGreatDoorG07

/- Plain mathematics: half of the way between two neighbours, in a format of which Double holds it. -/
namespace Go.Proofs.YtbkdaoicnobllaaGreatDoor
set_option exponentiation.threshold 40000

/-- The amount and its neighbour lie in one step of the format. -/
theorem valA_step {K : Nat} (f : Int) (a : Nat) (hK : 1100 ≤ K) : valA K f a = two K (fE f + (xA (fQ f) a : Nat)) * mA (fQ f) a ∧ valA K f (a + 1) = two K (fE f + (xA (fQ f) a : Nat)) * (mA (fQ f) a + 1) := by
  refine ⟨rfl, ?_⟩
  have hp : 0 < 2 ^ fQ f := Nat.pow_pos (by omega)
  have ha : a = a / 2 ^ fQ f * 2 ^ fQ f + a % 2 ^ fQ f := by rw [Nat.mul_comm]; exact (Nat.div_add_mod a _).symm
  have hm : a % 2 ^ fQ f < 2 ^ fQ f := Nat.mod_lt _ hp
  have h := valA_at K f (a / 2 ^ fQ f) (a % 2 ^ fQ f + 1) (by omega) hK
  rw [← Nat.add_assoc, ← ha] at h
  rw [h]
  unfold mA xA
  split
  · rename_i h0
    rw [h0]; simp
  · rename_i h0
    rw [show 2 ^ fQ f + (a % 2 ^ fQ f + 1) = a % 2 ^ fQ f + 2 ^ fQ f + 1 from by omega]
theorem ex_bits (m : Nat) (h : 0 < m) : ∃ j, Bits m j := by
  induction m using Nat.strongRecOn with
  | ind m ih =>
    by_cases h1 : m = 1
    · exact ⟨0, by subst h1; exact ⟨by decide, by decide⟩⟩
    · obtain ⟨j, h2, h3⟩ := ih (m / 2) (by omega) (by omega)
      refine ⟨j + 1, ?_, ?_⟩
      · rw [Nat.pow_succ]; omega
      · rw [Nat.pow_succ]; omega
/-- A double's amount: N / 2^52 times the power of two of lo. -/
def dblN (lo N : Nat) : Nat := (lo - 1) * 2 ^ 52 + N
theorem dbl_val {K : Nat} (lo N : Nat) (hK : 1100 ≤ K) (h0 : 1 ≤ lo) (h1 : 2 ^ 52 ≤ N) (h2 : N ≤ 2 ^ 53) : valA K 2 (dblN lo N) = two K ((lo : Int) - 1075) * N := by
  have h53 : (2 : Nat) ^ 53 = 2 ^ 52 + 2 ^ 52 := by decide
  have e : dblN lo N = lo * 2 ^ fQ 2 + (N - 2 ^ 52) := by
    unfold dblN
    rw [show fQ 2 = 52 from rfl]
    obtain ⟨k, rfl⟩ : ∃ k, lo = k + 1 := ⟨lo - 1, by omega⟩
    rw [Nat.add_mul]; omega
  have hv := valA_at K 2 lo (N - 2 ^ 52) (by rw [show fQ 2 = 52 from rfl]; omega) hK
  rw [e, hv, if_neg (by omega), show fQ 2 = 52 from rfl, show fE 2 = -1074 from rfl, show 2 ^ 52 + (N - 2 ^ 52) = N from by omega]
  congr 2; omega
/-- A number, its neighbour and what lies between, as doubles. -/
structure HalfAt (f : Int) (a lo N D : Nat) : Prop where
  lo1 : 874 ≤ lo
  lo2 : lo ≤ 1150
  n1 : 2 ^ 52 ≤ N
  n2 : N + 2 * D ≤ 2 ^ 53
  d : 2 ≤ D
  v0 : ∀ K : Nat, 1100 ≤ K → valA K f a = two K ((lo : Int) - 1075) * N
  v1 : ∀ K : Nat, 1100 ≤ K → valA K f (a + 1) = two K ((lo : Int) - 1075) * (N + 2 * D)
theorem half_bd {f : Int} (hf : f = 0 ∨ f = 1) {a : Nat} (h1 : (a : Int) < infN f) : -149 ≤ fE f + (xA (fQ f) a : Nat) ∧ fE f + (xA (fQ f) a : Nat) ≤ 104 ∧ mA (fQ f) a < 16777216 := by
  have hl := mA_lt (fQ f) a
  rcases hf with rfl | rfl
  · have hai : (a : Int) < 31744 := h1
    rw [pQ0] at hl
    have e : fE 0 = -24 := rfl
    have x : xA (fQ 0) a = a / 1024 - 1 := by unfold xA; rw [pQ0]
    rw [e, x]; omega
  · have hai : (a : Int) < 2139095040 := h1
    rw [pQ1] at hl
    have e : fE 1 = -149 := rfl
    have x : xA (fQ 1) a = a / 8388608 - 1 := by unfold xA; rw [pQ1]
    rw [e, x]; omega
theorem half_at {f : Int} (hf : f = 0 ∨ f = 1) {a : Nat} (h0 : 0 < a) (h1 : (a : Int) < infN f) : ∃ lo N D, HalfAt f a lo N D := by
  obtain ⟨b1, b2, b3⟩ := half_bd hf h1
  have hv := fun (K : Nat) (hK : 1100 ≤ K) => valA_step (K := K) f a hK
  have hm := mA_pos (fQ f) a h0
  generalize fE f + (xA (fQ f) a : Nat) = s at *
  generalize mA (fQ f) a = M at *
  obtain ⟨j, hj1, hj2⟩ := ex_bits M hm
  have hj : j ≤ 23 := by
    apply Nat.le_of_not_lt; intro hlt
    have h2 : 2 ^ 24 ≤ 2 ^ j := Nat.pow_le_pow_right (by omega) hlt
    have h3 : (2 : Nat) ^ 24 = 16777216 := by decide
    omega
  obtain ⟨c, hc⟩ : ∃ c : Nat, j + c = 51 := ⟨51 - j, by omega⟩
  have hP : 2 ^ (c + 1) = 2 * 2 ^ c := by rw [Nat.pow_succ, Nat.mul_comm]
  have hl1 : 2 ^ 52 = 2 ^ j * 2 ^ (c + 1) := by rw [← Nat.pow_add]; congr 1; omega
  have hl2 : 2 ^ 53 = 2 ^ (j + 1) * 2 ^ (c + 1) := by rw [← Nat.pow_add]; congr 1; omega
  have hd : 2 ≤ 2 ^ c := by
    have : 2 ^ 1 ≤ 2 ^ c := Nat.pow_le_pow_right (by omega) (by omega)
    omega
  have key : ∀ K : Nat, 1100 ≤ K → two K s = two K ((((s + j + 1023).toNat : Nat) : Int) - 1075) * 2 ^ (c + 1) := fun K hK => by
    rw [← two_mul K _ (by omega)]; congr 1; omega
  refine ⟨(s + j + 1023).toNat, M * 2 ^ (c + 1), 2 ^ c, by omega, by omega, ?_, ?_, hd, fun K hK => ?_, fun K hK => ?_⟩
  · rw [hl1]; exact Nat.mul_le_mul_right _ hj1
  · rw [hl2, ← hP, ← Nat.succ_mul]; exact Nat.mul_le_mul_right _ hj2
  · rw [(hv K hK).1, key K hK, Nat.mul_assoc, Nat.mul_comm (2 ^ (c + 1))]
  · rw [(hv K hK).2, key K hK, Nat.mul_assoc, ← hP, Nat.mul_comm (2 ^ (c + 1)), Nat.add_mul, Nat.one_mul]
theorem HalfAt.dbl {f : Int} {a lo N D : Nat} (h : HalfAt f a lo N D) (K : Nat) (hK : 1100 ≤ K) (d : Nat) (hd : d ≤ 2 * D) : valA K 2 (dblN lo (N + d)) = two K ((lo : Int) - 1075) * (N + d) := by
  have a1 := h.lo1
  have a2 := h.n1
  have a3 := h.n2
  exact dbl_val lo (N + d) hK (by omega) (by omega) (by omega)
theorem HalfAt.lt {f : Int} {a lo N D : Nat} (h : HalfAt f a lo N D) (d : Nat) (hd : d ≤ 2 * D) : dblN lo (N + d) < 5200000000000000000 ∧ 3900000000000000000 ≤ dblN lo (N + d) := by
  have a0 := h.lo1
  have a1 := h.lo2
  have a2 := h.n1
  have a3 := h.n2
  unfold dblN
  have e1 : (2 : Nat) ^ 52 = 4503599627370496 := by decide
  have e2 : (2 : Nat) ^ 53 = 9007199254740992 := by decide
  rw [e1] at a2 ⊢
  rw [e2] at a3
  omega
theorem HalfAt.fits {f : Int} {a lo N D : Nat} (h : HalfAt f a lo N D) (d : Nat) (hd : d ≤ 2 * D) : Fits (valA 3000 2 (dblN lo (N + d))) 300 := by
  have a0 := h.lo1
  have a1 := h.lo2
  have a3 := h.n2
  rw [h.dbl 3000 (by omega) d hd]
  have hN : N + d ≤ 9007199254740992 := by
    have e2 : (2 : Nat) ^ 53 = 9007199254740992 := by decide
    omega
  intro k hk0 hk
  refine two_exact (fun h => ?_) (fun h => ?_) hk0 hk
  · have h5 : 5 ^ (-((lo : Int) - 1075)).toNat ≤ 5 ^ 201 := Nat.pow_le_pow_right (by omega) (by omega)
    exact Nat.lt_of_le_of_lt (Nat.mul_le_mul hN h5) (by decide +kernel)
  · have h5 : 2 ^ ((lo : Int) - 1075).toNat ≤ 2 ^ 75 := Nat.pow_le_pow_right (by omega) (by omega)
    exact Nat.lt_of_le_of_lt (Nat.mul_le_mul hN h5) (by decide +kernel)
theorem hexQ_says {f : Int} {a : Nat} {T : List UInt8} (hf : 0 ≤ f ∧ f ≤ 2) (h0 : 0 < a) (h1 : (a : Int) < infN f) (h : HexQ f a T) : Says (chs (str T)) (valA 30000 f a) := by
  rcases h with ⟨h, _⟩ | ⟨_, T0, E, h, rfl⟩
  · omega
  · obtain ⟨b1, b2, b3⟩ := sx_bd hf h1
    have hl := mA_lt (fQ f) a
    have hm : mA (fQ f) a < 9007199254740992 := by
      rcases (by omega : f = 0 ∨ f = 1 ∨ f = 2) with rfl | rfl | rfl
      · rw [pQ0] at hl; omega
      · rw [pQ1] at hl; omega
      · rw [pQ2] at hl; omega
    exact hexText_says h hm (by omega) (by omega)
theorem hexQ_length {f : Int} {a : Nat} {T : List UInt8} (hf : 0 ≤ f ∧ f ≤ 2) (h1 : (a : Int) < infN f) (h : HexQ f a T) : T.length ≤ 40 := by
  rcases h with ⟨_, rfl⟩ | ⟨_, T0, E, ⟨j, n, hb, hx, rfl, rfl⟩, rfl⟩
  · decide
  · obtain ⟨b1, b2, b3⟩ := sx_bd hf h1
    have hl := mA_lt (fQ f) a
    have hm : mA (fQ f) a < 9007199254740992 := by
      rcases (by omega : f = 0 ∨ f = 1 ∨ f = 2) with rfl | rfl | rfl
      · rw [pQ0] at hl; omega
      · rw [pQ1] at hl; omega
      · rw [pQ2] at hl; omega
    have hj := bits_le hb (by omega) hm
    have hn := hexEnd_le hj hx
    have hi := (itoa_two (fE f + (xA (fQ f) a : Nat) + j) (by omega) (by omega)).2.2
    have hpl := hexP_length (2 ^ j) (mA (fQ f) a - 2 ^ j) n
    unfold hexS ptd
    split
    · simp; omega
    · simp [hpl]; omega
/-- What Hex writes is read as a double. -/
theorem HalfAt.parse {f : Int} {a lo N D : Nat} (h : HalfAt f a lo N D) (hf : f = 0 ∨ f = 1) (h0 : 0 < a) (h1 : (a : Int) < infN f) {T : List UInt8} {b fl at' err : Int} (hT : HexQ f a T) (hp : PParse (str T) 2 0 b fl at' err) : b = dblN lo N ∧ fl = 0 := by
  have hs := prog_spec (K := 30000) (by omega) hp
  have hl := hexQ_length (by omega) h1 hT
  obtain ⟨_, _, r, q3, q4⟩ := (hexQ_says (by omega) h0 h1 hT).reads (neg := false) (by show (chs (str T)).length ≤ 900; rw [chs_str, List.length_map]; omega) (by omega) hs
  have hv : valA 30000 f a = valA 30000 2 (dblN lo N) := by
    rw [h.v0 30000 (by omega)]
    exact (h.dbl 30000 (by omega) 0 (by omega)).symm
  rw [hv] at q3
  have hlt := (h.lt 0 (by omega)).1
  obtain ⟨z1, z2⟩ := round_self (by omega) (by show dblN lo N < 9218868437227405312; simp only [Nat.add_zero] at hlt; omega) q3
  exact ⟨by rw [q4, ← z1]; rfl, z2⟩
theorem HalfAt.parse2 {f : Int} {a lo N D : Nat} (h : HalfAt f a lo N D) (hf : f = 0 ∨ f = 1) (h1 : ((a + 1 : Nat) : Int) < infN f) {T : List UInt8} {b fl at' err : Int} (hT : HexQ f (a + 1) T) (hp : PParse (str T) 2 0 b fl at' err) : b = dblN lo (N + 2 * D) ∧ fl = 0 := by
  have hs := prog_spec (K := 30000) (by omega) hp
  have hl := hexQ_length (by omega) h1 hT
  obtain ⟨_, _, r, q3, q4⟩ := (hexQ_says (by omega) (by omega) h1 hT).reads (neg := false) (by show (chs (str T)).length ≤ 900; rw [chs_str, List.length_map]; omega) (by omega) hs
  have hv : valA 30000 f (a + 1) = valA 30000 2 (dblN lo (N + 2 * D)) := by
    rw [h.v1 30000 (by omega)]
    exact (h.dbl 30000 (by omega) (2 * D) (by omega)).symm
  rw [hv] at q3
  have hlt := (h.lt (2 * D) (by omega)).1
  obtain ⟨z1, z2⟩ := round_self (by omega) (by show dblN lo (N + 2 * D) < 9218868437227405312; omega) q3
  exact ⟨by rw [q4, ← z1]; rfl, z2⟩
theorem mid_round {f m b fl : Int} {a X : Nat} (hf : 0 ≤ f ∧ f ≤ 2) (h1 : a + 1 < infN f) (hx1 : valA 3000 f a < X) (hx2 : X < valA 3000 f (a + 1)) (h : RoundSpec 3000 f m false X b fl) :
    b = (if awayB m false (cmpN (X * 2) (valA 3000 f a + valA 3000 f (a + 1)) + 2) (a % 2 == 1) = true then (a : Int) + 1 else a) ∧ fl = if a < 2 ^ fQ f then 5 else 1 := by
  have hF := fmt_of hf
  have hlow := valA_low (K := 3000) hF (by omega)
  rcases h with ⟨g0, _⟩ | ⟨_, g1, _⟩ | ⟨g0, g1, a2, ga, g2, g3, g4⟩
  · omega
  · have := valA_mono 3000 f (by omega) (show a + 1 ≤ infN f by omega)
    omega
  · have hab := valA_one (K := 3000) (by omega) (Nat.le_of_lt hx1) hx2 g2 g3
    subst hab
    rcases g4 with ⟨g4, _⟩ | ⟨_, g5, g6⟩
    · omega
    · refine ⟨g5, ?_⟩
      have hr : b ≠ infN f := by rw [g5]; split <;> omega
      rw [g6, if_neg hr]
      by_cases hl : a < 2 ^ fQ f
      · have := valA_mono 3000 f (by omega) (show a + 1 ≤ 2 ^ fQ f from hl)
        rw [if_pos hl, if_pos (by omega)]; rfl
      · have := valA_mono 3000 f (by omega) (show 2 ^ fQ f ≤ a by omega)
        rw [if_neg hl, if_neg (by omega)]; rfl
/-- What is printed of a number between the two is read as one of them. -/
theorem HalfAt.reads {f : Int} {a lo N D d : Nat} (h : HalfAt f a lo N D) (hf : f = 0 ∨ f = 1) (h1 : a + 1 < infN f) (hd1 : 0 < d) (hd2 : d < 2 * D) {T : List UInt8} {m b fl at' err : Int} (hm : 0 ≤ m ∧ m ≤ 4) (hT : ExpQ (awayB 0 false) (valA 3000 2 (dblN lo (N + d))) 300 T) (hp : PParse (str T) f m b fl at' err) :
    b = (if awayB m false (cmpN d D + 2) (a % 2 == 1) = true then (a : Int) + 1 else a) ∧ fl = (if a < 2 ^ fQ f then 5 else 1) ∧ at' = 0 ∧ err = 0 := by
  have hs := prog_spec (K := 30000) (by omega) hp
  have hv : 0 ≤ f ∧ f ≤ 2 ∧ 0 ≤ m ∧ m ≤ 4 := ⟨by omega, by omega, hm.1, hm.2⟩
  have hlt := h.lt d (by omega)
  have hbd := valA_bd (f := 2) (a := dblN lo (N + d)) (by omega) (by omega) (by show ((dblN lo (N + d) : Nat) : Int) < (9218868437227405312 : Nat); omega)
  have e1 : 10 ^ 2610 ≤ valA 3000 2 (dblN lo (N + d)) := Nat.le_trans (Nat.pow_le_pow_right (by omega) (by omega)) hbd.1
  have e2 : valA 3000 2 (dblN lo (N + d)) < 10 ^ 3390 := Nat.lt_of_lt_of_le hbd.2 (Nat.pow_le_pow_right (by omega) (by omega))
  obtain ⟨q1, q2, q3⟩ := fit_reads (by omega) (h.fits d (by omega)) e1 e2 hv hT hs
  rw [h.dbl 3000 (by omega) d (by omega)] at q3
  have v0 := h.v0 3000 (by omega)
  have v1 := h.v1 3000 (by omega)
  have ht := two_pos 3000 ((lo : Int) - 1075)
  generalize two 3000 ((lo : Int) - 1075) = t at *
  obtain ⟨z1, z2⟩ := mid_round (by omega) h1 (by rw [v0]; exact Nat.mul_lt_mul_of_pos_left (by omega) ht) (by rw [v1]; exact Nat.mul_lt_mul_of_pos_left (by omega) ht) q3
  have hc : cmpN (t * (N + d) * 2) (valA 3000 f a + valA 3000 f (a + 1)) = cmpN d D := by
    rw [v0, v1, ← Nat.mul_add, Nat.mul_assoc]
    rcases Nat.lt_trichotomy d D with g | g | g
    · rw [cmpN_lt g, cmpN_lt (Nat.mul_lt_mul_of_pos_left (by omega) ht)]
    · rw [cmpN_eq g, cmpN_eq (by congr 1; omega)]
    · rw [cmpN_gt g, cmpN_gt (Nat.mul_lt_mul_of_pos_left (by omega) ht)]
  rw [hc] at z1
  exact ⟨z1, z2, q1, q2⟩
end Go.Proofs.YtbkdaoicnobllaaGreatDoor

namespace Go.Proofs.YtbkdaoicnobllaaGreatDoor
open Go.RowKit

/-- Which of n things. -/
def pickV (c : Int) (n : Nat) : Nat := (if c < 0 then -(c + 1) else c).toNat % n
set_option maxRecDepth 100000 in
set_option maxHeartbeats 1000000 in
theorem pick_any (c : Int) (n : Nat) (hn : 0 < n) (hn2 : n ≤ 1000000) (hc : -9223372036854775808 ≤ c ∧ c ≤ 9223372036854775807) (w : World) :
    Calls Tryz.prog 8 #[.int .i64 c, .int .i64 n] w fun e w' => e = .returned (.int .i64 (pickV c n : Nat)) ∧ w' = w := by
  obtain ⟨N, hN⟩ : ∃ N : Int, N = (n : Int) := ⟨_, rfl⟩
  have hN0 : (N == 0) = false := by simp; omega
  have hN1 : 0 < N := by omega
  have hN2 : N ≤ 1000000 := by omega
  have HN := hid hN
  rw [← hN]
  obtain ⟨hc1, hc2⟩ := hc
  go_enter Tryz.func8, Tryz.ntmps8
  by_cases h0 : c < 0
  · have t : decide (c < 0) = true := by simpa using h0
    have HE : Hid (-((c + 1).tmod N) = (pickV c n : Nat)) := by
      unfold Hid pickV
      rw [← Int.neg_tmod, if_pos h0, HN.out, Int.tmod_eq_emod_of_nonneg (by omega)]
      have : -(c + 1) = ((-(c + 1)).toNat : Nat) := by omega
      rw [this]; simp
    clear hN hn hn2
    go_wp2
    all_goals (go_ret; exact ⟨by rw [← HE.out]; rfl, rfl⟩)
  · have t : decide (c < 0) = false := by simpa using h0
    have HE : Hid ((c % N) = (pickV c n : Nat)) := by
      unfold Hid pickV
      rw [if_neg h0, HN.out]
      have : c = (c.toNat : Nat) := by omega
      rw [this]; simp
    clear hN hn hn2
    go_wp2
    all_goals (go_ret; exact ⟨by rw [← HE.out]; rfl, rfl⟩)
/-- A format's bits. -/
def fW (f : Int) : Int := if f = 0 then 16 else if f = 1 then 32 else 64
set_option maxRecDepth 100000 in
set_option maxHeartbeats 1000000 in
theorem form_any (b : Int) (hb : -9223372036854775808 ≤ b ∧ b ≤ 9223372036854775807) (w : World) :
    Calls Tryz.prog 9 #[.int .i64 b] w fun e w' => e = .returned (.tuple #[.int .i64 (pickV b 3 : Nat), .int .i64 (fW (pickV b 3 : Nat)), .int .i64 (fQ (pickV b 3 : Nat))]) ∧ w' = w := by
  have HX := hid (pick_any b 3 (by omega) (by omega) hb w)
  have h3 : pickV b 3 < 3 := Nat.mod_lt _ (by omega)
  obtain ⟨p, hp⟩ : ∃ p, p = pickV b 3 := ⟨_, rfl⟩
  rw [← hp] at HX h3 ⊢
  clear hp
  go_enter Tryz.func9, Tryz.ntmps9
  go_wp2_with fail
  refine HX.out.mono ?_
  rintro e w' ⟨rfl, rfl⟩
  clear HX
  rcases (by omega : p = 0 ∨ p = 1 ∨ p = 2) with rfl | rfl | rfl
  · go_wp2
    all_goals (go_ret3; exact ⟨rfl, rfl⟩)
  · go_wp2
    all_goals (go_ret3; exact ⟨rfl, rfl⟩)
  · go_wp2
    all_goals (go_ret3; exact ⟨rfl, rfl⟩)
/-- The lower bits alone. -/
theorem and_mask (x : Int) (i : Nat) (hi : i ≤ 63) : bits .and .i64 x ((2 ^ i - 1 : Nat) : Int) = x % ((2 ^ i : Nat) : Int) := by
  have hp : 2 ^ i ≤ 2 ^ 63 := Nat.pow_le_pow_right (by omega) hi
  have h0 : 0 < 2 ^ i := Nat.pow_pos (by omega)
  have h1 : (BitVec.ofInt 64 ((2 ^ i - 1 : Nat) : Int)).toNat = 2 ^ i - 1 := by
    rw [BitVec.ofInt_natCast, BitVec.toNat_ofNat]; exact Nat.mod_eq_of_lt (by omega)
  have h2 : ((BitVec.ofInt 64 x).toNat : Int) = x % ((2 ^ 64 : Nat) : Int) := by
    rw [BitVec.toNat_ofInt]; have : 0 ≤ x % ((2 ^ 64 : Nat) : Int) := Int.emod_nonneg _ (by omega); omega
  have hd : ((2 ^ i : Nat) : Int) ∣ ((2 ^ 64 : Nat) : Int) := Int.natCast_dvd_natCast.2 (Nat.pow_dvd_pow 2 (show i ≤ 64 by omega))
  unfold bits
  show IntKind.i64.wrap ((BitVec.ofInt 64 x &&& BitVec.ofInt 64 ((2 ^ i - 1 : Nat) : Int)).toNat : Int) = _
  rw [BitVec.toNat_and, h1, Nat.and_two_pow_sub_one_eq_mod, Int.natCast_emod, h2, Int.emod_emod_of_dvd _ hd, IntKind.wrap_i64]
  have h3 : 0 ≤ x % ((2 ^ i : Nat) : Int) := Int.emod_nonneg _ (by omega)
  have h4 : x % ((2 ^ i : Nat) : Int) < ((2 ^ i : Nat) : Int) := Int.emod_lt_of_pos _ (by omega)
  generalize x % ((2 ^ i : Nat) : Int) = y at *
  generalize 2 ^ i = P at *
  omega
end Go.Proofs.YtbkdaoicnobllaaGreatDoor

namespace Go.Proofs.YtbkdaoicnobllaaGreatDoor
open Go.RowKit

/-- What Format answers. -/
def FmtPost (f x verb prec mode : Int) (w w' : World) (r : Ending) (Q : List UInt8 → Prop) : Prop :=
  (hasB f x = true ∧ allowB verb prec mode = true ∧ ∃ T : List UInt8, r = .returned (.tuple #[.string (str (outT f x T)), .int .i64 0]) ∧ (amtI f x < infN f → Q T) ∧ T.length ≤ 5000 ∧ Below w.heap.size w w') ∨
  (¬ (hasB f x = true ∧ allowB verb prec mode = true) ∧ r = .returned (.tuple #[.string (str []), .int .i64 1]) ∧ Below w.heap.size w w')
set_option maxRecDepth 100000 in
set_option maxHeartbeats 1000000 in
theorem pformat_none (cv : Value) (x f verb prec mode : Int) (hf : ¬ (0 ≤ f ∧ f ≤ 2)) (w : World) : Calls Tryz.prog 14 #[cv, .int .i64 x, .int .i64 f, .int .i64 verb, .int .i64 prec, .int .i64 mode] w fun r w' => r = .returned (.tuple #[.string (str []), .int .i64 1]) ∧ Below w.heap.size w w' := by
  have HF : Hid (∀ w, Calls Tryz.prog 15 #[.int .i64 f] w fun e w' => e = .returned (.bool false) ∧ w' = w) := fun w => by
    have := isFormat_any f w
    rw [show formB f = false from by unfold formB; simp; omega] at this; exact this
  clear hf
  go_enter Tryz.func14, Tryz.ntmps14
  go_wp2_with fail
  refine (HF.out _).mono ?_
  rintro r w1 ⟨rfl, rfl⟩
  go_wp2
  go_ret2
  exact ⟨rfl, by first | exact Below.refl _ _ | exact ((Below.refl _ _).alloc (Nat.le_refl _) _).alloc (by simp) _⟩
set_option maxRecDepth 100000 in
set_option maxHeartbeats 1000000 in
theorem pformat0 (cv : Value) (x verb prec mode : Int) (Q : List UInt8 → Prop) (h1 : -9223372036854775808 ≤ x) (h2 : x ≤ 9223372036854775807) (w : World) (ht : Tab w)
    (HT0 : allowB verb prec mode = true → ∀ a : Nat, amtI 0 x = a → (a : Int) < 31744 → ∀ w : World, Tab w → Calls Tryz.prog 30 #[.int .i64 a, lay0, .bool (negI 0 x), styV verb prec mode] w fun r w' => TextPost w w' r Q) :
    Calls Tryz.prog 14 #[cv, .int .i64 x, .int .i64 0, .int .i64 verb, .int .i64 prec, .int .i64 mode] w fun r w' => FmtPost 0 x verb prec mode w w' r Q := by
  have HF : Hid (∀ w, Calls Tryz.prog 15 #[.int .i64 0] w fun e w' => e = .returned (.bool true) ∧ w' = w) := fun w => isFormat_any 0 w
  have HOF := hid (of0)
  have HHS := hid (fun w => has0 x h1 h2 w)
  have HAL := hid (allowed_any verb prec mode)
  have HTX : Hid (hasB 0 x = true → allowB verb prec mode = true → ∀ w : World, Tab w → Calls Tryz.prog 22 #[.int .i64 x, lay0, styV verb prec mode] w fun r w' => OutPost 0 x w w' r Q) := fun hh ha w hw => textOf0 x verb prec mode Q (by unfold hasB sgnF at hh; simp at hh; omega) (by unfold hasB sgnF at hh; simp at hh; omega) w hw (HT0 ha)
  have HTAB := hid ht
  clear HT0 ht h1 h2
  unfold lay0 styV at *
  go_enter Tryz.func14, Tryz.ntmps14
  go_wp2_with fail
  refine (HF.out _).mono ?_
  rintro r w0 ⟨rfl, rfl⟩
  go_wp2_with fail
  refine (HOF.out _).mono ?_
  rintro r w1 ⟨rfl, hb1⟩
  have HB1 : Hid (Below w0.heap.size w0 w1) := hb1
  clear hb1 HF HOF
  go_wp2_with fail
  have d0 : ((w1.alloc (.cells #[.int .i64 10, .int .i64 15, .int .i64 1024, .int .i64 31744, .int .i64 32768] 46)).alloc (.cells #[.int .i64 verb, .int .i64 prec, .int .i64 mode] 51)).cell? ⟨w1.heap.size, 0, none⟩ = some (Value.int .i64 10) := by simp [go_sem]
  have d1 : ((w1.alloc (.cells #[.int .i64 10, .int .i64 15, .int .i64 1024, .int .i64 31744, .int .i64 32768] 46)).alloc (.cells #[.int .i64 verb, .int .i64 prec, .int .i64 mode] 51)).cell? ⟨w1.heap.size, 1, none⟩ = some (Value.int .i64 15) := by simp [go_sem]
  have d2 : ((w1.alloc (.cells #[.int .i64 10, .int .i64 15, .int .i64 1024, .int .i64 31744, .int .i64 32768] 46)).alloc (.cells #[.int .i64 verb, .int .i64 prec, .int .i64 mode] 51)).cell? ⟨w1.heap.size, 2, none⟩ = some (Value.int .i64 1024) := by simp [go_sem]
  have d3 : ((w1.alloc (.cells #[.int .i64 10, .int .i64 15, .int .i64 1024, .int .i64 31744, .int .i64 32768] 46)).alloc (.cells #[.int .i64 verb, .int .i64 prec, .int .i64 mode] 51)).cell? ⟨w1.heap.size, 3, none⟩ = some (Value.int .i64 31744) := by simp [go_sem]
  have d4 : ((w1.alloc (.cells #[.int .i64 10, .int .i64 15, .int .i64 1024, .int .i64 31744, .int .i64 32768] 46)).alloc (.cells #[.int .i64 verb, .int .i64 prec, .int .i64 mode] 51)).cell? ⟨w1.heap.size, 4, none⟩ = some (Value.int .i64 32768) := by simp [go_sem]
  have s0 : ((w1.alloc (.cells #[.int .i64 10, .int .i64 15, .int .i64 1024, .int .i64 31744, .int .i64 32768] 46)).alloc (.cells #[.int .i64 verb, .int .i64 prec, .int .i64 mode] 51)).cell? ⟨w1.heap.size + 1, 0, none⟩ = some (Value.int .i64 verb) := by simp [go_sem]
  have s1 : ((w1.alloc (.cells #[.int .i64 10, .int .i64 15, .int .i64 1024, .int .i64 31744, .int .i64 32768] 46)).alloc (.cells #[.int .i64 verb, .int .i64 prec, .int .i64 mode] 51)).cell? ⟨w1.heap.size + 1, 1, none⟩ = some (Value.int .i64 prec) := by simp [go_sem]
  have s2 : ((w1.alloc (.cells #[.int .i64 10, .int .i64 15, .int .i64 1024, .int .i64 31744, .int .i64 32768] 46)).alloc (.cells #[.int .i64 verb, .int .i64 prec, .int .i64 mode] 51)).cell? ⟨w1.heap.size + 1, 2, none⟩ = some (Value.int .i64 mode) := by simp [go_sem]
  have HB2 : Hid (Below w0.heap.size w0 ((w1.alloc (.cells #[.int .i64 10, .int .i64 15, .int .i64 1024, .int .i64 31744, .int .i64 32768] 46)).alloc (.cells #[.int .i64 verb, .int .i64 prec, .int .i64 mode] 51))) := HB1.out.trans ((((Below.refl _ _).alloc (Nat.le_refl _) _).alloc (by simp) _).mono HB1.out.size)
  obtain ⟨C, hC⟩ : ∃ C, C = w1.heap.size := ⟨_, rfl⟩
  rw [← hC] at d0 d1 d2 d3 d4 s0 s1 s2 ⊢
  generalize ((w1.alloc (.cells #[.int .i64 10, .int .i64 15, .int .i64 1024, .int .i64 31744, .int .i64 32768] 46)).alloc (.cells #[.int .i64 verb, .int .i64 prec, .int .i64 mode] 51)) = W at *
  cases hhas : hasB 0 x with
  | false =>
    rw [hhas] at HHS
    refine (HHS.out W).mono ?_
    rintro r w2 ⟨rfl, hb2⟩
    have HF : Hid (FmtPost 0 x verb prec mode w0 w2 (.returned (.tuple #[.string (str []), .int .i64 1])) Q) := .inr ⟨by rw [hhas]; simp, rfl, HB2.out.trans (hb2.mono HB2.out.size)⟩
    clear hb2 hhas HHS HAL HTX d0 d1 d2 d3 d4 s0 s1 s2 hC
    go_wp2
    go_ret2
    exact HF.out
  | true =>
    rw [hhas] at HHS
    refine (HHS.out W).mono ?_
    rintro r w2 ⟨rfl, hb2⟩
    have HB3 : Hid (Below w0.heap.size w0 w2) := HB2.out.trans (hb2.mono HB2.out.size)
    have e0 := keep_cell' hb2 d0
    have e1 := keep_cell' hb2 d1
    have e2 := keep_cell' hb2 d2
    have e3 := keep_cell' hb2 d3
    have e4 := keep_cell' hb2 d4
    have z0 := keep_cell' hb2 s0
    have z1 := keep_cell' hb2 s1
    have z2 := keep_cell' hb2 s2
    clear hb2 HHS d0 d1 d2 d3 d4 s0 s1 s2 hC
    cases hal : allowB verb prec mode with
    | false =>
      rw [hal] at HAL
      have HF : Hid (∀ w', Below w0.heap.size w0 w' → FmtPost 0 x verb prec mode w0 w' (.returned (.tuple #[.string (str []), .int .i64 1])) Q) := fun w' hw => .inr ⟨by rw [hal]; simp, rfl, hw⟩
      clear HTX hhas hal
      go_wp2_with fail
      refine (HAL.out w2).mono ?_
      rintro r w3 ⟨rfl, hb3⟩
      have HB4 := hid (HB3.out.trans (hb3.mono HB3.out.size))
      clear hb3 HAL
      go_wp2
      go_ret2
      exact HF.out _ HB4.out
    | true =>
      rw [hal] at HAL
      have HTY := hid (HTX.out hhas hal)
      have HF : Hid (∀ (w' : World) (T : List UInt8), (amtI 0 x < infN 0 → Q T) → T.length ≤ 5000 → Below w0.heap.size w0 w' → FmtPost 0 x verb prec mode w0 w' (.returned (.tuple #[.string (str (outT 0 x T)), .int .i64 0])) Q) := fun w' T p1 p2 p3 => .inl ⟨hhas, hal, T, rfl, p1, p2, p3⟩
      clear HTX hhas hal
      go_wp2_with fail
      refine (HAL.out w2).mono ?_
      rintro r w3 ⟨rfl, hb3⟩
      have HB4 : Hid (Below w0.heap.size w0 w3) := HB3.out.trans (hb3.mono HB3.out.size)
      have e0' := keep_cell' hb3 e0
      have e1' := keep_cell' hb3 e1
      have e2' := keep_cell' hb3 e2
      have e3' := keep_cell' hb3 e3
      have e4' := keep_cell' hb3 e4
      have z0' := keep_cell' hb3 z0
      have z1' := keep_cell' hb3 z1
      have z2' := keep_cell' hb3 z2
      clear hb3 HAL e0 e1 e2 e3 e4 z0 z1 z2
      go_wp2_with fail
      refine (HTY.out w3 (HTAB.out.below HB4.out)).mono ?_
      rintro r w4 ⟨T, rfl, hq, hl, hb4⟩
      have HG := hid (HF.out w4 T hq hl (HB4.out.trans (hb4.mono HB4.out.size)))
      clear hq hl hb4 HTY HF
      go_wp2
      go_ret2
      exact HG.out
set_option maxRecDepth 100000 in
set_option maxHeartbeats 1000000 in
theorem pformat1 (cv : Value) (x verb prec mode : Int) (Q : List UInt8 → Prop) (h1 : -9223372036854775808 ≤ x) (h2 : x ≤ 9223372036854775807) (w : World) (ht : Tab w)
    (HT0 : allowB verb prec mode = true → ∀ a : Nat, amtI 1 x = a → (a : Int) < 2139095040 → ∀ w : World, Tab w → Calls Tryz.prog 30 #[.int .i64 a, lay1, .bool (negI 1 x), styV verb prec mode] w fun r w' => TextPost w w' r Q) :
    Calls Tryz.prog 14 #[cv, .int .i64 x, .int .i64 1, .int .i64 verb, .int .i64 prec, .int .i64 mode] w fun r w' => FmtPost 1 x verb prec mode w w' r Q := by
  have HF : Hid (∀ w, Calls Tryz.prog 15 #[.int .i64 1] w fun e w' => e = .returned (.bool true) ∧ w' = w) := fun w => isFormat_any 1 w
  have HOF := hid (of1)
  have HHS := hid (fun w => has1 x h1 h2 w)
  have HAL := hid (allowed_any verb prec mode)
  have HTX : Hid (hasB 1 x = true → allowB verb prec mode = true → ∀ w : World, Tab w → Calls Tryz.prog 22 #[.int .i64 x, lay1, styV verb prec mode] w fun r w' => OutPost 1 x w w' r Q) := fun hh ha w hw => textOf1 x verb prec mode Q (by unfold hasB sgnF at hh; simp at hh; omega) (by unfold hasB sgnF at hh; simp at hh; omega) w hw (HT0 ha)
  have HTAB := hid ht
  clear HT0 ht h1 h2
  unfold lay1 styV at *
  go_enter Tryz.func14, Tryz.ntmps14
  go_wp2_with fail
  refine (HF.out _).mono ?_
  rintro r w0 ⟨rfl, rfl⟩
  go_wp2_with fail
  refine (HOF.out _).mono ?_
  rintro r w1 ⟨rfl, hb1⟩
  have HB1 : Hid (Below w0.heap.size w0 w1) := hb1
  clear hb1 HF HOF
  go_wp2_with fail
  have d0 : ((w1.alloc (.cells #[.int .i64 23, .int .i64 127, .int .i64 8388608, .int .i64 2139095040, .int .i64 2147483648] 46)).alloc (.cells #[.int .i64 verb, .int .i64 prec, .int .i64 mode] 51)).cell? ⟨w1.heap.size, 0, none⟩ = some (Value.int .i64 23) := by simp [go_sem]
  have d1 : ((w1.alloc (.cells #[.int .i64 23, .int .i64 127, .int .i64 8388608, .int .i64 2139095040, .int .i64 2147483648] 46)).alloc (.cells #[.int .i64 verb, .int .i64 prec, .int .i64 mode] 51)).cell? ⟨w1.heap.size, 1, none⟩ = some (Value.int .i64 127) := by simp [go_sem]
  have d2 : ((w1.alloc (.cells #[.int .i64 23, .int .i64 127, .int .i64 8388608, .int .i64 2139095040, .int .i64 2147483648] 46)).alloc (.cells #[.int .i64 verb, .int .i64 prec, .int .i64 mode] 51)).cell? ⟨w1.heap.size, 2, none⟩ = some (Value.int .i64 8388608) := by simp [go_sem]
  have d3 : ((w1.alloc (.cells #[.int .i64 23, .int .i64 127, .int .i64 8388608, .int .i64 2139095040, .int .i64 2147483648] 46)).alloc (.cells #[.int .i64 verb, .int .i64 prec, .int .i64 mode] 51)).cell? ⟨w1.heap.size, 3, none⟩ = some (Value.int .i64 2139095040) := by simp [go_sem]
  have d4 : ((w1.alloc (.cells #[.int .i64 23, .int .i64 127, .int .i64 8388608, .int .i64 2139095040, .int .i64 2147483648] 46)).alloc (.cells #[.int .i64 verb, .int .i64 prec, .int .i64 mode] 51)).cell? ⟨w1.heap.size, 4, none⟩ = some (Value.int .i64 2147483648) := by simp [go_sem]
  have s0 : ((w1.alloc (.cells #[.int .i64 23, .int .i64 127, .int .i64 8388608, .int .i64 2139095040, .int .i64 2147483648] 46)).alloc (.cells #[.int .i64 verb, .int .i64 prec, .int .i64 mode] 51)).cell? ⟨w1.heap.size + 1, 0, none⟩ = some (Value.int .i64 verb) := by simp [go_sem]
  have s1 : ((w1.alloc (.cells #[.int .i64 23, .int .i64 127, .int .i64 8388608, .int .i64 2139095040, .int .i64 2147483648] 46)).alloc (.cells #[.int .i64 verb, .int .i64 prec, .int .i64 mode] 51)).cell? ⟨w1.heap.size + 1, 1, none⟩ = some (Value.int .i64 prec) := by simp [go_sem]
  have s2 : ((w1.alloc (.cells #[.int .i64 23, .int .i64 127, .int .i64 8388608, .int .i64 2139095040, .int .i64 2147483648] 46)).alloc (.cells #[.int .i64 verb, .int .i64 prec, .int .i64 mode] 51)).cell? ⟨w1.heap.size + 1, 2, none⟩ = some (Value.int .i64 mode) := by simp [go_sem]
  have HB2 : Hid (Below w0.heap.size w0 ((w1.alloc (.cells #[.int .i64 23, .int .i64 127, .int .i64 8388608, .int .i64 2139095040, .int .i64 2147483648] 46)).alloc (.cells #[.int .i64 verb, .int .i64 prec, .int .i64 mode] 51))) := HB1.out.trans ((((Below.refl _ _).alloc (Nat.le_refl _) _).alloc (by simp) _).mono HB1.out.size)
  obtain ⟨C, hC⟩ : ∃ C, C = w1.heap.size := ⟨_, rfl⟩
  rw [← hC] at d0 d1 d2 d3 d4 s0 s1 s2 ⊢
  generalize ((w1.alloc (.cells #[.int .i64 23, .int .i64 127, .int .i64 8388608, .int .i64 2139095040, .int .i64 2147483648] 46)).alloc (.cells #[.int .i64 verb, .int .i64 prec, .int .i64 mode] 51)) = W at *
  cases hhas : hasB 1 x with
  | false =>
    rw [hhas] at HHS
    refine (HHS.out W).mono ?_
    rintro r w2 ⟨rfl, hb2⟩
    have HF : Hid (FmtPost 1 x verb prec mode w0 w2 (.returned (.tuple #[.string (str []), .int .i64 1])) Q) := .inr ⟨by rw [hhas]; simp, rfl, HB2.out.trans (hb2.mono HB2.out.size)⟩
    clear hb2 hhas HHS HAL HTX d0 d1 d2 d3 d4 s0 s1 s2 hC
    go_wp2
    go_ret2
    exact HF.out
  | true =>
    rw [hhas] at HHS
    refine (HHS.out W).mono ?_
    rintro r w2 ⟨rfl, hb2⟩
    have HB3 : Hid (Below w0.heap.size w0 w2) := HB2.out.trans (hb2.mono HB2.out.size)
    have e0 := keep_cell' hb2 d0
    have e1 := keep_cell' hb2 d1
    have e2 := keep_cell' hb2 d2
    have e3 := keep_cell' hb2 d3
    have e4 := keep_cell' hb2 d4
    have z0 := keep_cell' hb2 s0
    have z1 := keep_cell' hb2 s1
    have z2 := keep_cell' hb2 s2
    clear hb2 HHS d0 d1 d2 d3 d4 s0 s1 s2 hC
    cases hal : allowB verb prec mode with
    | false =>
      rw [hal] at HAL
      have HF : Hid (∀ w', Below w0.heap.size w0 w' → FmtPost 1 x verb prec mode w0 w' (.returned (.tuple #[.string (str []), .int .i64 1])) Q) := fun w' hw => .inr ⟨by rw [hal]; simp, rfl, hw⟩
      clear HTX hhas hal
      go_wp2_with fail
      refine (HAL.out w2).mono ?_
      rintro r w3 ⟨rfl, hb3⟩
      have HB4 := hid (HB3.out.trans (hb3.mono HB3.out.size))
      clear hb3 HAL
      go_wp2
      go_ret2
      exact HF.out _ HB4.out
    | true =>
      rw [hal] at HAL
      have HTY := hid (HTX.out hhas hal)
      have HF : Hid (∀ (w' : World) (T : List UInt8), (amtI 1 x < infN 1 → Q T) → T.length ≤ 5000 → Below w0.heap.size w0 w' → FmtPost 1 x verb prec mode w0 w' (.returned (.tuple #[.string (str (outT 1 x T)), .int .i64 0])) Q) := fun w' T p1 p2 p3 => .inl ⟨hhas, hal, T, rfl, p1, p2, p3⟩
      clear HTX hhas hal
      go_wp2_with fail
      refine (HAL.out w2).mono ?_
      rintro r w3 ⟨rfl, hb3⟩
      have HB4 : Hid (Below w0.heap.size w0 w3) := HB3.out.trans (hb3.mono HB3.out.size)
      have e0' := keep_cell' hb3 e0
      have e1' := keep_cell' hb3 e1
      have e2' := keep_cell' hb3 e2
      have e3' := keep_cell' hb3 e3
      have e4' := keep_cell' hb3 e4
      have z0' := keep_cell' hb3 z0
      have z1' := keep_cell' hb3 z1
      have z2' := keep_cell' hb3 z2
      clear hb3 HAL e0 e1 e2 e3 e4 z0 z1 z2
      go_wp2_with fail
      refine (HTY.out w3 (HTAB.out.below HB4.out)).mono ?_
      rintro r w4 ⟨T, rfl, hq, hl, hb4⟩
      have HG := hid (HF.out w4 T hq hl (HB4.out.trans (hb4.mono HB4.out.size)))
      clear hq hl hb4 HTY HF
      go_wp2
      go_ret2
      exact HG.out
set_option maxRecDepth 100000 in
set_option maxHeartbeats 1000000 in
theorem pformat2 (cv : Value) (x verb prec mode : Int) (Q : List UInt8 → Prop) (h1 : -9223372036854775808 ≤ x) (h2 : x ≤ 9223372036854775807) (w : World) (ht : Tab w)
    (HT0 : allowB verb prec mode = true → ∀ a : Nat, amtI 2 x = a → (a : Int) < 9218868437227405312 → ∀ w : World, Tab w → Calls Tryz.prog 30 #[.int .i64 a, lay2, .bool (negI 2 x), styV verb prec mode] w fun r w' => TextPost w w' r Q) :
    Calls Tryz.prog 14 #[cv, .int .i64 x, .int .i64 2, .int .i64 verb, .int .i64 prec, .int .i64 mode] w fun r w' => FmtPost 2 x verb prec mode w w' r Q := by
  have HF : Hid (∀ w, Calls Tryz.prog 15 #[.int .i64 2] w fun e w' => e = .returned (.bool true) ∧ w' = w) := fun w => isFormat_any 2 w
  have HOF := hid (of2)
  have HHS := hid (fun w => has2 x w)
  have HAL := hid (allowed_any verb prec mode)
  have HTX : Hid (hasB 2 x = true → allowB verb prec mode = true → ∀ w : World, Tab w → Calls Tryz.prog 22 #[.int .i64 x, lay2, styV verb prec mode] w fun r w' => OutPost 2 x w w' r Q) := fun hh ha w hw => textOf2 x verb prec mode Q h1 h2 w hw (HT0 ha)
  have HTAB := hid ht
  clear HT0 ht h1 h2
  unfold lay2 styV at *
  go_enter Tryz.func14, Tryz.ntmps14
  go_wp2_with fail
  refine (HF.out _).mono ?_
  rintro r w0 ⟨rfl, rfl⟩
  go_wp2_with fail
  refine (HOF.out _).mono ?_
  rintro r w1 ⟨rfl, hb1⟩
  have HB1 : Hid (Below w0.heap.size w0 w1) := hb1
  clear hb1 HF HOF
  go_wp2_with fail
  have d0 : ((w1.alloc (.cells #[.int .i64 52, .int .i64 1023, .int .i64 4503599627370496, .int .i64 9218868437227405312, .int .i64 (-9223372036854775808)] 46)).alloc (.cells #[.int .i64 verb, .int .i64 prec, .int .i64 mode] 51)).cell? ⟨w1.heap.size, 0, none⟩ = some (Value.int .i64 52) := by simp [go_sem]
  have d1 : ((w1.alloc (.cells #[.int .i64 52, .int .i64 1023, .int .i64 4503599627370496, .int .i64 9218868437227405312, .int .i64 (-9223372036854775808)] 46)).alloc (.cells #[.int .i64 verb, .int .i64 prec, .int .i64 mode] 51)).cell? ⟨w1.heap.size, 1, none⟩ = some (Value.int .i64 1023) := by simp [go_sem]
  have d2 : ((w1.alloc (.cells #[.int .i64 52, .int .i64 1023, .int .i64 4503599627370496, .int .i64 9218868437227405312, .int .i64 (-9223372036854775808)] 46)).alloc (.cells #[.int .i64 verb, .int .i64 prec, .int .i64 mode] 51)).cell? ⟨w1.heap.size, 2, none⟩ = some (Value.int .i64 4503599627370496) := by simp [go_sem]
  have d3 : ((w1.alloc (.cells #[.int .i64 52, .int .i64 1023, .int .i64 4503599627370496, .int .i64 9218868437227405312, .int .i64 (-9223372036854775808)] 46)).alloc (.cells #[.int .i64 verb, .int .i64 prec, .int .i64 mode] 51)).cell? ⟨w1.heap.size, 3, none⟩ = some (Value.int .i64 9218868437227405312) := by simp [go_sem]
  have d4 : ((w1.alloc (.cells #[.int .i64 52, .int .i64 1023, .int .i64 4503599627370496, .int .i64 9218868437227405312, .int .i64 (-9223372036854775808)] 46)).alloc (.cells #[.int .i64 verb, .int .i64 prec, .int .i64 mode] 51)).cell? ⟨w1.heap.size, 4, none⟩ = some (Value.int .i64 (-9223372036854775808)) := by simp [go_sem]
  have s0 : ((w1.alloc (.cells #[.int .i64 52, .int .i64 1023, .int .i64 4503599627370496, .int .i64 9218868437227405312, .int .i64 (-9223372036854775808)] 46)).alloc (.cells #[.int .i64 verb, .int .i64 prec, .int .i64 mode] 51)).cell? ⟨w1.heap.size + 1, 0, none⟩ = some (Value.int .i64 verb) := by simp [go_sem]
  have s1 : ((w1.alloc (.cells #[.int .i64 52, .int .i64 1023, .int .i64 4503599627370496, .int .i64 9218868437227405312, .int .i64 (-9223372036854775808)] 46)).alloc (.cells #[.int .i64 verb, .int .i64 prec, .int .i64 mode] 51)).cell? ⟨w1.heap.size + 1, 1, none⟩ = some (Value.int .i64 prec) := by simp [go_sem]
  have s2 : ((w1.alloc (.cells #[.int .i64 52, .int .i64 1023, .int .i64 4503599627370496, .int .i64 9218868437227405312, .int .i64 (-9223372036854775808)] 46)).alloc (.cells #[.int .i64 verb, .int .i64 prec, .int .i64 mode] 51)).cell? ⟨w1.heap.size + 1, 2, none⟩ = some (Value.int .i64 mode) := by simp [go_sem]
  have HB2 : Hid (Below w0.heap.size w0 ((w1.alloc (.cells #[.int .i64 52, .int .i64 1023, .int .i64 4503599627370496, .int .i64 9218868437227405312, .int .i64 (-9223372036854775808)] 46)).alloc (.cells #[.int .i64 verb, .int .i64 prec, .int .i64 mode] 51))) := HB1.out.trans ((((Below.refl _ _).alloc (Nat.le_refl _) _).alloc (by simp) _).mono HB1.out.size)
  obtain ⟨C, hC⟩ : ∃ C, C = w1.heap.size := ⟨_, rfl⟩
  rw [← hC] at d0 d1 d2 d3 d4 s0 s1 s2 ⊢
  generalize ((w1.alloc (.cells #[.int .i64 52, .int .i64 1023, .int .i64 4503599627370496, .int .i64 9218868437227405312, .int .i64 (-9223372036854775808)] 46)).alloc (.cells #[.int .i64 verb, .int .i64 prec, .int .i64 mode] 51)) = W at *
  cases hhas : hasB 2 x with
  | false =>
    rw [hhas] at HHS
    refine (HHS.out W).mono ?_
    rintro r w2 ⟨rfl, hb2⟩
    have HF : Hid (FmtPost 2 x verb prec mode w0 w2 (.returned (.tuple #[.string (str []), .int .i64 1])) Q) := .inr ⟨by rw [hhas]; simp, rfl, HB2.out.trans (hb2.mono HB2.out.size)⟩
    clear hb2 hhas HHS HAL HTX d0 d1 d2 d3 d4 s0 s1 s2 hC
    go_wp2
    go_ret2
    exact HF.out
  | true =>
    rw [hhas] at HHS
    refine (HHS.out W).mono ?_
    rintro r w2 ⟨rfl, hb2⟩
    have HB3 : Hid (Below w0.heap.size w0 w2) := HB2.out.trans (hb2.mono HB2.out.size)
    have e0 := keep_cell' hb2 d0
    have e1 := keep_cell' hb2 d1
    have e2 := keep_cell' hb2 d2
    have e3 := keep_cell' hb2 d3
    have e4 := keep_cell' hb2 d4
    have z0 := keep_cell' hb2 s0
    have z1 := keep_cell' hb2 s1
    have z2 := keep_cell' hb2 s2
    clear hb2 HHS d0 d1 d2 d3 d4 s0 s1 s2 hC
    cases hal : allowB verb prec mode with
    | false =>
      rw [hal] at HAL
      have HF : Hid (∀ w', Below w0.heap.size w0 w' → FmtPost 2 x verb prec mode w0 w' (.returned (.tuple #[.string (str []), .int .i64 1])) Q) := fun w' hw => .inr ⟨by rw [hal]; simp, rfl, hw⟩
      clear HTX hhas hal
      go_wp2_with fail
      refine (HAL.out w2).mono ?_
      rintro r w3 ⟨rfl, hb3⟩
      have HB4 := hid (HB3.out.trans (hb3.mono HB3.out.size))
      clear hb3 HAL
      go_wp2
      go_ret2
      exact HF.out _ HB4.out
    | true =>
      rw [hal] at HAL
      have HTY := hid (HTX.out hhas hal)
      have HF : Hid (∀ (w' : World) (T : List UInt8), (amtI 2 x < infN 2 → Q T) → T.length ≤ 5000 → Below w0.heap.size w0 w' → FmtPost 2 x verb prec mode w0 w' (.returned (.tuple #[.string (str (outT 2 x T)), .int .i64 0])) Q) := fun w' T p1 p2 p3 => .inl ⟨hhas, hal, T, rfl, p1, p2, p3⟩
      clear HTX hhas hal
      go_wp2_with fail
      refine (HAL.out w2).mono ?_
      rintro r w3 ⟨rfl, hb3⟩
      have HB4 : Hid (Below w0.heap.size w0 w3) := HB3.out.trans (hb3.mono HB3.out.size)
      have e0' := keep_cell' hb3 e0
      have e1' := keep_cell' hb3 e1
      have e2' := keep_cell' hb3 e2
      have e3' := keep_cell' hb3 e3
      have e4' := keep_cell' hb3 e4
      have z0' := keep_cell' hb3 z0
      have z1' := keep_cell' hb3 z1
      have z2' := keep_cell' hb3 z2
      clear hb3 HAL e0 e1 e2 e3 e4 z0 z1 z2
      go_wp2_with fail
      refine (HTY.out w3 (HTAB.out.below HB4.out)).mono ?_
      rintro r w4 ⟨T, rfl, hq, hl, hb4⟩
      have HG := hid (HF.out w4 T hq hl (HB4.out.trans (hb4.mono HB4.out.size)))
      clear hq hl hb4 HTY HF
      go_wp2
      go_ret2
      exact HG.out
end Go.Proofs.YtbkdaoicnobllaaGreatDoor
