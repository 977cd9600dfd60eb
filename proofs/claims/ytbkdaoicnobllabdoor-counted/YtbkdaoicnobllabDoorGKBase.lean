import Derived.Test.YtbkdaoicnobllabDoorGRefB
import Derived.Test.YtbkdaoicnobllabDoorGMem
import Derived.Test.YtbkdaoicnobllabDoorGFmt

namespace Go.Proofs.YtbkdaoicnobllabDoor
open Go.RowKit

/-- Which of n things. -/
def pickV (c : Int) (n : Nat) : Nat := (if c < 0 then -(c + 1) else c).toNat % n
set_option maxRecDepth 100000 in
set_option maxHeartbeats 1000000 in
theorem pick_any (c : Int) (n : Nat) (hn : 0 < n) (hn2 : n ≤ 1000000) (hc : -9223372036854775808 ≤ c ∧ c ≤ 9223372036854775807) (w : World) :
    Calls Tryd.prog 8 #[.int .i64 c, .int .i64 n] w fun e w' => e = .returned (.int .i64 (pickV c n : Nat)) ∧ w' = w := by
  obtain ⟨N, hN⟩ : ∃ N : Int, N = (n : Int) := ⟨_, rfl⟩
  have hN0 : (N == 0) = false := by simp; omega
  have hN1 : 0 < N := by omega
  have hN2 : N ≤ 1000000 := by omega
  have HN := hid hN
  rw [← hN]
  obtain ⟨hc1, hc2⟩ := hc
  go_enter Tryd.func8, Tryd.ntmps8
  by_cases h0 : c < 0
  · have t : decide (c < 0) = true := by simpa using h0
    have HE : Hid (-((c + 1).tmod N) = (pickV c n : Nat)) := by
      unfold Hid pickV
      rw [← Int.neg_tmod, if_pos h0, HN.out, Int.tmod_eq_emod_of_nonneg (by omega)]
      have : -(c + 1) = ((-(c + 1)).toNat : Nat) := by omega
      rw [this]; simp
    clear hN hn hn2
    go_wp2
    all_goals (go_ret; exact ⟨by rw [← HE.out]; rfl, rfl⟩)
  · have t : decide (c < 0) = false := by simpa using h0
    have HE : Hid ((c % N) = (pickV c n : Nat)) := by
      unfold Hid pickV
      rw [if_neg h0, HN.out]
      have : c = (c.toNat : Nat) := by omega
      rw [this]; simp
    clear hN hn hn2
    go_wp2
    all_goals (go_ret; exact ⟨by rw [← HE.out]; rfl, rfl⟩)
/-- A format's bits. -/
def fW (f : Int) : Int := if f = 0 then 16 else if f = 1 then 32 else 64
set_option maxRecDepth 100000 in
set_option maxHeartbeats 1000000 in
theorem form_any (b : Int) (hb : -9223372036854775808 ≤ b ∧ b ≤ 9223372036854775807) (w : World) :
    Calls Tryd.prog 11 #[.int .i64 b] w fun e w' => e = .returned (.tuple #[.int .i64 (pickV b 3 : Nat), .int .i64 (fW (pickV b 3 : Nat)), .int .i64 (fQ (pickV b 3 : Nat))]) ∧ w' = w := by
  have HX := hid (pick_any b 3 (by omega) (by omega) hb w)
  have h3 : pickV b 3 < 3 := Nat.mod_lt _ (by omega)
  obtain ⟨p, hp⟩ : ∃ p, p = pickV b 3 := ⟨_, rfl⟩
  rw [← hp] at HX h3 ⊢
  clear hp
  go_enter Tryd.func11, Tryd.ntmps11
  go_wp2_with fail
  refine HX.out.mono ?_
  rintro e w' ⟨rfl, rfl⟩
  clear HX
  rcases (by omega : p = 0 ∨ p = 1 ∨ p = 2) with rfl | rfl | rfl
  · go_wp2
    all_goals (go_ret3; exact ⟨rfl, rfl⟩)
  · go_wp2
    all_goals (go_ret3; exact ⟨rfl, rfl⟩)
  · go_wp2
    all_goals (go_ret3; exact ⟨rfl, rfl⟩)
/-- The lower bits alone. -/
theorem and_mask (x : Int) (i : Nat) (hi : i ≤ 63) : bits .and .i64 x ((2 ^ i - 1 : Nat) : Int) = x % ((2 ^ i : Nat) : Int) := by
  have hp : 2 ^ i ≤ 2 ^ 63 := Nat.pow_le_pow_right (by omega) hi
  have h0 : 0 < 2 ^ i := Nat.pow_pos (by omega)
  have h1 : (BitVec.ofInt 64 ((2 ^ i - 1 : Nat) : Int)).toNat = 2 ^ i - 1 := by
    rw [BitVec.ofInt_natCast, BitVec.toNat_ofNat]; exact Nat.mod_eq_of_lt (by omega)
  have h2 : ((BitVec.ofInt 64 x).toNat : Int) = x % ((2 ^ 64 : Nat) : Int) := by
    rw [BitVec.toNat_ofInt]; have : 0 ≤ x % ((2 ^ 64 : Nat) : Int) := Int.emod_nonneg _ (by omega); omega
  have hd : ((2 ^ i : Nat) : Int) ∣ ((2 ^ 64 : Nat) : Int) := Int.natCast_dvd_natCast.2 (Nat.pow_dvd_pow 2 (show i ≤ 64 by omega))
  unfold bits
  show IntKind.i64.wrap ((BitVec.ofInt 64 x &&& BitVec.ofInt 64 ((2 ^ i - 1 : Nat) : Int)).toNat : Int) = _
  rw [BitVec.toNat_and, h1, Nat.and_two_pow_sub_one_eq_mod, Int.natCast_emod, h2, Int.emod_emod_of_dvd _ hd, IntKind.wrap_i64]
  have h3 : 0 ≤ x % ((2 ^ i : Nat) : Int) := Int.emod_nonneg _ (by omega)
  have h4 : x % ((2 ^ i : Nat) : Int) < ((2 ^ i : Nat) : Int) := Int.emod_lt_of_pos _ (by omega)
  generalize x % ((2 ^ i : Nat) : Int) = y at *
  generalize 2 ^ i = P at *
  omega
end Go.Proofs.YtbkdaoicnobllabDoor

namespace Go.Proofs.YtbkdaoicnobllabDoor
open Go.RowKit

/-- An amount below infinity's. -/
def finV (f a : Int) : Int := a % sgnF f % infN f
theorem finV_bd {f : Int} (hf : 0 ≤ f ∧ f ≤ 2) (a : Int) : 0 ≤ finV f a ∧ finV f a < infN f := by
  have h : (0 : Int) < infN f := by
    rcases (by omega : f = 0 ∨ f = 1 ∨ f = 2) with rfl | rfl | rfl <;> decide
  unfold finV
  exact ⟨Int.emod_nonneg _ (by omega), Int.emod_lt_of_pos _ h⟩
theorem infN_i64 {f : Int} (hf : 0 ≤ f ∧ f ≤ 2) : (infN f : Int) ≤ 9218868437227405312 := by
  rcases (by omega : f = 0 ∨ f = 1 ∨ f = 2) with rfl | rfl | rfl <;> decide
set_option maxRecDepth 100000 in
set_option maxHeartbeats 1000000 in
theorem finite0 (a : Int) (ha : -9223372036854775808 ≤ a ∧ a ≤ 9223372036854775807) (w : World) :
    Calls Tryd.prog 12 #[.int .i64 a, .int .i64 16, .int .i64 10] w fun e w' => e = .returned (.int .i64 (finV 0 a)) ∧ Below w.heap.size w w' := by
  obtain ⟨A, hA⟩ : ∃ A : Int, A = a % 32768 := ⟨_, rfl⟩
  have hm : bits .and .i64 a 32767 = A := by rw [hA]; exact and_mask a 15 (by omega)
  have hA1 : 0 ≤ A := by omega
  have hA2 : A < 32768 := by omega
  have HS : Hid (A % 31744 = finV 0 a) := by unfold Hid finV; rw [hA]; rfl
  clear hA
  obtain ⟨hB1, hB2⟩ := ha
  have hw : wrap64 (wrap64 9223372036854775808 - 1) = 9223372036854775807 := by unfold wrap64; decide
  have hw2 : wrap64 (wrap64 9223372036854775808 - 4503599627370496) = 9218868437227405312 := by unfold wrap64; decide
  go_enter Tryd.func12, Tryd.ntmps12
  go_wp2_with fail
  go_quiet (fail)
  go_wp2
  all_goals (go_ret; exact ⟨by rw [← HS.out]; rfl, ((Still.refl w).drewN _).below _⟩)
set_option maxRecDepth 100000 in
set_option maxHeartbeats 1000000 in
theorem finite1 (a : Int) (ha : -9223372036854775808 ≤ a ∧ a ≤ 9223372036854775807) (w : World) :
    Calls Tryd.prog 12 #[.int .i64 a, .int .i64 32, .int .i64 23] w fun e w' => e = .returned (.int .i64 (finV 1 a)) ∧ Below w.heap.size w w' := by
  obtain ⟨A, hA⟩ : ∃ A : Int, A = a % 2147483648 := ⟨_, rfl⟩
  have hm : bits .and .i64 a 2147483647 = A := by rw [hA]; exact and_mask a 31 (by omega)
  have hA1 : 0 ≤ A := by omega
  have hA2 : A < 2147483648 := by omega
  have HS : Hid (A % 2139095040 = finV 1 a) := by unfold Hid finV; rw [hA]; rfl
  clear hA
  obtain ⟨hB1, hB2⟩ := ha
  have hw : wrap64 (wrap64 9223372036854775808 - 1) = 9223372036854775807 := by unfold wrap64; decide
  have hw2 : wrap64 (wrap64 9223372036854775808 - 4503599627370496) = 9218868437227405312 := by unfold wrap64; decide
  go_enter Tryd.func12, Tryd.ntmps12
  go_wp2_with fail
  go_quiet (fail)
  go_wp2
  all_goals (go_ret; exact ⟨by rw [← HS.out]; rfl, ((Still.refl w).drewN _).below _⟩)
set_option maxRecDepth 100000 in
set_option maxHeartbeats 1000000 in
theorem finite2 (a : Int) (ha : -9223372036854775808 ≤ a ∧ a ≤ 9223372036854775807) (w : World) :
    Calls Tryd.prog 12 #[.int .i64 a, .int .i64 64, .int .i64 52] w fun e w' => e = .returned (.int .i64 (finV 2 a)) ∧ Below w.heap.size w w' := by
  obtain ⟨A, hA⟩ : ∃ A : Int, A = a % 9223372036854775808 := ⟨_, rfl⟩
  have hm : bits .and .i64 a 9223372036854775807 = A := by rw [hA]; exact and_mask a 63 (by omega)
  have hA1 : 0 ≤ A := by omega
  have hA2 : A < 9223372036854775808 := by omega
  have HS : Hid (A % 9218868437227405312 = finV 2 a) := by unfold Hid finV; rw [hA]; rfl
  clear hA
  obtain ⟨hB1, hB2⟩ := ha
  have hw : wrap64 (wrap64 9223372036854775808 - 1) = 9223372036854775807 := by unfold wrap64; decide
  have hw2 : wrap64 (wrap64 9223372036854775808 - 4503599627370496) = 9218868437227405312 := by unfold wrap64; decide
  go_enter Tryd.func12, Tryd.ntmps12
  go_wp2_with fail
  go_quiet (fail)
  go_wp2
  all_goals (go_ret; exact ⟨by rw [← HS.out]; rfl, ((Still.refl w).drewN _).below _⟩)
theorem finite_any (f a : Int) (hf : 0 ≤ f ∧ f ≤ 2) (ha : -9223372036854775808 ≤ a ∧ a ≤ 9223372036854775807) (w : World) :
    Calls Tryd.prog 12 #[.int .i64 a, .int .i64 (fW f), .int .i64 (fQ f : Nat)] w fun e w' => e = .returned (.int .i64 (finV f a)) ∧ Below w.heap.size w w' := by
  rcases (by omega : f = 0 ∨ f = 1 ∨ f = 2) with rfl | rfl | rfl
  · exact finite0 a ha w
  · exact finite1 a ha w
  · exact finite2 a ha w
/-- What Format answers of a finite amount. -/
def GoodPost (w w' : World) (r : Ending) (Q : List UInt8 → Prop) : Prop := ∃ T : List UInt8, r = .returned (.tuple #[.string (str T), .int .i64 0]) ∧ Q T ∧ T.length ≤ 5000 ∧ Below w.heap.size w w'
theorem fin_pat {f v : Int} (hf : 0 ≤ f ∧ f ≤ 2) (h0 : 0 ≤ v) (h1 : v < infN f) : hasB f v = true ∧ negI f v = false ∧ amtI f v = v := by
  rcases (by omega : f = 0 ∨ f = 1 ∨ f = 2) with rfl | rfl | rfl
  · have h1 : v < 31744 := h1
    simp [hasB, negI, amtI, sgnF]; omega
  · have h1 : v < 2139095040 := h1
    simp [hasB, negI, amtI, sgnF]; omega
  · have h1 : v < 9218868437227405312 := h1
    simp [hasB, negI, amtI, sgnF]; omega
theorem fmt_good {f v verb prec mode : Int} {w w' : World} {r : Ending} {Q : List UInt8 → Prop} (hf : 0 ≤ f ∧ f ≤ 2) (h0 : 0 ≤ v) (h1 : v < infN f) (ha : allowB verb prec mode = true) (h : FmtPost f v verb prec mode w w' r Q) : GoodPost w w' r Q := by
  obtain ⟨p1, p2, p3⟩ := fin_pat hf h0 h1
  rcases h with ⟨_, _, T, rfl, hq, hl, hb⟩ | ⟨hn, _⟩
  · refine ⟨T, ?_, hq (by rw [p3]; exact h1), hl, hb⟩
    unfold outT
    rw [p3, p2, if_neg (by omega), if_pos h1]; rfl
  · exact absurd ⟨p1, ha⟩ hn
set_option maxRecDepth 100000 in
set_option maxHeartbeats 1000000 in
theorem prints_of (cv : Value) (v f verb prec : Int) (Q : List UInt8 → Prop) (w : World)
    (HF0 : Calls Tryd.prog 15 #[cv, .int .i64 v, .int .i64 f, .int .i64 verb, .int .i64 prec, .int .i64 0] w fun r w' => GoodPost w w' r Q) :
    Calls Tryd.prog 10 #[cv, .int .i64 v, .int .i64 f, .int .i64 verb, .int .i64 prec] w fun r w' => TextPost w w' r Q := by
  have HF := hid HF0
  clear HF0
  go_enter Tryd.func10, Tryd.ntmps10
  go_wp2_with fail
  refine HF.out.mono ?_
  rintro r w1 ⟨T, rfl, hq, hl, hb⟩
  have HP : Hid (TextPost w w1 (.returned (.string (str T))) Q) := ⟨T, rfl, hq, hl, hb⟩
  clear hq hl hb HF
  go_wp2
  all_goals (go_ret; exact HP.out)
end Go.Proofs.YtbkdaoicnobllabDoor
