import Derived.Test.YtbkdaoicnobllabGreatDoorG02
import Derived.Test.YtbkdaoicnobllabGreatDoorG07
import Derived.Test.YtbkdaoicnobllabGreatDoorG25
import Derived.Test.YtbkdaoicnobllabGreatDoorG04
import Derived.Laws.IdiomStrings

namespace Go.Proofs.YtbkdaoicnobllabGreatDoor
open Go.RowKit

/-- Which of n things. -/
def pickV (c : Int) (n : Nat) : Nat := (if c < 0 then -(c + 1) else c).toNat % n
set_option maxRecDepth 100000 in
set_option maxHeartbeats 1000000 in
theorem pick_any (c : Int) (n : Nat) (hn : 0 < n) (hn2 : n ≤ 1000000) (hc : -9223372036854775808 ≤ c ∧ c ≤ 9223372036854775807) (w : World) :
    Calls Tryz.prog 20 #[.int .i64 c, .int .i64 n] w fun e w' => e = .returned (.int .i64 (pickV c n : Nat)) ∧ w' = w := by
  obtain ⟨N, hN⟩ : ∃ N : Int, N = (n : Int) := ⟨_, rfl⟩
  have hN0 : (N == 0) = false := by simp; omega
  have hN1 : 0 < N := by omega
  have hN2 : N ≤ 1000000 := by omega
  have HN := hid hN
  rw [← hN]
  obtain ⟨hc1, hc2⟩ := hc
  go_enter Tryz.func20, Tryz.ntmps20
  by_cases h0 : c < 0
  · have t : decide (c < 0) = true := by simpa using h0
    have HE : Hid (-((c + 1).tmod N) = (pickV c n : Nat)) := by
      unfold Hid pickV
      rw [← Int.neg_tmod, if_pos h0, HN.out, Int.tmod_eq_emod_of_nonneg (by omega)]
      have : -(c + 1) = ((-(c + 1)).toNat : Nat) := by omega
      rw [this]; simp
    clear hN hn hn2
    go_wp2
    all_goals (go_ret; exact ⟨by rw [← HE.out]; rfl, rfl⟩)
  · have t : decide (c < 0) = false := by simpa using h0
    have HE : Hid ((c % N) = (pickV c n : Nat)) := by
      unfold Hid pickV
      rw [if_neg h0, HN.out]
      have : c = (c.toNat : Nat) := by omega
      rw [this]; simp
    clear hN hn hn2
    go_wp2
    all_goals (go_ret; exact ⟨by rw [← HE.out]; rfl, rfl⟩)
/-- A format's bits. -/
def fW (f : Int) : Int := if f = 0 then 16 else if f = 1 then 32 else 64
set_option maxRecDepth 100000 in
set_option maxHeartbeats 1000000 in
theorem form_any (b : Int) (hb : -9223372036854775808 ≤ b ∧ b ≤ 9223372036854775807) (w : World) :
    Calls Tryz.prog 11 #[.int .i64 b] w fun e w' => e = .returned (.tuple #[.int .i64 (pickV b 3 : Nat), .int .i64 (fW (pickV b 3 : Nat)), .int .i64 (fQ (pickV b 3 : Nat))]) ∧ w' = w := by
  have HX := hid (pick_any b 3 (by omega) (by omega) hb w)
  have h3 : pickV b 3 < 3 := Nat.mod_lt _ (by omega)
  obtain ⟨p, hp⟩ : ∃ p, p = pickV b 3 := ⟨_, rfl⟩
  rw [← hp] at HX h3 ⊢
  clear hp
  go_enter Tryz.func11, Tryz.ntmps11
  go_wp2_with fail
  refine HX.out.mono ?_
  rintro e w' ⟨rfl, rfl⟩
  clear HX
  rcases (by omega : p = 0 ∨ p = 1 ∨ p = 2) with rfl | rfl | rfl
  · go_wp2
    all_goals (go_ret3; exact ⟨rfl, rfl⟩)
  · go_wp2
    all_goals (go_ret3; exact ⟨rfl, rfl⟩)
  · go_wp2
    all_goals (go_ret3; exact ⟨rfl, rfl⟩)
/-- The lower bits alone. -/
theorem and_mask (x : Int) (i : Nat) (hi : i ≤ 63) : bits .and .i64 x ((2 ^ i - 1 : Nat) : Int) = x % ((2 ^ i : Nat) : Int) := by
  have hp : 2 ^ i ≤ 2 ^ 63 := Nat.pow_le_pow_right (by omega) hi
  have h0 : 0 < 2 ^ i := Nat.pow_pos (by omega)
  have h1 : (BitVec.ofInt 64 ((2 ^ i - 1 : Nat) : Int)).toNat = 2 ^ i - 1 := by
    rw [BitVec.ofInt_natCast, BitVec.toNat_ofNat]; exact Nat.mod_eq_of_lt (by omega)
  have h2 : ((BitVec.ofInt 64 x).toNat : Int) = x % ((2 ^ 64 : Nat) : Int) := by
    rw [BitVec.toNat_ofInt]; have : 0 ≤ x % ((2 ^ 64 : Nat) : Int) := Int.emod_nonneg _ (by omega); omega
  have hd : ((2 ^ i : Nat) : Int) ∣ ((2 ^ 64 : Nat) : Int) := Int.natCast_dvd_natCast.2 (Nat.pow_dvd_pow 2 (show i ≤ 64 by omega))
  unfold bits
  show IntKind.i64.wrap ((BitVec.ofInt 64 x &&& BitVec.ofInt 64 ((2 ^ i - 1 : Nat) : Int)).toNat : Int) = _
  rw [BitVec.toNat_and, h1, Nat.and_two_pow_sub_one_eq_mod, Int.natCast_emod, h2, Int.emod_emod_of_dvd _ hd, IntKind.wrap_i64]
  have h3 : 0 ≤ x % ((2 ^ i : Nat) : Int) := Int.emod_nonneg _ (by omega)
  have h4 : x % ((2 ^ i : Nat) : Int) < ((2 ^ i : Nat) : Int) := Int.emod_lt_of_pos _ (by omega)
  generalize x % ((2 ^ i : Nat) : Int) = y at *
  generalize 2 ^ i = P at *
  omega
end Go.Proofs.YtbkdaoicnobllabGreatDoor

namespace Go.Proofs.YtbkdaoicnobllabGreatDoor
open Go.RowKit

/-- What Format answers. -/
def FmtPost (f x verb prec mode : Int) (w w' : World) (r : Ending) (Q : List UInt8 → Prop) : Prop :=
  (hasB f x = true ∧ allowB verb prec mode = true ∧ ∃ T : List UInt8, r = .returned (.tuple #[.string (str (outT f x T)), .int .i64 0]) ∧ (amtI f x < infN f → Q T) ∧ T.length ≤ 5000 ∧ Below w.heap.size w w') ∨
  (¬ (hasB f x = true ∧ allowB verb prec mode = true) ∧ r = .returned (.tuple #[.string (str []), .int .i64 1]) ∧ Below w.heap.size w w')
set_option maxRecDepth 100000 in
set_option maxHeartbeats 1000000 in
theorem pformat_none (cv : Value) (x f verb prec mode : Int) (hf : ¬ (0 ≤ f ∧ f ≤ 2)) (w : World) : Calls Tryz.prog 21 #[cv, .int .i64 x, .int .i64 f, .int .i64 verb, .int .i64 prec, .int .i64 mode] w fun r w' => r = .returned (.tuple #[.string (str []), .int .i64 1]) ∧ Below w.heap.size w w' := by
  have HF : Hid (∀ w, Calls Tryz.prog 26 #[.int .i64 f] w fun e w' => e = .returned (.bool false) ∧ w' = w) := fun w => by
    have := isFormat_any f w
    rw [show formB f = false from by unfold formB; simp; omega] at this; exact this
  clear hf
  go_enter Tryz.func21, Tryz.ntmps21
  go_wp2_with fail
  refine (HF.out _).mono ?_
  rintro r w1 ⟨rfl, rfl⟩
  go_wp2
  go_ret2
  exact ⟨rfl, by first | exact Below.refl _ _ | exact ((Below.refl _ _).alloc (Nat.le_refl _) _).alloc (by simp) _⟩
set_option maxRecDepth 100000 in
set_option maxHeartbeats 1000000 in
theorem pformat0 (cv : Value) (x verb prec mode : Int) (Q : List UInt8 → Prop) (h1 : -9223372036854775808 ≤ x) (h2 : x ≤ 9223372036854775807) (w : World) (ht : Tab w)
    (HT0 : allowB verb prec mode = true → ∀ a : Nat, amtI 0 x = a → (a : Int) < 31744 → ∀ w : World, Tab w → Calls Tryz.prog 37 #[.int .i64 a, lay0, .bool (negI 0 x), styV verb prec mode] w fun r w' => TextPost w w' r Q) :
    Calls Tryz.prog 21 #[cv, .int .i64 x, .int .i64 0, .int .i64 verb, .int .i64 prec, .int .i64 mode] w fun r w' => FmtPost 0 x verb prec mode w w' r Q := by
  have HF : Hid (∀ w, Calls Tryz.prog 26 #[.int .i64 0] w fun e w' => e = .returned (.bool true) ∧ w' = w) := fun w => isFormat_any 0 w
  have HOF := hid (of0)
  have HHS := hid (fun w => has0 x h1 h2 w)
  have HAL := hid (allowed_any verb prec mode)
  have HTX : Hid (hasB 0 x = true → allowB verb prec mode = true → ∀ w : World, Tab w → Calls Tryz.prog 30 #[.int .i64 x, lay0, styV verb prec mode] w fun r w' => OutPost 0 x w w' r Q) := fun hh ha w hw => textOf0 x verb prec mode Q (by unfold hasB sgnF at hh; simp at hh; omega) (by unfold hasB sgnF at hh; simp at hh; omega) w hw (HT0 ha)
  have HTAB := hid ht
  clear HT0 ht h1 h2
  unfold lay0 styV at *
  go_enter Tryz.func21, Tryz.ntmps21
  go_wp2_with fail
  refine (HF.out _).mono ?_
  rintro r w0 ⟨rfl, rfl⟩
  go_wp2_with fail
  refine (HOF.out _).mono ?_
  rintro r w1 ⟨rfl, hb1⟩
  have HB1 : Hid (Below w0.heap.size w0 w1) := hb1
  clear hb1 HF HOF
  go_wp2_with fail
  have d0 : ((w1.alloc (.cells #[.int .i64 10, .int .i64 15, .int .i64 1024, .int .i64 31744, .int .i64 32768] 63)).alloc (.cells #[.int .i64 verb, .int .i64 prec, .int .i64 mode] 66)).cell? ⟨w1.heap.size, 0, none⟩ = some (Value.int .i64 10) := by simp [go_sem]
  have d1 : ((w1.alloc (.cells #[.int .i64 10, .int .i64 15, .int .i64 1024, .int .i64 31744, .int .i64 32768] 63)).alloc (.cells #[.int .i64 verb, .int .i64 prec, .int .i64 mode] 66)).cell? ⟨w1.heap.size, 1, none⟩ = some (Value.int .i64 15) := by simp [go_sem]
  have d2 : ((w1.alloc (.cells #[.int .i64 10, .int .i64 15, .int .i64 1024, .int .i64 31744, .int .i64 32768] 63)).alloc (.cells #[.int .i64 verb, .int .i64 prec, .int .i64 mode] 66)).cell? ⟨w1.heap.size, 2, none⟩ = some (Value.int .i64 1024) := by simp [go_sem]
  have d3 : ((w1.alloc (.cells #[.int .i64 10, .int .i64 15, .int .i64 1024, .int .i64 31744, .int .i64 32768] 63)).alloc (.cells #[.int .i64 verb, .int .i64 prec, .int .i64 mode] 66)).cell? ⟨w1.heap.size, 3, none⟩ = some (Value.int .i64 31744) := by simp [go_sem]
  have d4 : ((w1.alloc (.cells #[.int .i64 10, .int .i64 15, .int .i64 1024, .int .i64 31744, .int .i64 32768] 63)).alloc (.cells #[.int .i64 verb, .int .i64 prec, .int .i64 mode] 66)).cell? ⟨w1.heap.size, 4, none⟩ = some (Value.int .i64 32768) := by simp [go_sem]
  have s0 : ((w1.alloc (.cells #[.int .i64 10, .int .i64 15, .int .i64 1024, .int .i64 31744, .int .i64 32768] 63)).alloc (.cells #[.int .i64 verb, .int .i64 prec, .int .i64 mode] 66)).cell? ⟨w1.heap.size + 1, 0, none⟩ = some (Value.int .i64 verb) := by simp [go_sem]
  have s1 : ((w1.alloc (.cells #[.int .i64 10, .int .i64 15, .int .i64 1024, .int .i64 31744, .int .i64 32768] 63)).alloc (.cells #[.int .i64 verb, .int .i64 prec, .int .i64 mode] 66)).cell? ⟨w1.heap.size + 1, 1, none⟩ = some (Value.int .i64 prec) := by simp [go_sem]
  have s2 : ((w1.alloc (.cells #[.int .i64 10, .int .i64 15, .int .i64 1024, .int .i64 31744, .int .i64 32768] 63)).alloc (.cells #[.int .i64 verb, .int .i64 prec, .int .i64 mode] 66)).cell? ⟨w1.heap.size + 1, 2, none⟩ = some (Value.int .i64 mode) := by simp [go_sem]
  have HB2 : Hid (Below w0.heap.size w0 ((w1.alloc (.cells #[.int .i64 10, .int .i64 15, .int .i64 1024, .int .i64 31744, .int .i64 32768] 63)).alloc (.cells #[.int .i64 verb, .int .i64 prec, .int .i64 mode] 66))) := HB1.out.trans ((((Below.refl _ _).alloc (Nat.le_refl _) _).alloc (by simp) _).mono HB1.out.size)
  obtain ⟨C, hC⟩ : ∃ C, C = w1.heap.size := ⟨_, rfl⟩
  rw [← hC] at d0 d1 d2 d3 d4 s0 s1 s2 ⊢
  generalize ((w1.alloc (.cells #[.int .i64 10, .int .i64 15, .int .i64 1024, .int .i64 31744, .int .i64 32768] 63)).alloc (.cells #[.int .i64 verb, .int .i64 prec, .int .i64 mode] 66)) = W at *
  cases hhas : hasB 0 x with
  | false =>
    rw [hhas] at HHS
    refine (HHS.out W).mono ?_
    rintro r w2 ⟨rfl, hb2⟩
    have HF : Hid (FmtPost 0 x verb prec mode w0 w2 (.returned (.tuple #[.string (str []), .int .i64 1])) Q) := .inr ⟨by rw [hhas]; simp, rfl, HB2.out.trans (hb2.mono HB2.out.size)⟩
    clear hb2 hhas HHS HAL HTX d0 d1 d2 d3 d4 s0 s1 s2 hC
    go_wp2
    go_ret2
    exact HF.out
  | true =>
    rw [hhas] at HHS
    refine (HHS.out W).mono ?_
    rintro r w2 ⟨rfl, hb2⟩
    have HB3 : Hid (Below w0.heap.size w0 w2) := HB2.out.trans (hb2.mono HB2.out.size)
    have e0 := keep_cell' hb2 d0
    have e1 := keep_cell' hb2 d1
    have e2 := keep_cell' hb2 d2
    have e3 := keep_cell' hb2 d3
    have e4 := keep_cell' hb2 d4
    have z0 := keep_cell' hb2 s0
    have z1 := keep_cell' hb2 s1
    have z2 := keep_cell' hb2 s2
    clear hb2 HHS d0 d1 d2 d3 d4 s0 s1 s2 hC
    cases hal : allowB verb prec mode with
    | false =>
      rw [hal] at HAL
      have HF : Hid (∀ w', Below w0.heap.size w0 w' → FmtPost 0 x verb prec mode w0 w' (.returned (.tuple #[.string (str []), .int .i64 1])) Q) := fun w' hw => .inr ⟨by rw [hal]; simp, rfl, hw⟩
      clear HTX hhas hal
      go_wp2_with fail
      refine (HAL.out w2).mono ?_
      rintro r w3 ⟨rfl, hb3⟩
      have HB4 := hid (HB3.out.trans (hb3.mono HB3.out.size))
      clear hb3 HAL
      go_wp2
      go_ret2
      exact HF.out _ HB4.out
    | true =>
      rw [hal] at HAL
      have HTY := hid (HTX.out hhas hal)
      have HF : Hid (∀ (w' : World) (T : List UInt8), (amtI 0 x < infN 0 → Q T) → T.length ≤ 5000 → Below w0.heap.size w0 w' → FmtPost 0 x verb prec mode w0 w' (.returned (.tuple #[.string (str (outT 0 x T)), .int .i64 0])) Q) := fun w' T p1 p2 p3 => .inl ⟨hhas, hal, T, rfl, p1, p2, p3⟩
      clear HTX hhas hal
      go_wp2_with fail
      refine (HAL.out w2).mono ?_
      rintro r w3 ⟨rfl, hb3⟩
      have HB4 : Hid (Below w0.heap.size w0 w3) := HB3.out.trans (hb3.mono HB3.out.size)
      have e0' := keep_cell' hb3 e0
      have e1' := keep_cell' hb3 e1
      have e2' := keep_cell' hb3 e2
      have e3' := keep_cell' hb3 e3
      have e4' := keep_cell' hb3 e4
      have z0' := keep_cell' hb3 z0
      have z1' := keep_cell' hb3 z1
      have z2' := keep_cell' hb3 z2
      clear hb3 HAL e0 e1 e2 e3 e4 z0 z1 z2
      go_wp2_with fail
      refine (HTY.out w3 (HTAB.out.below HB4.out)).mono ?_
      rintro r w4 ⟨T, rfl, hq, hl, hb4⟩
      have HG := hid (HF.out w4 T hq hl (HB4.out.trans (hb4.mono HB4.out.size)))
      clear hq hl hb4 HTY HF
      go_wp2
      go_ret2
      exact HG.out
set_option maxRecDepth 100000 in
set_option maxHeartbeats 1000000 in
theorem pformat1 (cv : Value) (x verb prec mode : Int) (Q : List UInt8 → Prop) (h1 : -9223372036854775808 ≤ x) (h2 : x ≤ 9223372036854775807) (w : World) (ht : Tab w)
    (HT0 : allowB verb prec mode = true → ∀ a : Nat, amtI 1 x = a → (a : Int) < 2139095040 → ∀ w : World, Tab w → Calls Tryz.prog 37 #[.int .i64 a, lay1, .bool (negI 1 x), styV verb prec mode] w fun r w' => TextPost w w' r Q) :
    Calls Tryz.prog 21 #[cv, .int .i64 x, .int .i64 1, .int .i64 verb, .int .i64 prec, .int .i64 mode] w fun r w' => FmtPost 1 x verb prec mode w w' r Q := by
  have HF : Hid (∀ w, Calls Tryz.prog 26 #[.int .i64 1] w fun e w' => e = .returned (.bool true) ∧ w' = w) := fun w => isFormat_any 1 w
  have HOF := hid (of1)
  have HHS := hid (fun w => has1 x h1 h2 w)
  have HAL := hid (allowed_any verb prec mode)
  have HTX : Hid (hasB 1 x = true → allowB verb prec mode = true → ∀ w : World, Tab w → Calls Tryz.prog 30 #[.int .i64 x, lay1, styV verb prec mode] w fun r w' => OutPost 1 x w w' r Q) := fun hh ha w hw => textOf1 x verb prec mode Q (by unfold hasB sgnF at hh; simp at hh; omega) (by unfold hasB sgnF at hh; simp at hh; omega) w hw (HT0 ha)
  have HTAB := hid ht
  clear HT0 ht h1 h2
  unfold lay1 styV at *
  go_enter Tryz.func21, Tryz.ntmps21
  go_wp2_with fail
  refine (HF.out _).mono ?_
  rintro r w0 ⟨rfl, rfl⟩
  go_wp2_with fail
  refine (HOF.out _).mono ?_
  rintro r w1 ⟨rfl, hb1⟩
  have HB1 : Hid (Below w0.heap.size w0 w1) := hb1
  clear hb1 HF HOF
  go_wp2_with fail
  have d0 : ((w1.alloc (.cells #[.int .i64 23, .int .i64 127, .int .i64 8388608, .int .i64 2139095040, .int .i64 2147483648] 63)).alloc (.cells #[.int .i64 verb, .int .i64 prec, .int .i64 mode] 66)).cell? ⟨w1.heap.size, 0, none⟩ = some (Value.int .i64 23) := by simp [go_sem]
  have d1 : ((w1.alloc (.cells #[.int .i64 23, .int .i64 127, .int .i64 8388608, .int .i64 2139095040, .int .i64 2147483648] 63)).alloc (.cells #[.int .i64 verb, .int .i64 prec, .int .i64 mode] 66)).cell? ⟨w1.heap.size, 1, none⟩ = some (Value.int .i64 127) := by simp [go_sem]
  have d2 : ((w1.alloc (.cells #[.int .i64 23, .int .i64 127, .int .i64 8388608, .int .i64 2139095040, .int .i64 2147483648] 63)).alloc (.cells #[.int .i64 verb, .int .i64 prec, .int .i64 mode] 66)).cell? ⟨w1.heap.size, 2, none⟩ = some (Value.int .i64 8388608) := by simp [go_sem]
  have d3 : ((w1.alloc (.cells #[.int .i64 23, .int .i64 127, .int .i64 8388608, .int .i64 2139095040, .int .i64 2147483648] 63)).alloc (.cells #[.int .i64 verb, .int .i64 prec, .int .i64 mode] 66)).cell? ⟨w1.heap.size, 3, none⟩ = some (Value.int .i64 2139095040) := by simp [go_sem]
  have d4 : ((w1.alloc (.cells #[.int .i64 23, .int .i64 127, .int .i64 8388608, .int .i64 2139095040, .int .i64 2147483648] 63)).alloc (.cells #[.int .i64 verb, .int .i64 prec, .int .i64 mode] 66)).cell? ⟨w1.heap.size, 4, none⟩ = some (Value.int .i64 2147483648) := by simp [go_sem]
  have s0 : ((w1.alloc (.cells #[.int .i64 23, .int .i64 127, .int .i64 8388608, .int .i64 2139095040, .int .i64 2147483648] 63)).alloc (.cells #[.int .i64 verb, .int .i64 prec, .int .i64 mode] 66)).cell? ⟨w1.heap.size + 1, 0, none⟩ = some (Value.int .i64 verb) := by simp [go_sem]
  have s1 : ((w1.alloc (.cells #[.int .i64 23, .int .i64 127, .int .i64 8388608, .int .i64 2139095040, .int .i64 2147483648] 63)).alloc (.cells #[.int .i64 verb, .int .i64 prec, .int .i64 mode] 66)).cell? ⟨w1.heap.size + 1, 1, none⟩ = some (Value.int .i64 prec) := by simp [go_sem]
  have s2 : ((w1.alloc (.cells #[.int .i64 23, .int .i64 127, .int .i64 8388608, .int .i64 2139095040, .int .i64 2147483648] 63)).alloc (.cells #[.int .i64 verb, .int .i64 prec, .int .i64 mode] 66)).cell? ⟨w1.heap.size + 1, 2, none⟩ = some (Value.int .i64 mode) := by simp [go_sem]
  have HB2 : Hid (Below w0.heap.size w0 ((w1.alloc (.cells #[.int .i64 23, .int .i64 127, .int .i64 8388608, .int .i64 2139095040, .int .i64 2147483648] 63)).alloc (.cells #[.int .i64 verb, .int .i64 prec, .int .i64 mode] 66))) := HB1.out.trans ((((Below.refl _ _).alloc (Nat.le_refl _) _).alloc (by simp) _).mono HB1.out.size)
  obtain ⟨C, hC⟩ : ∃ C, C = w1.heap.size := ⟨_, rfl⟩
  rw [← hC] at d0 d1 d2 d3 d4 s0 s1 s2 ⊢
  generalize ((w1.alloc (.cells #[.int .i64 23, .int .i64 127, .int .i64 8388608, .int .i64 2139095040, .int .i64 2147483648] 63)).alloc (.cells #[.int .i64 verb, .int .i64 prec, .int .i64 mode] 66)) = W at *
  cases hhas : hasB 1 x with
  | false =>
    rw [hhas] at HHS
    refine (HHS.out W).mono ?_
    rintro r w2 ⟨rfl, hb2⟩
    have HF : Hid (FmtPost 1 x verb prec mode w0 w2 (.returned (.tuple #[.string (str []), .int .i64 1])) Q) := .inr ⟨by rw [hhas]; simp, rfl, HB2.out.trans (hb2.mono HB2.out.size)⟩
    clear hb2 hhas HHS HAL HTX d0 d1 d2 d3 d4 s0 s1 s2 hC
    go_wp2
    go_ret2
    exact HF.out
  | true =>
    rw [hhas] at HHS
    refine (HHS.out W).mono ?_
    rintro r w2 ⟨rfl, hb2⟩
    have HB3 : Hid (Below w0.heap.size w0 w2) := HB2.out.trans (hb2.mono HB2.out.size)
    have e0 := keep_cell' hb2 d0
    have e1 := keep_cell' hb2 d1
    have e2 := keep_cell' hb2 d2
    have e3 := keep_cell' hb2 d3
    have e4 := keep_cell' hb2 d4
    have z0 := keep_cell' hb2 s0
    have z1 := keep_cell' hb2 s1
    have z2 := keep_cell' hb2 s2
    clear hb2 HHS d0 d1 d2 d3 d4 s0 s1 s2 hC
    cases hal : allowB verb prec mode with
    | false =>
      rw [hal] at HAL
      have HF : Hid (∀ w', Below w0.heap.size w0 w' → FmtPost 1 x verb prec mode w0 w' (.returned (.tuple #[.string (str []), .int .i64 1])) Q) := fun w' hw => .inr ⟨by rw [hal]; simp, rfl, hw⟩
      clear HTX hhas hal
      go_wp2_with fail
      refine (HAL.out w2).mono ?_
      rintro r w3 ⟨rfl, hb3⟩
      have HB4 := hid (HB3.out.trans (hb3.mono HB3.out.size))
      clear hb3 HAL
      go_wp2
      go_ret2
      exact HF.out _ HB4.out
    | true =>
      rw [hal] at HAL
      have HTY := hid (HTX.out hhas hal)
      have HF : Hid (∀ (w' : World) (T : List UInt8), (amtI 1 x < infN 1 → Q T) → T.length ≤ 5000 → Below w0.heap.size w0 w' → FmtPost 1 x verb prec mode w0 w' (.returned (.tuple #[.string (str (outT 1 x T)), .int .i64 0])) Q) := fun w' T p1 p2 p3 => .inl ⟨hhas, hal, T, rfl, p1, p2, p3⟩
      clear HTX hhas hal
      go_wp2_with fail
      refine (HAL.out w2).mono ?_
      rintro r w3 ⟨rfl, hb3⟩
      have HB4 : Hid (Below w0.heap.size w0 w3) := HB3.out.trans (hb3.mono HB3.out.size)
      have e0' := keep_cell' hb3 e0
      have e1' := keep_cell' hb3 e1
      have e2' := keep_cell' hb3 e2
      have e3' := keep_cell' hb3 e3
      have e4' := keep_cell' hb3 e4
      have z0' := keep_cell' hb3 z0
      have z1' := keep_cell' hb3 z1
      have z2' := keep_cell' hb3 z2
      clear hb3 HAL e0 e1 e2 e3 e4 z0 z1 z2
      go_wp2_with fail
      refine (HTY.out w3 (HTAB.out.below HB4.out)).mono ?_
      rintro r w4 ⟨T, rfl, hq, hl, hb4⟩
      have HG := hid (HF.out w4 T hq hl (HB4.out.trans (hb4.mono HB4.out.size)))
      clear hq hl hb4 HTY HF
      go_wp2
      go_ret2
      exact HG.out
set_option maxRecDepth 100000 in
set_option maxHeartbeats 1000000 in
theorem pformat2 (cv : Value) (x verb prec mode : Int) (Q : List UInt8 → Prop) (h1 : -9223372036854775808 ≤ x) (h2 : x ≤ 9223372036854775807) (w : World) (ht : Tab w)
    (HT0 : allowB verb prec mode = true → ∀ a : Nat, amtI 2 x = a → (a : Int) < 9218868437227405312 → ∀ w : World, Tab w → Calls Tryz.prog 37 #[.int .i64 a, lay2, .bool (negI 2 x), styV verb prec mode] w fun r w' => TextPost w w' r Q) :
    Calls Tryz.prog 21 #[cv, .int .i64 x, .int .i64 2, .int .i64 verb, .int .i64 prec, .int .i64 mode] w fun r w' => FmtPost 2 x verb prec mode w w' r Q := by
  have HF : Hid (∀ w, Calls Tryz.prog 26 #[.int .i64 2] w fun e w' => e = .returned (.bool true) ∧ w' = w) := fun w => isFormat_any 2 w
  have HOF := hid (of2)
  have HHS := hid (fun w => has2 x w)
  have HAL := hid (allowed_any verb prec mode)
  have HTX : Hid (hasB 2 x = true → allowB verb prec mode = true → ∀ w : World, Tab w → Calls Tryz.prog 30 #[.int .i64 x, lay2, styV verb prec mode] w fun r w' => OutPost 2 x w w' r Q) := fun hh ha w hw => textOf2 x verb prec mode Q h1 h2 w hw (HT0 ha)
  have HTAB := hid ht
  clear HT0 ht h1 h2
  unfold lay2 styV at *
  go_enter Tryz.func21, Tryz.ntmps21
  go_wp2_with fail
  refine (HF.out _).mono ?_
  rintro r w0 ⟨rfl, rfl⟩
  go_wp2_with fail
  refine (HOF.out _).mono ?_
  rintro r w1 ⟨rfl, hb1⟩
  have HB1 : Hid (Below w0.heap.size w0 w1) := hb1
  clear hb1 HF HOF
  go_wp2_with fail
  have d0 : ((w1.alloc (.cells #[.int .i64 52, .int .i64 1023, .int .i64 4503599627370496, .int .i64 9218868437227405312, .int .i64 (-9223372036854775808)] 63)).alloc (.cells #[.int .i64 verb, .int .i64 prec, .int .i64 mode] 66)).cell? ⟨w1.heap.size, 0, none⟩ = some (Value.int .i64 52) := by simp [go_sem]
  have d1 : ((w1.alloc (.cells #[.int .i64 52, .int .i64 1023, .int .i64 4503599627370496, .int .i64 9218868437227405312, .int .i64 (-9223372036854775808)] 63)).alloc (.cells #[.int .i64 verb, .int .i64 prec, .int .i64 mode] 66)).cell? ⟨w1.heap.size, 1, none⟩ = some (Value.int .i64 1023) := by simp [go_sem]
  have d2 : ((w1.alloc (.cells #[.int .i64 52, .int .i64 1023, .int .i64 4503599627370496, .int .i64 9218868437227405312, .int .i64 (-9223372036854775808)] 63)).alloc (.cells #[.int .i64 verb, .int .i64 prec, .int .i64 mode] 66)).cell? ⟨w1.heap.size, 2, none⟩ = some (Value.int .i64 4503599627370496) := by simp [go_sem]
  have d3 : ((w1.alloc (.cells #[.int .i64 52, .int .i64 1023, .int .i64 4503599627370496, .int .i64 9218868437227405312, .int .i64 (-9223372036854775808)] 63)).alloc (.cells #[.int .i64 verb, .int .i64 prec, .int .i64 mode] 66)).cell? ⟨w1.heap.size, 3, none⟩ = some (Value.int .i64 9218868437227405312) := by simp [go_sem]
  have d4 : ((w1.alloc (.cells #[.int .i64 52, .int .i64 1023, .int .i64 4503599627370496, .int .i64 9218868437227405312, .int .i64 (-9223372036854775808)] 63)).alloc (.cells #[.int .i64 verb, .int .i64 prec, .int .i64 mode] 66)).cell? ⟨w1.heap.size, 4, none⟩ = some (Value.int .i64 (-9223372036854775808)) := by simp [go_sem]
  have s0 : ((w1.alloc (.cells #[.int .i64 52, .int .i64 1023, .int .i64 4503599627370496, .int .i64 9218868437227405312, .int .i64 (-9223372036854775808)] 63)).alloc (.cells #[.int .i64 verb, .int .i64 prec, .int .i64 mode] 66)).cell? ⟨w1.heap.size + 1, 0, none⟩ = some (Value.int .i64 verb) := by simp [go_sem]
  have s1 : ((w1.alloc (.cells #[.int .i64 52, .int .i64 1023, .int .i64 4503599627370496, .int .i64 9218868437227405312, .int .i64 (-9223372036854775808)] 63)).alloc (.cells #[.int .i64 verb, .int .i64 prec, .int .i64 mode] 66)).cell? ⟨w1.heap.size + 1, 1, none⟩ = some (Value.int .i64 prec) := by simp [go_sem]
  have s2 : ((w1.alloc (.cells #[.int .i64 52, .int .i64 1023, .int .i64 4503599627370496, .int .i64 9218868437227405312, .int .i64 (-9223372036854775808)] 63)).alloc (.cells #[.int .i64 verb, .int .i64 prec, .int .i64 mode] 66)).cell? ⟨w1.heap.size + 1, 2, none⟩ = some (Value.int .i64 mode) := by simp [go_sem]
  have HB2 : Hid (Below w0.heap.size w0 ((w1.alloc (.cells #[.int .i64 52, .int .i64 1023, .int .i64 4503599627370496, .int .i64 9218868437227405312, .int .i64 (-9223372036854775808)] 63)).alloc (.cells #[.int .i64 verb, .int .i64 prec, .int .i64 mode] 66))) := HB1.out.trans ((((Below.refl _ _).alloc (Nat.le_refl _) _).alloc (by simp) _).mono HB1.out.size)
  obtain ⟨C, hC⟩ : ∃ C, C = w1.heap.size := ⟨_, rfl⟩
  rw [← hC] at d0 d1 d2 d3 d4 s0 s1 s2 ⊢
  generalize ((w1.alloc (.cells #[.int .i64 52, .int .i64 1023, .int .i64 4503599627370496, .int .i64 9218868437227405312, .int .i64 (-9223372036854775808)] 63)).alloc (.cells #[.int .i64 verb, .int .i64 prec, .int .i64 mode] 66)) = W at *
  cases hhas : hasB 2 x with
  | false =>
    rw [hhas] at HHS
    refine (HHS.out W).mono ?_
    rintro r w2 ⟨rfl, hb2⟩
    have HF : Hid (FmtPost 2 x verb prec mode w0 w2 (.returned (.tuple #[.string (str []), .int .i64 1])) Q) := .inr ⟨by rw [hhas]; simp, rfl, HB2.out.trans (hb2.mono HB2.out.size)⟩
    clear hb2 hhas HHS HAL HTX d0 d1 d2 d3 d4 s0 s1 s2 hC
    go_wp2
    go_ret2
    exact HF.out
  | true =>
    rw [hhas] at HHS
    refine (HHS.out W).mono ?_
    rintro r w2 ⟨rfl, hb2⟩
    have HB3 : Hid (Below w0.heap.size w0 w2) := HB2.out.trans (hb2.mono HB2.out.size)
    have e0 := keep_cell' hb2 d0
    have e1 := keep_cell' hb2 d1
    have e2 := keep_cell' hb2 d2
    have e3 := keep_cell' hb2 d3
    have e4 := keep_cell' hb2 d4
    have z0 := keep_cell' hb2 s0
    have z1 := keep_cell' hb2 s1
    have z2 := keep_cell' hb2 s2
    clear hb2 HHS d0 d1 d2 d3 d4 s0 s1 s2 hC
    cases hal : allowB verb prec mode with
    | false =>
      rw [hal] at HAL
      have HF : Hid (∀ w', Below w0.heap.size w0 w' → FmtPost 2 x verb prec mode w0 w' (.returned (.tuple #[.string (str []), .int .i64 1])) Q) := fun w' hw => .inr ⟨by rw [hal]; simp, rfl, hw⟩
      clear HTX hhas hal
      go_wp2_with fail
      refine (HAL.out w2).mono ?_
      rintro r w3 ⟨rfl, hb3⟩
      have HB4 := hid (HB3.out.trans (hb3.mono HB3.out.size))
      clear hb3 HAL
      go_wp2
      go_ret2
      exact HF.out _ HB4.out
    | true =>
      rw [hal] at HAL
      have HTY := hid (HTX.out hhas hal)
      have HF : Hid (∀ (w' : World) (T : List UInt8), (amtI 2 x < infN 2 → Q T) → T.length ≤ 5000 → Below w0.heap.size w0 w' → FmtPost 2 x verb prec mode w0 w' (.returned (.tuple #[.string (str (outT 2 x T)), .int .i64 0])) Q) := fun w' T p1 p2 p3 => .inl ⟨hhas, hal, T, rfl, p1, p2, p3⟩
      clear HTX hhas hal
      go_wp2_with fail
      refine (HAL.out w2).mono ?_
      rintro r w3 ⟨rfl, hb3⟩
      have HB4 : Hid (Below w0.heap.size w0 w3) := HB3.out.trans (hb3.mono HB3.out.size)
      have e0' := keep_cell' hb3 e0
      have e1' := keep_cell' hb3 e1
      have e2' := keep_cell' hb3 e2
      have e3' := keep_cell' hb3 e3
      have e4' := keep_cell' hb3 e4
      have z0' := keep_cell' hb3 z0
      have z1' := keep_cell' hb3 z1
      have z2' := keep_cell' hb3 z2
      clear hb3 HAL e0 e1 e2 e3 e4 z0 z1 z2
      go_wp2_with fail
      refine (HTY.out w3 (HTAB.out.below HB4.out)).mono ?_
      rintro r w4 ⟨T, rfl, hq, hl, hb4⟩
      have HG := hid (HF.out w4 T hq hl (HB4.out.trans (hb4.mono HB4.out.size)))
      clear hq hl hb4 HTY HF
      go_wp2
      go_ret2
      exact HG.out
end Go.Proofs.YtbkdaoicnobllabGreatDoor

namespace Go.Proofs.YtbkdaoicnobllabGreatDoor
open Go.RowKit

/-- An amount below infinity's. -/
def finV (f a : Int) : Int := a % sgnF f % infN f
theorem finV_bd {f : Int} (hf : 0 ≤ f ∧ f ≤ 2) (a : Int) : 0 ≤ finV f a ∧ finV f a < infN f := by
  have h : (0 : Int) < infN f := by
    rcases (by omega : f = 0 ∨ f = 1 ∨ f = 2) with rfl | rfl | rfl <;> decide
  unfold finV
  exact ⟨Int.emod_nonneg _ (by omega), Int.emod_lt_of_pos _ h⟩
theorem infN_i64 {f : Int} (hf : 0 ≤ f ∧ f ≤ 2) : (infN f : Int) ≤ 9218868437227405312 := by
  rcases (by omega : f = 0 ∨ f = 1 ∨ f = 2) with rfl | rfl | rfl <;> decide
set_option maxRecDepth 100000 in
set_option maxHeartbeats 1000000 in
theorem finite0 (a : Int) (ha : -9223372036854775808 ≤ a ∧ a ≤ 9223372036854775807) (w : World) :
    Calls Tryz.prog 12 #[.int .i64 a, .int .i64 16, .int .i64 10] w fun e w' => e = .returned (.int .i64 (finV 0 a)) ∧ Below w.heap.size w w' := by
  obtain ⟨A, hA⟩ : ∃ A : Int, A = a % 32768 := ⟨_, rfl⟩
  have hm : bits .and .i64 a 32767 = A := by rw [hA]; exact and_mask a 15 (by omega)
  have hA1 : 0 ≤ A := by omega
  have hA2 : A < 32768 := by omega
  have HS : Hid (A % 31744 = finV 0 a) := by unfold Hid finV; rw [hA]; rfl
  clear hA
  obtain ⟨hB1, hB2⟩ := ha
  have hw : wrap64 (wrap64 9223372036854775808 - 1) = 9223372036854775807 := by unfold wrap64; decide
  have hw2 : wrap64 (wrap64 9223372036854775808 - 4503599627370496) = 9218868437227405312 := by unfold wrap64; decide
  go_enter Tryz.func12, Tryz.ntmps12
  go_wp2_with fail
  go_quiet (fail)
  go_wp2
  all_goals (go_ret; exact ⟨by rw [← HS.out]; rfl, ((Still.refl w).drewN _).below _⟩)
set_option maxRecDepth 100000 in
set_option maxHeartbeats 1000000 in
theorem finite1 (a : Int) (ha : -9223372036854775808 ≤ a ∧ a ≤ 9223372036854775807) (w : World) :
    Calls Tryz.prog 12 #[.int .i64 a, .int .i64 32, .int .i64 23] w fun e w' => e = .returned (.int .i64 (finV 1 a)) ∧ Below w.heap.size w w' := by
  obtain ⟨A, hA⟩ : ∃ A : Int, A = a % 2147483648 := ⟨_, rfl⟩
  have hm : bits .and .i64 a 2147483647 = A := by rw [hA]; exact and_mask a 31 (by omega)
  have hA1 : 0 ≤ A := by omega
  have hA2 : A < 2147483648 := by omega
  have HS : Hid (A % 2139095040 = finV 1 a) := by unfold Hid finV; rw [hA]; rfl
  clear hA
  obtain ⟨hB1, hB2⟩ := ha
  have hw : wrap64 (wrap64 9223372036854775808 - 1) = 9223372036854775807 := by unfold wrap64; decide
  have hw2 : wrap64 (wrap64 9223372036854775808 - 4503599627370496) = 9218868437227405312 := by unfold wrap64; decide
  go_enter Tryz.func12, Tryz.ntmps12
  go_wp2_with fail
  go_quiet (fail)
  go_wp2
  all_goals (go_ret; exact ⟨by rw [← HS.out]; rfl, ((Still.refl w).drewN _).below _⟩)
set_option maxRecDepth 100000 in
set_option maxHeartbeats 1000000 in
theorem finite2 (a : Int) (ha : -9223372036854775808 ≤ a ∧ a ≤ 9223372036854775807) (w : World) :
    Calls Tryz.prog 12 #[.int .i64 a, .int .i64 64, .int .i64 52] w fun e w' => e = .returned (.int .i64 (finV 2 a)) ∧ Below w.heap.size w w' := by
  obtain ⟨A, hA⟩ : ∃ A : Int, A = a % 9223372036854775808 := ⟨_, rfl⟩
  have hm : bits .and .i64 a 9223372036854775807 = A := by rw [hA]; exact and_mask a 63 (by omega)
  have hA1 : 0 ≤ A := by omega
  have hA2 : A < 9223372036854775808 := by omega
  have HS : Hid (A % 9218868437227405312 = finV 2 a) := by unfold Hid finV; rw [hA]; rfl
  clear hA
  obtain ⟨hB1, hB2⟩ := ha
  have hw : wrap64 (wrap64 9223372036854775808 - 1) = 9223372036854775807 := by unfold wrap64; decide
  have hw2 : wrap64 (wrap64 9223372036854775808 - 4503599627370496) = 9218868437227405312 := by unfold wrap64; decide
  go_enter Tryz.func12, Tryz.ntmps12
  go_wp2_with fail
  go_quiet (fail)
  go_wp2
  all_goals (go_ret; exact ⟨by rw [← HS.out]; rfl, ((Still.refl w).drewN _).below _⟩)
theorem finite_any (f a : Int) (hf : 0 ≤ f ∧ f ≤ 2) (ha : -9223372036854775808 ≤ a ∧ a ≤ 9223372036854775807) (w : World) :
    Calls Tryz.prog 12 #[.int .i64 a, .int .i64 (fW f), .int .i64 (fQ f : Nat)] w fun e w' => e = .returned (.int .i64 (finV f a)) ∧ Below w.heap.size w w' := by
  rcases (by omega : f = 0 ∨ f = 1 ∨ f = 2) with rfl | rfl | rfl
  · exact finite0 a ha w
  · exact finite1 a ha w
  · exact finite2 a ha w
/-- What Format answers of a finite amount. -/
def GoodPost (w w' : World) (r : Ending) (Q : List UInt8 → Prop) : Prop := ∃ T : List UInt8, r = .returned (.tuple #[.string (str T), .int .i64 0]) ∧ Q T ∧ T.length ≤ 5000 ∧ Below w.heap.size w w'
theorem fin_pat {f v : Int} (hf : 0 ≤ f ∧ f ≤ 2) (h0 : 0 ≤ v) (h1 : v < infN f) : hasB f v = true ∧ negI f v = false ∧ amtI f v = v := by
  rcases (by omega : f = 0 ∨ f = 1 ∨ f = 2) with rfl | rfl | rfl
  · have h1 : v < 31744 := h1
    simp [hasB, negI, amtI, sgnF]; omega
  · have h1 : v < 2139095040 := h1
    simp [hasB, negI, amtI, sgnF]; omega
  · have h1 : v < 9218868437227405312 := h1
    simp [hasB, negI, amtI, sgnF]; omega
theorem fmt_good {f v verb prec mode : Int} {w w' : World} {r : Ending} {Q : List UInt8 → Prop} (hf : 0 ≤ f ∧ f ≤ 2) (h0 : 0 ≤ v) (h1 : v < infN f) (ha : allowB verb prec mode = true) (h : FmtPost f v verb prec mode w w' r Q) : GoodPost w w' r Q := by
  obtain ⟨p1, p2, p3⟩ := fin_pat hf h0 h1
  rcases h with ⟨_, _, T, rfl, hq, hl, hb⟩ | ⟨hn, _⟩
  · refine ⟨T, ?_, hq (by rw [p3]; exact h1), hl, hb⟩
    unfold outT
    rw [p3, p2, if_neg (by omega), if_pos h1]; rfl
  · exact absurd ⟨p1, ha⟩ hn
set_option maxRecDepth 100000 in
set_option maxHeartbeats 1000000 in
theorem prints_of (cv : Value) (v f verb prec : Int) (Q : List UInt8 → Prop) (w : World)
    (HF0 : Calls Tryz.prog 21 #[cv, .int .i64 v, .int .i64 f, .int .i64 verb, .int .i64 prec, .int .i64 0] w fun r w' => GoodPost w w' r Q) :
    Calls Tryz.prog 13 #[cv, .int .i64 v, .int .i64 f, .int .i64 verb, .int .i64 prec] w fun r w' => TextPost w w' r Q := by
  have HF := hid HF0
  clear HF0
  go_enter Tryz.func13, Tryz.ntmps13
  go_wp2_with fail
  refine HF.out.mono ?_
  rintro r w1 ⟨T, rfl, hq, hl, hb⟩
  have HP : Hid (TextPost w w1 (.returned (.string (str T))) Q) := ⟨T, rfl, hq, hl, hb⟩
  clear hq hl hb HF
  go_wp2
  all_goals (go_ret; exact HP.out)
end Go.Proofs.YtbkdaoicnobllabGreatDoor

namespace Go.Proofs.YtbkdaoicnobllabGreatDoor
open Go.RowKit

/-- The bytes that lie in a block of their own. -/
def BytesAt (w : World) (G : Nat) (l : List UInt8) : Prop := ∀ j (hj : j < l.length), w.cell? ⟨G, j, none⟩ = some (.int .u8 (l[j].toNat : Int)) ∧ w.frozen? ⟨G, j, none⟩ = false
theorem BytesAt.set {w : World} {G : Nat} {l : List UInt8} (h : BytesAt w G l) (i : Nat) (hi : i < l.length) (b : UInt8) (z : Int) (hz : z = (b.toNat : Int)) : BytesAt (w.setCell ⟨G, i, none⟩ (.int .u8 z)) G (l.set i b) := by
  intro j hj
  rw [List.length_set] at hj
  have hf : (w.setCell ⟨G, i, none⟩ (.int .u8 z)).frozen? ⟨G, j, none⟩ = w.frozen? ⟨G, j, none⟩ := by simp [go_sem]
  refine ⟨?_, by rw [hf]; exact (h j hj).2⟩
  rw [List.getElem_set]
  by_cases hij : i = j
  · subst hij
    rw [if_pos rfl, hz]
    exact World.cell?_setCell_same' _ _ _ (by rw [(h i hi).1]; rfl)
  · rw [if_neg hij, World.cell?_setCell_other _ _ _ _ (by simp; try omega)]
    exact (h j hj).1
theorem BytesAt.new (w : World) (l : List UInt8) (C : Array Value) (t : TypeId) (c : Nat) (hc : l.length ≤ c) (hC : ∀ j (hj : j < l.length), C[j]? = some (.int .u8 (l[j].toNat : Int))) : BytesAt (w.alloc (.cells C t (c, c + 1))) w.heap.size l := fun j hj =>
  ⟨by rw [World.cell?_alloc_mark]; exact hC j hj, by rw [World.frozen?_alloc_mark]; simp; omega⟩
/-- What is behind the place k is noughts, and was nines. -/
def moreL (d : List UInt8) (k : Nat) : List UInt8 := d.take k ++ List.replicate (d.length - k) 48
theorem moreL_length (d : List UInt8) (k : Nat) (hk : k ≤ d.length) : (moreL d k).length = d.length := by unfold moreL; simp; omega
theorem moreL_all (d : List UInt8) : moreL d d.length = d := by unfold moreL; simp
theorem moreL_get (d : List UInt8) (j : Nat) (hj : j < d.length) (h' : j < (moreL d (j + 1)).length) : (moreL d (j + 1))[j] = d[j] := by
  have h : (moreL d (j + 1))[j]? = some d[j] := by
    unfold moreL
    rw [List.getElem?_append_left (by simp; omega)]; simp [hj]
  exact (List.getElem?_eq_some_iff.1 h).2
theorem moreL_set (d : List UInt8) (j : Nat) (hj : j < d.length) : (moreL d (j + 1)).set j 48 = moreL d j := by
  unfold moreL
  rw [List.take_succ_eq_append_getElem hj, List.append_assoc, List.set_append_right _ _ (by simp; omega)]
  rw [List.length_take, show j - min j d.length = 0 from by omega]
  simp only [List.cons_append, List.nil_append, List.set_cons_zero]
  rw [show d.length - j = d.length - (j + 1) + 1 from by omega, List.replicate_succ]
/-- The digits of the next number. -/
def MoreOf (d r : List UInt8) : Prop := (∀ c ∈ r, 48 ≤ c.toNat ∧ c.toNat ≤ 57) ∧ r ≠ [] ∧ r.length ≤ d.length + 1 ∧ num (vals (r.map UInt8.toNat)) = num (vals (d.map UInt8.toNat)) + 1
theorem num_vals_zeros (n : Nat) : num (vals ((List.replicate n (48 : UInt8)).map UInt8.toNat)) = 0 := by
  rw [show vals ((List.replicate n (48 : UInt8)).map UInt8.toNat) = List.replicate n 0 from by unfold vals; simp]
  exact num_zeros n
theorem num_vals_nines (l : List UInt8) (h : ∀ c ∈ l, c = 57) : num (vals (l.map UInt8.toNat)) + 1 = 10 ^ l.length := by
  have := num_nines (vals (l.map UInt8.toNat)) (fun d hd => by
    unfold vals at hd
    obtain ⟨c, hc, rfl⟩ := List.mem_map.1 hd
    obtain ⟨b, hb, rfl⟩ := List.mem_map.1 hc
    rw [h b hb]; rfl)
  rw [this]; unfold vals; simp
theorem more_up (d : List UInt8) (j : Nat) (hj : j < d.length) (hd : ∀ c ∈ d, 48 ≤ c.toNat ∧ c.toNat ≤ 57) (h9 : ∀ i (hi : i < d.length), j < i → d[i] = 57) (hne : d[j] ≠ 57) (b : UInt8) (hb : b.toNat = d[j].toNat + 1) : MoreOf d ((moreL d (j + 1)).set j b) := by
  have hdj := hd d[j] (List.getElem_mem hj)
  have hlt : d[j].toNat ≤ 56 := by
    apply Nat.le_of_not_lt; intro h
    apply hne; apply UInt8.toNat_inj.1
    show d[j].toNat = 57; omega
  have e1 : (moreL d (j + 1)).set j b = d.take j ++ (b :: List.replicate (d.length - (j + 1)) 48) := by
    unfold moreL
    rw [List.take_succ_eq_append_getElem hj, List.append_assoc, List.set_append_right _ _ (by simp; omega)]
    rw [List.length_take, show j - min j d.length = 0 from by omega]
    simp
  have e2 : d = d.take j ++ (d[j] :: d.drop (j + 1)) := by
    rw [← List.drop_eq_getElem_cons hj, List.take_append_drop]
  rw [e1]
  refine ⟨fun c hc => ?_, by simp, by simp; omega, ?_⟩
  · rcases List.mem_append.1 hc with h | h
    · exact hd c (List.mem_of_mem_take h)
    · rcases List.mem_cons.1 h with h | h
      · rw [h]; omega
      · rw [(List.mem_replicate.1 h).2]; decide
  · have n9 := num_vals_nines (d.drop (j + 1)) (fun c hc => by
      obtain ⟨i, hi, rfl⟩ := List.mem_iff_getElem.1 hc
      rw [List.getElem_drop]
      exact h9 _ _ (by omega))
    have l9 : (d.drop (j + 1)).length = d.length - (j + 1) := by simp
    conv => rhs; rw [e2]
    simp only [List.map_append, List.map_cons, vals_app]
    rw [num_append, num_append]
    have c1 : ∀ (x : Nat) (r : List Nat), vals (x :: r) = (x - 48) :: vals r := fun x r => rfl
    rw [c1, c1, num_cons, num_cons, num_vals_zeros]
    have ll : ∀ l : List Nat, (vals l).length = l.length := fun l => by unfold vals; simp
    simp only [List.length_cons, ll, List.length_map, List.length_replicate, l9] at n9 ⊢
    generalize num (vals ((d.drop (j + 1)).map UInt8.toNat)) = A at *
    generalize num (vals ((d.take j).map UInt8.toNat)) = B at *
    generalize 10 ^ (d.length - (j + 1)) = P at *
    rw [hb, show d[j].toNat + 1 - 48 = (d[j].toNat - 48) + 1 from by omega, Nat.add_mul, Nat.one_mul]
    omega
theorem more_all (d : List UInt8) (h9 : ∀ i (hi : i < d.length), d[i] = 57) : MoreOf d (49 :: moreL d 0) := by
  have n9 := num_vals_nines d (fun c hc => by
    obtain ⟨i, hi, rfl⟩ := List.mem_iff_getElem.1 hc
    exact h9 i hi)
  have e1 : moreL d 0 = List.replicate d.length 48 := by unfold moreL; simp
  rw [e1]
  refine ⟨fun c hc => ?_, by simp, by simp, ?_⟩
  · rcases List.mem_cons.1 hc with h | h
    · rw [h]; decide
    · rw [(List.mem_replicate.1 h).2]; decide
  · have c1 : ∀ (x : Nat) (r : List Nat), vals (x :: r) = (x - 48) :: vals r := fun x r => rfl
    have ll : ∀ l : List Nat, (vals l).length = l.length := fun l => by unfold vals; simp
    simp only [List.map_cons]
    rw [c1, num_cons, num_vals_zeros, ll]
    simp only [List.length_map, List.length_replicate]
    rw [n9]; simp
end Go.Proofs.YtbkdaoicnobllabGreatDoor
