import Derived.Test.YtbkdaoicnobllabGreatDoorG07
import Derived.Test.YtbkdaoicnobllabGreatDoorG25
import Derived.Test.YtbkdaoicnobllabGreatDoorG22
import Derived.Test.YtbkdaoicnobllabGreatDoorG21
import Derived.Test.YtbkdaoicnobllabGreatDoorG01

namespace Go.Proofs.YtbkdaoicnobllabGreatDoor
open Go.RowKit

/-- What Format answers. -/
def FmtPost (f x verb prec mode : Int) (w w' : World) (r : Ending) (Q : List UInt8 → Prop) : Prop :=
  (hasB f x = true ∧ allowB verb prec mode = true ∧ ∃ T : List UInt8, r = .returned (.tuple #[.string (str (outT f x T)), .int .i64 0]) ∧ (amtI f x < infN f → Q T) ∧ T.length ≤ 5000 ∧ Below w.heap.size w w') ∨
  (¬ (hasB f x = true ∧ allowB verb prec mode = true) ∧ r = .returned (.tuple #[.string (str []), .int .i64 1]) ∧ Below w.heap.size w w')
set_option maxRecDepth 100000 in
set_option maxHeartbeats 1000000 in
theorem pformat_none (cv : Value) (x f verb prec mode : Int) (hf : ¬ (0 ≤ f ∧ f ≤ 2)) (w : World) : Calls Tryz.prog 21 #[cv, .int .i64 x, .int .i64 f, .int .i64 verb, .int .i64 prec, .int .i64 mode] w fun r w' => r = .returned (.tuple #[.string (str []), .int .i64 1]) ∧ Below w.heap.size w w' := by
  have HF : Hid (∀ w, Calls Tryz.prog 26 #[.int .i64 f] w fun e w' => e = .returned (.bool false) ∧ w' = w) := fun w => by
    have := isFormat_any f w
    rw [show formB f = false from by unfold formB; simp; omega] at this; exact this
  clear hf
  go_enter Tryz.func21, Tryz.ntmps21
  go_wp2_with fail
  refine (HF.out _).mono ?_
  rintro r w1 ⟨rfl, rfl⟩
  go_wp2
  go_ret2
  exact ⟨rfl, by first | exact Below.refl _ _ | exact ((Below.refl _ _).alloc (Nat.le_refl _) _).alloc (by simp) _⟩
set_option maxRecDepth 100000 in
set_option maxHeartbeats 1000000 in
theorem pformat0 (cv : Value) (x verb prec mode : Int) (Q : List UInt8 → Prop) (h1 : -9223372036854775808 ≤ x) (h2 : x ≤ 9223372036854775807) (w : World) (ht : Tab w)
    (HT0 : allowB verb prec mode = true → ∀ a : Nat, amtI 0 x = a → (a : Int) < 31744 → ∀ w : World, Tab w → Calls Tryz.prog 37 #[.int .i64 a, lay0, .bool (negI 0 x), styV verb prec mode] w fun r w' => TextPost w w' r Q) :
    Calls Tryz.prog 21 #[cv, .int .i64 x, .int .i64 0, .int .i64 verb, .int .i64 prec, .int .i64 mode] w fun r w' => FmtPost 0 x verb prec mode w w' r Q := by
  have HF : Hid (∀ w, Calls Tryz.prog 26 #[.int .i64 0] w fun e w' => e = .returned (.bool true) ∧ w' = w) := fun w => isFormat_any 0 w
  have HOF := hid (of0)
  have HHS := hid (fun w => has0 x h1 h2 w)
  have HAL := hid (allowed_any verb prec mode)
  have HTX : Hid (hasB 0 x = true → allowB verb prec mode = true → ∀ w : World, Tab w → Calls Tryz.prog 30 #[.int .i64 x, lay0, styV verb prec mode] w fun r w' => OutPost 0 x w w' r Q) := fun hh ha w hw => textOf0 x verb prec mode Q (by unfold hasB sgnF at hh; simp at hh; omega) (by unfold hasB sgnF at hh; simp at hh; omega) w hw (HT0 ha)
  have HTAB := hid ht
  clear HT0 ht h1 h2
  unfold lay0 styV at *
  go_enter Tryz.func21, Tryz.ntmps21
  go_wp2_with fail
  refine (HF.out _).mono ?_
  rintro r w0 ⟨rfl, rfl⟩
  go_wp2_with fail
  refine (HOF.out _).mono ?_
  rintro r w1 ⟨rfl, hb1⟩
  have HB1 : Hid (Below w0.heap.size w0 w1) := hb1
  clear hb1 HF HOF
  go_wp2_with fail
  have d0 : ((w1.alloc (.cells #[.int .i64 10, .int .i64 15, .int .i64 1024, .int .i64 31744, .int .i64 32768] 63)).alloc (.cells #[.int .i64 verb, .int .i64 prec, .int .i64 mode] 66)).cell? ⟨w1.heap.size, 0, none⟩ = some (Value.int .i64 10) := by simp [go_sem]
  have d1 : ((w1.alloc (.cells #[.int .i64 10, .int .i64 15, .int .i64 1024, .int .i64 31744, .int .i64 32768] 63)).alloc (.cells #[.int .i64 verb, .int .i64 prec, .int .i64 mode] 66)).cell? ⟨w1.heap.size, 1, none⟩ = some (Value.int .i64 15) := by simp [go_sem]
  have d2 : ((w1.alloc (.cells #[.int .i64 10, .int .i64 15, .int .i64 1024, .int .i64 31744, .int .i64 32768] 63)).alloc (.cells #[.int .i64 verb, .int .i64 prec, .int .i64 mode] 66)).cell? ⟨w1.heap.size, 2, none⟩ = some (Value.int .i64 1024) := by simp [go_sem]
  have d3 : ((w1.alloc (.cells #[.int .i64 10, .int .i64 15, .int .i64 1024, .int .i64 31744, .int .i64 32768] 63)).alloc (.cells #[.int .i64 verb, .int .i64 prec, .int .i64 mode] 66)).cell? ⟨w1.heap.size, 3, none⟩ = some (Value.int .i64 31744) := by simp [go_sem]
  have d4 : ((w1.alloc (.cells #[.int .i64 10, .int .i64 15, .int .i64 1024, .int .i64 31744, .int .i64 32768] 63)).alloc (.cells #[.int .i64 verb, .int .i64 prec, .int .i64 mode] 66)).cell? ⟨w1.heap.size, 4, none⟩ = some (Value.int .i64 32768) := by simp [go_sem]
  have s0 : ((w1.alloc (.cells #[.int .i64 10, .int .i64 15, .int .i64 1024, .int .i64 31744, .int .i64 32768] 63)).alloc (.cells #[.int .i64 verb, .int .i64 prec, .int .i64 mode] 66)).cell? ⟨w1.heap.size + 1, 0, none⟩ = some (Value.int .i64 verb) := by simp [go_sem]
  have s1 : ((w1.alloc (.cells #[.int .i64 10, .int .i64 15, .int .i64 1024, .int .i64 31744, .int .i64 32768] 63)).alloc (.cells #[.int .i64 verb, .int .i64 prec, .int .i64 mode] 66)).cell? ⟨w1.heap.size + 1, 1, none⟩ = some (Value.int .i64 prec) := by simp [go_sem]
  have s2 : ((w1.alloc (.cells #[.int .i64 10, .int .i64 15, .int .i64 1024, .int .i64 31744, .int .i64 32768] 63)).alloc (.cells #[.int .i64 verb, .int .i64 prec, .int .i64 mode] 66)).cell? ⟨w1.heap.size + 1, 2, none⟩ = some (Value.int .i64 mode) := by simp [go_sem]
  have HB2 : Hid (Below w0.heap.size w0 ((w1.alloc (.cells #[.int .i64 10, .int .i64 15, .int .i64 1024, .int .i64 31744, .int .i64 32768] 63)).alloc (.cells #[.int .i64 verb, .int .i64 prec, .int .i64 mode] 66))) := HB1.out.trans ((((Below.refl _ _).alloc (Nat.le_refl _) _).alloc (by simp) _).mono HB1.out.size)
  obtain ⟨C, hC⟩ : ∃ C, C = w1.heap.size := ⟨_, rfl⟩
  rw [← hC] at d0 d1 d2 d3 d4 s0 s1 s2 ⊢
  generalize ((w1.alloc (.cells #[.int .i64 10, .int .i64 15, .int .i64 1024, .int .i64 31744, .int .i64 32768] 63)).alloc (.cells #[.int .i64 verb, .int .i64 prec, .int .i64 mode] 66)) = W at *
  cases hhas : hasB 0 x with
  | false =>
    rw [hhas] at HHS
    refine (HHS.out W).mono ?_
    rintro r w2 ⟨rfl, hb2⟩
    have HF : Hid (FmtPost 0 x verb prec mode w0 w2 (.returned (.tuple #[.string (str []), .int .i64 1])) Q) := .inr ⟨by rw [hhas]; simp, rfl, HB2.out.trans (hb2.mono HB2.out.size)⟩
    clear hb2 hhas HHS HAL HTX d0 d1 d2 d3 d4 s0 s1 s2 hC
    go_wp2
    go_ret2
    exact HF.out
  | true =>
    rw [hhas] at HHS
    refine (HHS.out W).mono ?_
    rintro r w2 ⟨rfl, hb2⟩
    have HB3 : Hid (Below w0.heap.size w0 w2) := HB2.out.trans (hb2.mono HB2.out.size)
    have e0 := keep_cell' hb2 d0
    have e1 := keep_cell' hb2 d1
    have e2 := keep_cell' hb2 d2
    have e3 := keep_cell' hb2 d3
    have e4 := keep_cell' hb2 d4
    have z0 := keep_cell' hb2 s0
    have z1 := keep_cell' hb2 s1
    have z2 := keep_cell' hb2 s2
    clear hb2 HHS d0 d1 d2 d3 d4 s0 s1 s2 hC
    cases hal : allowB verb prec mode with
    | false =>
      rw [hal] at HAL
      have HF : Hid (∀ w', Below w0.heap.size w0 w' → FmtPost 0 x verb prec mode w0 w' (.returned (.tuple #[.string (str []), .int .i64 1])) Q) := fun w' hw => .inr ⟨by rw [hal]; simp, rfl, hw⟩
      clear HTX hhas hal
      go_wp2_with fail
      refine (HAL.out w2).mono ?_
      rintro r w3 ⟨rfl, hb3⟩
      have HB4 := hid (HB3.out.trans (hb3.mono HB3.out.size))
      clear hb3 HAL
      go_wp2
      go_ret2
      exact HF.out _ HB4.out
    | true =>
      rw [hal] at HAL
      have HTY := hid (HTX.out hhas hal)
      have HF : Hid (∀ (w' : World) (T : List UInt8), (amtI 0 x < infN 0 → Q T) → T.length ≤ 5000 → Below w0.heap.size w0 w' → FmtPost 0 x verb prec mode w0 w' (.returned (.tuple #[.string (str (outT 0 x T)), .int .i64 0])) Q) := fun w' T p1 p2 p3 => .inl ⟨hhas, hal, T, rfl, p1, p2, p3⟩
      clear HTX hhas hal
      go_wp2_with fail
      refine (HAL.out w2).mono ?_
      rintro r w3 ⟨rfl, hb3⟩
      have HB4 : Hid (Below w0.heap.size w0 w3) := HB3.out.trans (hb3.mono HB3.out.size)
      have e0' := keep_cell' hb3 e0
      have e1' := keep_cell' hb3 e1
      have e2' := keep_cell' hb3 e2
      have e3' := keep_cell' hb3 e3
      have e4' := keep_cell' hb3 e4
      have z0' := keep_cell' hb3 z0
      have z1' := keep_cell' hb3 z1
      have z2' := keep_cell' hb3 z2
      clear hb3 HAL e0 e1 e2 e3 e4 z0 z1 z2
      go_wp2_with fail
      refine (HTY.out w3 (HTAB.out.below HB4.out)).mono ?_
      rintro r w4 ⟨T, rfl, hq, hl, hb4⟩
      have HG := hid (HF.out w4 T hq hl (HB4.out.trans (hb4.mono HB4.out.size)))
      clear hq hl hb4 HTY HF
      go_wp2
      go_ret2
      exact HG.out
set_option maxRecDepth 100000 in
set_option maxHeartbeats 1000000 in
theorem pformat1 (cv : Value) (x verb prec mode : Int) (Q : List UInt8 → Prop) (h1 : -9223372036854775808 ≤ x) (h2 : x ≤ 9223372036854775807) (w : World) (ht : Tab w)
    (HT0 : allowB verb prec mode = true → ∀ a : Nat, amtI 1 x = a → (a : Int) < 2139095040 → ∀ w : World, Tab w → Calls Tryz.prog 37 #[.int .i64 a, lay1, .bool (negI 1 x), styV verb prec mode] w fun r w' => TextPost w w' r Q) :
    Calls Tryz.prog 21 #[cv, .int .i64 x, .int .i64 1, .int .i64 verb, .int .i64 prec, .int .i64 mode] w fun r w' => FmtPost 1 x verb prec mode w w' r Q := by
  have HF : Hid (∀ w, Calls Tryz.prog 26 #[.int .i64 1] w fun e w' => e = .returned (.bool true) ∧ w' = w) := fun w => isFormat_any 1 w
  have HOF := hid (of1)
  have HHS := hid (fun w => has1 x h1 h2 w)
  have HAL := hid (allowed_any verb prec mode)
  have HTX : Hid (hasB 1 x = true → allowB verb prec mode = true → ∀ w : World, Tab w → Calls Tryz.prog 30 #[.int .i64 x, lay1, styV verb prec mode] w fun r w' => OutPost 1 x w w' r Q) := fun hh ha w hw => textOf1 x verb prec mode Q (by unfold hasB sgnF at hh; simp at hh; omega) (by unfold hasB sgnF at hh; simp at hh; omega) w hw (HT0 ha)
  have HTAB := hid ht
  clear HT0 ht h1 h2
  unfold lay1 styV at *
  go_enter Tryz.func21, Tryz.ntmps21
  go_wp2_with fail
  refine (HF.out _).mono ?_
  rintro r w0 ⟨rfl, rfl⟩
  go_wp2_with fail
  refine (HOF.out _).mono ?_
  rintro r w1 ⟨rfl, hb1⟩
  have HB1 : Hid (Below w0.heap.size w0 w1) := hb1
  clear hb1 HF HOF
  go_wp2_with fail
  have d0 : ((w1.alloc (.cells #[.int .i64 23, .int .i64 127, .int .i64 8388608, .int .i64 2139095040, .int .i64 2147483648] 63)).alloc (.cells #[.int .i64 verb, .int .i64 prec, .int .i64 mode] 66)).cell? ⟨w1.heap.size, 0, none⟩ = some (Value.int .i64 23) := by simp [go_sem]
  have d1 : ((w1.alloc (.cells #[.int .i64 23, .int .i64 127, .int .i64 8388608, .int .i64 2139095040, .int .i64 2147483648] 63)).alloc (.cells #[.int .i64 verb, .int .i64 prec, .int .i64 mode] 66)).cell? ⟨w1.heap.size, 1, none⟩ = some (Value.int .i64 127) := by simp [go_sem]
  have d2 : ((w1.alloc (.cells #[.int .i64 23, .int .i64 127, .int .i64 8388608, .int .i64 2139095040, .int .i64 2147483648] 63)).alloc (.cells #[.int .i64 verb, .int .i64 prec, .int .i64 mode] 66)).cell? ⟨w1.heap.size, 2, none⟩ = some (Value.int .i64 8388608) := by simp [go_sem]
  have d3 : ((w1.alloc (.cells #[.int .i64 23, .int .i64 127, .int .i64 8388608, .int .i64 2139095040, .int .i64 2147483648] 63)).alloc (.cells #[.int .i64 verb, .int .i64 prec, .int .i64 mode] 66)).cell? ⟨w1.heap.size, 3, none⟩ = some (Value.int .i64 2139095040) := by simp [go_sem]
  have d4 : ((w1.alloc (.cells #[.int .i64 23, .int .i64 127, .int .i64 8388608, .int .i64 2139095040, .int .i64 2147483648] 63)).alloc (.cells #[.int .i64 verb, .int .i64 prec, .int .i64 mode] 66)).cell? ⟨w1.heap.size, 4, none⟩ = some (Value.int .i64 2147483648) := by simp [go_sem]
  have s0 : ((w1.alloc (.cells #[.int .i64 23, .int .i64 127, .int .i64 8388608, .int .i64 2139095040, .int .i64 2147483648] 63)).alloc (.cells #[.int .i64 verb, .int .i64 prec, .int .i64 mode] 66)).cell? ⟨w1.heap.size + 1, 0, none⟩ = some (Value.int .i64 verb) := by simp [go_sem]
  have s1 : ((w1.alloc (.cells #[.int .i64 23, .int .i64 127, .int .i64 8388608, .int .i64 2139095040, .int .i64 2147483648] 63)).alloc (.cells #[.int .i64 verb, .int .i64 prec, .int .i64 mode] 66)).cell? ⟨w1.heap.size + 1, 1, none⟩ = some (Value.int .i64 prec) := by simp [go_sem]
  have s2 : ((w1.alloc (.cells #[.int .i64 23, .int .i64 127, .int .i64 8388608, .int .i64 2139095040, .int .i64 2147483648] 63)).alloc (.cells #[.int .i64 verb, .int .i64 prec, .int .i64 mode] 66)).cell? ⟨w1.heap.size + 1, 2, none⟩ = some (Value.int .i64 mode) := by simp [go_sem]
  have HB2 : Hid (Below w0.heap.size w0 ((w1.alloc (.cells #[.int .i64 23, .int .i64 127, .int .i64 8388608, .int .i64 2139095040, .int .i64 2147483648] 63)).alloc (.cells #[.int .i64 verb, .int .i64 prec, .int .i64 mode] 66))) := HB1.out.trans ((((Below.refl _ _).alloc (Nat.le_refl _) _).alloc (by simp) _).mono HB1.out.size)
  obtain ⟨C, hC⟩ : ∃ C, C = w1.heap.size := ⟨_, rfl⟩
  rw [← hC] at d0 d1 d2 d3 d4 s0 s1 s2 ⊢
  generalize ((w1.alloc (.cells #[.int .i64 23, .int .i64 127, .int .i64 8388608, .int .i64 2139095040, .int .i64 2147483648] 63)).alloc (.cells #[.int .i64 verb, .int .i64 prec, .int .i64 mode] 66)) = W at *
  cases hhas : hasB 1 x with
  | false =>
    rw [hhas] at HHS
    refine (HHS.out W).mono ?_
    rintro r w2 ⟨rfl, hb2⟩
    have HF : Hid (FmtPost 1 x verb prec mode w0 w2 (.returned (.tuple #[.string (str []), .int .i64 1])) Q) := .inr ⟨by rw [hhas]; simp, rfl, HB2.out.trans (hb2.mono HB2.out.size)⟩
    clear hb2 hhas HHS HAL HTX d0 d1 d2 d3 d4 s0 s1 s2 hC
    go_wp2
    go_ret2
    exact HF.out
  | true =>
    rw [hhas] at HHS
    refine (HHS.out W).mono ?_
    rintro r w2 ⟨rfl, hb2⟩
    have HB3 : Hid (Below w0.heap.size w0 w2) := HB2.out.trans (hb2.mono HB2.out.size)
    have e0 := keep_cell' hb2 d0
    have e1 := keep_cell' hb2 d1
    have e2 := keep_cell' hb2 d2
    have e3 := keep_cell' hb2 d3
    have e4 := keep_cell' hb2 d4
    have z0 := keep_cell' hb2 s0
    have z1 := keep_cell' hb2 s1
    have z2 := keep_cell' hb2 s2
    clear hb2 HHS d0 d1 d2 d3 d4 s0 s1 s2 hC
    cases hal : allowB verb prec mode with
    | false =>
      rw [hal] at HAL
      have HF : Hid (∀ w', Below w0.heap.size w0 w' → FmtPost 1 x verb prec mode w0 w' (.returned (.tuple #[.string (str []), .int .i64 1])) Q) := fun w' hw => .inr ⟨by rw [hal]; simp, rfl, hw⟩
      clear HTX hhas hal
      go_wp2_with fail
      refine (HAL.out w2).mono ?_
      rintro r w3 ⟨rfl, hb3⟩
      have HB4 := hid (HB3.out.trans (hb3.mono HB3.out.size))
      clear hb3 HAL
      go_wp2
      go_ret2
      exact HF.out _ HB4.out
    | true =>
      rw [hal] at HAL
      have HTY := hid (HTX.out hhas hal)
      have HF : Hid (∀ (w' : World) (T : List UInt8), (amtI 1 x < infN 1 → Q T) → T.length ≤ 5000 → Below w0.heap.size w0 w' → FmtPost 1 x verb prec mode w0 w' (.returned (.tuple #[.string (str (outT 1 x T)), .int .i64 0])) Q) := fun w' T p1 p2 p3 => .inl ⟨hhas, hal, T, rfl, p1, p2, p3⟩
      clear HTX hhas hal
      go_wp2_with fail
      refine (HAL.out w2).mono ?_
      rintro r w3 ⟨rfl, hb3⟩
      have HB4 : Hid (Below w0.heap.size w0 w3) := HB3.out.trans (hb3.mono HB3.out.size)
      have e0' := keep_cell' hb3 e0
      have e1' := keep_cell' hb3 e1
      have e2' := keep_cell' hb3 e2
      have e3' := keep_cell' hb3 e3
      have e4' := keep_cell' hb3 e4
      have z0' := keep_cell' hb3 z0
      have z1' := keep_cell' hb3 z1
      have z2' := keep_cell' hb3 z2
      clear hb3 HAL e0 e1 e2 e3 e4 z0 z1 z2
      go_wp2_with fail
      refine (HTY.out w3 (HTAB.out.below HB4.out)).mono ?_
      rintro r w4 ⟨T, rfl, hq, hl, hb4⟩
      have HG := hid (HF.out w4 T hq hl (HB4.out.trans (hb4.mono HB4.out.size)))
      clear hq hl hb4 HTY HF
      go_wp2
      go_ret2
      exact HG.out
set_option maxRecDepth 100000 in
set_option maxHeartbeats 1000000 in
theorem pformat2 (cv : Value) (x verb prec mode : Int) (Q : List UInt8 → Prop) (h1 : -9223372036854775808 ≤ x) (h2 : x ≤ 9223372036854775807) (w : World) (ht : Tab w)
    (HT0 : allowB verb prec mode = true → ∀ a : Nat, amtI 2 x = a → (a : Int) < 9218868437227405312 → ∀ w : World, Tab w → Calls Tryz.prog 37 #[.int .i64 a, lay2, .bool (negI 2 x), styV verb prec mode] w fun r w' => TextPost w w' r Q) :
    Calls Tryz.prog 21 #[cv, .int .i64 x, .int .i64 2, .int .i64 verb, .int .i64 prec, .int .i64 mode] w fun r w' => FmtPost 2 x verb prec mode w w' r Q := by
  have HF : Hid (∀ w, Calls Tryz.prog 26 #[.int .i64 2] w fun e w' => e = .returned (.bool true) ∧ w' = w) := fun w => isFormat_any 2 w
  have HOF := hid (of2)
  have HHS := hid (fun w => has2 x w)
  have HAL := hid (allowed_any verb prec mode)
  have HTX : Hid (hasB 2 x = true → allowB verb prec mode = true → ∀ w : World, Tab w → Calls Tryz.prog 30 #[.int .i64 x, lay2, styV verb prec mode] w fun r w' => OutPost 2 x w w' r Q) := fun hh ha w hw => textOf2 x verb prec mode Q h1 h2 w hw (HT0 ha)
  have HTAB := hid ht
  clear HT0 ht h1 h2
  unfold lay2 styV at *
  go_enter Tryz.func21, Tryz.ntmps21
  go_wp2_with fail
  refine (HF.out _).mono ?_
  rintro r w0 ⟨rfl, rfl⟩
  go_wp2_with fail
  refine (HOF.out _).mono ?_
  rintro r w1 ⟨rfl, hb1⟩
  have HB1 : Hid (Below w0.heap.size w0 w1) := hb1
  clear hb1 HF HOF
  go_wp2_with fail
  have d0 : ((w1.alloc (.cells #[.int .i64 52, .int .i64 1023, .int .i64 4503599627370496, .int .i64 9218868437227405312, .int .i64 (-9223372036854775808)] 63)).alloc (.cells #[.int .i64 verb, .int .i64 prec, .int .i64 mode] 66)).cell? ⟨w1.heap.size, 0, none⟩ = some (Value.int .i64 52) := by simp [go_sem]
  have d1 : ((w1.alloc (.cells #[.int .i64 52, .int .i64 1023, .int .i64 4503599627370496, .int .i64 9218868437227405312, .int .i64 (-9223372036854775808)] 63)).alloc (.cells #[.int .i64 verb, .int .i64 prec, .int .i64 mode] 66)).cell? ⟨w1.heap.size, 1, none⟩ = some (Value.int .i64 1023) := by simp [go_sem]
  have d2 : ((w1.alloc (.cells #[.int .i64 52, .int .i64 1023, .int .i64 4503599627370496, .int .i64 9218868437227405312, .int .i64 (-9223372036854775808)] 63)).alloc (.cells #[.int .i64 verb, .int .i64 prec, .int .i64 mode] 66)).cell? ⟨w1.heap.size, 2, none⟩ = some (Value.int .i64 4503599627370496) := by simp [go_sem]
  have d3 : ((w1.alloc (.cells #[.int .i64 52, .int .i64 1023, .int .i64 4503599627370496, .int .i64 9218868437227405312, .int .i64 (-9223372036854775808)] 63)).alloc (.cells #[.int .i64 verb, .int .i64 prec, .int .i64 mode] 66)).cell? ⟨w1.heap.size, 3, none⟩ = some (Value.int .i64 9218868437227405312) := by simp [go_sem]
  have d4 : ((w1.alloc (.cells #[.int .i64 52, .int .i64 1023, .int .i64 4503599627370496, .int .i64 9218868437227405312, .int .i64 (-9223372036854775808)] 63)).alloc (.cells #[.int .i64 verb, .int .i64 prec, .int .i64 mode] 66)).cell? ⟨w1.heap.size, 4, none⟩ = some (Value.int .i64 (-9223372036854775808)) := by simp [go_sem]
  have s0 : ((w1.alloc (.cells #[.int .i64 52, .int .i64 1023, .int .i64 4503599627370496, .int .i64 9218868437227405312, .int .i64 (-9223372036854775808)] 63)).alloc (.cells #[.int .i64 verb, .int .i64 prec, .int .i64 mode] 66)).cell? ⟨w1.heap.size + 1, 0, none⟩ = some (Value.int .i64 verb) := by simp [go_sem]
  have s1 : ((w1.alloc (.cells #[.int .i64 52, .int .i64 1023, .int .i64 4503599627370496, .int .i64 9218868437227405312, .int .i64 (-9223372036854775808)] 63)).alloc (.cells #[.int .i64 verb, .int .i64 prec, .int .i64 mode] 66)).cell? ⟨w1.heap.size + 1, 1, none⟩ = some (Value.int .i64 prec) := by simp [go_sem]
  have s2 : ((w1.alloc (.cells #[.int .i64 52, .int .i64 1023, .int .i64 4503599627370496, .int .i64 9218868437227405312, .int .i64 (-9223372036854775808)] 63)).alloc (.cells #[.int .i64 verb, .int .i64 prec, .int .i64 mode] 66)).cell? ⟨w1.heap.size + 1, 2, none⟩ = some (Value.int .i64 mode) := by simp [go_sem]
  have HB2 : Hid (Below w0.heap.size w0 ((w1.alloc (.cells #[.int .i64 52, .int .i64 1023, .int .i64 4503599627370496, .int .i64 9218868437227405312, .int .i64 (-9223372036854775808)] 63)).alloc (.cells #[.int .i64 verb, .int .i64 prec, .int .i64 mode] 66))) := HB1.out.trans ((((Below.refl _ _).alloc (Nat.le_refl _) _).alloc (by simp) _).mono HB1.out.size)
  obtain ⟨C, hC⟩ : ∃ C, C = w1.heap.size := ⟨_, rfl⟩
  rw [← hC] at d0 d1 d2 d3 d4 s0 s1 s2 ⊢
  generalize ((w1.alloc (.cells #[.int .i64 52, .int .i64 1023, .int .i64 4503599627370496, .int .i64 9218868437227405312, .int .i64 (-9223372036854775808)] 63)).alloc (.cells #[.int .i64 verb, .int .i64 prec, .int .i64 mode] 66)) = W at *
  cases hhas : hasB 2 x with
  | false =>
    rw [hhas] at HHS
    refine (HHS.out W).mono ?_
    rintro r w2 ⟨rfl, hb2⟩
    have HF : Hid (FmtPost 2 x verb prec mode w0 w2 (.returned (.tuple #[.string (str []), .int .i64 1])) Q) := .inr ⟨by rw [hhas]; simp, rfl, HB2.out.trans (hb2.mono HB2.out.size)⟩
    clear hb2 hhas HHS HAL HTX d0 d1 d2 d3 d4 s0 s1 s2 hC
    go_wp2
    go_ret2
    exact HF.out
  | true =>
    rw [hhas] at HHS
    refine (HHS.out W).mono ?_
    rintro r w2 ⟨rfl, hb2⟩
    have HB3 : Hid (Below w0.heap.size w0 w2) := HB2.out.trans (hb2.mono HB2.out.size)
    have e0 := keep_cell' hb2 d0
    have e1 := keep_cell' hb2 d1
    have e2 := keep_cell' hb2 d2
    have e3 := keep_cell' hb2 d3
    have e4 := keep_cell' hb2 d4
    have z0 := keep_cell' hb2 s0
    have z1 := keep_cell' hb2 s1
    have z2 := keep_cell' hb2 s2
    clear hb2 HHS d0 d1 d2 d3 d4 s0 s1 s2 hC
    cases hal : allowB verb prec mode with
    | false =>
      rw [hal] at HAL
      have HF : Hid (∀ w', Below w0.heap.size w0 w' → FmtPost 2 x verb prec mode w0 w' (.returned (.tuple #[.string (str []), .int .i64 1])) Q) := fun w' hw => .inr ⟨by rw [hal]; simp, rfl, hw⟩
      clear HTX hhas hal
      go_wp2_with fail
      refine (HAL.out w2).mono ?_
      rintro r w3 ⟨rfl, hb3⟩
      have HB4 := hid (HB3.out.trans (hb3.mono HB3.out.size))
      clear hb3 HAL
      go_wp2
      go_ret2
      exact HF.out _ HB4.out
    | true =>
      rw [hal] at HAL
      have HTY := hid (HTX.out hhas hal)
      have HF : Hid (∀ (w' : World) (T : List UInt8), (amtI 2 x < infN 2 → Q T) → T.length ≤ 5000 → Below w0.heap.size w0 w' → FmtPost 2 x verb prec mode w0 w' (.returned (.tuple #[.string (str (outT 2 x T)), .int .i64 0])) Q) := fun w' T p1 p2 p3 => .inl ⟨hhas, hal, T, rfl, p1, p2, p3⟩
      clear HTX hhas hal
      go_wp2_with fail
      refine (HAL.out w2).mono ?_
      rintro r w3 ⟨rfl, hb3⟩
      have HB4 : Hid (Below w0.heap.size w0 w3) := HB3.out.trans (hb3.mono HB3.out.size)
      have e0' := keep_cell' hb3 e0
      have e1' := keep_cell' hb3 e1
      have e2' := keep_cell' hb3 e2
      have e3' := keep_cell' hb3 e3
      have e4' := keep_cell' hb3 e4
      have z0' := keep_cell' hb3 z0
      have z1' := keep_cell' hb3 z1
      have z2' := keep_cell' hb3 z2
      clear hb3 HAL e0 e1 e2 e3 e4 z0 z1 z2
      go_wp2_with fail
      refine (HTY.out w3 (HTAB.out.below HB4.out)).mono ?_
      rintro r w4 ⟨T, rfl, hq, hl, hb4⟩
      have HG := hid (HF.out w4 T hq hl (HB4.out.trans (hb4.mono HB4.out.size)))
      clear hq hl hb4 HTY HF
      go_wp2
      go_ret2
      exact HG.out
end Go.Proofs.YtbkdaoicnobllabGreatDoor

namespace Go.Proofs.YtbkdaoicnobllabGreatDoor
open Go.RowKit

/-- An amount below infinity's. -/
def finV (f a : Int) : Int := a % sgnF f % infN f
theorem finV_bd {f : Int} (hf : 0 ≤ f ∧ f ≤ 2) (a : Int) : 0 ≤ finV f a ∧ finV f a < infN f := by
  have h : (0 : Int) < infN f := by
    rcases (by omega : f = 0 ∨ f = 1 ∨ f = 2) with rfl | rfl | rfl <;> decide
  unfold finV
  exact ⟨Int.emod_nonneg _ (by omega), Int.emod_lt_of_pos _ h⟩
theorem infN_i64 {f : Int} (hf : 0 ≤ f ∧ f ≤ 2) : (infN f : Int) ≤ 9218868437227405312 := by
  rcases (by omega : f = 0 ∨ f = 1 ∨ f = 2) with rfl | rfl | rfl <;> decide
set_option maxRecDepth 100000 in
set_option maxHeartbeats 1000000 in
theorem finite0 (a : Int) (ha : -9223372036854775808 ≤ a ∧ a ≤ 9223372036854775807) (w : World) :
    Calls Tryz.prog 12 #[.int .i64 a, .int .i64 16, .int .i64 10] w fun e w' => e = .returned (.int .i64 (finV 0 a)) ∧ Below w.heap.size w w' := by
  obtain ⟨A, hA⟩ : ∃ A : Int, A = a % 32768 := ⟨_, rfl⟩
  have hm : bits .and .i64 a 32767 = A := by rw [hA]; exact and_mask a 15 (by omega)
  have hA1 : 0 ≤ A := by omega
  have hA2 : A < 32768 := by omega
  have HS : Hid (A % 31744 = finV 0 a) := by unfold Hid finV; rw [hA]; rfl
  clear hA
  obtain ⟨hB1, hB2⟩ := ha
  have hw : wrap64 (wrap64 9223372036854775808 - 1) = 9223372036854775807 := by unfold wrap64; decide
  have hw2 : wrap64 (wrap64 9223372036854775808 - 4503599627370496) = 9218868437227405312 := by unfold wrap64; decide
  go_enter Tryz.func12, Tryz.ntmps12
  go_wp2_with fail
  go_quiet (fail)
  go_wp2
  all_goals (go_ret; exact ⟨by rw [← HS.out]; rfl, ((Still.refl w).drewN _).below _⟩)
set_option maxRecDepth 100000 in
set_option maxHeartbeats 1000000 in
theorem finite1 (a : Int) (ha : -9223372036854775808 ≤ a ∧ a ≤ 9223372036854775807) (w : World) :
    Calls Tryz.prog 12 #[.int .i64 a, .int .i64 32, .int .i64 23] w fun e w' => e = .returned (.int .i64 (finV 1 a)) ∧ Below w.heap.size w w' := by
  obtain ⟨A, hA⟩ : ∃ A : Int, A = a % 2147483648 := ⟨_, rfl⟩
  have hm : bits .and .i64 a 2147483647 = A := by rw [hA]; exact and_mask a 31 (by omega)
  have hA1 : 0 ≤ A := by omega
  have hA2 : A < 2147483648 := by omega
  have HS : Hid (A % 2139095040 = finV 1 a) := by unfold Hid finV; rw [hA]; rfl
  clear hA
  obtain ⟨hB1, hB2⟩ := ha
  have hw : wrap64 (wrap64 9223372036854775808 - 1) = 9223372036854775807 := by unfold wrap64; decide
  have hw2 : wrap64 (wrap64 9223372036854775808 - 4503599627370496) = 9218868437227405312 := by unfold wrap64; decide
  go_enter Tryz.func12, Tryz.ntmps12
  go_wp2_with fail
  go_quiet (fail)
  go_wp2
  all_goals (go_ret; exact ⟨by rw [← HS.out]; rfl, ((Still.refl w).drewN _).below _⟩)
set_option maxRecDepth 100000 in
set_option maxHeartbeats 1000000 in
theorem finite2 (a : Int) (ha : -9223372036854775808 ≤ a ∧ a ≤ 9223372036854775807) (w : World) :
    Calls Tryz.prog 12 #[.int .i64 a, .int .i64 64, .int .i64 52] w fun e w' => e = .returned (.int .i64 (finV 2 a)) ∧ Below w.heap.size w w' := by
  obtain ⟨A, hA⟩ : ∃ A : Int, A = a % 9223372036854775808 := ⟨_, rfl⟩
  have hm : bits .and .i64 a 9223372036854775807 = A := by rw [hA]; exact and_mask a 63 (by omega)
  have hA1 : 0 ≤ A := by omega
  have hA2 : A < 9223372036854775808 := by omega
  have HS : Hid (A % 9218868437227405312 = finV 2 a) := by unfold Hid finV; rw [hA]; rfl
  clear hA
  obtain ⟨hB1, hB2⟩ := ha
  have hw : wrap64 (wrap64 9223372036854775808 - 1) = 9223372036854775807 := by unfold wrap64; decide
  have hw2 : wrap64 (wrap64 9223372036854775808 - 4503599627370496) = 9218868437227405312 := by unfold wrap64; decide
  go_enter Tryz.func12, Tryz.ntmps12
  go_wp2_with fail
  go_quiet (fail)
  go_wp2
  all_goals (go_ret; exact ⟨by rw [← HS.out]; rfl, ((Still.refl w).drewN _).below _⟩)
theorem finite_any (f a : Int) (hf : 0 ≤ f ∧ f ≤ 2) (ha : -9223372036854775808 ≤ a ∧ a ≤ 9223372036854775807) (w : World) :
    Calls Tryz.prog 12 #[.int .i64 a, .int .i64 (fW f), .int .i64 (fQ f : Nat)] w fun e w' => e = .returned (.int .i64 (finV f a)) ∧ Below w.heap.size w w' := by
  rcases (by omega : f = 0 ∨ f = 1 ∨ f = 2) with rfl | rfl | rfl
  · exact finite0 a ha w
  · exact finite1 a ha w
  · exact finite2 a ha w
/-- What Format answers of a finite amount. -/
def GoodPost (w w' : World) (r : Ending) (Q : List UInt8 → Prop) : Prop := ∃ T : List UInt8, r = .returned (.tuple #[.string (str T), .int .i64 0]) ∧ Q T ∧ T.length ≤ 5000 ∧ Below w.heap.size w w'
theorem fin_pat {f v : Int} (hf : 0 ≤ f ∧ f ≤ 2) (h0 : 0 ≤ v) (h1 : v < infN f) : hasB f v = true ∧ negI f v = false ∧ amtI f v = v := by
  rcases (by omega : f = 0 ∨ f = 1 ∨ f = 2) with rfl | rfl | rfl
  · have h1 : v < 31744 := h1
    simp [hasB, negI, amtI, sgnF]; omega
  · have h1 : v < 2139095040 := h1
    simp [hasB, negI, amtI, sgnF]; omega
  · have h1 : v < 9218868437227405312 := h1
    simp [hasB, negI, amtI, sgnF]; omega
theorem fmt_good {f v verb prec mode : Int} {w w' : World} {r : Ending} {Q : List UInt8 → Prop} (hf : 0 ≤ f ∧ f ≤ 2) (h0 : 0 ≤ v) (h1 : v < infN f) (ha : allowB verb prec mode = true) (h : FmtPost f v verb prec mode w w' r Q) : GoodPost w w' r Q := by
  obtain ⟨p1, p2, p3⟩ := fin_pat hf h0 h1
  rcases h with ⟨_, _, T, rfl, hq, hl, hb⟩ | ⟨hn, _⟩
  · refine ⟨T, ?_, hq (by rw [p3]; exact h1), hl, hb⟩
    unfold outT
    rw [p3, p2, if_neg (by omega), if_pos h1]; rfl
  · exact absurd ⟨p1, ha⟩ hn
set_option maxRecDepth 100000 in
set_option maxHeartbeats 1000000 in
theorem prints_of (cv : Value) (v f verb prec : Int) (Q : List UInt8 → Prop) (w : World)
    (HF0 : Calls Tryz.prog 21 #[cv, .int .i64 v, .int .i64 f, .int .i64 verb, .int .i64 prec, .int .i64 0] w fun r w' => GoodPost w w' r Q) :
    Calls Tryz.prog 13 #[cv, .int .i64 v, .int .i64 f, .int .i64 verb, .int .i64 prec] w fun r w' => TextPost w w' r Q := by
  have HF := hid HF0
  clear HF0
  go_enter Tryz.func13, Tryz.ntmps13
  go_wp2_with fail
  refine HF.out.mono ?_
  rintro r w1 ⟨T, rfl, hq, hl, hb⟩
  have HP : Hid (TextPost w w1 (.returned (.string (str T))) Q) := ⟨T, rfl, hq, hl, hb⟩
  clear hq hl hb HF
  go_wp2
  all_goals (go_ret; exact HP.out)
end Go.Proofs.YtbkdaoicnobllabGreatDoor

namespace Go.Proofs.YtbkdaoicnobllabGreatDoor
open Go.RowKit

set_option exponentiation.threshold 5000
set_option maxRecDepth 100000 in
set_option maxHeartbeats 1000000 in
theorem prints_out (cv : Value) (v f verb prec : Int) (Q : List UInt8 → Prop) (w : World) (hh : hasB f v = true ∧ allowB verb prec 0 = true)
    (HF0 : Calls Tryz.prog 21 #[cv, .int .i64 v, .int .i64 f, .int .i64 verb, .int .i64 prec, .int .i64 0] w fun r w' => FmtPost f v verb prec 0 w w' r Q) :
    Calls Tryz.prog 13 #[cv, .int .i64 v, .int .i64 f, .int .i64 verb, .int .i64 prec] w fun r w' => OutPost f v w w' r Q := by
  have HF := hid HF0
  have HH := hid hh
  clear HF0 hh
  go_enter Tryz.func13, Tryz.ntmps13
  go_wp2_with fail
  refine HF.out.mono ?_
  intro r w1 hp
  rcases hp with ⟨_, _, T, rfl, hq, hl, hb⟩ | ⟨hn, _⟩
  · have HP : Hid (OutPost f v w w1 (.returned (.string (str (outT f v T)))) Q) := ⟨T, rfl, hq, hl, hb⟩
    clear hq hl hb HF
    go_wp2
    all_goals (go_ret; exact HP.out)
  · exact absurd HH.out hn
end Go.Proofs.YtbkdaoicnobllabGreatDoor

/- Known texts: what is told of them, by reckoning. -/
namespace Go.Proofs.YtbkdaoicnobllabGreatDoor

/-- Where a number lies, the amount below it being known. -/
def RoundAt (K : Nat) (f mode : Int) (neg : Bool) (X : Nat) (r fl : Int) (a : Nat) : Prop :=
  (X = 0 ∧ r = 0 ∧ fl = 0) ∨
  (0 < X ∧ valA K f (infN f) ≤ X ∧ fl = 3 ∧ r = if awayB mode neg 3 true = true then (infN f : Int) else (infN f : Int) - 1) ∨
  (0 < X ∧ X < valA K f (infN f) ∧ a < infN f ∧ valA K f a ≤ X ∧ X < valA K f (a + 1) ∧
    ((X = valA K f a ∧ r = a ∧ fl = 0) ∨
     (X ≠ valA K f a ∧ r = (if awayB mode neg (cmpN (X * 2) (valA K f a + valA K f (a + 1)) + 2) (a % 2 == 1) = true then (a : Int) + 1 else (a : Int)) ∧
      fl = 1 + (if X < two K (fLow f) then 4 else 0) + (if r = infN f then 2 else 0))))
instance (K : Nat) (f mode : Int) (neg : Bool) (X : Nat) (r fl : Int) (a : Nat) : Decidable (RoundAt K f mode neg X r fl a) := by unfold RoundAt; infer_instance
theorem RoundAt.spec {K : Nat} {f mode : Int} {neg : Bool} {X : Nat} {r fl : Int} {a : Nat} (h : RoundAt K f mode neg X r fl a) : RoundSpec K f mode neg X r fl := by
  rcases h with h | h | ⟨h1, h2, h3, h4, h5, h6⟩
  · exact .inl h
  · exact .inr (.inl h)
  · exact .inr (.inr ⟨h1, h2, a, h3, h4, h5, h6⟩)
/-- No state on the way is the dead one. -/
def liveB (l : List Nat) (k : Nat) : Bool := (List.range (k + 1)).all (fun j => stAt l j != 28)
theorem liveB_of {l : List Nat} {k : Nat} (h : liveB l k = true) : ∀ j, j ≤ k → stAt l j ≠ 28 := by
  intro j hj
  unfold liveB at h
  rw [List.all_eq_true] at h
  have := h j (List.mem_range.2 (by omega))
  simpa using this
/-- The text says a number; r and fl are what it comes to. -/
def numOK (l : List Nat) (f mode : Int) (st a : Nat) (r fl : Int) : Bool :=
  decide (l.length ≤ 900) && liveB l l.length && (stAt l l.length == st) && (st == 15 || st == 2 || st == 3 || st == 4 || st == 6 || st == 9) && decide (RoundAt 30000 f mode (decide (l.getD 0 0 = 45)) (numX 30000 (body l) st) r fl a)
/-- The text is none, and it is told where. -/
def failOK (l : List Nat) (k : Nat) : Bool :=
  decide (l.length ≤ 900) && liveB l k && ((decide (k < l.length) && stAt l (k + 1) == 28) || (k == l.length && !(endsB (stAt l k))))
theorem num_eval {l : List Nat} {f mode : Int} {st a : Nat} {r fl b g at' err : Int} (hv : 0 ≤ f ∧ f ≤ 2 ∧ 0 ≤ mode ∧ mode ≤ 4) (h : numOK l f mode st a r fl = true) (hp : ProgSpec 30000 l f mode b g at' err) :
    b = signedV f (decide (l.getD 0 0 = 45)) r ∧ g = fl ∧ at' = 0 ∧ err = 0 := by
  unfold numOK at h
  simp only [Bool.and_eq_true, decide_eq_true_eq, beq_iff_eq, Bool.or_eq_true] at h
  obtain ⟨⟨⟨⟨h1, h2⟩, h3⟩, h4⟩, h5⟩ := h
  have he : endsB st = true := by
    rcases h4 with ((((h | h) | h) | h) | h) | h <;> (subst h; rfl)
  have hr : ReadSpec l st l.length true := .inr ⟨liveB_of h2, h3.symm, rfl, he.symm⟩
  rcases hp with ⟨gv, _⟩ | ⟨_, gl, _⟩ | ⟨_, _, st2, a2, ok2, hr2, hc⟩
  · exact absurd hv gv
  · omega
  · obtain ⟨e1, e2, e3⟩ := ReadSpec.one hr hr2
    subst e1 e3
    rcases hc with ⟨g0, _⟩ | ⟨_, g1, g2, ho⟩
    · cases g0
    · rcases ho with ⟨o1, _⟩ | ⟨o1, _⟩ | ⟨_, r2, o1, o2⟩
      · omega
      · omega
      · obtain ⟨z1, z2⟩ := RoundSpec.one (by decide) h5.spec o1
        exact ⟨by rw [o2, z1], z2.symm, g1, g2⟩
theorem fail_eval {l : List Nat} {f mode : Int} {k : Nat} {b g at' err : Int} (hv : 0 ≤ f ∧ f ≤ 2 ∧ 0 ≤ mode ∧ mode ≤ 4) (h : failOK l k = true) (hp : ProgSpec 30000 l f mode b g at' err) :
    b = 0 ∧ g = 0 ∧ at' = k ∧ err = 3 := by
  unfold failOK at h
  simp only [Bool.and_eq_true, decide_eq_true_eq, beq_iff_eq, Bool.or_eq_true, Bool.not_eq_true'] at h
  obtain ⟨⟨h1, h2⟩, h3⟩ := h
  have hr : ∃ st, ReadSpec l st k false := by
    rcases h3 with ⟨h3, h4⟩ | ⟨h3, h4⟩
    · exact ⟨28, .inl ⟨k, h3, liveB_of h2, h4, rfl, rfl, rfl⟩⟩
    · exact ⟨_, .inr ⟨by rw [← h3]; exact liveB_of h2, rfl, h3, by rw [← h3, h4]⟩⟩
  obtain ⟨st, hr⟩ := hr
  rcases hp with ⟨gv, _⟩ | ⟨_, gl, _⟩ | ⟨_, _, st2, a2, ok2, hr2, hc⟩
  · exact absurd hv gv
  · omega
  · obtain ⟨e1, e2, e3⟩ := ReadSpec.one hr hr2
    subst e3
    rcases hc with ⟨_, g1, g2, g3, g4⟩ | ⟨g0, _⟩
    · exact ⟨g1, g2, by omega, g4⟩
    · cases g0
theorem one_half : numOK [49] 0 0 3 15360 15360 0 = true := by decide +kernel
theorem known_tiny : numOK [49, 101, 45, 57, 57, 57, 57, 57, 57, 57, 57, 57, 57, 57, 57, 57, 57, 57, 57, 57, 57, 57, 57] 0 3 9 0 1 5 = true := by decide +kernel
end Go.Proofs.YtbkdaoicnobllabGreatDoor

namespace Go.Proofs.YtbkdaoicnobllabGreatDoor
open Go.RowKit

theorem new_any (w : World) : Calls Tryz.prog 6 #[] w fun e w' => ∃ v, e = .returned v ∧ Below w.heap.size w w' := by
  go_enter Tryz.func6, Tryz.ntmps6
  go_wp2
  go_ret
  exact ⟨_, rfl, (Below.refl _ _).alloc (Nat.le_refl _) _⟩
end Go.Proofs.YtbkdaoicnobllabGreatDoor

namespace Go.Proofs.YtbkdaoicnobllabGreatDoor
open Go.RowKit

set_option maxRecDepth 100000 in
set_option maxHeartbeats 1000000 in
theorem says_any (cv : Value) (s : ByteArray) (f mode bits flags : Int) (w : World) :
    Calls Tryz.prog 18 #[cv, .string s, .int .i64 f, .int .i64 mode, .int .i64 bits, .int .i64 flags] w fun e w' =>
      ∃ b g at' err : Int, PParse s f mode b g at' err ∧ e = .returned (.bool (decide (b = bits ∧ g = flags ∧ at' = 0 ∧ err = 0))) ∧ Below w.heap.size w w' := by
  have HX := hid (parse_any cv s f mode w)
  go_enter Tryz.func18, Tryz.ntmps18
  go_wp2_with fail
  refine HX.out.mono ?_
  rintro e w1 ⟨b, g, at', err, rfl, hb, hp⟩
  have HB := hid hb
  have HP := hid hp
  clear HX hb hp
  by_cases h1 : b = bits
  · have t1 : (b == bits) = true := by simpa using h1
    by_cases h2 : g = flags
    · have t2 : (g == flags) = true := by simpa using h2
      by_cases h3 : at' = 0
      · have t3 : (at' == 0) = true := by simpa using h3
        by_cases h4 : err = 0
        · have t4 : (err == 0) = true := by simpa using h4
          have HE : Hid (decide (b = bits ∧ g = flags ∧ at' = 0 ∧ err = 0) = true) := by unfold Hid; simp [h1, h2, h3, h4]
          clear h1 h2 h3 h4
          go_wp2
          all_goals (go_ret; exact ⟨b, g, at', err, HP.out, by rw [HE.out]; rfl, HB.out⟩)
        · have t4 : (err == 0) = false := by simpa using h4
          have HE : Hid (decide (b = bits ∧ g = flags ∧ at' = 0 ∧ err = 0) = false) := by unfold Hid; simp [h4]
          clear h1 h2 h3 h4
          go_wp2
          all_goals (go_ret; exact ⟨b, g, at', err, HP.out, by rw [HE.out]; rfl, HB.out⟩)
      · have t3 : (at' == 0) = false := by simpa using h3
        have HE : Hid (decide (b = bits ∧ g = flags ∧ at' = 0 ∧ err = 0) = false) := by unfold Hid; simp [h3]
        clear h1 h2 h3
        go_wp2
        all_goals (go_ret; exact ⟨b, g, at', err, HP.out, by rw [HE.out]; rfl, HB.out⟩)
    · have t2 : (g == flags) = false := by simpa using h2
      have HE : Hid (decide (b = bits ∧ g = flags ∧ at' = 0 ∧ err = 0) = false) := by unfold Hid; simp [h2]
      clear h1 h2
      go_wp2
      all_goals (go_ret; exact ⟨b, g, at', err, HP.out, by rw [HE.out]; rfl, HB.out⟩)
  · have t1 : (b == bits) = false := by simpa using h1
    have HE : Hid (decide (b = bits ∧ g = flags ∧ at' = 0 ∧ err = 0) = false) := by unfold Hid; simp [h1]
    clear h1
    go_wp2
    all_goals (go_ret; exact ⟨b, g, at', err, HP.out, by rw [HE.out]; rfl, HB.out⟩)
set_option maxRecDepth 100000 in
set_option maxHeartbeats 1000000 in
theorem reads_any (cv : Value) (s : ByteArray) (f bits : Int) (w : World) :
    Calls Tryz.prog 17 #[cv, .string s, .int .i64 f, .int .i64 bits] w fun e w' =>
      ∃ b g at' err : Int, PParse s f 0 b g at' err ∧ e = .returned (.bool (decide (b = bits ∧ err = 0))) ∧ Below w.heap.size w w' := by
  have HX := hid (parse_any cv s f 0 w)
  go_enter Tryz.func17, Tryz.ntmps17
  go_wp2_with fail
  refine HX.out.mono ?_
  rintro e w1 ⟨b, g, at', err, rfl, hb, hp⟩
  have HB := hid hb
  have HP := hid hp
  clear HX hb hp
  by_cases h1 : b = bits
  · have t1 : (b == bits) = true := by simpa using h1
    by_cases h4 : err = 0
    · have t4 : (err == 0) = true := by simpa using h4
      have HE : Hid (decide (b = bits ∧ err = 0) = true) := by unfold Hid; simp [h1, h4]
      clear h1 h4
      go_wp2
      all_goals (go_ret; exact ⟨b, g, at', err, HP.out, by rw [HE.out]; rfl, HB.out⟩)
    · have t4 : (err == 0) = false := by simpa using h4
      have HE : Hid (decide (b = bits ∧ err = 0) = false) := by unfold Hid; simp [h4]
      clear h1 h4
      go_wp2
      all_goals (go_ret; exact ⟨b, g, at', err, HP.out, by rw [HE.out]; rfl, HB.out⟩)
  · have t1 : (b == bits) = false := by simpa using h1
    have HE : Hid (decide (b = bits ∧ err = 0) = false) := by unfold Hid; simp [h1]
    clear h1
    go_wp2
    all_goals (go_ret; exact ⟨b, g, at', err, HP.out, by rw [HE.out]; rfl, HB.out⟩)
end Go.Proofs.YtbkdaoicnobllabGreatDoor

namespace Go.Proofs.YtbkdaoicnobllabGreatDoor
open Go.RowKit

theorem pnew_any (w : World) : Calls Tryz.prog 6 #[] w fun e w' => ∃ v, e = .returned v ∧ Below w.heap.size w w' := by
  go_enter Tryz.func6, Tryz.ntmps6
  go_wp2
  go_ret
  exact ⟨_, rfl, (Below.refl _ _).alloc (Nat.le_refl _) _⟩
theorem allow_short {v prec mode : Int} (hv : v = 0 ∨ v = 1 ∨ v = 4) (h : allowB v prec mode = true) : prec = -1 ∧ mode = 0 := by
  unfold allowB at h; rw [if_pos hv] at h; simpa using h
theorem allow_exact {v prec mode : Int} (hv : v = 2 ∨ v = 3) (h : allowB v prec mode = true) : 0 ≤ prec ∧ prec ≤ 800 ∧ 0 ≤ mode ∧ mode ≤ 4 := by
  unfold allowB at h; rw [if_neg (by omega), if_pos hv] at h; simpa using h
end Go.Proofs.YtbkdaoicnobllabGreatDoor

/- Plain mathematics: decimals compared by their digits. -/
namespace Go.Proofs.YtbkdaoicnobllabGreatDoor

def SameTo (A B : List Nat) (k : Nat) : Prop := ∀ j, j < k → A.getD j 0 = B.getD j 0
theorem SameTo.zero (A B : List Nat) : SameTo A B 0 := fun j h => by omega
theorem SameTo.next {A B : List Nat} {k : Nat} (h : SameTo A B k) (h1 : A.getD k 0 = B.getD k 0) : SameTo A B (k + 1) := fun j hj => by
  rcases (by omega : j < k ∨ j = k) with g | g
  · exact h j g
  · rw [g]; exact h1
theorem SameTo.symm {A B : List Nat} {k : Nat} (h : SameTo A B k) : SameTo B A k := fun j hj => (h j hj).symm
theorem SameTo.first {A B : List Nat} {k : Nat} (h : SameTo A B k) : firstL A k = firstL B k := by
  unfold firstL
  exact List.map_congr_left fun i hi => h i (List.mem_range.1 hi)
theorem cmp_top {A B : List Nat} {ea eb : Int} {K : Nat} (hA : Digs A) (hB : Headed B) (lB : 0 < B.length) (k1 : -(K : Int) ≤ ea) (k2 : -(K : Int) ≤ eb) (h : ea + A.length < eb + B.length) : val K A ea < val K B eb := by
  have a := val_hi hA K ea (ea + A.length) (by omega) k1
  have hp : 0 < 10 ^ (ea + A.length + K).toNat := Nat.pow_pos (by omega)
  have b : 10 ^ (ea + A.length + K).toNat ≤ val K B eb := by
    unfold val
    refine Nat.le_trans ?_ (Nat.mul_le_mul_right _ (hB.lo lB))
    rw [← Nat.pow_add]
    exact Nat.pow_le_pow_right (by omega) (by omega)
  rcases Nat.div_eq_zero_iff.1 a with g | g
  · omega
  · omega
theorem cmp_at {A B : List Nat} {ea eb : Int} {K i : Nat} (hA : Digs A) (hB : Digs B) (k1 : -(K : Int) ≤ ea) (k2 : -(K : Int) ≤ eb) (h : ea + A.length = eb + B.length) (hs : SameTo A B i) (hi : A.getD i 0 < B.getD i 0) : val K A ea < val K B eb := by
  have hib : i < B.length := by
    apply Nat.lt_of_not_le; intro hle
    rw [List.getD_eq_getElem?_getD (l := B), List.getElem?_eq_none hle] at hi
    simp at hi
  obtain ⟨p, hp⟩ : ∃ p : Int, p = eb + B.length - (i + 1 : Nat) := ⟨_, rfl⟩
  have q1 := kept_num hA K ea p k1 (by omega)
  have q2 := kept_num hB K eb p k2 (by omega)
  rw [show (A.length + ea - p).toNat = i + 1 from by omega, firstL_succ, num_snoc, hs.first] at q1
  rw [show (B.length + eb - p).toNat = i + 1 from by omega, firstL_succ, num_snoc] at q2
  apply Nat.lt_of_not_le; intro hle
  have := Nat.div_le_div_right (c := 10 ^ (p + K).toNat) hle
  omega
theorem cmp_all {A B : List Nat} {ea eb : Int} {K n : Nat} (hA : Digs A) (hB : Digs B) (k1 : -(K : Int) ≤ ea) (k2 : -(K : Int) ≤ eb) (h : ea + A.length = eb + B.length) (hn : n = max A.length B.length) (hs : SameTo A B n) : val K A ea = val K B eb := by
  obtain ⟨p, hp⟩ : ∃ p : Int, p = eb + B.length - n := ⟨_, rfl⟩
  have q1 := kept_num hA K ea p k1 (by omega)
  have q2 := kept_num hB K eb p k2 (by omega)
  rw [show (A.length + ea - p).toNat = n from by omega, hs.first] at q1
  rw [show (B.length + eb - p).toNat = n from by omega] at q2
  have hd : ∀ (L : List Nat) (e : Int), p ≤ e → -(K : Int) ≤ p → val K L e = val K L e / 10 ^ (p + K).toNat * 10 ^ (p + K).toNat := fun L e g1 g2 => by
    unfold val
    rw [show (e + K).toNat = (e - p).toNat + (p + K).toNat from by omega, Nat.pow_add, ← Nat.mul_assoc, Nat.mul_div_cancel _ (Nat.pow_pos (by omega))]
  rw [hd A ea (by omega) (by omega), hd B eb (by omega) (by omega), ← q1, ← q2]
theorem cmpN_scale (a b c : Nat) (h : 0 < c) : cmpN (a * c) (b * c) = cmpN a b := by
  rcases Nat.lt_trichotomy a b with g | g | g
  · rw [cmpN_lt g, cmpN_lt (Nat.mul_lt_mul_of_pos_right g h)]
  · rw [cmpN_eq g, cmpN_eq (by rw [g])]
  · rw [cmpN_gt g, cmpN_gt (Nat.mul_lt_mul_of_pos_right g h)]
theorem cmp_val (A B : List Nat) (ea eb : Int) (K c : Nat) (k1 : -(K : Int) ≤ ea) (k2 : -(K : Int) ≤ eb) : cmpN (val (K + c) A ea) (val (K + c) B eb) = cmpN (val K A ea) (val K B eb) := by
  rw [val_more K c A ea k1, val_more K c B eb k2, cmpN_scale _ _ _ (Nat.pow_pos (by omega))]
end Go.Proofs.YtbkdaoicnobllabGreatDoor
