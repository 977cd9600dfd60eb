import Derived.Test.YtbkdaoicnobllabDoorG07
import Derived.Test.YtbkdaoicnobllabDoorG03

namespace Go.Proofs.YtbkdaoicnobllabDoor
open Go.RowKit

/-- What Format answers. -/
def FmtPost (f x verb prec mode : Int) (w w' : World) (r : Ending) (Q : List UInt8 → Prop) : Prop :=
  (hasB f x = true ∧ allowB verb prec mode = true ∧ ∃ T : List UInt8, r = .returned (.tuple #[.string (str (outT f x T)), .int .i64 0]) ∧ (amtI f x < infN f → Q T) ∧ T.length ≤ 5000 ∧ Below w.heap.size w w') ∨
  (¬ (hasB f x = true ∧ allowB verb prec mode = true) ∧ r = .returned (.tuple #[.string (str []), .int .i64 1]) ∧ Below w.heap.size w w')
set_option maxRecDepth 100000 in
set_option maxHeartbeats 1000000 in
theorem pformat_none (cv : Value) (x f verb prec mode : Int) (hf : ¬ (0 ≤ f ∧ f ≤ 2)) (w : World) : Calls Tryd.prog 15 #[cv, .int .i64 x, .int .i64 f, .int .i64 verb, .int .i64 prec, .int .i64 mode] w fun r w' => r = .returned (.tuple #[.string (str []), .int .i64 1]) ∧ Below w.heap.size w w' := by
  have HF : Hid (∀ w, Calls Tryd.prog 16 #[.int .i64 f] w fun e w' => e = .returned (.bool false) ∧ w' = w) := fun w => by
    have := isFormat_any f w
    rw [show formB f = false from by unfold formB; simp; omega] at this; exact this
  clear hf
  go_enter Tryd.func15, Tryd.ntmps15
  go_wp2_with fail
  refine (HF.out _).mono ?_
  rintro r w1 ⟨rfl, rfl⟩
  go_wp2
  go_ret2
  exact ⟨rfl, by first | exact Below.refl _ _ | exact ((Below.refl _ _).alloc (Nat.le_refl _) _).alloc (by simp) _⟩
set_option maxRecDepth 100000 in
set_option maxHeartbeats 1000000 in
theorem pformat0 (cv : Value) (x verb prec mode : Int) (Q : List UInt8 → Prop) (h1 : -9223372036854775808 ≤ x) (h2 : x ≤ 9223372036854775807) (w : World) (ht : Tab w)
    (HT0 : allowB verb prec mode = true → ∀ a : Nat, amtI 0 x = a → (a : Int) < 31744 → ∀ w : World, Tab w → Calls Tryd.prog 23 #[.int .i64 a, lay0, .bool (negI 0 x), styV verb prec mode] w fun r w' => TextPost w w' r Q) :
    Calls Tryd.prog 15 #[cv, .int .i64 x, .int .i64 0, .int .i64 verb, .int .i64 prec, .int .i64 mode] w fun r w' => FmtPost 0 x verb prec mode w w' r Q := by
  have HF : Hid (∀ w, Calls Tryd.prog 16 #[.int .i64 0] w fun e w' => e = .returned (.bool true) ∧ w' = w) := fun w => isFormat_any 0 w
  have HOF := hid (of0)
  have HHS := hid (fun w => has0 x h1 h2 w)
  have HAL := hid (allowed_any verb prec mode)
  have HTX : Hid (hasB 0 x = true → allowB verb prec mode = true → ∀ w : World, Tab w → Calls Tryd.prog 20 #[.int .i64 x, lay0, styV verb prec mode] w fun r w' => OutPost 0 x w w' r Q) := fun hh ha w hw => textOf0 x verb prec mode Q (by unfold hasB sgnF at hh; simp at hh; omega) (by unfold hasB sgnF at hh; simp at hh; omega) w hw (HT0 ha)
  have HTAB := hid ht
  clear HT0 ht h1 h2
  unfold lay0 styV at *
  go_enter Tryd.func15, Tryd.ntmps15
  go_wp2_with fail
  refine (HF.out _).mono ?_
  rintro r w0 ⟨rfl, rfl⟩
  go_wp2_with fail
  refine (HOF.out _).mono ?_
  rintro r w1 ⟨rfl, hb1⟩
  have HB1 : Hid (Below w0.heap.size w0 w1) := hb1
  clear hb1 HF HOF
  go_wp2_with fail
  have d0 : ((w1.alloc (.cells #[.int .i64 10, .int .i64 15, .int .i64 1024, .int .i64 31744, .int .i64 32768] 46)).alloc (.cells #[.int .i64 verb, .int .i64 prec, .int .i64 mode] 49)).cell? ⟨w1.heap.size, 0, none⟩ = some (Value.int .i64 10) := by simp [go_sem]
  have d1 : ((w1.alloc (.cells #[.int .i64 10, .int .i64 15, .int .i64 1024, .int .i64 31744, .int .i64 32768] 46)).alloc (.cells #[.int .i64 verb, .int .i64 prec, .int .i64 mode] 49)).cell? ⟨w1.heap.size, 1, none⟩ = some (Value.int .i64 15) := by simp [go_sem]
  have d2 : ((w1.alloc (.cells #[.int .i64 10, .int .i64 15, .int .i64 1024, .int .i64 31744, .int .i64 32768] 46)).alloc (.cells #[.int .i64 verb, .int .i64 prec, .int .i64 mode] 49)).cell? ⟨w1.heap.size, 2, none⟩ = some (Value.int .i64 1024) := by simp [go_sem]
  have d3 : ((w1.alloc (.cells #[.int .i64 10, .int .i64 15, .int .i64 1024, .int .i64 31744, .int .i64 32768] 46)).alloc (.cells #[.int .i64 verb, .int .i64 prec, .int .i64 mode] 49)).cell? ⟨w1.heap.size, 3, none⟩ = some (Value.int .i64 31744) := by simp [go_sem]
  have d4 : ((w1.alloc (.cells #[.int .i64 10, .int .i64 15, .int .i64 1024, .int .i64 31744, .int .i64 32768] 46)).alloc (.cells #[.int .i64 verb, .int .i64 prec, .int .i64 mode] 49)).cell? ⟨w1.heap.size, 4, none⟩ = some (Value.int .i64 32768) := by simp [go_sem]
  have s0 : ((w1.alloc (.cells #[.int .i64 10, .int .i64 15, .int .i64 1024, .int .i64 31744, .int .i64 32768] 46)).alloc (.cells #[.int .i64 verb, .int .i64 prec, .int .i64 mode] 49)).cell? ⟨w1.heap.size + 1, 0, none⟩ = some (Value.int .i64 verb) := by simp [go_sem]
  have s1 : ((w1.alloc (.cells #[.int .i64 10, .int .i64 15, .int .i64 1024, .int .i64 31744, .int .i64 32768] 46)).alloc (.cells #[.int .i64 verb, .int .i64 prec, .int .i64 mode] 49)).cell? ⟨w1.heap.size + 1, 1, none⟩ = some (Value.int .i64 prec) := by simp [go_sem]
  have s2 : ((w1.alloc (.cells #[.int .i64 10, .int .i64 15, .int .i64 1024, .int .i64 31744, .int .i64 32768] 46)).alloc (.cells #[.int .i64 verb, .int .i64 prec, .int .i64 mode] 49)).cell? ⟨w1.heap.size + 1, 2, none⟩ = some (Value.int .i64 mode) := by simp [go_sem]
  have HB2 : Hid (Below w0.heap.size w0 ((w1.alloc (.cells #[.int .i64 10, .int .i64 15, .int .i64 1024, .int .i64 31744, .int .i64 32768] 46)).alloc (.cells #[.int .i64 verb, .int .i64 prec, .int .i64 mode] 49))) := HB1.out.trans ((((Below.refl _ _).alloc (Nat.le_refl _) _).alloc (by simp) _).mono HB1.out.size)
  obtain ⟨C, hC⟩ : ∃ C, C = w1.heap.size := ⟨_, rfl⟩
  rw [← hC] at d0 d1 d2 d3 d4 s0 s1 s2 ⊢
  generalize ((w1.alloc (.cells #[.int .i64 10, .int .i64 15, .int .i64 1024, .int .i64 31744, .int .i64 32768] 46)).alloc (.cells #[.int .i64 verb, .int .i64 prec, .int .i64 mode] 49)) = W at *
  cases hhas : hasB 0 x with
  | false =>
    rw [hhas] at HHS
    refine (HHS.out W).mono ?_
    rintro r w2 ⟨rfl, hb2⟩
    have HF : Hid (FmtPost 0 x verb prec mode w0 w2 (.returned (.tuple #[.string (str []), .int .i64 1])) Q) := .inr ⟨by rw [hhas]; simp, rfl, HB2.out.trans (hb2.mono HB2.out.size)⟩
    clear hb2 hhas HHS HAL HTX d0 d1 d2 d3 d4 s0 s1 s2 hC
    go_wp2
    go_ret2
    exact HF.out
  | true =>
    rw [hhas] at HHS
    refine (HHS.out W).mono ?_
    rintro r w2 ⟨rfl, hb2⟩
    have HB3 : Hid (Below w0.heap.size w0 w2) := HB2.out.trans (hb2.mono HB2.out.size)
    have e0 := keep_cell' hb2 d0
    have e1 := keep_cell' hb2 d1
    have e2 := keep_cell' hb2 d2
    have e3 := keep_cell' hb2 d3
    have e4 := keep_cell' hb2 d4
    have z0 := keep_cell' hb2 s0
    have z1 := keep_cell' hb2 s1
    have z2 := keep_cell' hb2 s2
    clear hb2 HHS d0 d1 d2 d3 d4 s0 s1 s2 hC
    cases hal : allowB verb prec mode with
    | false =>
      rw [hal] at HAL
      have HF : Hid (∀ w', Below w0.heap.size w0 w' → FmtPost 0 x verb prec mode w0 w' (.returned (.tuple #[.string (str []), .int .i64 1])) Q) := fun w' hw => .inr ⟨by rw [hal]; simp, rfl, hw⟩
      clear HTX hhas hal
      go_wp2_with fail
      refine (HAL.out w2).mono ?_
      rintro r w3 ⟨rfl, hb3⟩
      have HB4 := hid (HB3.out.trans (hb3.mono HB3.out.size))
      clear hb3 HAL
      go_wp2
      go_ret2
      exact HF.out _ HB4.out
    | true =>
      rw [hal] at HAL
      have HTY := hid (HTX.out hhas hal)
      have HF : Hid (∀ (w' : World) (T : List UInt8), (amtI 0 x < infN 0 → Q T) → T.length ≤ 5000 → Below w0.heap.size w0 w' → FmtPost 0 x verb prec mode w0 w' (.returned (.tuple #[.string (str (outT 0 x T)), .int .i64 0])) Q) := fun w' T p1 p2 p3 => .inl ⟨hhas, hal, T, rfl, p1, p2, p3⟩
      clear HTX hhas hal
      go_wp2_with fail
      refine (HAL.out w2).mono ?_
      rintro r w3 ⟨rfl, hb3⟩
      have HB4 : Hid (Below w0.heap.size w0 w3) := HB3.out.trans (hb3.mono HB3.out.size)
      have e0' := keep_cell' hb3 e0
      have e1' := keep_cell' hb3 e1
      have e2' := keep_cell' hb3 e2
      have e3' := keep_cell' hb3 e3
      have e4' := keep_cell' hb3 e4
      have z0' := keep_cell' hb3 z0
      have z1' := keep_cell' hb3 z1
      have z2' := keep_cell' hb3 z2
      clear hb3 HAL e0 e1 e2 e3 e4 z0 z1 z2
      go_wp2_with fail
      refine (HTY.out w3 (HTAB.out.below HB4.out)).mono ?_
      rintro r w4 ⟨T, rfl, hq, hl, hb4⟩
      have HG := hid (HF.out w4 T hq hl (HB4.out.trans (hb4.mono HB4.out.size)))
      clear hq hl hb4 HTY HF
      go_wp2
      go_ret2
      exact HG.out
set_option maxRecDepth 100000 in
set_option maxHeartbeats 1000000 in
theorem pformat1 (cv : Value) (x verb prec mode : Int) (Q : List UInt8 → Prop) (h1 : -9223372036854775808 ≤ x) (h2 : x ≤ 9223372036854775807) (w : World) (ht : Tab w)
    (HT0 : allowB verb prec mode = true → ∀ a : Nat, amtI 1 x = a → (a : Int) < 2139095040 → ∀ w : World, Tab w → Calls Tryd.prog 23 #[.int .i64 a, lay1, .bool (negI 1 x), styV verb prec mode] w fun r w' => TextPost w w' r Q) :
    Calls Tryd.prog 15 #[cv, .int .i64 x, .int .i64 1, .int .i64 verb, .int .i64 prec, .int .i64 mode] w fun r w' => FmtPost 1 x verb prec mode w w' r Q := by
  have HF : Hid (∀ w, Calls Tryd.prog 16 #[.int .i64 1] w fun e w' => e = .returned (.bool true) ∧ w' = w) := fun w => isFormat_any 1 w
  have HOF := hid (of1)
  have HHS := hid (fun w => has1 x h1 h2 w)
  have HAL := hid (allowed_any verb prec mode)
  have HTX : Hid (hasB 1 x = true → allowB verb prec mode = true → ∀ w : World, Tab w → Calls Tryd.prog 20 #[.int .i64 x, lay1, styV verb prec mode] w fun r w' => OutPost 1 x w w' r Q) := fun hh ha w hw => textOf1 x verb prec mode Q (by unfold hasB sgnF at hh; simp at hh; omega) (by unfold hasB sgnF at hh; simp at hh; omega) w hw (HT0 ha)
  have HTAB := hid ht
  clear HT0 ht h1 h2
  unfold lay1 styV at *
  go_enter Tryd.func15, Tryd.ntmps15
  go_wp2_with fail
  refine (HF.out _).mono ?_
  rintro r w0 ⟨rfl, rfl⟩
  go_wp2_with fail
  refine (HOF.out _).mono ?_
  rintro r w1 ⟨rfl, hb1⟩
  have HB1 : Hid (Below w0.heap.size w0 w1) := hb1
  clear hb1 HF HOF
  go_wp2_with fail
  have d0 : ((w1.alloc (.cells #[.int .i64 23, .int .i64 127, .int .i64 8388608, .int .i64 2139095040, .int .i64 2147483648] 46)).alloc (.cells #[.int .i64 verb, .int .i64 prec, .int .i64 mode] 49)).cell? ⟨w1.heap.size, 0, none⟩ = some (Value.int .i64 23) := by simp [go_sem]
  have d1 : ((w1.alloc (.cells #[.int .i64 23, .int .i64 127, .int .i64 8388608, .int .i64 2139095040, .int .i64 2147483648] 46)).alloc (.cells #[.int .i64 verb, .int .i64 prec, .int .i64 mode] 49)).cell? ⟨w1.heap.size, 1, none⟩ = some (Value.int .i64 127) := by simp [go_sem]
  have d2 : ((w1.alloc (.cells #[.int .i64 23, .int .i64 127, .int .i64 8388608, .int .i64 2139095040, .int .i64 2147483648] 46)).alloc (.cells #[.int .i64 verb, .int .i64 prec, .int .i64 mode] 49)).cell? ⟨w1.heap.size, 2, none⟩ = some (Value.int .i64 8388608) := by simp [go_sem]
  have d3 : ((w1.alloc (.cells #[.int .i64 23, .int .i64 127, .int .i64 8388608, .int .i64 2139095040, .int .i64 2147483648] 46)).alloc (.cells #[.int .i64 verb, .int .i64 prec, .int .i64 mode] 49)).cell? ⟨w1.heap.size, 3, none⟩ = some (Value.int .i64 2139095040) := by simp [go_sem]
  have d4 : ((w1.alloc (.cells #[.int .i64 23, .int .i64 127, .int .i64 8388608, .int .i64 2139095040, .int .i64 2147483648] 46)).alloc (.cells #[.int .i64 verb, .int .i64 prec, .int .i64 mode] 49)).cell? ⟨w1.heap.size, 4, none⟩ = some (Value.int .i64 2147483648) := by simp [go_sem]
  have s0 : ((w1.alloc (.cells #[.int .i64 23, .int .i64 127, .int .i64 8388608, .int .i64 2139095040, .int .i64 2147483648] 46)).alloc (.cells #[.int .i64 verb, .int .i64 prec, .int .i64 mode] 49)).cell? ⟨w1.heap.size + 1, 0, none⟩ = some (Value.int .i64 verb) := by simp [go_sem]
  have s1 : ((w1.alloc (.cells #[.int .i64 23, .int .i64 127, .int .i64 8388608, .int .i64 2139095040, .int .i64 2147483648] 46)).alloc (.cells #[.int .i64 verb, .int .i64 prec, .int .i64 mode] 49)).cell? ⟨w1.heap.size + 1, 1, none⟩ = some (Value.int .i64 prec) := by simp [go_sem]
  have s2 : ((w1.alloc (.cells #[.int .i64 23, .int .i64 127, .int .i64 8388608, .int .i64 2139095040, .int .i64 2147483648] 46)).alloc (.cells #[.int .i64 verb, .int .i64 prec, .int .i64 mode] 49)).cell? ⟨w1.heap.size + 1, 2, none⟩ = some (Value.int .i64 mode) := by simp [go_sem]
  have HB2 : Hid (Below w0.heap.size w0 ((w1.alloc (.cells #[.int .i64 23, .int .i64 127, .int .i64 8388608, .int .i64 2139095040, .int .i64 2147483648] 46)).alloc (.cells #[.int .i64 verb, .int .i64 prec, .int .i64 mode] 49))) := HB1.out.trans ((((Below.refl _ _).alloc (Nat.le_refl _) _).alloc (by simp) _).mono HB1.out.size)
  obtain ⟨C, hC⟩ : ∃ C, C = w1.heap.size := ⟨_, rfl⟩
  rw [← hC] at d0 d1 d2 d3 d4 s0 s1 s2 ⊢
  generalize ((w1.alloc (.cells #[.int .i64 23, .int .i64 127, .int .i64 8388608, .int .i64 2139095040, .int .i64 2147483648] 46)).alloc (.cells #[.int .i64 verb, .int .i64 prec, .int .i64 mode] 49)) = W at *
  cases hhas : hasB 1 x with
  | false =>
    rw [hhas] at HHS
    refine (HHS.out W).mono ?_
    rintro r w2 ⟨rfl, hb2⟩
    have HF : Hid (FmtPost 1 x verb prec mode w0 w2 (.returned (.tuple #[.string (str []), .int .i64 1])) Q) := .inr ⟨by rw [hhas]; simp, rfl, HB2.out.trans (hb2.mono HB2.out.size)⟩
    clear hb2 hhas HHS HAL HTX d0 d1 d2 d3 d4 s0 s1 s2 hC
    go_wp2
    go_ret2
    exact HF.out
  | true =>
    rw [hhas] at HHS
    refine (HHS.out W).mono ?_
    rintro r w2 ⟨rfl, hb2⟩
    have HB3 : Hid (Below w0.heap.size w0 w2) := HB2.out.trans (hb2.mono HB2.out.size)
    have e0 := keep_cell' hb2 d0
    have e1 := keep_cell' hb2 d1
    have e2 := keep_cell' hb2 d2
    have e3 := keep_cell' hb2 d3
    have e4 := keep_cell' hb2 d4
    have z0 := keep_cell' hb2 s0
    have z1 := keep_cell' hb2 s1
    have z2 := keep_cell' hb2 s2
    clear hb2 HHS d0 d1 d2 d3 d4 s0 s1 s2 hC
    cases hal : allowB verb prec mode with
    | false =>
      rw [hal] at HAL
      have HF : Hid (∀ w', Below w0.heap.size w0 w' → FmtPost 1 x verb prec mode w0 w' (.returned (.tuple #[.string (str []), .int .i64 1])) Q) := fun w' hw => .inr ⟨by rw [hal]; simp, rfl, hw⟩
      clear HTX hhas hal
      go_wp2_with fail
      refine (HAL.out w2).mono ?_
      rintro r w3 ⟨rfl, hb3⟩
      have HB4 := hid (HB3.out.trans (hb3.mono HB3.out.size))
      clear hb3 HAL
      go_wp2
      go_ret2
      exact HF.out _ HB4.out
    | true =>
      rw [hal] at HAL
      have HTY := hid (HTX.out hhas hal)
      have HF : Hid (∀ (w' : World) (T : List UInt8), (amtI 1 x < infN 1 → Q T) → T.length ≤ 5000 → Below w0.heap.size w0 w' → FmtPost 1 x verb prec mode w0 w' (.returned (.tuple #[.string (str (outT 1 x T)), .int .i64 0])) Q) := fun w' T p1 p2 p3 => .inl ⟨hhas, hal, T, rfl, p1, p2, p3⟩
      clear HTX hhas hal
      go_wp2_with fail
      refine (HAL.out w2).mono ?_
      rintro r w3 ⟨rfl, hb3⟩
      have HB4 : Hid (Below w0.heap.size w0 w3) := HB3.out.trans (hb3.mono HB3.out.size)
      have e0' := keep_cell' hb3 e0
      have e1' := keep_cell' hb3 e1
      have e2' := keep_cell' hb3 e2
      have e3' := keep_cell' hb3 e3
      have e4' := keep_cell' hb3 e4
      have z0' := keep_cell' hb3 z0
      have z1' := keep_cell' hb3 z1
      have z2' := keep_cell' hb3 z2
      clear hb3 HAL e0 e1 e2 e3 e4 z0 z1 z2
      go_wp2_with fail
      refine (HTY.out w3 (HTAB.out.below HB4.out)).mono ?_
      rintro r w4 ⟨T, rfl, hq, hl, hb4⟩
      have HG := hid (HF.out w4 T hq hl (HB4.out.trans (hb4.mono HB4.out.size)))
      clear hq hl hb4 HTY HF
      go_wp2
      go_ret2
      exact HG.out
set_option maxRecDepth 100000 in
set_option maxHeartbeats 1000000 in
theorem pformat2 (cv : Value) (x verb prec mode : Int) (Q : List UInt8 → Prop) (h1 : -9223372036854775808 ≤ x) (h2 : x ≤ 9223372036854775807) (w : World) (ht : Tab w)
    (HT0 : allowB verb prec mode = true → ∀ a : Nat, amtI 2 x = a → (a : Int) < 9218868437227405312 → ∀ w : World, Tab w → Calls Tryd.prog 23 #[.int .i64 a, lay2, .bool (negI 2 x), styV verb prec mode] w fun r w' => TextPost w w' r Q) :
    Calls Tryd.prog 15 #[cv, .int .i64 x, .int .i64 2, .int .i64 verb, .int .i64 prec, .int .i64 mode] w fun r w' => FmtPost 2 x verb prec mode w w' r Q := by
  have HF : Hid (∀ w, Calls Tryd.prog 16 #[.int .i64 2] w fun e w' => e = .returned (.bool true) ∧ w' = w) := fun w => isFormat_any 2 w
  have HOF := hid (of2)
  have HHS := hid (fun w => has2 x w)
  have HAL := hid (allowed_any verb prec mode)
  have HTX : Hid (hasB 2 x = true → allowB verb prec mode = true → ∀ w : World, Tab w → Calls Tryd.prog 20 #[.int .i64 x, lay2, styV verb prec mode] w fun r w' => OutPost 2 x w w' r Q) := fun hh ha w hw => textOf2 x verb prec mode Q h1 h2 w hw (HT0 ha)
  have HTAB := hid ht
  clear HT0 ht h1 h2
  unfold lay2 styV at *
  go_enter Tryd.func15, Tryd.ntmps15
  go_wp2_with fail
  refine (HF.out _).mono ?_
  rintro r w0 ⟨rfl, rfl⟩
  go_wp2_with fail
  refine (HOF.out _).mono ?_
  rintro r w1 ⟨rfl, hb1⟩
  have HB1 : Hid (Below w0.heap.size w0 w1) := hb1
  clear hb1 HF HOF
  go_wp2_with fail
  have d0 : ((w1.alloc (.cells #[.int .i64 52, .int .i64 1023, .int .i64 4503599627370496, .int .i64 9218868437227405312, .int .i64 (-9223372036854775808)] 46)).alloc (.cells #[.int .i64 verb, .int .i64 prec, .int .i64 mode] 49)).cell? ⟨w1.heap.size, 0, none⟩ = some (Value.int .i64 52) := by simp [go_sem]
  have d1 : ((w1.alloc (.cells #[.int .i64 52, .int .i64 1023, .int .i64 4503599627370496, .int .i64 9218868437227405312, .int .i64 (-9223372036854775808)] 46)).alloc (.cells #[.int .i64 verb, .int .i64 prec, .int .i64 mode] 49)).cell? ⟨w1.heap.size, 1, none⟩ = some (Value.int .i64 1023) := by simp [go_sem]
  have d2 : ((w1.alloc (.cells #[.int .i64 52, .int .i64 1023, .int .i64 4503599627370496, .int .i64 9218868437227405312, .int .i64 (-9223372036854775808)] 46)).alloc (.cells #[.int .i64 verb, .int .i64 prec, .int .i64 mode] 49)).cell? ⟨w1.heap.size, 2, none⟩ = some (Value.int .i64 4503599627370496) := by simp [go_sem]
  have d3 : ((w1.alloc (.cells #[.int .i64 52, .int .i64 1023, .int .i64 4503599627370496, .int .i64 9218868437227405312, .int .i64 (-9223372036854775808)] 46)).alloc (.cells #[.int .i64 verb, .int .i64 prec, .int .i64 mode] 49)).cell? ⟨w1.heap.size, 3, none⟩ = some (Value.int .i64 9218868437227405312) := by simp [go_sem]
  have d4 : ((w1.alloc (.cells #[.int .i64 52, .int .i64 1023, .int .i64 4503599627370496, .int .i64 9218868437227405312, .int .i64 (-9223372036854775808)] 46)).alloc (.cells #[.int .i64 verb, .int .i64 prec, .int .i64 mode] 49)).cell? ⟨w1.heap.size, 4, none⟩ = some (Value.int .i64 (-9223372036854775808)) := by simp [go_sem]
  have s0 : ((w1.alloc (.cells #[.int .i64 52, .int .i64 1023, .int .i64 4503599627370496, .int .i64 9218868437227405312, .int .i64 (-9223372036854775808)] 46)).alloc (.cells #[.int .i64 verb, .int .i64 prec, .int .i64 mode] 49)).cell? ⟨w1.heap.size + 1, 0, none⟩ = some (Value.int .i64 verb) := by simp [go_sem]
  have s1 : ((w1.alloc (.cells #[.int .i64 52, .int .i64 1023, .int .i64 4503599627370496, .int .i64 9218868437227405312, .int .i64 (-9223372036854775808)] 46)).alloc (.cells #[.int .i64 verb, .int .i64 prec, .int .i64 mode] 49)).cell? ⟨w1.heap.size + 1, 1, none⟩ = some (Value.int .i64 prec) := by simp [go_sem]
  have s2 : ((w1.alloc (.cells #[.int .i64 52, .int .i64 1023, .int .i64 4503599627370496, .int .i64 9218868437227405312, .int .i64 (-9223372036854775808)] 46)).alloc (.cells #[.int .i64 verb, .int .i64 prec, .int .i64 mode] 49)).cell? ⟨w1.heap.size + 1, 2, none⟩ = some (Value.int .i64 mode) := by simp [go_sem]
  have HB2 : Hid (Below w0.heap.size w0 ((w1.alloc (.cells #[.int .i64 52, .int .i64 1023, .int .i64 4503599627370496, .int .i64 9218868437227405312, .int .i64 (-9223372036854775808)] 46)).alloc (.cells #[.int .i64 verb, .int .i64 prec, .int .i64 mode] 49))) := HB1.out.trans ((((Below.refl _ _).alloc (Nat.le_refl _) _).alloc (by simp) _).mono HB1.out.size)
  obtain ⟨C, hC⟩ : ∃ C, C = w1.heap.size := ⟨_, rfl⟩
  rw [← hC] at d0 d1 d2 d3 d4 s0 s1 s2 ⊢
  generalize ((w1.alloc (.cells #[.int .i64 52, .int .i64 1023, .int .i64 4503599627370496, .int .i64 9218868437227405312, .int .i64 (-9223372036854775808)] 46)).alloc (.cells #[.int .i64 verb, .int .i64 prec, .int .i64 mode] 49)) = W at *
  cases hhas : hasB 2 x with
  | false =>
    rw [hhas] at HHS
    refine (HHS.out W).mono ?_
    rintro r w2 ⟨rfl, hb2⟩
    have HF : Hid (FmtPost 2 x verb prec mode w0 w2 (.returned (.tuple #[.string (str []), .int .i64 1])) Q) := .inr ⟨by rw [hhas]; simp, rfl, HB2.out.trans (hb2.mono HB2.out.size)⟩
    clear hb2 hhas HHS HAL HTX d0 d1 d2 d3 d4 s0 s1 s2 hC
    go_wp2
    go_ret2
    exact HF.out
  | true =>
    rw [hhas] at HHS
    refine (HHS.out W).mono ?_
    rintro r w2 ⟨rfl, hb2⟩
    have HB3 : Hid (Below w0.heap.size w0 w2) := HB2.out.trans (hb2.mono HB2.out.size)
    have e0 := keep_cell' hb2 d0
    have e1 := keep_cell' hb2 d1
    have e2 := keep_cell' hb2 d2
    have e3 := keep_cell' hb2 d3
    have e4 := keep_cell' hb2 d4
    have z0 := keep_cell' hb2 s0
    have z1 := keep_cell' hb2 s1
    have z2 := keep_cell' hb2 s2
    clear hb2 HHS d0 d1 d2 d3 d4 s0 s1 s2 hC
    cases hal : allowB verb prec mode with
    | false =>
      rw [hal] at HAL
      have HF : Hid (∀ w', Below w0.heap.size w0 w' → FmtPost 2 x verb prec mode w0 w' (.returned (.tuple #[.string (str []), .int .i64 1])) Q) := fun w' hw => .inr ⟨by rw [hal]; simp, rfl, hw⟩
      clear HTX hhas hal
      go_wp2_with fail
      refine (HAL.out w2).mono ?_
      rintro r w3 ⟨rfl, hb3⟩
      have HB4 := hid (HB3.out.trans (hb3.mono HB3.out.size))
      clear hb3 HAL
      go_wp2
      go_ret2
      exact HF.out _ HB4.out
    | true =>
      rw [hal] at HAL
      have HTY := hid (HTX.out hhas hal)
      have HF : Hid (∀ (w' : World) (T : List UInt8), (amtI 2 x < infN 2 → Q T) → T.length ≤ 5000 → Below w0.heap.size w0 w' → FmtPost 2 x verb prec mode w0 w' (.returned (.tuple #[.string (str (outT 2 x T)), .int .i64 0])) Q) := fun w' T p1 p2 p3 => .inl ⟨hhas, hal, T, rfl, p1, p2, p3⟩
      clear HTX hhas hal
      go_wp2_with fail
      refine (HAL.out w2).mono ?_
      rintro r w3 ⟨rfl, hb3⟩
      have HB4 : Hid (Below w0.heap.size w0 w3) := HB3.out.trans (hb3.mono HB3.out.size)
      have e0' := keep_cell' hb3 e0
      have e1' := keep_cell' hb3 e1
      have e2' := keep_cell' hb3 e2
      have e3' := keep_cell' hb3 e3
      have e4' := keep_cell' hb3 e4
      have z0' := keep_cell' hb3 z0
      have z1' := keep_cell' hb3 z1
      have z2' := keep_cell' hb3 z2
      clear hb3 HAL e0 e1 e2 e3 e4 z0 z1 z2
      go_wp2_with fail
      refine (HTY.out w3 (HTAB.out.below HB4.out)).mono ?_
      rintro r w4 ⟨T, rfl, hq, hl, hb4⟩
      have HG := hid (HF.out w4 T hq hl (HB4.out.trans (hb4.mono HB4.out.size)))
      clear hq hl hb4 HTY HF
      go_wp2
      go_ret2
      exact HG.out
end Go.Proofs.YtbkdaoicnobllabDoor

namespace Go.Proofs.YtbkdaoicnobllabDoor
open Go.RowKit

/-- An amount below infinity's. -/
def finV (f a : Int) : Int := a % sgnF f % infN f
theorem finV_bd {f : Int} (hf : 0 ≤ f ∧ f ≤ 2) (a : Int) : 0 ≤ finV f a ∧ finV f a < infN f := by
  have h : (0 : Int) < infN f := by
    rcases (by omega : f = 0 ∨ f = 1 ∨ f = 2) with rfl | rfl | rfl <;> decide
  unfold finV
  exact ⟨Int.emod_nonneg _ (by omega), Int.emod_lt_of_pos _ h⟩
theorem infN_i64 {f : Int} (hf : 0 ≤ f ∧ f ≤ 2) : (infN f : Int) ≤ 9218868437227405312 := by
  rcases (by omega : f = 0 ∨ f = 1 ∨ f = 2) with rfl | rfl | rfl <;> decide
set_option maxRecDepth 100000 in
set_option maxHeartbeats 1000000 in
theorem finite0 (a : Int) (ha : -9223372036854775808 ≤ a ∧ a ≤ 9223372036854775807) (w : World) :
    Calls Tryd.prog 12 #[.int .i64 a, .int .i64 16, .int .i64 10] w fun e w' => e = .returned (.int .i64 (finV 0 a)) ∧ Below w.heap.size w w' := by
  obtain ⟨A, hA⟩ : ∃ A : Int, A = a % 32768 := ⟨_, rfl⟩
  have hm : bits .and .i64 a 32767 = A := by rw [hA]; exact and_mask a 15 (by omega)
  have hA1 : 0 ≤ A := by omega
  have hA2 : A < 32768 := by omega
  have HS : Hid (A % 31744 = finV 0 a) := by unfold Hid finV; rw [hA]; rfl
  clear hA
  obtain ⟨hB1, hB2⟩ := ha
  have hw : wrap64 (wrap64 9223372036854775808 - 1) = 9223372036854775807 := by unfold wrap64; decide
  have hw2 : wrap64 (wrap64 9223372036854775808 - 4503599627370496) = 9218868437227405312 := by unfold wrap64; decide
  go_enter Tryd.func12, Tryd.ntmps12
  go_wp2_with fail
  go_quiet (fail)
  go_wp2
  all_goals (go_ret; exact ⟨by rw [← HS.out]; rfl, ((Still.refl w).drewN _).below _⟩)
set_option maxRecDepth 100000 in
set_option maxHeartbeats 1000000 in
theorem finite1 (a : Int) (ha : -9223372036854775808 ≤ a ∧ a ≤ 9223372036854775807) (w : World) :
    Calls Tryd.prog 12 #[.int .i64 a, .int .i64 32, .int .i64 23] w fun e w' => e = .returned (.int .i64 (finV 1 a)) ∧ Below w.heap.size w w' := by
  obtain ⟨A, hA⟩ : ∃ A : Int, A = a % 2147483648 := ⟨_, rfl⟩
  have hm : bits .and .i64 a 2147483647 = A := by rw [hA]; exact and_mask a 31 (by omega)
  have hA1 : 0 ≤ A := by omega
  have hA2 : A < 2147483648 := by omega
  have HS : Hid (A % 2139095040 = finV 1 a) := by unfold Hid finV; rw [hA]; rfl
  clear hA
  obtain ⟨hB1, hB2⟩ := ha
  have hw : wrap64 (wrap64 9223372036854775808 - 1) = 9223372036854775807 := by unfold wrap64; decide
  have hw2 : wrap64 (wrap64 9223372036854775808 - 4503599627370496) = 9218868437227405312 := by unfold wrap64; decide
  go_enter Tryd.func12, Tryd.ntmps12
  go_wp2_with fail
  go_quiet (fail)
  go_wp2
  all_goals (go_ret; exact ⟨by rw [← HS.out]; rfl, ((Still.refl w).drewN _).below _⟩)
set_option maxRecDepth 100000 in
set_option maxHeartbeats 1000000 in
theorem finite2 (a : Int) (ha : -9223372036854775808 ≤ a ∧ a ≤ 9223372036854775807) (w : World) :
    Calls Tryd.prog 12 #[.int .i64 a, .int .i64 64, .int .i64 52] w fun e w' => e = .returned (.int .i64 (finV 2 a)) ∧ Below w.heap.size w w' := by
  obtain ⟨A, hA⟩ : ∃ A : Int, A = a % 9223372036854775808 := ⟨_, rfl⟩
  have hm : bits .and .i64 a 9223372036854775807 = A := by rw [hA]; exact and_mask a 63 (by omega)
  have hA1 : 0 ≤ A := by omega
  have hA2 : A < 9223372036854775808 := by omega
  have HS : Hid (A % 9218868437227405312 = finV 2 a) := by unfold Hid finV; rw [hA]; rfl
  clear hA
  obtain ⟨hB1, hB2⟩ := ha
  have hw : wrap64 (wrap64 9223372036854775808 - 1) = 9223372036854775807 := by unfold wrap64; decide
  have hw2 : wrap64 (wrap64 9223372036854775808 - 4503599627370496) = 9218868437227405312 := by unfold wrap64; decide
  go_enter Tryd.func12, Tryd.ntmps12
  go_wp2_with fail
  go_quiet (fail)
  go_wp2
  all_goals (go_ret; exact ⟨by rw [← HS.out]; rfl, ((Still.refl w).drewN _).below _⟩)
theorem finite_any (f a : Int) (hf : 0 ≤ f ∧ f ≤ 2) (ha : -9223372036854775808 ≤ a ∧ a ≤ 9223372036854775807) (w : World) :
    Calls Tryd.prog 12 #[.int .i64 a, .int .i64 (fW f), .int .i64 (fQ f : Nat)] w fun e w' => e = .returned (.int .i64 (finV f a)) ∧ Below w.heap.size w w' := by
  rcases (by omega : f = 0 ∨ f = 1 ∨ f = 2) with rfl | rfl | rfl
  · exact finite0 a ha w
  · exact finite1 a ha w
  · exact finite2 a ha w
/-- What Format answers of a finite amount. -/
def GoodPost (w w' : World) (r : Ending) (Q : List UInt8 → Prop) : Prop := ∃ T : List UInt8, r = .returned (.tuple #[.string (str T), .int .i64 0]) ∧ Q T ∧ T.length ≤ 5000 ∧ Below w.heap.size w w'
theorem fin_pat {f v : Int} (hf : 0 ≤ f ∧ f ≤ 2) (h0 : 0 ≤ v) (h1 : v < infN f) : hasB f v = true ∧ negI f v = false ∧ amtI f v = v := by
  rcases (by omega : f = 0 ∨ f = 1 ∨ f = 2) with rfl | rfl | rfl
  · have h1 : v < 31744 := h1
    simp [hasB, negI, amtI, sgnF]; omega
  · have h1 : v < 2139095040 := h1
    simp [hasB, negI, amtI, sgnF]; omega
  · have h1 : v < 9218868437227405312 := h1
    simp [hasB, negI, amtI, sgnF]; omega
theorem fmt_good {f v verb prec mode : Int} {w w' : World} {r : Ending} {Q : List UInt8 → Prop} (hf : 0 ≤ f ∧ f ≤ 2) (h0 : 0 ≤ v) (h1 : v < infN f) (ha : allowB verb prec mode = true) (h : FmtPost f v verb prec mode w w' r Q) : GoodPost w w' r Q := by
  obtain ⟨p1, p2, p3⟩ := fin_pat hf h0 h1
  rcases h with ⟨_, _, T, rfl, hq, hl, hb⟩ | ⟨hn, _⟩
  · refine ⟨T, ?_, hq (by rw [p3]; exact h1), hl, hb⟩
    unfold outT
    rw [p3, p2, if_neg (by omega), if_pos h1]; rfl
  · exact absurd ⟨p1, ha⟩ hn
set_option maxRecDepth 100000 in
set_option maxHeartbeats 1000000 in
theorem prints_of (cv : Value) (v f verb prec : Int) (Q : List UInt8 → Prop) (w : World)
    (HF0 : Calls Tryd.prog 15 #[cv, .int .i64 v, .int .i64 f, .int .i64 verb, .int .i64 prec, .int .i64 0] w fun r w' => GoodPost w w' r Q) :
    Calls Tryd.prog 10 #[cv, .int .i64 v, .int .i64 f, .int .i64 verb, .int .i64 prec] w fun r w' => TextPost w w' r Q := by
  have HF := hid HF0
  clear HF0
  go_enter Tryd.func10, Tryd.ntmps10
  go_wp2_with fail
  refine HF.out.mono ?_
  rintro r w1 ⟨T, rfl, hq, hl, hb⟩
  have HP : Hid (TextPost w w1 (.returned (.string (str T))) Q) := ⟨T, rfl, hq, hl, hb⟩
  clear hq hl hb HF
  go_wp2
  all_goals (go_ret; exact HP.out)
end Go.Proofs.YtbkdaoicnobllabDoor

namespace Go.Proofs.YtbkdaoicnobllabDoor
open Go.RowKit

theorem pnew_any (w : World) : Calls Tryd.prog 5 #[] w fun e w' => ∃ v, e = .returned v ∧ Below w.heap.size w w' := by
  go_enter Tryd.func5, Tryd.ntmps5
  go_wp2
  go_ret
  exact ⟨_, rfl, (Below.refl _ _).alloc (Nat.le_refl _) _⟩
theorem allow_short {v prec mode : Int} (hv : v = 0 ∨ v = 1 ∨ v = 4) (h : allowB v prec mode = true) : prec = -1 ∧ mode = 0 := by
  unfold allowB at h; rw [if_pos hv] at h; simpa using h
theorem allow_exact {v prec mode : Int} (hv : v = 2 ∨ v = 3) (h : allowB v prec mode = true) : 0 ≤ prec ∧ prec ≤ 800 ∧ 0 ≤ mode ∧ mode ≤ 4 := by
  unfold allowB at h; rw [if_neg (by omega), if_pos hv] at h; simpa using h
end Go.Proofs.YtbkdaoicnobllabDoor
