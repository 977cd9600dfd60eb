import Derived.Test.YtbkdaoicnobllabGreatDoorG07
import Derived.Test.YtbkdaoicnobllabGreatDoorG30
import Derived.Test.YtbkdaoicnobllabGreatDoorG02
import Derived.Test.YtbkdaoicnobllabGreatDoorG27
import Derived.Test.YtbkdaoicnobllabGreatDoorG11

namespace Go.Proofs.YtbkdaoicnobllabGreatDoor
open Go.RowKit

set_option maxRecDepth 100000 in
set_option maxHeartbeats 1000000 in
theorem numSh0 (a : Nat) (ng : Bool) (prec mode : Int) (ha : (a : Int) < 31744) (w : World) (ht : Tab w) :
    Calls Tryz.prog 37 #[.int .i64 a, lay0, .bool ng, styV 0 prec mode] w fun r w' => TextPost w w' r (ShortQ false 0 a) := by
  have HTAB := hid ht
  have HNB := hid (fun w => number0 a ha w)
  have HX : Hid (∀ w1 : World, Tab w1 → Calls Tryz.prog 54 #[.int .i64 a, lay0, .int .i64 0] w1 fun r w' => TextPost w1 w' r (ShortQ false 0 a)) := fun w1 hw => shortText0v0 a ha w1 hw
  obtain ⟨m, hm⟩ : ∃ m, m = mA 10 a := ⟨_, rfl⟩
  obtain ⟨k, hk⟩ : ∃ k : Nat, k = xA 10 a := ⟨_, rfl⟩
  obtain ⟨A, hA⟩ : ∃ A : Int, A = (a : Int) := ⟨_, rfl⟩
  rw [← hm, ← hk, ← hA] at HNB
  rw [← hA] at HX
  obtain ⟨M, hM⟩ : ∃ M : Int, M = (m : Int) := ⟨_, rfl⟩
  rw [← hM] at HNB
  rw [← hA]
  clear ht hm hk hA hM ha
  unfold lay0 styV at *
  go_enter Tryz.func37, Tryz.ntmps37
  go_wp2_with fail
  have d0 : ((w.alloc (.cells #[.int .i64 10, .int .i64 15, .int .i64 1024, .int .i64 31744, .int .i64 32768] 63)).alloc (.cells #[.int .i64 0, .int .i64 prec, .int .i64 mode] 66)).cell? ⟨w.heap.size, 0, none⟩ = some (Value.int .i64 10) := by simp [go_sem]
  have d1 : ((w.alloc (.cells #[.int .i64 10, .int .i64 15, .int .i64 1024, .int .i64 31744, .int .i64 32768] 63)).alloc (.cells #[.int .i64 0, .int .i64 prec, .int .i64 mode] 66)).cell? ⟨w.heap.size, 1, none⟩ = some (Value.int .i64 15) := by simp [go_sem]
  have d2 : ((w.alloc (.cells #[.int .i64 10, .int .i64 15, .int .i64 1024, .int .i64 31744, .int .i64 32768] 63)).alloc (.cells #[.int .i64 0, .int .i64 prec, .int .i64 mode] 66)).cell? ⟨w.heap.size, 2, none⟩ = some (Value.int .i64 1024) := by simp [go_sem]
  have d3 : ((w.alloc (.cells #[.int .i64 10, .int .i64 15, .int .i64 1024, .int .i64 31744, .int .i64 32768] 63)).alloc (.cells #[.int .i64 0, .int .i64 prec, .int .i64 mode] 66)).cell? ⟨w.heap.size, 3, none⟩ = some (Value.int .i64 31744) := by simp [go_sem]
  have d4 : ((w.alloc (.cells #[.int .i64 10, .int .i64 15, .int .i64 1024, .int .i64 31744, .int .i64 32768] 63)).alloc (.cells #[.int .i64 0, .int .i64 prec, .int .i64 mode] 66)).cell? ⟨w.heap.size, 4, none⟩ = some (Value.int .i64 32768) := by simp [go_sem]
  have s0 : ((w.alloc (.cells #[.int .i64 10, .int .i64 15, .int .i64 1024, .int .i64 31744, .int .i64 32768] 63)).alloc (.cells #[.int .i64 0, .int .i64 prec, .int .i64 mode] 66)).cell? ⟨w.heap.size + 1, 0, none⟩ = some (Value.int .i64 0) := by simp [go_sem]
  have s1 : ((w.alloc (.cells #[.int .i64 10, .int .i64 15, .int .i64 1024, .int .i64 31744, .int .i64 32768] 63)).alloc (.cells #[.int .i64 0, .int .i64 prec, .int .i64 mode] 66)).cell? ⟨w.heap.size + 1, 1, none⟩ = some (Value.int .i64 prec) := by simp [go_sem]
  have s2 : ((w.alloc (.cells #[.int .i64 10, .int .i64 15, .int .i64 1024, .int .i64 31744, .int .i64 32768] 63)).alloc (.cells #[.int .i64 0, .int .i64 prec, .int .i64 mode] 66)).cell? ⟨w.heap.size + 1, 2, none⟩ = some (Value.int .i64 mode) := by simp [go_sem]
  have HB : Hid (Below w.heap.size w ((w.alloc (.cells #[.int .i64 10, .int .i64 15, .int .i64 1024, .int .i64 31744, .int .i64 32768] 63)).alloc (.cells #[.int .i64 0, .int .i64 prec, .int .i64 mode] 66))) := ((Below.refl _ _).alloc (Nat.le_refl _) _).alloc (by simp) _
  have hw : w.heap.size + 1 < ((w.alloc (.cells #[.int .i64 10, .int .i64 15, .int .i64 1024, .int .i64 31744, .int .i64 32768] 63)).alloc (.cells #[.int .i64 0, .int .i64 prec, .int .i64 mode] 66)).heap.size := by simp
  generalize ((w.alloc (.cells #[.int .i64 10, .int .i64 15, .int .i64 1024, .int .i64 31744, .int .i64 32768] 63)).alloc (.cells #[.int .i64 0, .int .i64 prec, .int .i64 mode] 66)) = W at *
  refine (HNB.out W).mono ?_
  rintro r w1 ⟨rfl, hb1⟩
  have HB1 : Hid (Below w.heap.size w w1) := HB.out.trans (hb1.mono (by omega))
  have HT1 : Hid (Tab w1) := HTAB.out.below HB1.out
  have e0 := keep_cell' hb1 d0
  have e1 := keep_cell' hb1 d1
  have e2 := keep_cell' hb1 d2
  have e3 := keep_cell' hb1 d3
  have e4 := keep_cell' hb1 d4
  have z0 := keep_cell' hb1 s0
  have z1 := keep_cell' hb1 s1
  have z2 := keep_cell' hb1 s2
  clear hb1 d0 d1 d2 d3 d4 s0 s1 s2 hw HB HNB
  go_wp2_with fail
  refine (HX.out _ HT1.out).mono ?_
  rintro r w2 ⟨T, rfl, hq, hl, hb2⟩
  have HF := hid (And.intro hq (And.intro hl (HB1.out.trans (hb2.mono HB1.out.size))))
  clear hq hl hb2 HX
  go_wp2
  go_ret
  exact ⟨T, rfl, HF.out.1, HF.out.2.1, HF.out.2.2⟩
set_option maxRecDepth 100000 in
set_option maxHeartbeats 1000000 in
theorem numSh1 (a : Nat) (ng : Bool) (prec mode : Int) (ha : (a : Int) < 2139095040) (w : World) (ht : Tab w) :
    Calls Tryz.prog 37 #[.int .i64 a, lay1, .bool ng, styV 0 prec mode] w fun r w' => TextPost w w' r (ShortQ false 1 a) := by
  have HTAB := hid ht
  have HNB := hid (fun w => number1 a ha w)
  have HX : Hid (∀ w1 : World, Tab w1 → Calls Tryz.prog 54 #[.int .i64 a, lay1, .int .i64 0] w1 fun r w' => TextPost w1 w' r (ShortQ false 1 a)) := fun w1 hw => shortText1v0 a ha w1 hw
  obtain ⟨m, hm⟩ : ∃ m, m = mA 23 a := ⟨_, rfl⟩
  obtain ⟨k, hk⟩ : ∃ k : Nat, k = xA 23 a := ⟨_, rfl⟩
  obtain ⟨A, hA⟩ : ∃ A : Int, A = (a : Int) := ⟨_, rfl⟩
  rw [← hm, ← hk, ← hA] at HNB
  rw [← hA] at HX
  obtain ⟨M, hM⟩ : ∃ M : Int, M = (m : Int) := ⟨_, rfl⟩
  rw [← hM] at HNB
  rw [← hA]
  clear ht hm hk hA hM ha
  unfold lay1 styV at *
  go_enter Tryz.func37, Tryz.ntmps37
  go_wp2_with fail
  have d0 : ((w.alloc (.cells #[.int .i64 23, .int .i64 127, .int .i64 8388608, .int .i64 2139095040, .int .i64 2147483648] 63)).alloc (.cells #[.int .i64 0, .int .i64 prec, .int .i64 mode] 66)).cell? ⟨w.heap.size, 0, none⟩ = some (Value.int .i64 23) := by simp [go_sem]
  have d1 : ((w.alloc (.cells #[.int .i64 23, .int .i64 127, .int .i64 8388608, .int .i64 2139095040, .int .i64 2147483648] 63)).alloc (.cells #[.int .i64 0, .int .i64 prec, .int .i64 mode] 66)).cell? ⟨w.heap.size, 1, none⟩ = some (Value.int .i64 127) := by simp [go_sem]
  have d2 : ((w.alloc (.cells #[.int .i64 23, .int .i64 127, .int .i64 8388608, .int .i64 2139095040, .int .i64 2147483648] 63)).alloc (.cells #[.int .i64 0, .int .i64 prec, .int .i64 mode] 66)).cell? ⟨w.heap.size, 2, none⟩ = some (Value.int .i64 8388608) := by simp [go_sem]
  have d3 : ((w.alloc (.cells #[.int .i64 23, .int .i64 127, .int .i64 8388608, .int .i64 2139095040, .int .i64 2147483648] 63)).alloc (.cells #[.int .i64 0, .int .i64 prec, .int .i64 mode] 66)).cell? ⟨w.heap.size, 3, none⟩ = some (Value.int .i64 2139095040) := by simp [go_sem]
  have d4 : ((w.alloc (.cells #[.int .i64 23, .int .i64 127, .int .i64 8388608, .int .i64 2139095040, .int .i64 2147483648] 63)).alloc (.cells #[.int .i64 0, .int .i64 prec, .int .i64 mode] 66)).cell? ⟨w.heap.size, 4, none⟩ = some (Value.int .i64 2147483648) := by simp [go_sem]
  have s0 : ((w.alloc (.cells #[.int .i64 23, .int .i64 127, .int .i64 8388608, .int .i64 2139095040, .int .i64 2147483648] 63)).alloc (.cells #[.int .i64 0, .int .i64 prec, .int .i64 mode] 66)).cell? ⟨w.heap.size + 1, 0, none⟩ = some (Value.int .i64 0) := by simp [go_sem]
  have s1 : ((w.alloc (.cells #[.int .i64 23, .int .i64 127, .int .i64 8388608, .int .i64 2139095040, .int .i64 2147483648] 63)).alloc (.cells #[.int .i64 0, .int .i64 prec, .int .i64 mode] 66)).cell? ⟨w.heap.size + 1, 1, none⟩ = some (Value.int .i64 prec) := by simp [go_sem]
  have s2 : ((w.alloc (.cells #[.int .i64 23, .int .i64 127, .int .i64 8388608, .int .i64 2139095040, .int .i64 2147483648] 63)).alloc (.cells #[.int .i64 0, .int .i64 prec, .int .i64 mode] 66)).cell? ⟨w.heap.size + 1, 2, none⟩ = some (Value.int .i64 mode) := by simp [go_sem]
  have HB : Hid (Below w.heap.size w ((w.alloc (.cells #[.int .i64 23, .int .i64 127, .int .i64 8388608, .int .i64 2139095040, .int .i64 2147483648] 63)).alloc (.cells #[.int .i64 0, .int .i64 prec, .int .i64 mode] 66))) := ((Below.refl _ _).alloc (Nat.le_refl _) _).alloc (by simp) _
  have hw : w.heap.size + 1 < ((w.alloc (.cells #[.int .i64 23, .int .i64 127, .int .i64 8388608, .int .i64 2139095040, .int .i64 2147483648] 63)).alloc (.cells #[.int .i64 0, .int .i64 prec, .int .i64 mode] 66)).heap.size := by simp
  generalize ((w.alloc (.cells #[.int .i64 23, .int .i64 127, .int .i64 8388608, .int .i64 2139095040, .int .i64 2147483648] 63)).alloc (.cells #[.int .i64 0, .int .i64 prec, .int .i64 mode] 66)) = W at *
  refine (HNB.out W).mono ?_
  rintro r w1 ⟨rfl, hb1⟩
  have HB1 : Hid (Below w.heap.size w w1) := HB.out.trans (hb1.mono (by omega))
  have HT1 : Hid (Tab w1) := HTAB.out.below HB1.out
  have e0 := keep_cell' hb1 d0
  have e1 := keep_cell' hb1 d1
  have e2 := keep_cell' hb1 d2
  have e3 := keep_cell' hb1 d3
  have e4 := keep_cell' hb1 d4
  have z0 := keep_cell' hb1 s0
  have z1 := keep_cell' hb1 s1
  have z2 := keep_cell' hb1 s2
  clear hb1 d0 d1 d2 d3 d4 s0 s1 s2 hw HB HNB
  go_wp2_with fail
  refine (HX.out _ HT1.out).mono ?_
  rintro r w2 ⟨T, rfl, hq, hl, hb2⟩
  have HF := hid (And.intro hq (And.intro hl (HB1.out.trans (hb2.mono HB1.out.size))))
  clear hq hl hb2 HX
  go_wp2
  go_ret
  exact ⟨T, rfl, HF.out.1, HF.out.2.1, HF.out.2.2⟩
set_option maxRecDepth 100000 in
set_option maxHeartbeats 1000000 in
theorem numSh2 (a : Nat) (ng : Bool) (prec mode : Int) (ha : (a : Int) < 9218868437227405312) (w : World) (ht : Tab w) :
    Calls Tryz.prog 37 #[.int .i64 a, lay2, .bool ng, styV 0 prec mode] w fun r w' => TextPost w w' r (ShortQ false 2 a) := by
  have HTAB := hid ht
  have HNB := hid (fun w => number2 a ha w)
  have HX : Hid (∀ w1 : World, Tab w1 → Calls Tryz.prog 54 #[.int .i64 a, lay2, .int .i64 0] w1 fun r w' => TextPost w1 w' r (ShortQ false 2 a)) := fun w1 hw => shortText2v0 a ha w1 hw
  obtain ⟨m, hm⟩ : ∃ m, m = mA 52 a := ⟨_, rfl⟩
  obtain ⟨k, hk⟩ : ∃ k : Nat, k = xA 52 a := ⟨_, rfl⟩
  obtain ⟨A, hA⟩ : ∃ A : Int, A = (a : Int) := ⟨_, rfl⟩
  rw [← hm, ← hk, ← hA] at HNB
  rw [← hA] at HX
  obtain ⟨M, hM⟩ : ∃ M : Int, M = (m : Int) := ⟨_, rfl⟩
  rw [← hM] at HNB
  rw [← hA]
  clear ht hm hk hA hM ha
  unfold lay2 styV at *
  go_enter Tryz.func37, Tryz.ntmps37
  go_wp2_with fail
  have d0 : ((w.alloc (.cells #[.int .i64 52, .int .i64 1023, .int .i64 4503599627370496, .int .i64 9218868437227405312, .int .i64 (-9223372036854775808)] 63)).alloc (.cells #[.int .i64 0, .int .i64 prec, .int .i64 mode] 66)).cell? ⟨w.heap.size, 0, none⟩ = some (Value.int .i64 52) := by simp [go_sem]
  have d1 : ((w.alloc (.cells #[.int .i64 52, .int .i64 1023, .int .i64 4503599627370496, .int .i64 9218868437227405312, .int .i64 (-9223372036854775808)] 63)).alloc (.cells #[.int .i64 0, .int .i64 prec, .int .i64 mode] 66)).cell? ⟨w.heap.size, 1, none⟩ = some (Value.int .i64 1023) := by simp [go_sem]
  have d2 : ((w.alloc (.cells #[.int .i64 52, .int .i64 1023, .int .i64 4503599627370496, .int .i64 9218868437227405312, .int .i64 (-9223372036854775808)] 63)).alloc (.cells #[.int .i64 0, .int .i64 prec, .int .i64 mode] 66)).cell? ⟨w.heap.size, 2, none⟩ = some (Value.int .i64 4503599627370496) := by simp [go_sem]
  have d3 : ((w.alloc (.cells #[.int .i64 52, .int .i64 1023, .int .i64 4503599627370496, .int .i64 9218868437227405312, .int .i64 (-9223372036854775808)] 63)).alloc (.cells #[.int .i64 0, .int .i64 prec, .int .i64 mode] 66)).cell? ⟨w.heap.size, 3, none⟩ = some (Value.int .i64 9218868437227405312) := by simp [go_sem]
  have d4 : ((w.alloc (.cells #[.int .i64 52, .int .i64 1023, .int .i64 4503599627370496, .int .i64 9218868437227405312, .int .i64 (-9223372036854775808)] 63)).alloc (.cells #[.int .i64 0, .int .i64 prec, .int .i64 mode] 66)).cell? ⟨w.heap.size, 4, none⟩ = some (Value.int .i64 (-9223372036854775808)) := by simp [go_sem]
  have s0 : ((w.alloc (.cells #[.int .i64 52, .int .i64 1023, .int .i64 4503599627370496, .int .i64 9218868437227405312, .int .i64 (-9223372036854775808)] 63)).alloc (.cells #[.int .i64 0, .int .i64 prec, .int .i64 mode] 66)).cell? ⟨w.heap.size + 1, 0, none⟩ = some (Value.int .i64 0) := by simp [go_sem]
  have s1 : ((w.alloc (.cells #[.int .i64 52, .int .i64 1023, .int .i64 4503599627370496, .int .i64 9218868437227405312, .int .i64 (-9223372036854775808)] 63)).alloc (.cells #[.int .i64 0, .int .i64 prec, .int .i64 mode] 66)).cell? ⟨w.heap.size + 1, 1, none⟩ = some (Value.int .i64 prec) := by simp [go_sem]
  have s2 : ((w.alloc (.cells #[.int .i64 52, .int .i64 1023, .int .i64 4503599627370496, .int .i64 9218868437227405312, .int .i64 (-9223372036854775808)] 63)).alloc (.cells #[.int .i64 0, .int .i64 prec, .int .i64 mode] 66)).cell? ⟨w.heap.size + 1, 2, none⟩ = some (Value.int .i64 mode) := by simp [go_sem]
  have HB : Hid (Below w.heap.size w ((w.alloc (.cells #[.int .i64 52, .int .i64 1023, .int .i64 4503599627370496, .int .i64 9218868437227405312, .int .i64 (-9223372036854775808)] 63)).alloc (.cells #[.int .i64 0, .int .i64 prec, .int .i64 mode] 66))) := ((Below.refl _ _).alloc (Nat.le_refl _) _).alloc (by simp) _
  have hw : w.heap.size + 1 < ((w.alloc (.cells #[.int .i64 52, .int .i64 1023, .int .i64 4503599627370496, .int .i64 9218868437227405312, .int .i64 (-9223372036854775808)] 63)).alloc (.cells #[.int .i64 0, .int .i64 prec, .int .i64 mode] 66)).heap.size := by simp
  generalize ((w.alloc (.cells #[.int .i64 52, .int .i64 1023, .int .i64 4503599627370496, .int .i64 9218868437227405312, .int .i64 (-9223372036854775808)] 63)).alloc (.cells #[.int .i64 0, .int .i64 prec, .int .i64 mode] 66)) = W at *
  refine (HNB.out W).mono ?_
  rintro r w1 ⟨rfl, hb1⟩
  have HB1 : Hid (Below w.heap.size w w1) := HB.out.trans (hb1.mono (by omega))
  have HT1 : Hid (Tab w1) := HTAB.out.below HB1.out
  have e0 := keep_cell' hb1 d0
  have e1 := keep_cell' hb1 d1
  have e2 := keep_cell' hb1 d2
  have e3 := keep_cell' hb1 d3
  have e4 := keep_cell' hb1 d4
  have z0 := keep_cell' hb1 s0
  have z1 := keep_cell' hb1 s1
  have z2 := keep_cell' hb1 s2
  clear hb1 d0 d1 d2 d3 d4 s0 s1 s2 hw HB HNB
  go_wp2_with fail
  refine (HX.out _ HT1.out).mono ?_
  rintro r w2 ⟨T, rfl, hq, hl, hb2⟩
  have HF := hid (And.intro hq (And.intro hl (HB1.out.trans (hb2.mono HB1.out.size))))
  clear hq hl hb2 HX
  go_wp2
  go_ret
  exact ⟨T, rfl, HF.out.1, HF.out.2.1, HF.out.2.2⟩
set_option maxRecDepth 100000 in
set_option maxHeartbeats 1000000 in
theorem numPl0 (a : Nat) (ng : Bool) (prec mode : Int) (ha : (a : Int) < 31744) (w : World) (ht : Tab w) :
    Calls Tryz.prog 37 #[.int .i64 a, lay0, .bool ng, styV 1 prec mode] w fun r w' => TextPost w w' r (ShortQ true 0 a) := by
  have HTAB := hid ht
  have HNB := hid (fun w => number0 a ha w)
  have HX : Hid (∀ w1 : World, Tab w1 → Calls Tryz.prog 54 #[.int .i64 a, lay0, .int .i64 1] w1 fun r w' => TextPost w1 w' r (ShortQ true 0 a)) := fun w1 hw => shortText0v1 a ha w1 hw
  obtain ⟨m, hm⟩ : ∃ m, m = mA 10 a := ⟨_, rfl⟩
  obtain ⟨k, hk⟩ : ∃ k : Nat, k = xA 10 a := ⟨_, rfl⟩
  obtain ⟨A, hA⟩ : ∃ A : Int, A = (a : Int) := ⟨_, rfl⟩
  rw [← hm, ← hk, ← hA] at HNB
  rw [← hA] at HX
  obtain ⟨M, hM⟩ : ∃ M : Int, M = (m : Int) := ⟨_, rfl⟩
  rw [← hM] at HNB
  rw [← hA]
  clear ht hm hk hA hM ha
  unfold lay0 styV at *
  go_enter Tryz.func37, Tryz.ntmps37
  go_wp2_with fail
  have d0 : ((w.alloc (.cells #[.int .i64 10, .int .i64 15, .int .i64 1024, .int .i64 31744, .int .i64 32768] 63)).alloc (.cells #[.int .i64 1, .int .i64 prec, .int .i64 mode] 66)).cell? ⟨w.heap.size, 0, none⟩ = some (Value.int .i64 10) := by simp [go_sem]
  have d1 : ((w.alloc (.cells #[.int .i64 10, .int .i64 15, .int .i64 1024, .int .i64 31744, .int .i64 32768] 63)).alloc (.cells #[.int .i64 1, .int .i64 prec, .int .i64 mode] 66)).cell? ⟨w.heap.size, 1, none⟩ = some (Value.int .i64 15) := by simp [go_sem]
  have d2 : ((w.alloc (.cells #[.int .i64 10, .int .i64 15, .int .i64 1024, .int .i64 31744, .int .i64 32768] 63)).alloc (.cells #[.int .i64 1, .int .i64 prec, .int .i64 mode] 66)).cell? ⟨w.heap.size, 2, none⟩ = some (Value.int .i64 1024) := by simp [go_sem]
  have d3 : ((w.alloc (.cells #[.int .i64 10, .int .i64 15, .int .i64 1024, .int .i64 31744, .int .i64 32768] 63)).alloc (.cells #[.int .i64 1, .int .i64 prec, .int .i64 mode] 66)).cell? ⟨w.heap.size, 3, none⟩ = some (Value.int .i64 31744) := by simp [go_sem]
  have d4 : ((w.alloc (.cells #[.int .i64 10, .int .i64 15, .int .i64 1024, .int .i64 31744, .int .i64 32768] 63)).alloc (.cells #[.int .i64 1, .int .i64 prec, .int .i64 mode] 66)).cell? ⟨w.heap.size, 4, none⟩ = some (Value.int .i64 32768) := by simp [go_sem]
  have s0 : ((w.alloc (.cells #[.int .i64 10, .int .i64 15, .int .i64 1024, .int .i64 31744, .int .i64 32768] 63)).alloc (.cells #[.int .i64 1, .int .i64 prec, .int .i64 mode] 66)).cell? ⟨w.heap.size + 1, 0, none⟩ = some (Value.int .i64 1) := by simp [go_sem]
  have s1 : ((w.alloc (.cells #[.int .i64 10, .int .i64 15, .int .i64 1024, .int .i64 31744, .int .i64 32768] 63)).alloc (.cells #[.int .i64 1, .int .i64 prec, .int .i64 mode] 66)).cell? ⟨w.heap.size + 1, 1, none⟩ = some (Value.int .i64 prec) := by simp [go_sem]
  have s2 : ((w.alloc (.cells #[.int .i64 10, .int .i64 15, .int .i64 1024, .int .i64 31744, .int .i64 32768] 63)).alloc (.cells #[.int .i64 1, .int .i64 prec, .int .i64 mode] 66)).cell? ⟨w.heap.size + 1, 2, none⟩ = some (Value.int .i64 mode) := by simp [go_sem]
  have HB : Hid (Below w.heap.size w ((w.alloc (.cells #[.int .i64 10, .int .i64 15, .int .i64 1024, .int .i64 31744, .int .i64 32768] 63)).alloc (.cells #[.int .i64 1, .int .i64 prec, .int .i64 mode] 66))) := ((Below.refl _ _).alloc (Nat.le_refl _) _).alloc (by simp) _
  have hw : w.heap.size + 1 < ((w.alloc (.cells #[.int .i64 10, .int .i64 15, .int .i64 1024, .int .i64 31744, .int .i64 32768] 63)).alloc (.cells #[.int .i64 1, .int .i64 prec, .int .i64 mode] 66)).heap.size := by simp
  generalize ((w.alloc (.cells #[.int .i64 10, .int .i64 15, .int .i64 1024, .int .i64 31744, .int .i64 32768] 63)).alloc (.cells #[.int .i64 1, .int .i64 prec, .int .i64 mode] 66)) = W at *
  refine (HNB.out W).mono ?_
  rintro r w1 ⟨rfl, hb1⟩
  have HB1 : Hid (Below w.heap.size w w1) := HB.out.trans (hb1.mono (by omega))
  have HT1 : Hid (Tab w1) := HTAB.out.below HB1.out
  have e0 := keep_cell' hb1 d0
  have e1 := keep_cell' hb1 d1
  have e2 := keep_cell' hb1 d2
  have e3 := keep_cell' hb1 d3
  have e4 := keep_cell' hb1 d4
  have z0 := keep_cell' hb1 s0
  have z1 := keep_cell' hb1 s1
  have z2 := keep_cell' hb1 s2
  clear hb1 d0 d1 d2 d3 d4 s0 s1 s2 hw HB HNB
  go_wp2_with fail
  refine (HX.out _ HT1.out).mono ?_
  rintro r w2 ⟨T, rfl, hq, hl, hb2⟩
  have HF := hid (And.intro hq (And.intro hl (HB1.out.trans (hb2.mono HB1.out.size))))
  clear hq hl hb2 HX
  go_wp2
  go_ret
  exact ⟨T, rfl, HF.out.1, HF.out.2.1, HF.out.2.2⟩
set_option maxRecDepth 100000 in
set_option maxHeartbeats 1000000 in
theorem numPl1 (a : Nat) (ng : Bool) (prec mode : Int) (ha : (a : Int) < 2139095040) (w : World) (ht : Tab w) :
    Calls Tryz.prog 37 #[.int .i64 a, lay1, .bool ng, styV 1 prec mode] w fun r w' => TextPost w w' r (ShortQ true 1 a) := by
  have HTAB := hid ht
  have HNB := hid (fun w => number1 a ha w)
  have HX : Hid (∀ w1 : World, Tab w1 → Calls Tryz.prog 54 #[.int .i64 a, lay1, .int .i64 1] w1 fun r w' => TextPost w1 w' r (ShortQ true 1 a)) := fun w1 hw => shortText1v1 a ha w1 hw
  obtain ⟨m, hm⟩ : ∃ m, m = mA 23 a := ⟨_, rfl⟩
  obtain ⟨k, hk⟩ : ∃ k : Nat, k = xA 23 a := ⟨_, rfl⟩
  obtain ⟨A, hA⟩ : ∃ A : Int, A = (a : Int) := ⟨_, rfl⟩
  rw [← hm, ← hk, ← hA] at HNB
  rw [← hA] at HX
  obtain ⟨M, hM⟩ : ∃ M : Int, M = (m : Int) := ⟨_, rfl⟩
  rw [← hM] at HNB
  rw [← hA]
  clear ht hm hk hA hM ha
  unfold lay1 styV at *
  go_enter Tryz.func37, Tryz.ntmps37
  go_wp2_with fail
  have d0 : ((w.alloc (.cells #[.int .i64 23, .int .i64 127, .int .i64 8388608, .int .i64 2139095040, .int .i64 2147483648] 63)).alloc (.cells #[.int .i64 1, .int .i64 prec, .int .i64 mode] 66)).cell? ⟨w.heap.size, 0, none⟩ = some (Value.int .i64 23) := by simp [go_sem]
  have d1 : ((w.alloc (.cells #[.int .i64 23, .int .i64 127, .int .i64 8388608, .int .i64 2139095040, .int .i64 2147483648] 63)).alloc (.cells #[.int .i64 1, .int .i64 prec, .int .i64 mode] 66)).cell? ⟨w.heap.size, 1, none⟩ = some (Value.int .i64 127) := by simp [go_sem]
  have d2 : ((w.alloc (.cells #[.int .i64 23, .int .i64 127, .int .i64 8388608, .int .i64 2139095040, .int .i64 2147483648] 63)).alloc (.cells #[.int .i64 1, .int .i64 prec, .int .i64 mode] 66)).cell? ⟨w.heap.size, 2, none⟩ = some (Value.int .i64 8388608) := by simp [go_sem]
  have d3 : ((w.alloc (.cells #[.int .i64 23, .int .i64 127, .int .i64 8388608, .int .i64 2139095040, .int .i64 2147483648] 63)).alloc (.cells #[.int .i64 1, .int .i64 prec, .int .i64 mode] 66)).cell? ⟨w.heap.size, 3, none⟩ = some (Value.int .i64 2139095040) := by simp [go_sem]
  have d4 : ((w.alloc (.cells #[.int .i64 23, .int .i64 127, .int .i64 8388608, .int .i64 2139095040, .int .i64 2147483648] 63)).alloc (.cells #[.int .i64 1, .int .i64 prec, .int .i64 mode] 66)).cell? ⟨w.heap.size, 4, none⟩ = some (Value.int .i64 2147483648) := by simp [go_sem]
  have s0 : ((w.alloc (.cells #[.int .i64 23, .int .i64 127, .int .i64 8388608, .int .i64 2139095040, .int .i64 2147483648] 63)).alloc (.cells #[.int .i64 1, .int .i64 prec, .int .i64 mode] 66)).cell? ⟨w.heap.size + 1, 0, none⟩ = some (Value.int .i64 1) := by simp [go_sem]
  have s1 : ((w.alloc (.cells #[.int .i64 23, .int .i64 127, .int .i64 8388608, .int .i64 2139095040, .int .i64 2147483648] 63)).alloc (.cells #[.int .i64 1, .int .i64 prec, .int .i64 mode] 66)).cell? ⟨w.heap.size + 1, 1, none⟩ = some (Value.int .i64 prec) := by simp [go_sem]
  have s2 : ((w.alloc (.cells #[.int .i64 23, .int .i64 127, .int .i64 8388608, .int .i64 2139095040, .int .i64 2147483648] 63)).alloc (.cells #[.int .i64 1, .int .i64 prec, .int .i64 mode] 66)).cell? ⟨w.heap.size + 1, 2, none⟩ = some (Value.int .i64 mode) := by simp [go_sem]
  have HB : Hid (Below w.heap.size w ((w.alloc (.cells #[.int .i64 23, .int .i64 127, .int .i64 8388608, .int .i64 2139095040, .int .i64 2147483648] 63)).alloc (.cells #[.int .i64 1, .int .i64 prec, .int .i64 mode] 66))) := ((Below.refl _ _).alloc (Nat.le_refl _) _).alloc (by simp) _
  have hw : w.heap.size + 1 < ((w.alloc (.cells #[.int .i64 23, .int .i64 127, .int .i64 8388608, .int .i64 2139095040, .int .i64 2147483648] 63)).alloc (.cells #[.int .i64 1, .int .i64 prec, .int .i64 mode] 66)).heap.size := by simp
  generalize ((w.alloc (.cells #[.int .i64 23, .int .i64 127, .int .i64 8388608, .int .i64 2139095040, .int .i64 2147483648] 63)).alloc (.cells #[.int .i64 1, .int .i64 prec, .int .i64 mode] 66)) = W at *
  refine (HNB.out W).mono ?_
  rintro r w1 ⟨rfl, hb1⟩
  have HB1 : Hid (Below w.heap.size w w1) := HB.out.trans (hb1.mono (by omega))
  have HT1 : Hid (Tab w1) := HTAB.out.below HB1.out
  have e0 := keep_cell' hb1 d0
  have e1 := keep_cell' hb1 d1
  have e2 := keep_cell' hb1 d2
  have e3 := keep_cell' hb1 d3
  have e4 := keep_cell' hb1 d4
  have z0 := keep_cell' hb1 s0
  have z1 := keep_cell' hb1 s1
  have z2 := keep_cell' hb1 s2
  clear hb1 d0 d1 d2 d3 d4 s0 s1 s2 hw HB HNB
  go_wp2_with fail
  refine (HX.out _ HT1.out).mono ?_
  rintro r w2 ⟨T, rfl, hq, hl, hb2⟩
  have HF := hid (And.intro hq (And.intro hl (HB1.out.trans (hb2.mono HB1.out.size))))
  clear hq hl hb2 HX
  go_wp2
  go_ret
  exact ⟨T, rfl, HF.out.1, HF.out.2.1, HF.out.2.2⟩
set_option maxRecDepth 100000 in
set_option maxHeartbeats 1000000 in
theorem numPl2 (a : Nat) (ng : Bool) (prec mode : Int) (ha : (a : Int) < 9218868437227405312) (w : World) (ht : Tab w) :
    Calls Tryz.prog 37 #[.int .i64 a, lay2, .bool ng, styV 1 prec mode] w fun r w' => TextPost w w' r (ShortQ true 2 a) := by
  have HTAB := hid ht
  have HNB := hid (fun w => number2 a ha w)
  have HX : Hid (∀ w1 : World, Tab w1 → Calls Tryz.prog 54 #[.int .i64 a, lay2, .int .i64 1] w1 fun r w' => TextPost w1 w' r (ShortQ true 2 a)) := fun w1 hw => shortText2v1 a ha w1 hw
  obtain ⟨m, hm⟩ : ∃ m, m = mA 52 a := ⟨_, rfl⟩
  obtain ⟨k, hk⟩ : ∃ k : Nat, k = xA 52 a := ⟨_, rfl⟩
  obtain ⟨A, hA⟩ : ∃ A : Int, A = (a : Int) := ⟨_, rfl⟩
  rw [← hm, ← hk, ← hA] at HNB
  rw [← hA] at HX
  obtain ⟨M, hM⟩ : ∃ M : Int, M = (m : Int) := ⟨_, rfl⟩
  rw [← hM] at HNB
  rw [← hA]
  clear ht hm hk hA hM ha
  unfold lay2 styV at *
  go_enter Tryz.func37, Tryz.ntmps37
  go_wp2_with fail
  have d0 : ((w.alloc (.cells #[.int .i64 52, .int .i64 1023, .int .i64 4503599627370496, .int .i64 9218868437227405312, .int .i64 (-9223372036854775808)] 63)).alloc (.cells #[.int .i64 1, .int .i64 prec, .int .i64 mode] 66)).cell? ⟨w.heap.size, 0, none⟩ = some (Value.int .i64 52) := by simp [go_sem]
  have d1 : ((w.alloc (.cells #[.int .i64 52, .int .i64 1023, .int .i64 4503599627370496, .int .i64 9218868437227405312, .int .i64 (-9223372036854775808)] 63)).alloc (.cells #[.int .i64 1, .int .i64 prec, .int .i64 mode] 66)).cell? ⟨w.heap.size, 1, none⟩ = some (Value.int .i64 1023) := by simp [go_sem]
  have d2 : ((w.alloc (.cells #[.int .i64 52, .int .i64 1023, .int .i64 4503599627370496, .int .i64 9218868437227405312, .int .i64 (-9223372036854775808)] 63)).alloc (.cells #[.int .i64 1, .int .i64 prec, .int .i64 mode] 66)).cell? ⟨w.heap.size, 2, none⟩ = some (Value.int .i64 4503599627370496) := by simp [go_sem]
  have d3 : ((w.alloc (.cells #[.int .i64 52, .int .i64 1023, .int .i64 4503599627370496, .int .i64 9218868437227405312, .int .i64 (-9223372036854775808)] 63)).alloc (.cells #[.int .i64 1, .int .i64 prec, .int .i64 mode] 66)).cell? ⟨w.heap.size, 3, none⟩ = some (Value.int .i64 9218868437227405312) := by simp [go_sem]
  have d4 : ((w.alloc (.cells #[.int .i64 52, .int .i64 1023, .int .i64 4503599627370496, .int .i64 9218868437227405312, .int .i64 (-9223372036854775808)] 63)).alloc (.cells #[.int .i64 1, .int .i64 prec, .int .i64 mode] 66)).cell? ⟨w.heap.size, 4, none⟩ = some (Value.int .i64 (-9223372036854775808)) := by simp [go_sem]
  have s0 : ((w.alloc (.cells #[.int .i64 52, .int .i64 1023, .int .i64 4503599627370496, .int .i64 9218868437227405312, .int .i64 (-9223372036854775808)] 63)).alloc (.cells #[.int .i64 1, .int .i64 prec, .int .i64 mode] 66)).cell? ⟨w.heap.size + 1, 0, none⟩ = some (Value.int .i64 1) := by simp [go_sem]
  have s1 : ((w.alloc (.cells #[.int .i64 52, .int .i64 1023, .int .i64 4503599627370496, .int .i64 9218868437227405312, .int .i64 (-9223372036854775808)] 63)).alloc (.cells #[.int .i64 1, .int .i64 prec, .int .i64 mode] 66)).cell? ⟨w.heap.size + 1, 1, none⟩ = some (Value.int .i64 prec) := by simp [go_sem]
  have s2 : ((w.alloc (.cells #[.int .i64 52, .int .i64 1023, .int .i64 4503599627370496, .int .i64 9218868437227405312, .int .i64 (-9223372036854775808)] 63)).alloc (.cells #[.int .i64 1, .int .i64 prec, .int .i64 mode] 66)).cell? ⟨w.heap.size + 1, 2, none⟩ = some (Value.int .i64 mode) := by simp [go_sem]
  have HB : Hid (Below w.heap.size w ((w.alloc (.cells #[.int .i64 52, .int .i64 1023, .int .i64 4503599627370496, .int .i64 9218868437227405312, .int .i64 (-9223372036854775808)] 63)).alloc (.cells #[.int .i64 1, .int .i64 prec, .int .i64 mode] 66))) := ((Below.refl _ _).alloc (Nat.le_refl _) _).alloc (by simp) _
  have hw : w.heap.size + 1 < ((w.alloc (.cells #[.int .i64 52, .int .i64 1023, .int .i64 4503599627370496, .int .i64 9218868437227405312, .int .i64 (-9223372036854775808)] 63)).alloc (.cells #[.int .i64 1, .int .i64 prec, .int .i64 mode] 66)).heap.size := by simp
  generalize ((w.alloc (.cells #[.int .i64 52, .int .i64 1023, .int .i64 4503599627370496, .int .i64 9218868437227405312, .int .i64 (-9223372036854775808)] 63)).alloc (.cells #[.int .i64 1, .int .i64 prec, .int .i64 mode] 66)) = W at *
  refine (HNB.out W).mono ?_
  rintro r w1 ⟨rfl, hb1⟩
  have HB1 : Hid (Below w.heap.size w w1) := HB.out.trans (hb1.mono (by omega))
  have HT1 : Hid (Tab w1) := HTAB.out.below HB1.out
  have e0 := keep_cell' hb1 d0
  have e1 := keep_cell' hb1 d1
  have e2 := keep_cell' hb1 d2
  have e3 := keep_cell' hb1 d3
  have e4 := keep_cell' hb1 d4
  have z0 := keep_cell' hb1 s0
  have z1 := keep_cell' hb1 s1
  have z2 := keep_cell' hb1 s2
  clear hb1 d0 d1 d2 d3 d4 s0 s1 s2 hw HB HNB
  go_wp2_with fail
  refine (HX.out _ HT1.out).mono ?_
  rintro r w2 ⟨T, rfl, hq, hl, hb2⟩
  have HF := hid (And.intro hq (And.intro hl (HB1.out.trans (hb2.mono HB1.out.size))))
  clear hq hl hb2 HX
  go_wp2
  go_ret
  exact ⟨T, rfl, HF.out.1, HF.out.2.1, HF.out.2.2⟩
end Go.Proofs.YtbkdaoicnobllabGreatDoor

namespace Go.Proofs.YtbkdaoicnobllabGreatDoor
open Go.RowKit

theorem pShF0 (cv : Value) (x prec mode : Int) (h1 : -9223372036854775808 ≤ x) (h2 : x ≤ 9223372036854775807) (w : World) (ht : Tab w) : Calls Tryz.prog 21 #[cv, .int .i64 x, .int .i64 0, .int .i64 0, .int .i64 prec, .int .i64 mode] w fun r w' => FmtPost 0 x 0 prec mode w w' r (ShortQ false 0 (amtI 0 x).toNat) :=
  pformat0 cv x 0 prec mode _ h1 h2 w ht (fun _ a hA hlt w hw => by
    have := numSh0 a (negI 0 x) prec mode hlt w hw
    rw [show (amtI 0 x).toNat = a from by omega]; exact this)
theorem pShF1 (cv : Value) (x prec mode : Int) (h1 : -9223372036854775808 ≤ x) (h2 : x ≤ 9223372036854775807) (w : World) (ht : Tab w) : Calls Tryz.prog 21 #[cv, .int .i64 x, .int .i64 1, .int .i64 0, .int .i64 prec, .int .i64 mode] w fun r w' => FmtPost 1 x 0 prec mode w w' r (ShortQ false 1 (amtI 1 x).toNat) :=
  pformat1 cv x 0 prec mode _ h1 h2 w ht (fun _ a hA hlt w hw => by
    have := numSh1 a (negI 1 x) prec mode hlt w hw
    rw [show (amtI 1 x).toNat = a from by omega]; exact this)
theorem pShF2 (cv : Value) (x prec mode : Int) (h1 : -9223372036854775808 ≤ x) (h2 : x ≤ 9223372036854775807) (w : World) (ht : Tab w) : Calls Tryz.prog 21 #[cv, .int .i64 x, .int .i64 2, .int .i64 0, .int .i64 prec, .int .i64 mode] w fun r w' => FmtPost 2 x 0 prec mode w w' r (ShortQ false 2 (amtI 2 x).toNat) :=
  pformat2 cv x 0 prec mode _ h1 h2 w ht (fun _ a hA hlt w hw => by
    have := numSh2 a (negI 2 x) prec mode hlt w hw
    rw [show (amtI 2 x).toNat = a from by omega]; exact this)
theorem pPlF0 (cv : Value) (x prec mode : Int) (h1 : -9223372036854775808 ≤ x) (h2 : x ≤ 9223372036854775807) (w : World) (ht : Tab w) : Calls Tryz.prog 21 #[cv, .int .i64 x, .int .i64 0, .int .i64 1, .int .i64 prec, .int .i64 mode] w fun r w' => FmtPost 0 x 1 prec mode w w' r (ShortQ true 0 (amtI 0 x).toNat) :=
  pformat0 cv x 1 prec mode _ h1 h2 w ht (fun _ a hA hlt w hw => by
    have := numPl0 a (negI 0 x) prec mode hlt w hw
    rw [show (amtI 0 x).toNat = a from by omega]; exact this)
theorem pPlF1 (cv : Value) (x prec mode : Int) (h1 : -9223372036854775808 ≤ x) (h2 : x ≤ 9223372036854775807) (w : World) (ht : Tab w) : Calls Tryz.prog 21 #[cv, .int .i64 x, .int .i64 1, .int .i64 1, .int .i64 prec, .int .i64 mode] w fun r w' => FmtPost 1 x 1 prec mode w w' r (ShortQ true 1 (amtI 1 x).toNat) :=
  pformat1 cv x 1 prec mode _ h1 h2 w ht (fun _ a hA hlt w hw => by
    have := numPl1 a (negI 1 x) prec mode hlt w hw
    rw [show (amtI 1 x).toNat = a from by omega]; exact this)
theorem pPlF2 (cv : Value) (x prec mode : Int) (h1 : -9223372036854775808 ≤ x) (h2 : x ≤ 9223372036854775807) (w : World) (ht : Tab w) : Calls Tryz.prog 21 #[cv, .int .i64 x, .int .i64 2, .int .i64 1, .int .i64 prec, .int .i64 mode] w fun r w' => FmtPost 2 x 1 prec mode w w' r (ShortQ true 2 (amtI 2 x).toNat) :=
  pformat2 cv x 1 prec mode _ h1 h2 w ht (fun _ a hA hlt w hw => by
    have := numPl2 a (negI 2 x) prec mode hlt w hw
    rw [show (amtI 2 x).toNat = a from by omega]; exact this)
end Go.Proofs.YtbkdaoicnobllabGreatDoor

namespace Go.Proofs.YtbkdaoicnobllabGreatDoor
open Go.RowKit

theorem pExpF0 (cv : Value) (x prec mode : Int) (h1 : -9223372036854775808 ≤ x) (h2 : x ≤ 9223372036854775807) (w : World) (ht : Tab w) : Calls Tryz.prog 21 #[cv, .int .i64 x, .int .i64 0, .int .i64 2, .int .i64 prec, .int .i64 mode] w fun r w' => FmtPost 0 x 2 prec mode w w' r (ExpQ (awayB mode (negI 0 x)) (valA 3000 0 (amtI 0 x).toNat) prec.toNat) :=
  pformat0 cv x 2 prec mode _ h1 h2 w ht (fun ha a hA hlt w hw => by
    obtain ⟨p1, p2, p3, p4⟩ := allow_exact (by omega) ha
    have := numExp0 a (negI 0 x) prec mode p1 p2 hlt w hw
    rw [show (amtI 0 x).toNat = a from by omega]; exact this)
theorem pExpF1 (cv : Value) (x prec mode : Int) (h1 : -9223372036854775808 ≤ x) (h2 : x ≤ 9223372036854775807) (w : World) (ht : Tab w) : Calls Tryz.prog 21 #[cv, .int .i64 x, .int .i64 1, .int .i64 2, .int .i64 prec, .int .i64 mode] w fun r w' => FmtPost 1 x 2 prec mode w w' r (ExpQ (awayB mode (negI 1 x)) (valA 3000 1 (amtI 1 x).toNat) prec.toNat) :=
  pformat1 cv x 2 prec mode _ h1 h2 w ht (fun ha a hA hlt w hw => by
    obtain ⟨p1, p2, p3, p4⟩ := allow_exact (by omega) ha
    have := numExp1 a (negI 1 x) prec mode p1 p2 hlt w hw
    rw [show (amtI 1 x).toNat = a from by omega]; exact this)
theorem pExpF2 (cv : Value) (x prec mode : Int) (h1 : -9223372036854775808 ≤ x) (h2 : x ≤ 9223372036854775807) (w : World) (ht : Tab w) : Calls Tryz.prog 21 #[cv, .int .i64 x, .int .i64 2, .int .i64 2, .int .i64 prec, .int .i64 mode] w fun r w' => FmtPost 2 x 2 prec mode w w' r (ExpQ (awayB mode (negI 2 x)) (valA 3000 2 (amtI 2 x).toNat) prec.toNat) :=
  pformat2 cv x 2 prec mode _ h1 h2 w ht (fun ha a hA hlt w hw => by
    obtain ⟨p1, p2, p3, p4⟩ := allow_exact (by omega) ha
    have := numExp2 a (negI 2 x) prec mode p1 p2 hlt w hw
    rw [show (amtI 2 x).toNat = a from by omega]; exact this)
theorem pFixF0 (cv : Value) (x prec mode : Int) (h1 : -9223372036854775808 ≤ x) (h2 : x ≤ 9223372036854775807) (w : World) (ht : Tab w) : Calls Tryz.prog 21 #[cv, .int .i64 x, .int .i64 0, .int .i64 3, .int .i64 prec, .int .i64 mode] w fun r w' => FmtPost 0 x 3 prec mode w w' r (FixQ (awayB mode (negI 0 x)) (valA 3000 0 (amtI 0 x).toNat) prec.toNat) :=
  pformat0 cv x 3 prec mode _ h1 h2 w ht (fun ha a hA hlt w hw => by
    obtain ⟨p1, p2, p3, p4⟩ := allow_exact (by omega) ha
    have := numFix0 a (negI 0 x) prec mode p1 p2 hlt w hw
    rw [show (amtI 0 x).toNat = a from by omega]; exact this)
theorem pFixF1 (cv : Value) (x prec mode : Int) (h1 : -9223372036854775808 ≤ x) (h2 : x ≤ 9223372036854775807) (w : World) (ht : Tab w) : Calls Tryz.prog 21 #[cv, .int .i64 x, .int .i64 1, .int .i64 3, .int .i64 prec, .int .i64 mode] w fun r w' => FmtPost 1 x 3 prec mode w w' r (FixQ (awayB mode (negI 1 x)) (valA 3000 1 (amtI 1 x).toNat) prec.toNat) :=
  pformat1 cv x 3 prec mode _ h1 h2 w ht (fun ha a hA hlt w hw => by
    obtain ⟨p1, p2, p3, p4⟩ := allow_exact (by omega) ha
    have := numFix1 a (negI 1 x) prec mode p1 p2 hlt w hw
    rw [show (amtI 1 x).toNat = a from by omega]; exact this)
theorem pFixF2 (cv : Value) (x prec mode : Int) (h1 : -9223372036854775808 ≤ x) (h2 : x ≤ 9223372036854775807) (w : World) (ht : Tab w) : Calls Tryz.prog 21 #[cv, .int .i64 x, .int .i64 2, .int .i64 3, .int .i64 prec, .int .i64 mode] w fun r w' => FmtPost 2 x 3 prec mode w w' r (FixQ (awayB mode (negI 2 x)) (valA 3000 2 (amtI 2 x).toNat) prec.toNat) :=
  pformat2 cv x 3 prec mode _ h1 h2 w ht (fun ha a hA hlt w hw => by
    obtain ⟨p1, p2, p3, p4⟩ := allow_exact (by omega) ha
    have := numFix2 a (negI 2 x) prec mode p1 p2 hlt w hw
    rw [show (amtI 2 x).toNat = a from by omega]; exact this)
end Go.Proofs.YtbkdaoicnobllabGreatDoor

namespace Go.Proofs.YtbkdaoicnobllabGreatDoor
open Go.RowKit

theorem phexF0 (cv : Value) (x prec mode : Int) (h1 : -9223372036854775808 ≤ x) (h2 : x ≤ 9223372036854775807) (w : World) (ht : Tab w) : Calls Tryz.prog 21 #[cv, .int .i64 x, .int .i64 0, .int .i64 4, .int .i64 prec, .int .i64 mode] w fun r w' => FmtPost 0 x 4 prec mode w w' r (HexQ 0 (amtI 0 x).toNat) :=
  pformat0 cv x 4 prec mode _ h1 h2 w ht (fun _ a hA hlt w hw => by
    have := numHex0 a (negI 0 x) prec mode hlt w hw
    rw [show (amtI 0 x).toNat = a from by omega]; exact this)
theorem phexF1 (cv : Value) (x prec mode : Int) (h1 : -9223372036854775808 ≤ x) (h2 : x ≤ 9223372036854775807) (w : World) (ht : Tab w) : Calls Tryz.prog 21 #[cv, .int .i64 x, .int .i64 1, .int .i64 4, .int .i64 prec, .int .i64 mode] w fun r w' => FmtPost 1 x 4 prec mode w w' r (HexQ 1 (amtI 1 x).toNat) :=
  pformat1 cv x 4 prec mode _ h1 h2 w ht (fun _ a hA hlt w hw => by
    have := numHex1 a (negI 1 x) prec mode hlt w hw
    rw [show (amtI 1 x).toNat = a from by omega]; exact this)
theorem phexF2 (cv : Value) (x prec mode : Int) (h1 : -9223372036854775808 ≤ x) (h2 : x ≤ 9223372036854775807) (w : World) (ht : Tab w) : Calls Tryz.prog 21 #[cv, .int .i64 x, .int .i64 2, .int .i64 4, .int .i64 prec, .int .i64 mode] w fun r w' => FmtPost 2 x 4 prec mode w w' r (HexQ 2 (amtI 2 x).toNat) :=
  pformat2 cv x 4 prec mode _ h1 h2 w ht (fun _ a hA hlt w hw => by
    have := numHex2 a (negI 2 x) prec mode hlt w hw
    rw [show (amtI 2 x).toNat = a from by omega]; exact this)
end Go.Proofs.YtbkdaoicnobllabGreatDoor
