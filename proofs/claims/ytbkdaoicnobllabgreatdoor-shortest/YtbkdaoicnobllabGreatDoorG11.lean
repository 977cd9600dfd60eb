import Derived.Test.YtbkdaoicnobllabGreatDoorG07
import Derived.Test.YtbkdaoicnobllabGreatDoorG10
import Derived.Test.YtbkdaoicnobllabGreatDoorG02
import Derived.Test.YtbkdaoicnobllabGreatDoorG00

namespace Go.Proofs.YtbkdaoicnobllabGreatDoor
open Go.RowKit

set_option maxRecDepth 100000 in
set_option maxHeartbeats 1000000 in
theorem numExp0 (a : Nat) (ng : Bool) (prec mode : Int) (h1 : 0 ≤ prec) (h2 : prec ≤ 800) (ha : (a : Int) < 31744) (w : World) (ht : Tab w) :
    Calls Tryz.prog 37 #[.int .i64 a, lay0, .bool ng, styV 2 prec mode] w fun r w' => TextPost w w' r (ExpQ (awayB mode ng) (valA 3000 0 a) prec.toNat) := by
  have HTAB := hid ht
  have HNB := hid (fun w => number0 a ha w)
  have hxa : ((xA 10 a : Nat) : Int) ≤ 2100 := by
    unfold xA; rw [show (2 : Nat) ^ 10 = 1024 from by decide]; omega
  have hxb : (-24 : Int) + (xA 10 a : Nat) ≤ 1080 := by
    unfold xA; rw [show (2 : Nat) ^ 10 = 1024 from by decide]; omega
  have hm1 := mA_lt 10 a
  rw [show (2 : Nat) ^ 10 = 1024 from by decide] at hm1
  have HQ : Hid (valA 3000 0 a = two 3000 (-24 + (xA 10 a : Nat)) * mA 10 a) := rfl
  obtain ⟨m, hm⟩ : ∃ m, m = mA 10 a := ⟨_, rfl⟩
  obtain ⟨k, hk⟩ : ∃ k : Nat, k = xA 10 a := ⟨_, rfl⟩
  obtain ⟨A, hA⟩ : ∃ A : Int, A = (a : Int) := ⟨_, rfl⟩
  rw [← hm, ← hk, ← hA] at HNB
  rw [← hm, ← hk] at HQ
  rw [← hm] at hm1
  rw [← hk] at hxa hxb
  obtain ⟨M, hM⟩ : ∃ M : Int, M = (m : Int) := ⟨_, rfl⟩
  rw [← hM] at HNB
  have HX : Hid (∀ w1 : World, Tab w1 → Calls Tryz.prog 55 #[.int .i64 M, .int .i64 (-24 + k), .bool ng, styV 2 prec mode] w1 fun r w' => TextPost w1 w' r (ExpQ (awayB mode ng) (two 3000 (-24 + k) * m) prec.toNat)) := fun w1 hw =>
    expText_any m M (-24 + k) ng 2 prec mode w1 hw hM (by omega) (by omega) (by omega) h1 h2
  have HQ2 : Hid (∀ T, ExpQ (awayB mode ng) (two 3000 (-24 + k) * m) prec.toNat T → ExpQ (awayB mode ng) (valA 3000 0 a) prec.toNat T) := fun T h => by rw [HQ.out]; exact h
  rw [← hA]
  clear ht hm hk hA hM ha hm1 HQ
  unfold lay0 styV at *
  go_enter Tryz.func37, Tryz.ntmps37
  go_wp2_with fail
  have d0 : ((w.alloc (.cells #[.int .i64 10, .int .i64 15, .int .i64 1024, .int .i64 31744, .int .i64 32768] 63)).alloc (.cells #[.int .i64 2, .int .i64 prec, .int .i64 mode] 66)).cell? ⟨w.heap.size, 0, none⟩ = some (Value.int .i64 10) := by simp [go_sem]
  have d1 : ((w.alloc (.cells #[.int .i64 10, .int .i64 15, .int .i64 1024, .int .i64 31744, .int .i64 32768] 63)).alloc (.cells #[.int .i64 2, .int .i64 prec, .int .i64 mode] 66)).cell? ⟨w.heap.size, 1, none⟩ = some (Value.int .i64 15) := by simp [go_sem]
  have d2 : ((w.alloc (.cells #[.int .i64 10, .int .i64 15, .int .i64 1024, .int .i64 31744, .int .i64 32768] 63)).alloc (.cells #[.int .i64 2, .int .i64 prec, .int .i64 mode] 66)).cell? ⟨w.heap.size, 2, none⟩ = some (Value.int .i64 1024) := by simp [go_sem]
  have d3 : ((w.alloc (.cells #[.int .i64 10, .int .i64 15, .int .i64 1024, .int .i64 31744, .int .i64 32768] 63)).alloc (.cells #[.int .i64 2, .int .i64 prec, .int .i64 mode] 66)).cell? ⟨w.heap.size, 3, none⟩ = some (Value.int .i64 31744) := by simp [go_sem]
  have d4 : ((w.alloc (.cells #[.int .i64 10, .int .i64 15, .int .i64 1024, .int .i64 31744, .int .i64 32768] 63)).alloc (.cells #[.int .i64 2, .int .i64 prec, .int .i64 mode] 66)).cell? ⟨w.heap.size, 4, none⟩ = some (Value.int .i64 32768) := by simp [go_sem]
  have s0 : ((w.alloc (.cells #[.int .i64 10, .int .i64 15, .int .i64 1024, .int .i64 31744, .int .i64 32768] 63)).alloc (.cells #[.int .i64 2, .int .i64 prec, .int .i64 mode] 66)).cell? ⟨w.heap.size + 1, 0, none⟩ = some (Value.int .i64 2) := by simp [go_sem]
  have s1 : ((w.alloc (.cells #[.int .i64 10, .int .i64 15, .int .i64 1024, .int .i64 31744, .int .i64 32768] 63)).alloc (.cells #[.int .i64 2, .int .i64 prec, .int .i64 mode] 66)).cell? ⟨w.heap.size + 1, 1, none⟩ = some (Value.int .i64 prec) := by simp [go_sem]
  have s2 : ((w.alloc (.cells #[.int .i64 10, .int .i64 15, .int .i64 1024, .int .i64 31744, .int .i64 32768] 63)).alloc (.cells #[.int .i64 2, .int .i64 prec, .int .i64 mode] 66)).cell? ⟨w.heap.size + 1, 2, none⟩ = some (Value.int .i64 mode) := by simp [go_sem]
  have HB : Hid (Below w.heap.size w ((w.alloc (.cells #[.int .i64 10, .int .i64 15, .int .i64 1024, .int .i64 31744, .int .i64 32768] 63)).alloc (.cells #[.int .i64 2, .int .i64 prec, .int .i64 mode] 66))) := ((Below.refl _ _).alloc (Nat.le_refl _) _).alloc (by simp) _
  have hw : w.heap.size + 1 < ((w.alloc (.cells #[.int .i64 10, .int .i64 15, .int .i64 1024, .int .i64 31744, .int .i64 32768] 63)).alloc (.cells #[.int .i64 2, .int .i64 prec, .int .i64 mode] 66)).heap.size := by simp
  generalize ((w.alloc (.cells #[.int .i64 10, .int .i64 15, .int .i64 1024, .int .i64 31744, .int .i64 32768] 63)).alloc (.cells #[.int .i64 2, .int .i64 prec, .int .i64 mode] 66)) = W at *
  refine (HNB.out W).mono ?_
  rintro r w1 ⟨rfl, hb1⟩
  have HB1 : Hid (Below w.heap.size w w1) := HB.out.trans (hb1.mono (by omega))
  have HT1 : Hid (Tab w1) := HTAB.out.below HB1.out
  have e0 := keep_cell' hb1 d0
  have e1 := keep_cell' hb1 d1
  have e2 := keep_cell' hb1 d2
  have e3 := keep_cell' hb1 d3
  have e4 := keep_cell' hb1 d4
  have z0 := keep_cell' hb1 s0
  have z1 := keep_cell' hb1 s1
  have z2 := keep_cell' hb1 s2
  clear hb1 d0 d1 d2 d3 d4 s0 s1 s2 hw HB HNB
  go_wp2_with fail
  refine (HX.out _ HT1.out).mono ?_
  rintro r w2 ⟨T, rfl, hq, hl, hb2⟩
  have HF := hid (And.intro (HQ2.out T hq) (And.intro hl (HB1.out.trans (hb2.mono HB1.out.size))))
  clear hq hl hb2 HX
  go_wp2
  go_ret
  exact ⟨T, rfl, HF.out.1, HF.out.2.1, HF.out.2.2⟩
set_option maxRecDepth 100000 in
set_option maxHeartbeats 1000000 in
theorem numExp1 (a : Nat) (ng : Bool) (prec mode : Int) (h1 : 0 ≤ prec) (h2 : prec ≤ 800) (ha : (a : Int) < 2139095040) (w : World) (ht : Tab w) :
    Calls Tryz.prog 37 #[.int .i64 a, lay1, .bool ng, styV 2 prec mode] w fun r w' => TextPost w w' r (ExpQ (awayB mode ng) (valA 3000 1 a) prec.toNat) := by
  have HTAB := hid ht
  have HNB := hid (fun w => number1 a ha w)
  have hxa : ((xA 23 a : Nat) : Int) ≤ 2100 := by
    unfold xA; rw [show (2 : Nat) ^ 23 = 8388608 from by decide]; omega
  have hxb : (-149 : Int) + (xA 23 a : Nat) ≤ 1080 := by
    unfold xA; rw [show (2 : Nat) ^ 23 = 8388608 from by decide]; omega
  have hm1 := mA_lt 23 a
  rw [show (2 : Nat) ^ 23 = 8388608 from by decide] at hm1
  have HQ : Hid (valA 3000 1 a = two 3000 (-149 + (xA 23 a : Nat)) * mA 23 a) := rfl
  obtain ⟨m, hm⟩ : ∃ m, m = mA 23 a := ⟨_, rfl⟩
  obtain ⟨k, hk⟩ : ∃ k : Nat, k = xA 23 a := ⟨_, rfl⟩
  obtain ⟨A, hA⟩ : ∃ A : Int, A = (a : Int) := ⟨_, rfl⟩
  rw [← hm, ← hk, ← hA] at HNB
  rw [← hm, ← hk] at HQ
  rw [← hm] at hm1
  rw [← hk] at hxa hxb
  obtain ⟨M, hM⟩ : ∃ M : Int, M = (m : Int) := ⟨_, rfl⟩
  rw [← hM] at HNB
  have HX : Hid (∀ w1 : World, Tab w1 → Calls Tryz.prog 55 #[.int .i64 M, .int .i64 (-149 + k), .bool ng, styV 2 prec mode] w1 fun r w' => TextPost w1 w' r (ExpQ (awayB mode ng) (two 3000 (-149 + k) * m) prec.toNat)) := fun w1 hw =>
    expText_any m M (-149 + k) ng 2 prec mode w1 hw hM (by omega) (by omega) (by omega) h1 h2
  have HQ2 : Hid (∀ T, ExpQ (awayB mode ng) (two 3000 (-149 + k) * m) prec.toNat T → ExpQ (awayB mode ng) (valA 3000 1 a) prec.toNat T) := fun T h => by rw [HQ.out]; exact h
  rw [← hA]
  clear ht hm hk hA hM ha hm1 HQ
  unfold lay1 styV at *
  go_enter Tryz.func37, Tryz.ntmps37
  go_wp2_with fail
  have d0 : ((w.alloc (.cells #[.int .i64 23, .int .i64 127, .int .i64 8388608, .int .i64 2139095040, .int .i64 2147483648] 63)).alloc (.cells #[.int .i64 2, .int .i64 prec, .int .i64 mode] 66)).cell? ⟨w.heap.size, 0, none⟩ = some (Value.int .i64 23) := by simp [go_sem]
  have d1 : ((w.alloc (.cells #[.int .i64 23, .int .i64 127, .int .i64 8388608, .int .i64 2139095040, .int .i64 2147483648] 63)).alloc (.cells #[.int .i64 2, .int .i64 prec, .int .i64 mode] 66)).cell? ⟨w.heap.size, 1, none⟩ = some (Value.int .i64 127) := by simp [go_sem]
  have d2 : ((w.alloc (.cells #[.int .i64 23, .int .i64 127, .int .i64 8388608, .int .i64 2139095040, .int .i64 2147483648] 63)).alloc (.cells #[.int .i64 2, .int .i64 prec, .int .i64 mode] 66)).cell? ⟨w.heap.size, 2, none⟩ = some (Value.int .i64 8388608) := by simp [go_sem]
  have d3 : ((w.alloc (.cells #[.int .i64 23, .int .i64 127, .int .i64 8388608, .int .i64 2139095040, .int .i64 2147483648] 63)).alloc (.cells #[.int .i64 2, .int .i64 prec, .int .i64 mode] 66)).cell? ⟨w.heap.size, 3, none⟩ = some (Value.int .i64 2139095040) := by simp [go_sem]
  have d4 : ((w.alloc (.cells #[.int .i64 23, .int .i64 127, .int .i64 8388608, .int .i64 2139095040, .int .i64 2147483648] 63)).alloc (.cells #[.int .i64 2, .int .i64 prec, .int .i64 mode] 66)).cell? ⟨w.heap.size, 4, none⟩ = some (Value.int .i64 2147483648) := by simp [go_sem]
  have s0 : ((w.alloc (.cells #[.int .i64 23, .int .i64 127, .int .i64 8388608, .int .i64 2139095040, .int .i64 2147483648] 63)).alloc (.cells #[.int .i64 2, .int .i64 prec, .int .i64 mode] 66)).cell? ⟨w.heap.size + 1, 0, none⟩ = some (Value.int .i64 2) := by simp [go_sem]
  have s1 : ((w.alloc (.cells #[.int .i64 23, .int .i64 127, .int .i64 8388608, .int .i64 2139095040, .int .i64 2147483648] 63)).alloc (.cells #[.int .i64 2, .int .i64 prec, .int .i64 mode] 66)).cell? ⟨w.heap.size + 1, 1, none⟩ = some (Value.int .i64 prec) := by simp [go_sem]
  have s2 : ((w.alloc (.cells #[.int .i64 23, .int .i64 127, .int .i64 8388608, .int .i64 2139095040, .int .i64 2147483648] 63)).alloc (.cells #[.int .i64 2, .int .i64 prec, .int .i64 mode] 66)).cell? ⟨w.heap.size + 1, 2, none⟩ = some (Value.int .i64 mode) := by simp [go_sem]
  have HB : Hid (Below w.heap.size w ((w.alloc (.cells #[.int .i64 23, .int .i64 127, .int .i64 8388608, .int .i64 2139095040, .int .i64 2147483648] 63)).alloc (.cells #[.int .i64 2, .int .i64 prec, .int .i64 mode] 66))) := ((Below.refl _ _).alloc (Nat.le_refl _) _).alloc (by simp) _
  have hw : w.heap.size + 1 < ((w.alloc (.cells #[.int .i64 23, .int .i64 127, .int .i64 8388608, .int .i64 2139095040, .int .i64 2147483648] 63)).alloc (.cells #[.int .i64 2, .int .i64 prec, .int .i64 mode] 66)).heap.size := by simp
  generalize ((w.alloc (.cells #[.int .i64 23, .int .i64 127, .int .i64 8388608, .int .i64 2139095040, .int .i64 2147483648] 63)).alloc (.cells #[.int .i64 2, .int .i64 prec, .int .i64 mode] 66)) = W at *
  refine (HNB.out W).mono ?_
  rintro r w1 ⟨rfl, hb1⟩
  have HB1 : Hid (Below w.heap.size w w1) := HB.out.trans (hb1.mono (by omega))
  have HT1 : Hid (Tab w1) := HTAB.out.below HB1.out
  have e0 := keep_cell' hb1 d0
  have e1 := keep_cell' hb1 d1
  have e2 := keep_cell' hb1 d2
  have e3 := keep_cell' hb1 d3
  have e4 := keep_cell' hb1 d4
  have z0 := keep_cell' hb1 s0
  have z1 := keep_cell' hb1 s1
  have z2 := keep_cell' hb1 s2
  clear hb1 d0 d1 d2 d3 d4 s0 s1 s2 hw HB HNB
  go_wp2_with fail
  refine (HX.out _ HT1.out).mono ?_
  rintro r w2 ⟨T, rfl, hq, hl, hb2⟩
  have HF := hid (And.intro (HQ2.out T hq) (And.intro hl (HB1.out.trans (hb2.mono HB1.out.size))))
  clear hq hl hb2 HX
  go_wp2
  go_ret
  exact ⟨T, rfl, HF.out.1, HF.out.2.1, HF.out.2.2⟩
set_option maxRecDepth 100000 in
set_option maxHeartbeats 1000000 in
theorem numExp2 (a : Nat) (ng : Bool) (prec mode : Int) (h1 : 0 ≤ prec) (h2 : prec ≤ 800) (ha : (a : Int) < 9218868437227405312) (w : World) (ht : Tab w) :
    Calls Tryz.prog 37 #[.int .i64 a, lay2, .bool ng, styV 2 prec mode] w fun r w' => TextPost w w' r (ExpQ (awayB mode ng) (valA 3000 2 a) prec.toNat) := by
  have HTAB := hid ht
  have HNB := hid (fun w => number2 a ha w)
  have hxa : ((xA 52 a : Nat) : Int) ≤ 2100 := by
    unfold xA; rw [show (2 : Nat) ^ 52 = 4503599627370496 from by decide]; omega
  have hxb : (-1074 : Int) + (xA 52 a : Nat) ≤ 1080 := by
    unfold xA; rw [show (2 : Nat) ^ 52 = 4503599627370496 from by decide]; omega
  have hm1 := mA_lt 52 a
  rw [show (2 : Nat) ^ 52 = 4503599627370496 from by decide] at hm1
  have HQ : Hid (valA 3000 2 a = two 3000 (-1074 + (xA 52 a : Nat)) * mA 52 a) := rfl
  obtain ⟨m, hm⟩ : ∃ m, m = mA 52 a := ⟨_, rfl⟩
  obtain ⟨k, hk⟩ : ∃ k : Nat, k = xA 52 a := ⟨_, rfl⟩
  obtain ⟨A, hA⟩ : ∃ A : Int, A = (a : Int) := ⟨_, rfl⟩
  rw [← hm, ← hk, ← hA] at HNB
  rw [← hm, ← hk] at HQ
  rw [← hm] at hm1
  rw [← hk] at hxa hxb
  obtain ⟨M, hM⟩ : ∃ M : Int, M = (m : Int) := ⟨_, rfl⟩
  rw [← hM] at HNB
  have HX : Hid (∀ w1 : World, Tab w1 → Calls Tryz.prog 55 #[.int .i64 M, .int .i64 (-1074 + k), .bool ng, styV 2 prec mode] w1 fun r w' => TextPost w1 w' r (ExpQ (awayB mode ng) (two 3000 (-1074 + k) * m) prec.toNat)) := fun w1 hw =>
    expText_any m M (-1074 + k) ng 2 prec mode w1 hw hM (by omega) (by omega) (by omega) h1 h2
  have HQ2 : Hid (∀ T, ExpQ (awayB mode ng) (two 3000 (-1074 + k) * m) prec.toNat T → ExpQ (awayB mode ng) (valA 3000 2 a) prec.toNat T) := fun T h => by rw [HQ.out]; exact h
  rw [← hA]
  clear ht hm hk hA hM ha hm1 HQ
  unfold lay2 styV at *
  go_enter Tryz.func37, Tryz.ntmps37
  go_wp2_with fail
  have d0 : ((w.alloc (.cells #[.int .i64 52, .int .i64 1023, .int .i64 4503599627370496, .int .i64 9218868437227405312, .int .i64 (-9223372036854775808)] 63)).alloc (.cells #[.int .i64 2, .int .i64 prec, .int .i64 mode] 66)).cell? ⟨w.heap.size, 0, none⟩ = some (Value.int .i64 52) := by simp [go_sem]
  have d1 : ((w.alloc (.cells #[.int .i64 52, .int .i64 1023, .int .i64 4503599627370496, .int .i64 9218868437227405312, .int .i64 (-9223372036854775808)] 63)).alloc (.cells #[.int .i64 2, .int .i64 prec, .int .i64 mode] 66)).cell? ⟨w.heap.size, 1, none⟩ = some (Value.int .i64 1023) := by simp [go_sem]
  have d2 : ((w.alloc (.cells #[.int .i64 52, .int .i64 1023, .int .i64 4503599627370496, .int .i64 9218868437227405312, .int .i64 (-9223372036854775808)] 63)).alloc (.cells #[.int .i64 2, .int .i64 prec, .int .i64 mode] 66)).cell? ⟨w.heap.size, 2, none⟩ = some (Value.int .i64 4503599627370496) := by simp [go_sem]
  have d3 : ((w.alloc (.cells #[.int .i64 52, .int .i64 1023, .int .i64 4503599627370496, .int .i64 9218868437227405312, .int .i64 (-9223372036854775808)] 63)).alloc (.cells #[.int .i64 2, .int .i64 prec, .int .i64 mode] 66)).cell? ⟨w.heap.size, 3, none⟩ = some (Value.int .i64 9218868437227405312) := by simp [go_sem]
  have d4 : ((w.alloc (.cells #[.int .i64 52, .int .i64 1023, .int .i64 4503599627370496, .int .i64 9218868437227405312, .int .i64 (-9223372036854775808)] 63)).alloc (.cells #[.int .i64 2, .int .i64 prec, .int .i64 mode] 66)).cell? ⟨w.heap.size, 4, none⟩ = some (Value.int .i64 (-9223372036854775808)) := by simp [go_sem]
  have s0 : ((w.alloc (.cells #[.int .i64 52, .int .i64 1023, .int .i64 4503599627370496, .int .i64 9218868437227405312, .int .i64 (-9223372036854775808)] 63)).alloc (.cells #[.int .i64 2, .int .i64 prec, .int .i64 mode] 66)).cell? ⟨w.heap.size + 1, 0, none⟩ = some (Value.int .i64 2) := by simp [go_sem]
  have s1 : ((w.alloc (.cells #[.int .i64 52, .int .i64 1023, .int .i64 4503599627370496, .int .i64 9218868437227405312, .int .i64 (-9223372036854775808)] 63)).alloc (.cells #[.int .i64 2, .int .i64 prec, .int .i64 mode] 66)).cell? ⟨w.heap.size + 1, 1, none⟩ = some (Value.int .i64 prec) := by simp [go_sem]
  have s2 : ((w.alloc (.cells #[.int .i64 52, .int .i64 1023, .int .i64 4503599627370496, .int .i64 9218868437227405312, .int .i64 (-9223372036854775808)] 63)).alloc (.cells #[.int .i64 2, .int .i64 prec, .int .i64 mode] 66)).cell? ⟨w.heap.size + 1, 2, none⟩ = some (Value.int .i64 mode) := by simp [go_sem]
  have HB : Hid (Below w.heap.size w ((w.alloc (.cells #[.int .i64 52, .int .i64 1023, .int .i64 4503599627370496, .int .i64 9218868437227405312, .int .i64 (-9223372036854775808)] 63)).alloc (.cells #[.int .i64 2, .int .i64 prec, .int .i64 mode] 66))) := ((Below.refl _ _).alloc (Nat.le_refl _) _).alloc (by simp) _
  have hw : w.heap.size + 1 < ((w.alloc (.cells #[.int .i64 52, .int .i64 1023, .int .i64 4503599627370496, .int .i64 9218868437227405312, .int .i64 (-9223372036854775808)] 63)).alloc (.cells #[.int .i64 2, .int .i64 prec, .int .i64 mode] 66)).heap.size := by simp
  generalize ((w.alloc (.cells #[.int .i64 52, .int .i64 1023, .int .i64 4503599627370496, .int .i64 9218868437227405312, .int .i64 (-9223372036854775808)] 63)).alloc (.cells #[.int .i64 2, .int .i64 prec, .int .i64 mode] 66)) = W at *
  refine (HNB.out W).mono ?_
  rintro r w1 ⟨rfl, hb1⟩
  have HB1 : Hid (Below w.heap.size w w1) := HB.out.trans (hb1.mono (by omega))
  have HT1 : Hid (Tab w1) := HTAB.out.below HB1.out
  have e0 := keep_cell' hb1 d0
  have e1 := keep_cell' hb1 d1
  have e2 := keep_cell' hb1 d2
  have e3 := keep_cell' hb1 d3
  have e4 := keep_cell' hb1 d4
  have z0 := keep_cell' hb1 s0
  have z1 := keep_cell' hb1 s1
  have z2 := keep_cell' hb1 s2
  clear hb1 d0 d1 d2 d3 d4 s0 s1 s2 hw HB HNB
  go_wp2_with fail
  refine (HX.out _ HT1.out).mono ?_
  rintro r w2 ⟨T, rfl, hq, hl, hb2⟩
  have HF := hid (And.intro (HQ2.out T hq) (And.intro hl (HB1.out.trans (hb2.mono HB1.out.size))))
  clear hq hl hb2 HX
  go_wp2
  go_ret
  exact ⟨T, rfl, HF.out.1, HF.out.2.1, HF.out.2.2⟩
set_option maxRecDepth 100000 in
set_option maxHeartbeats 1000000 in
theorem numFix0 (a : Nat) (ng : Bool) (prec mode : Int) (h1 : 0 ≤ prec) (h2 : prec ≤ 800) (ha : (a : Int) < 31744) (w : World) (ht : Tab w) :
    Calls Tryz.prog 37 #[.int .i64 a, lay0, .bool ng, styV 3 prec mode] w fun r w' => TextPost w w' r (FixQ (awayB mode ng) (valA 3000 0 a) prec.toNat) := by
  have HTAB := hid ht
  have HNB := hid (fun w => number0 a ha w)
  have hxa : ((xA 10 a : Nat) : Int) ≤ 2100 := by
    unfold xA; rw [show (2 : Nat) ^ 10 = 1024 from by decide]; omega
  have hxb : (-24 : Int) + (xA 10 a : Nat) ≤ 1080 := by
    unfold xA; rw [show (2 : Nat) ^ 10 = 1024 from by decide]; omega
  have hm1 := mA_lt 10 a
  rw [show (2 : Nat) ^ 10 = 1024 from by decide] at hm1
  have HQ : Hid (valA 3000 0 a = two 3000 (-24 + (xA 10 a : Nat)) * mA 10 a) := rfl
  obtain ⟨m, hm⟩ : ∃ m, m = mA 10 a := ⟨_, rfl⟩
  obtain ⟨k, hk⟩ : ∃ k : Nat, k = xA 10 a := ⟨_, rfl⟩
  obtain ⟨A, hA⟩ : ∃ A : Int, A = (a : Int) := ⟨_, rfl⟩
  rw [← hm, ← hk, ← hA] at HNB
  rw [← hm, ← hk] at HQ
  rw [← hm] at hm1
  rw [← hk] at hxa hxb
  obtain ⟨M, hM⟩ : ∃ M : Int, M = (m : Int) := ⟨_, rfl⟩
  rw [← hM] at HNB
  have HX : Hid (∀ w1 : World, Tab w1 → Calls Tryz.prog 56 #[.int .i64 M, .int .i64 (-24 + k), .bool ng, styV 3 prec mode] w1 fun r w' => TextPost w1 w' r (FixQ (awayB mode ng) (two 3000 (-24 + k) * m) prec.toNat)) := fun w1 hw =>
    fixText_any m M (-24 + k) ng 3 prec mode w1 hw hM (by omega) (by omega) (by omega) h1 h2
  have HQ2 : Hid (∀ T, FixQ (awayB mode ng) (two 3000 (-24 + k) * m) prec.toNat T → FixQ (awayB mode ng) (valA 3000 0 a) prec.toNat T) := fun T h => by rw [HQ.out]; exact h
  rw [← hA]
  clear ht hm hk hA hM ha hm1 HQ
  unfold lay0 styV at *
  go_enter Tryz.func37, Tryz.ntmps37
  go_wp2_with fail
  have d0 : ((w.alloc (.cells #[.int .i64 10, .int .i64 15, .int .i64 1024, .int .i64 31744, .int .i64 32768] 63)).alloc (.cells #[.int .i64 3, .int .i64 prec, .int .i64 mode] 66)).cell? ⟨w.heap.size, 0, none⟩ = some (Value.int .i64 10) := by simp [go_sem]
  have d1 : ((w.alloc (.cells #[.int .i64 10, .int .i64 15, .int .i64 1024, .int .i64 31744, .int .i64 32768] 63)).alloc (.cells #[.int .i64 3, .int .i64 prec, .int .i64 mode] 66)).cell? ⟨w.heap.size, 1, none⟩ = some (Value.int .i64 15) := by simp [go_sem]
  have d2 : ((w.alloc (.cells #[.int .i64 10, .int .i64 15, .int .i64 1024, .int .i64 31744, .int .i64 32768] 63)).alloc (.cells #[.int .i64 3, .int .i64 prec, .int .i64 mode] 66)).cell? ⟨w.heap.size, 2, none⟩ = some (Value.int .i64 1024) := by simp [go_sem]
  have d3 : ((w.alloc (.cells #[.int .i64 10, .int .i64 15, .int .i64 1024, .int .i64 31744, .int .i64 32768] 63)).alloc (.cells #[.int .i64 3, .int .i64 prec, .int .i64 mode] 66)).cell? ⟨w.heap.size, 3, none⟩ = some (Value.int .i64 31744) := by simp [go_sem]
  have d4 : ((w.alloc (.cells #[.int .i64 10, .int .i64 15, .int .i64 1024, .int .i64 31744, .int .i64 32768] 63)).alloc (.cells #[.int .i64 3, .int .i64 prec, .int .i64 mode] 66)).cell? ⟨w.heap.size, 4, none⟩ = some (Value.int .i64 32768) := by simp [go_sem]
  have s0 : ((w.alloc (.cells #[.int .i64 10, .int .i64 15, .int .i64 1024, .int .i64 31744, .int .i64 32768] 63)).alloc (.cells #[.int .i64 3, .int .i64 prec, .int .i64 mode] 66)).cell? ⟨w.heap.size + 1, 0, none⟩ = some (Value.int .i64 3) := by simp [go_sem]
  have s1 : ((w.alloc (.cells #[.int .i64 10, .int .i64 15, .int .i64 1024, .int .i64 31744, .int .i64 32768] 63)).alloc (.cells #[.int .i64 3, .int .i64 prec, .int .i64 mode] 66)).cell? ⟨w.heap.size + 1, 1, none⟩ = some (Value.int .i64 prec) := by simp [go_sem]
  have s2 : ((w.alloc (.cells #[.int .i64 10, .int .i64 15, .int .i64 1024, .int .i64 31744, .int .i64 32768] 63)).alloc (.cells #[.int .i64 3, .int .i64 prec, .int .i64 mode] 66)).cell? ⟨w.heap.size + 1, 2, none⟩ = some (Value.int .i64 mode) := by simp [go_sem]
  have HB : Hid (Below w.heap.size w ((w.alloc (.cells #[.int .i64 10, .int .i64 15, .int .i64 1024, .int .i64 31744, .int .i64 32768] 63)).alloc (.cells #[.int .i64 3, .int .i64 prec, .int .i64 mode] 66))) := ((Below.refl _ _).alloc (Nat.le_refl _) _).alloc (by simp) _
  have hw : w.heap.size + 1 < ((w.alloc (.cells #[.int .i64 10, .int .i64 15, .int .i64 1024, .int .i64 31744, .int .i64 32768] 63)).alloc (.cells #[.int .i64 3, .int .i64 prec, .int .i64 mode] 66)).heap.size := by simp
  generalize ((w.alloc (.cells #[.int .i64 10, .int .i64 15, .int .i64 1024, .int .i64 31744, .int .i64 32768] 63)).alloc (.cells #[.int .i64 3, .int .i64 prec, .int .i64 mode] 66)) = W at *
  refine (HNB.out W).mono ?_
  rintro r w1 ⟨rfl, hb1⟩
  have HB1 : Hid (Below w.heap.size w w1) := HB.out.trans (hb1.mono (by omega))
  have HT1 : Hid (Tab w1) := HTAB.out.below HB1.out
  have e0 := keep_cell' hb1 d0
  have e1 := keep_cell' hb1 d1
  have e2 := keep_cell' hb1 d2
  have e3 := keep_cell' hb1 d3
  have e4 := keep_cell' hb1 d4
  have z0 := keep_cell' hb1 s0
  have z1 := keep_cell' hb1 s1
  have z2 := keep_cell' hb1 s2
  clear hb1 d0 d1 d2 d3 d4 s0 s1 s2 hw HB HNB
  go_wp2_with fail
  refine (HX.out _ HT1.out).mono ?_
  rintro r w2 ⟨T, rfl, hq, hl, hb2⟩
  have HF := hid (And.intro (HQ2.out T hq) (And.intro hl (HB1.out.trans (hb2.mono HB1.out.size))))
  clear hq hl hb2 HX
  go_wp2
  go_ret
  exact ⟨T, rfl, HF.out.1, HF.out.2.1, HF.out.2.2⟩
set_option maxRecDepth 100000 in
set_option maxHeartbeats 1000000 in
theorem numFix1 (a : Nat) (ng : Bool) (prec mode : Int) (h1 : 0 ≤ prec) (h2 : prec ≤ 800) (ha : (a : Int) < 2139095040) (w : World) (ht : Tab w) :
    Calls Tryz.prog 37 #[.int .i64 a, lay1, .bool ng, styV 3 prec mode] w fun r w' => TextPost w w' r (FixQ (awayB mode ng) (valA 3000 1 a) prec.toNat) := by
  have HTAB := hid ht
  have HNB := hid (fun w => number1 a ha w)
  have hxa : ((xA 23 a : Nat) : Int) ≤ 2100 := by
    unfold xA; rw [show (2 : Nat) ^ 23 = 8388608 from by decide]; omega
  have hxb : (-149 : Int) + (xA 23 a : Nat) ≤ 1080 := by
    unfold xA; rw [show (2 : Nat) ^ 23 = 8388608 from by decide]; omega
  have hm1 := mA_lt 23 a
  rw [show (2 : Nat) ^ 23 = 8388608 from by decide] at hm1
  have HQ : Hid (valA 3000 1 a = two 3000 (-149 + (xA 23 a : Nat)) * mA 23 a) := rfl
  obtain ⟨m, hm⟩ : ∃ m, m = mA 23 a := ⟨_, rfl⟩
  obtain ⟨k, hk⟩ : ∃ k : Nat, k = xA 23 a := ⟨_, rfl⟩
  obtain ⟨A, hA⟩ : ∃ A : Int, A = (a : Int) := ⟨_, rfl⟩
  rw [← hm, ← hk, ← hA] at HNB
  rw [← hm, ← hk] at HQ
  rw [← hm] at hm1
  rw [← hk] at hxa hxb
  obtain ⟨M, hM⟩ : ∃ M : Int, M = (m : Int) := ⟨_, rfl⟩
  rw [← hM] at HNB
  have HX : Hid (∀ w1 : World, Tab w1 → Calls Tryz.prog 56 #[.int .i64 M, .int .i64 (-149 + k), .bool ng, styV 3 prec mode] w1 fun r w' => TextPost w1 w' r (FixQ (awayB mode ng) (two 3000 (-149 + k) * m) prec.toNat)) := fun w1 hw =>
    fixText_any m M (-149 + k) ng 3 prec mode w1 hw hM (by omega) (by omega) (by omega) h1 h2
  have HQ2 : Hid (∀ T, FixQ (awayB mode ng) (two 3000 (-149 + k) * m) prec.toNat T → FixQ (awayB mode ng) (valA 3000 1 a) prec.toNat T) := fun T h => by rw [HQ.out]; exact h
  rw [← hA]
  clear ht hm hk hA hM ha hm1 HQ
  unfold lay1 styV at *
  go_enter Tryz.func37, Tryz.ntmps37
  go_wp2_with fail
  have d0 : ((w.alloc (.cells #[.int .i64 23, .int .i64 127, .int .i64 8388608, .int .i64 2139095040, .int .i64 2147483648] 63)).alloc (.cells #[.int .i64 3, .int .i64 prec, .int .i64 mode] 66)).cell? ⟨w.heap.size, 0, none⟩ = some (Value.int .i64 23) := by simp [go_sem]
  have d1 : ((w.alloc (.cells #[.int .i64 23, .int .i64 127, .int .i64 8388608, .int .i64 2139095040, .int .i64 2147483648] 63)).alloc (.cells #[.int .i64 3, .int .i64 prec, .int .i64 mode] 66)).cell? ⟨w.heap.size, 1, none⟩ = some (Value.int .i64 127) := by simp [go_sem]
  have d2 : ((w.alloc (.cells #[.int .i64 23, .int .i64 127, .int .i64 8388608, .int .i64 2139095040, .int .i64 2147483648] 63)).alloc (.cells #[.int .i64 3, .int .i64 prec, .int .i64 mode] 66)).cell? ⟨w.heap.size, 2, none⟩ = some (Value.int .i64 8388608) := by simp [go_sem]
  have d3 : ((w.alloc (.cells #[.int .i64 23, .int .i64 127, .int .i64 8388608, .int .i64 2139095040, .int .i64 2147483648] 63)).alloc (.cells #[.int .i64 3, .int .i64 prec, .int .i64 mode] 66)).cell? ⟨w.heap.size, 3, none⟩ = some (Value.int .i64 2139095040) := by simp [go_sem]
  have d4 : ((w.alloc (.cells #[.int .i64 23, .int .i64 127, .int .i64 8388608, .int .i64 2139095040, .int .i64 2147483648] 63)).alloc (.cells #[.int .i64 3, .int .i64 prec, .int .i64 mode] 66)).cell? ⟨w.heap.size, 4, none⟩ = some (Value.int .i64 2147483648) := by simp [go_sem]
  have s0 : ((w.alloc (.cells #[.int .i64 23, .int .i64 127, .int .i64 8388608, .int .i64 2139095040, .int .i64 2147483648] 63)).alloc (.cells #[.int .i64 3, .int .i64 prec, .int .i64 mode] 66)).cell? ⟨w.heap.size + 1, 0, none⟩ = some (Value.int .i64 3) := by simp [go_sem]
  have s1 : ((w.alloc (.cells #[.int .i64 23, .int .i64 127, .int .i64 8388608, .int .i64 2139095040, .int .i64 2147483648] 63)).alloc (.cells #[.int .i64 3, .int .i64 prec, .int .i64 mode] 66)).cell? ⟨w.heap.size + 1, 1, none⟩ = some (Value.int .i64 prec) := by simp [go_sem]
  have s2 : ((w.alloc (.cells #[.int .i64 23, .int .i64 127, .int .i64 8388608, .int .i64 2139095040, .int .i64 2147483648] 63)).alloc (.cells #[.int .i64 3, .int .i64 prec, .int .i64 mode] 66)).cell? ⟨w.heap.size + 1, 2, none⟩ = some (Value.int .i64 mode) := by simp [go_sem]
  have HB : Hid (Below w.heap.size w ((w.alloc (.cells #[.int .i64 23, .int .i64 127, .int .i64 8388608, .int .i64 2139095040, .int .i64 2147483648] 63)).alloc (.cells #[.int .i64 3, .int .i64 prec, .int .i64 mode] 66))) := ((Below.refl _ _).alloc (Nat.le_refl _) _).alloc (by simp) _
  have hw : w.heap.size + 1 < ((w.alloc (.cells #[.int .i64 23, .int .i64 127, .int .i64 8388608, .int .i64 2139095040, .int .i64 2147483648] 63)).alloc (.cells #[.int .i64 3, .int .i64 prec, .int .i64 mode] 66)).heap.size := by simp
  generalize ((w.alloc (.cells #[.int .i64 23, .int .i64 127, .int .i64 8388608, .int .i64 2139095040, .int .i64 2147483648] 63)).alloc (.cells #[.int .i64 3, .int .i64 prec, .int .i64 mode] 66)) = W at *
  refine (HNB.out W).mono ?_
  rintro r w1 ⟨rfl, hb1⟩
  have HB1 : Hid (Below w.heap.size w w1) := HB.out.trans (hb1.mono (by omega))
  have HT1 : Hid (Tab w1) := HTAB.out.below HB1.out
  have e0 := keep_cell' hb1 d0
  have e1 := keep_cell' hb1 d1
  have e2 := keep_cell' hb1 d2
  have e3 := keep_cell' hb1 d3
  have e4 := keep_cell' hb1 d4
  have z0 := keep_cell' hb1 s0
  have z1 := keep_cell' hb1 s1
  have z2 := keep_cell' hb1 s2
  clear hb1 d0 d1 d2 d3 d4 s0 s1 s2 hw HB HNB
  go_wp2_with fail
  refine (HX.out _ HT1.out).mono ?_
  rintro r w2 ⟨T, rfl, hq, hl, hb2⟩
  have HF := hid (And.intro (HQ2.out T hq) (And.intro hl (HB1.out.trans (hb2.mono HB1.out.size))))
  clear hq hl hb2 HX
  go_wp2
  go_ret
  exact ⟨T, rfl, HF.out.1, HF.out.2.1, HF.out.2.2⟩
set_option maxRecDepth 100000 in
set_option maxHeartbeats 1000000 in
theorem numFix2 (a : Nat) (ng : Bool) (prec mode : Int) (h1 : 0 ≤ prec) (h2 : prec ≤ 800) (ha : (a : Int) < 9218868437227405312) (w : World) (ht : Tab w) :
    Calls Tryz.prog 37 #[.int .i64 a, lay2, .bool ng, styV 3 prec mode] w fun r w' => TextPost w w' r (FixQ (awayB mode ng) (valA 3000 2 a) prec.toNat) := by
  have HTAB := hid ht
  have HNB := hid (fun w => number2 a ha w)
  have hxa : ((xA 52 a : Nat) : Int) ≤ 2100 := by
    unfold xA; rw [show (2 : Nat) ^ 52 = 4503599627370496 from by decide]; omega
  have hxb : (-1074 : Int) + (xA 52 a : Nat) ≤ 1080 := by
    unfold xA; rw [show (2 : Nat) ^ 52 = 4503599627370496 from by decide]; omega
  have hm1 := mA_lt 52 a
  rw [show (2 : Nat) ^ 52 = 4503599627370496 from by decide] at hm1
  have HQ : Hid (valA 3000 2 a = two 3000 (-1074 + (xA 52 a : Nat)) * mA 52 a) := rfl
  obtain ⟨m, hm⟩ : ∃ m, m = mA 52 a := ⟨_, rfl⟩
  obtain ⟨k, hk⟩ : ∃ k : Nat, k = xA 52 a := ⟨_, rfl⟩
  obtain ⟨A, hA⟩ : ∃ A : Int, A = (a : Int) := ⟨_, rfl⟩
  rw [← hm, ← hk, ← hA] at HNB
  rw [← hm, ← hk] at HQ
  rw [← hm] at hm1
  rw [← hk] at hxa hxb
  obtain ⟨M, hM⟩ : ∃ M : Int, M = (m : Int) := ⟨_, rfl⟩
  rw [← hM] at HNB
  have HX : Hid (∀ w1 : World, Tab w1 → Calls Tryz.prog 56 #[.int .i64 M, .int .i64 (-1074 + k), .bool ng, styV 3 prec mode] w1 fun r w' => TextPost w1 w' r (FixQ (awayB mode ng) (two 3000 (-1074 + k) * m) prec.toNat)) := fun w1 hw =>
    fixText_any m M (-1074 + k) ng 3 prec mode w1 hw hM (by omega) (by omega) (by omega) h1 h2
  have HQ2 : Hid (∀ T, FixQ (awayB mode ng) (two 3000 (-1074 + k) * m) prec.toNat T → FixQ (awayB mode ng) (valA 3000 2 a) prec.toNat T) := fun T h => by rw [HQ.out]; exact h
  rw [← hA]
  clear ht hm hk hA hM ha hm1 HQ
  unfold lay2 styV at *
  go_enter Tryz.func37, Tryz.ntmps37
  go_wp2_with fail
  have d0 : ((w.alloc (.cells #[.int .i64 52, .int .i64 1023, .int .i64 4503599627370496, .int .i64 9218868437227405312, .int .i64 (-9223372036854775808)] 63)).alloc (.cells #[.int .i64 3, .int .i64 prec, .int .i64 mode] 66)).cell? ⟨w.heap.size, 0, none⟩ = some (Value.int .i64 52) := by simp [go_sem]
  have d1 : ((w.alloc (.cells #[.int .i64 52, .int .i64 1023, .int .i64 4503599627370496, .int .i64 9218868437227405312, .int .i64 (-9223372036854775808)] 63)).alloc (.cells #[.int .i64 3, .int .i64 prec, .int .i64 mode] 66)).cell? ⟨w.heap.size, 1, none⟩ = some (Value.int .i64 1023) := by simp [go_sem]
  have d2 : ((w.alloc (.cells #[.int .i64 52, .int .i64 1023, .int .i64 4503599627370496, .int .i64 9218868437227405312, .int .i64 (-9223372036854775808)] 63)).alloc (.cells #[.int .i64 3, .int .i64 prec, .int .i64 mode] 66)).cell? ⟨w.heap.size, 2, none⟩ = some (Value.int .i64 4503599627370496) := by simp [go_sem]
  have d3 : ((w.alloc (.cells #[.int .i64 52, .int .i64 1023, .int .i64 4503599627370496, .int .i64 9218868437227405312, .int .i64 (-9223372036854775808)] 63)).alloc (.cells #[.int .i64 3, .int .i64 prec, .int .i64 mode] 66)).cell? ⟨w.heap.size, 3, none⟩ = some (Value.int .i64 9218868437227405312) := by simp [go_sem]
  have d4 : ((w.alloc (.cells #[.int .i64 52, .int .i64 1023, .int .i64 4503599627370496, .int .i64 9218868437227405312, .int .i64 (-9223372036854775808)] 63)).alloc (.cells #[.int .i64 3, .int .i64 prec, .int .i64 mode] 66)).cell? ⟨w.heap.size, 4, none⟩ = some (Value.int .i64 (-9223372036854775808)) := by simp [go_sem]
  have s0 : ((w.alloc (.cells #[.int .i64 52, .int .i64 1023, .int .i64 4503599627370496, .int .i64 9218868437227405312, .int .i64 (-9223372036854775808)] 63)).alloc (.cells #[.int .i64 3, .int .i64 prec, .int .i64 mode] 66)).cell? ⟨w.heap.size + 1, 0, none⟩ = some (Value.int .i64 3) := by simp [go_sem]
  have s1 : ((w.alloc (.cells #[.int .i64 52, .int .i64 1023, .int .i64 4503599627370496, .int .i64 9218868437227405312, .int .i64 (-9223372036854775808)] 63)).alloc (.cells #[.int .i64 3, .int .i64 prec, .int .i64 mode] 66)).cell? ⟨w.heap.size + 1, 1, none⟩ = some (Value.int .i64 prec) := by simp [go_sem]
  have s2 : ((w.alloc (.cells #[.int .i64 52, .int .i64 1023, .int .i64 4503599627370496, .int .i64 9218868437227405312, .int .i64 (-9223372036854775808)] 63)).alloc (.cells #[.int .i64 3, .int .i64 prec, .int .i64 mode] 66)).cell? ⟨w.heap.size + 1, 2, none⟩ = some (Value.int .i64 mode) := by simp [go_sem]
  have HB : Hid (Below w.heap.size w ((w.alloc (.cells #[.int .i64 52, .int .i64 1023, .int .i64 4503599627370496, .int .i64 9218868437227405312, .int .i64 (-9223372036854775808)] 63)).alloc (.cells #[.int .i64 3, .int .i64 prec, .int .i64 mode] 66))) := ((Below.refl _ _).alloc (Nat.le_refl _) _).alloc (by simp) _
  have hw : w.heap.size + 1 < ((w.alloc (.cells #[.int .i64 52, .int .i64 1023, .int .i64 4503599627370496, .int .i64 9218868437227405312, .int .i64 (-9223372036854775808)] 63)).alloc (.cells #[.int .i64 3, .int .i64 prec, .int .i64 mode] 66)).heap.size := by simp
  generalize ((w.alloc (.cells #[.int .i64 52, .int .i64 1023, .int .i64 4503599627370496, .int .i64 9218868437227405312, .int .i64 (-9223372036854775808)] 63)).alloc (.cells #[.int .i64 3, .int .i64 prec, .int .i64 mode] 66)) = W at *
  refine (HNB.out W).mono ?_
  rintro r w1 ⟨rfl, hb1⟩
  have HB1 : Hid (Below w.heap.size w w1) := HB.out.trans (hb1.mono (by omega))
  have HT1 : Hid (Tab w1) := HTAB.out.below HB1.out
  have e0 := keep_cell' hb1 d0
  have e1 := keep_cell' hb1 d1
  have e2 := keep_cell' hb1 d2
  have e3 := keep_cell' hb1 d3
  have e4 := keep_cell' hb1 d4
  have z0 := keep_cell' hb1 s0
  have z1 := keep_cell' hb1 s1
  have z2 := keep_cell' hb1 s2
  clear hb1 d0 d1 d2 d3 d4 s0 s1 s2 hw HB HNB
  go_wp2_with fail
  refine (HX.out _ HT1.out).mono ?_
  rintro r w2 ⟨T, rfl, hq, hl, hb2⟩
  have HF := hid (And.intro (HQ2.out T hq) (And.intro hl (HB1.out.trans (hb2.mono HB1.out.size))))
  clear hq hl hb2 HX
  go_wp2
  go_ret
  exact ⟨T, rfl, HF.out.1, HF.out.2.1, HF.out.2.2⟩
end Go.Proofs.YtbkdaoicnobllabGreatDoor

namespace Go.Proofs.YtbkdaoicnobllabGreatDoor
open Go.RowKit

theorem valA_top {f : Int} {a : Nat} {L : List Nat} {e : Int} (hf : 0 ≤ f ∧ f ≤ 2) (ha : (a : Int) < infA f) (hh : Headed L) (hl : 0 < L.length) (he : -(3000 : Int) ≤ e) (hv : val 3000 L e = valA 3000 f a) : e + L.length ≤ 400 := by
  rcases (by omega : f = 0 ∨ f = 1 ∨ f = 2) with rfl | rfl | rfl
  · have hai : (a : Int) < 31744 := ha
    have h1 := mA_lt 10 a
    rw [show (2 : Nat) ^ 10 = 1024 from by decide] at h1
    have h2 : (-24 : Int) + (xA 10 a : Nat) ≤ 1080 := by
      unfold xA; rw [show (2 : Nat) ^ 10 = 1024 from by decide]; omega
    exact small_top hh hl he (show val 3000 L e = two 3000 (-24 + (xA 10 a : Nat)) * mA 10 a from hv) (by omega) (by omega) (by omega)
  · have hai : (a : Int) < 2139095040 := ha
    have h1 := mA_lt 23 a
    rw [show (2 : Nat) ^ 23 = 8388608 from by decide] at h1
    have h2 : (-149 : Int) + (xA 23 a : Nat) ≤ 1080 := by
      unfold xA; rw [show (2 : Nat) ^ 23 = 8388608 from by decide]; omega
    exact small_top hh hl he (show val 3000 L e = two 3000 (-149 + (xA 23 a : Nat)) * mA 23 a from hv) (by omega) (by omega) (by omega)
  · have hai : (a : Int) < 9218868437227405312 := ha
    have h1 := mA_lt 52 a
    rw [show (2 : Nat) ^ 52 = 4503599627370496 from by decide] at h1
    have h2 : (-1074 : Int) + (xA 52 a : Nat) ≤ 1080 := by
      unfold xA; rw [show (2 : Nat) ^ 52 = 4503599627370496 from by decide]; omega
    exact small_top hh hl he (show val 3000 L e = two 3000 (-1074 + (xA 52 a : Nat)) * mA 52 a from hv) (by omega) (by omega) (by omega)
theorem valA_none (K : Nat) (f : Int) : valA K f 0 = 0 := by unfold valA mA; simp
theorem valA_some (K : Nat) (f : Int) (a : Nat) (h : 0 < a) : 0 < valA K f a := Nat.mul_pos (two_pos _ _) (mA_pos _ _ h)
theorem highN_le (L : List Nat) (e : Int) (c : Nat) (h : e + L.length ≤ c) : highN L e ≤ c := by
  unfold highN; split <;> omega
end Go.Proofs.YtbkdaoicnobllabGreatDoor

namespace Go.Proofs.YtbkdaoicnobllabGreatDoor
set_option exponentiation.threshold 5000

theorem valA_tiny {f : Int} (hf : 0 ≤ f ∧ f ≤ 2) {a : Nat} (ha : 0 < a) : 10 ^ 2600 ≤ valA 3000 f a := by
  refine Nat.le_trans ?_ (valA_mono 3000 f (by omega) (show 1 ≤ a from ha))
  rcases (by omega : f = 0 ∨ f = 1 ∨ f = 2) with rfl | rfl | rfl <;> decide +kernel
theorem infA_N0 (f : Int) : infA f = (infN f : Int) := by unfold infA infN; split <;> (try split) <;> rfl
theorem ExpQ.some {aw : Int → Bool → Bool} {V n : Nat} {T : List UInt8} (h : ExpQ aw V n T) (h0 : 0 < V) : ∃ D e L g, ExpR aw V n D e L g T := by
  rcases h with ⟨h1, _⟩ | h
  · omega
  · exact h
theorem ExpR.range {f : Int} {a : Nat} {aw : Int → Bool → Bool} {n : Nat} {D L : List Nat} {e g : Int} {T : List UInt8} (hf : 0 ≤ f ∧ f ≤ 2) (h0 : 0 < a) (h1 : (a : Int) < infN f) (h : ExpR aw (valA 3000 f a) n D e L g T) : -1000 ≤ g + L.length - 1 ∧ g + L.length - 1 ≤ 1000 := by
  have ht := h.tops
  have hu := valA_top hf (by rw [infA_N0 f]; exact h1) h.headed h.pos h.lo h.val
  have hlo := valA_tiny hf h0
  have hv := val_lt h.digs 3000 e h.lo
  rw [h.val] at hv
  have : -400 ≤ e + D.length := by
    apply Int.not_lt.1; intro hlt
    have : 10 ^ (e + D.length + (3000 : Nat)).toNat ≤ 10 ^ 2600 := Nat.pow_le_pow_right (by omega) (by omega)
    omega
  omega
theorem aw_mono (m : Int) (hm : m = 4 ∨ m = 0 ∨ m = 1 ∨ m = 3) : AwMono (awayB m false) := by
  intro l l' o h1 h2 h3 h
  rcases hm with rfl | rfl | rfl | rfl
  · simp [awayB] at h
  · simp [awayB] at h ⊢
    rcases h with h | ⟨h, ho⟩
    · left; omega
    · rcases (by omega : l' = 2 ∨ l' = 3) with g | g
      · right; exact ⟨g, ho⟩
      · left; exact g
  · simp [awayB] at h ⊢; omega
  · simp [awayB]
theorem aw_next (m m' : Int) (hm : (m = 4 ∧ m' = 0) ∨ (m = 0 ∧ m' = 1) ∨ (m = 1 ∧ m' = 3)) (l : Int) (o : Bool) (h1 : 1 ≤ l) (h2 : l ≤ 3) (h : awayB m false l o = true) : awayB m' false l o = true := by
  rcases hm with ⟨rfl, rfl⟩ | ⟨rfl, rfl⟩ | ⟨rfl, rfl⟩
  · simp [awayB] at h
  · simp [awayB] at h ⊢; omega
  · simp [awayB]
theorem rise_one {f : Int} {a n : Nat} {m : Int} {S T : List UInt8} (hf : 0 ≤ f ∧ f ≤ 2) (h0 : 0 < a) (h1 : ((a + 1 : Nat) : Int) < infN f) (hn : n ≤ 800) (hm : m = 4 ∨ m = 0 ∨ m = 1 ∨ m = 3) (hS : ExpQ (awayB m false) (valA 3000 f a) n S) (hT : ExpQ (awayB m false) (valA 3000 f (a + 1)) n T) : Above T S := by
  have p0 : 0 < valA 3000 f a := Nat.lt_of_lt_of_le (Nat.pow_pos (by omega)) (valA_tiny hf h0)
  have hle := valA_mono 3000 f (by omega) (show a ≤ a + 1 by omega)
  obtain ⟨D, e, L, g, h⟩ := hS.some p0
  obtain ⟨D', e', L', g', h'⟩ := hT.some (by omega)
  obtain ⟨a1, a2⟩ := h.range hf h0 (by omega)
  obtain ⟨b1, b2⟩ := h'.range hf (by omega) h1
  exact Parted.above h h' hn a1 a2 b1 b2 (ExpR.order (aw_mono m hm) h h' hle)
theorem rise_mode {f : Int} {a n : Nat} {m m' : Int} {S T : List UInt8} (hf : 0 ≤ f ∧ f ≤ 2) (h0 : 0 < a) (h1 : (a : Int) < infN f) (hn : n ≤ 800) (hm : (m = 4 ∧ m' = 0) ∨ (m = 0 ∧ m' = 1) ∨ (m = 1 ∧ m' = 3)) (hS : ExpQ (awayB m false) (valA 3000 f a) n S) (hT : ExpQ (awayB m' false) (valA 3000 f a) n T) : Above T S := by
  have p0 : 0 < valA 3000 f a := Nat.lt_of_lt_of_le (Nat.pow_pos (by omega)) (valA_tiny hf h0)
  obtain ⟨D, e, L, g, h⟩ := hS.some p0
  obtain ⟨D', e', L', g', h'⟩ := hT.some p0
  obtain ⟨a1, a2⟩ := h.range hf h0 h1
  obtain ⟨b1, b2⟩ := h'.range hf h0 h1
  exact Parted.above h h' hn a1 a2 b1 b2 (ExpR.modes (aw_next m m' hm) h h')
theorem exp_some {f : Int} {a n : Nat} {m : Int} {S : List UInt8} (h : ExpQ (awayB m false) (valA 3000 f a) n S) : S ≠ [] := by
  rcases h with ⟨_, rfl⟩ | ⟨D, e, L, g, h⟩
  · simp
  · rw [h.text]; simp
end Go.Proofs.YtbkdaoicnobllabGreatDoor

namespace Go.Proofs.YtbkdaoicnobllabGreatDoor

/-- A decimal beyond all numbers, or nearer to 0 than any, is held where it is just so. -/
def heldV (K : Nat) (L : List Nat) (e : Int) : Nat :=
  if L.length = 0 then 0 else if 390 < e + L.length - 1 then 10 ^ (390 + (K : Int)).toNat else if e + L.length - 1 < -390 then 10 ^ (-390 + (K : Int)).toNat else val K L e
/-- The number of a row of digits of base 16. -/
def num16 (L : List Nat) : Nat := L.foldl (fun a d => a * 16 + d) 0
theorem num16_snoc (L : List Nat) (d : Nat) : num16 (L ++ [d]) = num16 L * 16 + d := by simp [num16]
theorem num16_lt (L : List Nat) (h : ∀ d, d ∈ L → d ≤ 15) : num16 L < 16 ^ L.length := by
  have : ∀ n (L : List Nat), L.length = n → (∀ d, d ∈ L → d ≤ 15) → num16 L < 16 ^ L.length := by
    intro n; induction n with
    | zero => intro L hL _; rw [List.length_eq_zero_iff.1 hL]; simp [num16]
    | succ n ih =>
      intro L hL hd
      have hne : L ≠ [] := by intro h0; rw [h0] at hL; simp at hL
      have e1 := List.dropLast_concat_getLast hne
      rw [← e1, num16_snoc, List.length_append, List.length_singleton, Nat.pow_succ]
      have h1 := ih L.dropLast (by simp; omega) (fun d hm => hd d (List.dropLast_subset _ hm))
      have h2 := hd _ (List.getLast_mem hne)
      omega
  exact this L.length L rfl h
/-- Is a digit not 0? -/
def some16 (L : List Nat) : Bool := L.any (fun d => decide (0 < d))
/-- The number that digits of base 16 times 2^e say, times 10^K, as it is held. -/
def sixV (K : Nat) (D : List Nat) (e : Int) : Nat :=
  if D.length = 0 then 0 else if 1200 < 4 * (D.length : Int) + e then 10 ^ (390 + (K : Int)).toNat else if 4 * (D.length : Int) + e < -1200 then 10 ^ (-390 + (K : Int)).toNat
  else if some16 (D.drop 300) = true then (num16 (D.take 300) * 2 + 1) * two K (e + 4 * ((D.length - min D.length 300 : Nat) : Int) - 1)
  else num16 (D.take 300) * two K (e + 4 * ((D.length - min D.length 300 : Nat) : Int))
end Go.Proofs.YtbkdaoicnobllabGreatDoor
