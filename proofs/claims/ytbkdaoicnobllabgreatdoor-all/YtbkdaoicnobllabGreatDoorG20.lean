import Derived.Test.YtbkdaoicnobllabGreatDoorG19
import Derived.Test.YtbkdaoicnobllabGreatDoorG08
import Derived.Test.YtbkdaoicnobllabGreatDoorG17

namespace Go.Proofs.YtbkdaoicnobllabGreatDoor
set_option maxRecDepth 100000
set_option maxHeartbeats 1000000
open Go.RowKit

theorem rtextHex0 (a : Nat) (ng : Bool) (prec mode : Int) (ha : (a : Int) < 31744) (w : World) :
  Calls Tryz.prog 52 #[.int .i64 0, .int .i64 a, .bool ng, .int .i64 4, .int .i64 prec, .int .i64 mode, .int .i64 11, .int .i64 (-14)] w fun r w' => TextPost w w' r (HexQ 0 a) := by
 have HV := hid (fun w => value_any 0 a w (by omega) (by show (a : Int) ≤ 31744; omega))
 have hm1 := mA_lt 10 a
 rw [show (2 : Nat) ^ 10 = 1024 from by decide] at hm1
 have HQ : Hid (HexQ 0 a = fun T => (a = 0 ∧ T = [48, 120, 48, 112, 48]) ∨ (0 < a ∧ ∃ T0 E, HexText (mA 10 a) (-24 + (xA 10 a : Nat)) T0 E ∧ T = hexS T0 E)) := rfl
 obtain ⟨A, hA⟩ : ∃ A : Int, A = (a : Int) := ⟨_, rfl⟩
 rw [← hA] at HV ha ⊢
 rcases (by omega : a = 0 ∨ (0 < a ∧ a < 1024) ∨ 1024 ≤ a) with h0 | ⟨h0, h1⟩ | h1
 ·have hA0 : A = 0 := by omega
  subst hA0
  have H0 := hid h0
  clear hA h0 hm1
  go_enter Tryz.func52, Tryz.ntmps52
  go_wp2_with fail
  refine (HV.out _).mono ?_
  rintro r w1 ⟨hb1, v', L, e, rfl, hout⟩
  obtain ⟨ao, cp, hv⟩ := hout.row.isSlice
  subst hv
  obtain ⟨W1, hW1⟩ : ∃ W1, W1 = w1.alloc (.cells #[.slice ao L.length cp, .int .i64 e] 95) := ⟨_, rfl⟩
  have HB1 : Hid (Below w.heap.size w (w1.alloc (.cells #[.slice ao L.length cp, .int .i64 e] 95))) := hb1.alloc hb1.size _
  clear hb1 hout hW1 HV
  go_wp2
  go_ret
  exact ⟨[48, 120, 48, 112, 48], rfl, by rw [HQ.out]; exact .inl ⟨H0.out, rfl⟩, by simp, HB1.out⟩
 ·have hmm : ((mA 10 a : Nat) : Int) = A % 1024 := by unfold mA; rw [show (2 : Nat) ^ 10 = 1024 from by decide, if_pos (by omega)]; omega
  have hxx : (-24 : Int) + (xA 10 a : Nat) = -24 := by unfold xA; rw [show (2 : Nat) ^ 10 = 1024 from by decide]; omega
  have HX : Hid (∀ w : World, Calls Tryz.prog 87 #[.int .i64 (A % 1024), .int .i64 (-24), .int .i64 11] w fun r w' => ∃ s : ByteArray, r = .returned (.string s) ∧ ∃ (T : List UInt8) (E : Int), HexText (mA 10 a) (-24) T E ∧ s = str (hexS T E) ∧ T.length ≤ 13 ∧ -4000 ≤ E ∧ E ≤ 4000 ∧ Below w.heap.size w w') := fun w => by
   have := sixteenths0 (mA 10 a) (-24 + (xA 10 a : Nat)) w (mA_pos 10 a (by omega)) hm1 (by omega) (by omega)
   rw [hmm, hxx] at this; exact this
  have HXX := hid hxx
  have H0 := hid h0
  have q1 : A / 1024 = 0 := by omega
  have q2 : (A == 0) = false := by rw [beq_eq_false_iff_ne]; omega
  have q3 : 0 < A := by omega
  have q4 : A < 1024 := by omega
  clear hA h0 h1 hm1 hmm hxx
  go_enter Tryz.func52, Tryz.ntmps52
  go_wp2_with fail
  refine (HV.out _).mono ?_
  rintro r w1 ⟨hb1, v', L, e, rfl, hout⟩
  obtain ⟨ao, cp, hv⟩ := hout.row.isSlice
  subst hv
  obtain ⟨W1, hW1⟩ : ∃ W1, W1 = w1.alloc (.cells #[.slice ao L.length cp, .int .i64 e] 95) := ⟨_, rfl⟩
  have HB1 : Hid (Below w.heap.size w (w1.alloc (.cells #[.slice ao L.length cp, .int .i64 e] 95))) := hb1.alloc hb1.size _
  clear hb1 hout hW1 HV
  go_wp2_with fail
  refine (HX.out _).mono ?_
  rintro r w2 ⟨s, rfl, T0, E0, hh, rfl, hl, he1, he2, hb2⟩
  have HF := hid (And.intro hh (And.intro (hexS_length T0 E0 hl he1 he2) (HB1.out.trans (hb2.mono HB1.out.size))))
  clear hh hl he1 he2 hb2 HX
  go_wp2
  go_ret
  exact ⟨hexS T0 E0, rfl, by rw [HQ.out]; exact .inr ⟨H0.out, T0, E0, by rw [HXX.out]; exact HF.out.1, rfl⟩, Nat.le_trans HF.out.2.1 (by omega), HF.out.2.2⟩
 ·have hmm : ((mA 10 a : Nat) : Int) = A % 1024 + 1024 := by unfold mA; rw [show (2 : Nat) ^ 10 = 1024 from by decide, if_neg (by omega)]; omega
  obtain ⟨k, hk⟩ : ∃ k : Int, k = A / 1024 := ⟨_, rfl⟩
  have hxx : (-24 : Int) + (xA 10 a : Nat) = -24 + (k - 1) := by unfold xA; rw [show (2 : Nat) ^ 10 = 1024 from by decide]; omega
  have HX : Hid (∀ w : World, Calls Tryz.prog 87 #[.int .i64 (A % 1024 + 1024), .int .i64 (-24 + (k - 1)), .int .i64 11] w fun r w' => ∃ s : ByteArray, r = .returned (.string s) ∧ ∃ (T : List UInt8) (E : Int), HexText (mA 10 a) (-24 + (k - 1)) T E ∧ s = str (hexS T E) ∧ T.length ≤ 13 ∧ -4000 ≤ E ∧ E ≤ 4000 ∧ Below w.heap.size w w') := fun w => by
   have := sixteenths0 (mA 10 a) (-24 + (xA 10 a : Nat)) w (mA_pos 10 a (by omega)) hm1 (by rw [hxx]; omega) (by rw [hxx]; omega)
   rw [hmm, hxx] at this; exact this
  have HXX := hid hxx
  have H0 : Hid (0 < a) := by unfold Hid; omega
  have q1 : A / 1024 = k := hk.symm
  have q0 : 0 < k := by omega
  have q5 : k ≤ 2100 := by omega
  have q2 : (A == 0) = false := by rw [beq_eq_false_iff_ne]; omega
  have q3 : 0 < A := by omega
  clear hA h1 hm1 hmm hxx hk
  go_enter Tryz.func52, Tryz.ntmps52
  go_wp2_with fail
  refine (HV.out _).mono ?_
  rintro r w1 ⟨hb1, v', L, e, rfl, hout⟩
  obtain ⟨ao, cp, hv⟩ := hout.row.isSlice
  subst hv
  obtain ⟨W1, hW1⟩ : ∃ W1, W1 = w1.alloc (.cells #[.slice ao L.length cp, .int .i64 e] 95) := ⟨_, rfl⟩
  have HB1 : Hid (Below w.heap.size w (w1.alloc (.cells #[.slice ao L.length cp, .int .i64 e] 95))) := hb1.alloc hb1.size _
  clear hb1 hout hW1 HV
  go_wp2_with fail
  refine (HX.out _).mono ?_
  rintro r w2 ⟨s, rfl, T0, E0, hh, rfl, hl, he1, he2, hb2⟩
  have HF := hid (And.intro hh (And.intro (hexS_length T0 E0 hl he1 he2) (HB1.out.trans (hb2.mono HB1.out.size))))
  clear hh hl he1 he2 hb2 HX
  go_wp2
  go_ret
  exact ⟨hexS T0 E0, rfl, by rw [HQ.out]; exact .inr ⟨H0.out, T0, E0, by rw [HXX.out]; exact HF.out.1, rfl⟩, Nat.le_trans HF.out.2.1 (by omega), HF.out.2.2⟩
theorem rtextHex1 (a : Nat) (ng : Bool) (prec mode : Int) (ha : (a : Int) < 2139095040) (w : World) :
  Calls Tryz.prog 52 #[.int .i64 1, .int .i64 a, .bool ng, .int .i64 4, .int .i64 prec, .int .i64 mode, .int .i64 24, .int .i64 (-126)] w fun r w' => TextPost w w' r (HexQ 1 a) := by
 have HV := hid (fun w => value_any 1 a w (by omega) (by show (a : Int) ≤ 2139095040; omega))
 have hm1 := mA_lt 23 a
 rw [show (2 : Nat) ^ 23 = 8388608 from by decide] at hm1
 have HQ : Hid (HexQ 1 a = fun T => (a = 0 ∧ T = [48, 120, 48, 112, 48]) ∨ (0 < a ∧ ∃ T0 E, HexText (mA 23 a) (-149 + (xA 23 a : Nat)) T0 E ∧ T = hexS T0 E)) := rfl
 obtain ⟨A, hA⟩ : ∃ A : Int, A = (a : Int) := ⟨_, rfl⟩
 rw [← hA] at HV ha ⊢
 rcases (by omega : a = 0 ∨ (0 < a ∧ a < 8388608) ∨ 8388608 ≤ a) with h0 | ⟨h0, h1⟩ | h1
 ·have hA0 : A = 0 := by omega
  subst hA0
  have H0 := hid h0
  clear hA h0 hm1
  go_enter Tryz.func52, Tryz.ntmps52
  go_wp2_with fail
  refine (HV.out _).mono ?_
  rintro r w1 ⟨hb1, v', L, e, rfl, hout⟩
  obtain ⟨ao, cp, hv⟩ := hout.row.isSlice
  subst hv
  obtain ⟨W1, hW1⟩ : ∃ W1, W1 = w1.alloc (.cells #[.slice ao L.length cp, .int .i64 e] 95) := ⟨_, rfl⟩
  have HB1 : Hid (Below w.heap.size w (w1.alloc (.cells #[.slice ao L.length cp, .int .i64 e] 95))) := hb1.alloc hb1.size _
  clear hb1 hout hW1 HV
  go_wp2
  go_ret
  exact ⟨[48, 120, 48, 112, 48], rfl, by rw [HQ.out]; exact .inl ⟨H0.out, rfl⟩, by simp, HB1.out⟩
 ·have hmm : ((mA 23 a : Nat) : Int) = A % 8388608 := by unfold mA; rw [show (2 : Nat) ^ 23 = 8388608 from by decide, if_pos (by omega)]; omega
  have hxx : (-149 : Int) + (xA 23 a : Nat) = -149 := by unfold xA; rw [show (2 : Nat) ^ 23 = 8388608 from by decide]; omega
  have HX : Hid (∀ w : World, Calls Tryz.prog 87 #[.int .i64 (A % 8388608), .int .i64 (-149), .int .i64 24] w fun r w' => ∃ s : ByteArray, r = .returned (.string s) ∧ ∃ (T : List UInt8) (E : Int), HexText (mA 23 a) (-149) T E ∧ s = str (hexS T E) ∧ T.length ≤ 13 ∧ -4000 ≤ E ∧ E ≤ 4000 ∧ Below w.heap.size w w') := fun w => by
   have := sixteenths1 (mA 23 a) (-149 + (xA 23 a : Nat)) w (mA_pos 23 a (by omega)) hm1 (by omega) (by omega)
   rw [hmm, hxx] at this; exact this
  have HXX := hid hxx
  have H0 := hid h0
  have q1 : A / 8388608 = 0 := by omega
  have q2 : (A == 0) = false := by rw [beq_eq_false_iff_ne]; omega
  have q3 : 0 < A := by omega
  have q4 : A < 8388608 := by omega
  clear hA h0 h1 hm1 hmm hxx
  go_enter Tryz.func52, Tryz.ntmps52
  go_wp2_with fail
  refine (HV.out _).mono ?_
  rintro r w1 ⟨hb1, v', L, e, rfl, hout⟩
  obtain ⟨ao, cp, hv⟩ := hout.row.isSlice
  subst hv
  obtain ⟨W1, hW1⟩ : ∃ W1, W1 = w1.alloc (.cells #[.slice ao L.length cp, .int .i64 e] 95) := ⟨_, rfl⟩
  have HB1 : Hid (Below w.heap.size w (w1.alloc (.cells #[.slice ao L.length cp, .int .i64 e] 95))) := hb1.alloc hb1.size _
  clear hb1 hout hW1 HV
  go_wp2_with fail
  refine (HX.out _).mono ?_
  rintro r w2 ⟨s, rfl, T0, E0, hh, rfl, hl, he1, he2, hb2⟩
  have HF := hid (And.intro hh (And.intro (hexS_length T0 E0 hl he1 he2) (HB1.out.trans (hb2.mono HB1.out.size))))
  clear hh hl he1 he2 hb2 HX
  go_wp2
  go_ret
  exact ⟨hexS T0 E0, rfl, by rw [HQ.out]; exact .inr ⟨H0.out, T0, E0, by rw [HXX.out]; exact HF.out.1, rfl⟩, Nat.le_trans HF.out.2.1 (by omega), HF.out.2.2⟩
 ·have hmm : ((mA 23 a : Nat) : Int) = A % 8388608 + 8388608 := by unfold mA; rw [show (2 : Nat) ^ 23 = 8388608 from by decide, if_neg (by omega)]; omega
  obtain ⟨k, hk⟩ : ∃ k : Int, k = A / 8388608 := ⟨_, rfl⟩
  have hxx : (-149 : Int) + (xA 23 a : Nat) = -149 + (k - 1) := by unfold xA; rw [show (2 : Nat) ^ 23 = 8388608 from by decide]; omega
  have HX : Hid (∀ w : World, Calls Tryz.prog 87 #[.int .i64 (A % 8388608 + 8388608), .int .i64 (-149 + (k - 1)), .int .i64 24] w fun r w' => ∃ s : ByteArray, r = .returned (.string s) ∧ ∃ (T : List UInt8) (E : Int), HexText (mA 23 a) (-149 + (k - 1)) T E ∧ s = str (hexS T E) ∧ T.length ≤ 13 ∧ -4000 ≤ E ∧ E ≤ 4000 ∧ Below w.heap.size w w') := fun w => by
   have := sixteenths1 (mA 23 a) (-149 + (xA 23 a : Nat)) w (mA_pos 23 a (by omega)) hm1 (by rw [hxx]; omega) (by rw [hxx]; omega)
   rw [hmm, hxx] at this; exact this
  have HXX := hid hxx
  have H0 : Hid (0 < a) := by unfold Hid; omega
  have q1 : A / 8388608 = k := hk.symm
  have q0 : 0 < k := by omega
  have q5 : k ≤ 2100 := by omega
  have q2 : (A == 0) = false := by rw [beq_eq_false_iff_ne]; omega
  have q3 : 0 < A := by omega
  clear hA h1 hm1 hmm hxx hk
  go_enter Tryz.func52, Tryz.ntmps52
  go_wp2_with fail
  refine (HV.out _).mono ?_
  rintro r w1 ⟨hb1, v', L, e, rfl, hout⟩
  obtain ⟨ao, cp, hv⟩ := hout.row.isSlice
  subst hv
  obtain ⟨W1, hW1⟩ : ∃ W1, W1 = w1.alloc (.cells #[.slice ao L.length cp, .int .i64 e] 95) := ⟨_, rfl⟩
  have HB1 : Hid (Below w.heap.size w (w1.alloc (.cells #[.slice ao L.length cp, .int .i64 e] 95))) := hb1.alloc hb1.size _
  clear hb1 hout hW1 HV
  go_wp2_with fail
  refine (HX.out _).mono ?_
  rintro r w2 ⟨s, rfl, T0, E0, hh, rfl, hl, he1, he2, hb2⟩
  have HF := hid (And.intro hh (And.intro (hexS_length T0 E0 hl he1 he2) (HB1.out.trans (hb2.mono HB1.out.size))))
  clear hh hl he1 he2 hb2 HX
  go_wp2
  go_ret
  exact ⟨hexS T0 E0, rfl, by rw [HQ.out]; exact .inr ⟨H0.out, T0, E0, by rw [HXX.out]; exact HF.out.1, rfl⟩, Nat.le_trans HF.out.2.1 (by omega), HF.out.2.2⟩
theorem rtextHex2 (a : Nat) (ng : Bool) (prec mode : Int) (ha : (a : Int) < 9218868437227405312) (w : World) :
  Calls Tryz.prog 52 #[.int .i64 2, .int .i64 a, .bool ng, .int .i64 4, .int .i64 prec, .int .i64 mode, .int .i64 53, .int .i64 (-1022)] w fun r w' => TextPost w w' r (HexQ 2 a) := by
 have HV := hid (fun w => value_any 2 a w (by omega) (by show (a : Int) ≤ 9218868437227405312; omega))
 have hm1 := mA_lt 52 a
 rw [show (2 : Nat) ^ 52 = 4503599627370496 from by decide] at hm1
 have HQ : Hid (HexQ 2 a = fun T => (a = 0 ∧ T = [48, 120, 48, 112, 48]) ∨ (0 < a ∧ ∃ T0 E, HexText (mA 52 a) (-1074 + (xA 52 a : Nat)) T0 E ∧ T = hexS T0 E)) := rfl
 obtain ⟨A, hA⟩ : ∃ A : Int, A = (a : Int) := ⟨_, rfl⟩
 rw [← hA] at HV ha ⊢
 rcases (by omega : a = 0 ∨ (0 < a ∧ a < 4503599627370496) ∨ 4503599627370496 ≤ a) with h0 | ⟨h0, h1⟩ | h1
 ·have hA0 : A = 0 := by omega
  subst hA0
  have H0 := hid h0
  clear hA h0 hm1
  go_enter Tryz.func52, Tryz.ntmps52
  go_wp2_with fail
  refine (HV.out _).mono ?_
  rintro r w1 ⟨hb1, v', L, e, rfl, hout⟩
  obtain ⟨ao, cp, hv⟩ := hout.row.isSlice
  subst hv
  obtain ⟨W1, hW1⟩ : ∃ W1, W1 = w1.alloc (.cells #[.slice ao L.length cp, .int .i64 e] 95) := ⟨_, rfl⟩
  have HB1 : Hid (Below w.heap.size w (w1.alloc (.cells #[.slice ao L.length cp, .int .i64 e] 95))) := hb1.alloc hb1.size _
  clear hb1 hout hW1 HV
  go_wp2
  go_ret
  exact ⟨[48, 120, 48, 112, 48], rfl, by rw [HQ.out]; exact .inl ⟨H0.out, rfl⟩, by simp, HB1.out⟩
 ·have hmm : ((mA 52 a : Nat) : Int) = A % 4503599627370496 := by unfold mA; rw [show (2 : Nat) ^ 52 = 4503599627370496 from by decide, if_pos (by omega)]; omega
  have hxx : (-1074 : Int) + (xA 52 a : Nat) = -1074 := by unfold xA; rw [show (2 : Nat) ^ 52 = 4503599627370496 from by decide]; omega
  have HX : Hid (∀ w : World, Calls Tryz.prog 87 #[.int .i64 (A % 4503599627370496), .int .i64 (-1074), .int .i64 53] w fun r w' => ∃ s : ByteArray, r = .returned (.string s) ∧ ∃ (T : List UInt8) (E : Int), HexText (mA 52 a) (-1074) T E ∧ s = str (hexS T E) ∧ T.length ≤ 13 ∧ -4000 ≤ E ∧ E ≤ 4000 ∧ Below w.heap.size w w') := fun w => by
   have := sixteenths2 (mA 52 a) (-1074 + (xA 52 a : Nat)) w (mA_pos 52 a (by omega)) hm1 (by omega) (by omega)
   rw [hmm, hxx] at this; exact this
  have HXX := hid hxx
  have H0 := hid h0
  have q1 : A / 4503599627370496 = 0 := by omega
  have q2 : (A == 0) = false := by rw [beq_eq_false_iff_ne]; omega
  have q3 : 0 < A := by omega
  have q4 : A < 4503599627370496 := by omega
  clear hA h0 h1 hm1 hmm hxx
  go_enter Tryz.func52, Tryz.ntmps52
  go_wp2_with fail
  refine (HV.out _).mono ?_
  rintro r w1 ⟨hb1, v', L, e, rfl, hout⟩
  obtain ⟨ao, cp, hv⟩ := hout.row.isSlice
  subst hv
  obtain ⟨W1, hW1⟩ : ∃ W1, W1 = w1.alloc (.cells #[.slice ao L.length cp, .int .i64 e] 95) := ⟨_, rfl⟩
  have HB1 : Hid (Below w.heap.size w (w1.alloc (.cells #[.slice ao L.length cp, .int .i64 e] 95))) := hb1.alloc hb1.size _
  clear hb1 hout hW1 HV
  go_wp2_with fail
  refine (HX.out _).mono ?_
  rintro r w2 ⟨s, rfl, T0, E0, hh, rfl, hl, he1, he2, hb2⟩
  have HF := hid (And.intro hh (And.intro (hexS_length T0 E0 hl he1 he2) (HB1.out.trans (hb2.mono HB1.out.size))))
  clear hh hl he1 he2 hb2 HX
  go_wp2
  go_ret
  exact ⟨hexS T0 E0, rfl, by rw [HQ.out]; exact .inr ⟨H0.out, T0, E0, by rw [HXX.out]; exact HF.out.1, rfl⟩, Nat.le_trans HF.out.2.1 (by omega), HF.out.2.2⟩
 ·have hmm : ((mA 52 a : Nat) : Int) = A % 4503599627370496 + 4503599627370496 := by unfold mA; rw [show (2 : Nat) ^ 52 = 4503599627370496 from by decide, if_neg (by omega)]; omega
  obtain ⟨k, hk⟩ : ∃ k : Int, k = A / 4503599627370496 := ⟨_, rfl⟩
  have hxx : (-1074 : Int) + (xA 52 a : Nat) = -1074 + (k - 1) := by unfold xA; rw [show (2 : Nat) ^ 52 = 4503599627370496 from by decide]; omega
  have HX : Hid (∀ w : World, Calls Tryz.prog 87 #[.int .i64 (A % 4503599627370496 + 4503599627370496), .int .i64 (-1074 + (k - 1)), .int .i64 53] w fun r w' => ∃ s : ByteArray, r = .returned (.string s) ∧ ∃ (T : List UInt8) (E : Int), HexText (mA 52 a) (-1074 + (k - 1)) T E ∧ s = str (hexS T E) ∧ T.length ≤ 13 ∧ -4000 ≤ E ∧ E ≤ 4000 ∧ Below w.heap.size w w') := fun w => by
   have := sixteenths2 (mA 52 a) (-1074 + (xA 52 a : Nat)) w (mA_pos 52 a (by omega)) hm1 (by rw [hxx]; omega) (by rw [hxx]; omega)
   rw [hmm, hxx] at this; exact this
  have HXX := hid hxx
  have H0 : Hid (0 < a) := by unfold Hid; omega
  have q1 : A / 4503599627370496 = k := hk.symm
  have q0 : 0 < k := by omega
  have q5 : k ≤ 2100 := by omega
  have q2 : (A == 0) = false := by rw [beq_eq_false_iff_ne]; omega
  have q3 : 0 < A := by omega
  clear hA h1 hm1 hmm hxx hk
  go_enter Tryz.func52, Tryz.ntmps52
  go_wp2_with fail
  refine (HV.out _).mono ?_
  rintro r w1 ⟨hb1, v', L, e, rfl, hout⟩
  obtain ⟨ao, cp, hv⟩ := hout.row.isSlice
  subst hv
  obtain ⟨W1, hW1⟩ : ∃ W1, W1 = w1.alloc (.cells #[.slice ao L.length cp, .int .i64 e] 95) := ⟨_, rfl⟩
  have HB1 : Hid (Below w.heap.size w (w1.alloc (.cells #[.slice ao L.length cp, .int .i64 e] 95))) := hb1.alloc hb1.size _
  clear hb1 hout hW1 HV
  go_wp2_with fail
  refine (HX.out _).mono ?_
  rintro r w2 ⟨s, rfl, T0, E0, hh, rfl, hl, he1, he2, hb2⟩
  have HF := hid (And.intro hh (And.intro (hexS_length T0 E0 hl he1 he2) (HB1.out.trans (hb2.mono HB1.out.size))))
  clear hh hl he1 he2 hb2 HX
  go_wp2
  go_ret
  exact ⟨hexS T0 E0, rfl, by rw [HQ.out]; exact .inr ⟨H0.out, T0, E0, by rw [HXX.out]; exact HF.out.1, rfl⟩, Nat.le_trans HF.out.2.1 (by omega), HF.out.2.2⟩
end Go.Proofs.YtbkdaoicnobllabGreatDoor
