import Derived.Test.YtbkdaoicnobllabGreatDoorG29
import Derived.Test.YtbkdaoicnobllabGreatDoorG08

namespace Go.Proofs.YtbkdaoicnobllabGreatDoor
set_option maxRecDepth 100000
set_option maxHeartbeats 2000000
open Go.RowKit

def roundP (B N I mode : Int) (neg : Bool) (lo re pw : Int) : Int × Int :=
 if re = 0 then (lo, 0)
 else if awayB mode neg re (lo % 2 == 1) = true then (lo + 1, 1 + (if lo < N then 4 else 0) + (if B < pw ∨ lo + 1 = I then 2 else 0))
 else (lo, 1 + (if lo < N then 4 else 0) + (if B < pw ∨ lo = I then 2 else 0))
theorem restOf_bd (V U : Nat) : 0 ≤ restOf V U ∧ restOf V U ≤ 3 := by
 unfold restOf; split
 ·omega
 ·split
  ·omega
  ·split <;> omega
theorem lowPair_bd (F : Nat) (B N I : Int) (V U : Nat) (pw : Int) (hN : N = ((2 ^ F : Nat) : Int)) (hI : I = (2 * B + 1) * N) (hB : 1 ≤ B) (hVU : V < 2 * U) : 0 ≤ (lowPair F B N I V U pw).1 ∧ (lowPair F B N I V U pw).1 ≤ I - 1 ∧ 0 ≤ (lowPair F B N I V U pw).2 ∧ (lowPair F B N I V U pw).2 ≤ 3 := by
 have hN0 : 0 < 2 ^ F := Nat.pow_pos (by omega)
 have h3 : 3 * N ≤ I := by rw [hI]; exact Int.mul_le_mul_of_nonneg_right (by omega) (by omega)
 unfold lowPair
 by_cases hA : B < pw
 ·rw [if_pos hA]; show 0 ≤ I - 1 ∧ I - 1 ≤ I - 1 ∧ (0 : Int) ≤ 3 ∧ (3 : Int) ≤ 3; omega
 ·rw [if_neg hA]
  by_cases hC : pw < 1 - B
  ·rw [if_pos hC]
   by_cases hD : (F : Int) + 1 - (1 - B - pw) < 0
   ·rw [if_pos hD]; show (0 : Int) ≤ 0 ∧ 0 ≤ I - 1 ∧ (0 : Int) ≤ 1 ∧ (1 : Int) ≤ 3; omega
   ·rw [if_neg hD]
    have h1 := take_lt (c := ((F : Int) + 1 - (1 - B - pw)).toNat) hVU
    have h2 : 2 ^ ((F : Int) + 1 - (1 - B - pw)).toNat ≤ 2 ^ F := Nat.pow_le_pow_right (by omega) (by omega)
    have hb := restOf_bd (V * 2 ^ ((F : Int) + 1 - (1 - B - pw)).toNat % (2 * U)) U
    refine ⟨Int.natCast_nonneg _, ?_, hb.1, hb.2⟩
    show ((V * 2 ^ ((F : Int) + 1 - (1 - B - pw)).toNat / (2 * U) : Nat) : Int) ≤ I - 1
    omega
  ·rw [if_neg hC]
   have h1 : V * 2 ^ (F + 1) / (2 * U) < 2 ^ F * 2 := Nat.lt_of_lt_of_eq (take_lt (c := F + 1) hVU) (Nat.pow_succ ..)
   have hb := restOf_bd (V * 2 ^ (F + 1) % (2 * U)) U
   have h4 : 0 ≤ (pw - (1 - B)) * N := Int.mul_nonneg (by omega) (by omega)
   have h5 : (pw - (1 - B)) * N ≤ (2 * B - 1) * N := Int.mul_le_mul_of_nonneg_right (by omega) (by omega)
   have h6 : I = (2 * B - 1) * N + 2 * N := by rw [hI, ← Int.add_mul]; congr 1; omega
   refine ⟨?_, ?_, hb.1, hb.2⟩
   ·show (0 : Int) ≤ ((V * 2 ^ (F + 1) / (2 * U) : Nat) : Int) + (pw - (1 - B)) * N
    generalize V * 2 ^ (F + 1) / (2 * U) = q at *
    omega
   ·show ((V * 2 ^ (F + 1) / (2 * U) : Nat) : Int) + (pw - (1 - B)) * N ≤ I - 1
    generalize V * 2 ^ (F + 1) / (2 * U) = q at *
    omega

theorem amount0 (S : Nat → Prop) (p bo bu V U : Nat) (pw mode : Int) (neg : Bool) (w : World) (h : FracAt S w p bo bu V U pw 8000) (hVU : V < 2 * U) (hp1 : -110000000 ≤ pw) (hp2 : pw ≤ 110000000) :
  Calls Tryz.prog 43 #[.pointer (some ⟨p, 0, none⟩), layV 10 15 1024 31744 (32768), .bool neg, .int .i64 mode] w fun e w' => e = .returned (.tuple #[.int .i64 (roundP 15 1024 31744 mode neg (lowPair 10 15 1024 31744 V U pw).1 (lowPair 10 15 1024 31744 V U pw).2 pw).1, .int .i64 (roundP 15 1024 31744 mode neg (lowPair 10 15 1024 31744 V U pw).1 (lowPair 10 15 1024 31744 V U pw).2 pw).2]) ∧ Kept S w w' := by
 obtain ⟨w1, hw1⟩ : ∃ w1, w1 = w.alloc (.cells #[.int .i64 10, .int .i64 15, .int .i64 1024, .int .i64 31744, .int .i64 (32768)] 63) := ⟨_, rfl⟩
 have HF1 : Hid (FracAt (fun k => S k ∨ k = w.heap.size) w1 p bo bu V U pw 8000) := by rw [hw1]; exact h.alloc _
 have HK1 : Hid (Kept S w w1) := by rw [hw1]; exact Below.kept ((Below.refl _ _).alloc (Nat.le_refl _) _) (fun k hs => h.two.keep k (.inl hs))
 obtain ⟨b1, b2, b3, b4⟩ := lowPair_bd 10 15 1024 31744 V U pw (by decide) (by decide) (by decide) hVU
 have HV := hid hVU
 have l0 : w1.cell? ⟨w.heap.size, 0, none⟩ = some (.int .i64 10) := by rw [hw1]; simp [go_sem]
 have l1 : w1.cell? ⟨w.heap.size, 1, none⟩ = some (.int .i64 15) := by rw [hw1]; simp [go_sem]
 have l2 : w1.cell? ⟨w.heap.size, 2, none⟩ = some (.int .i64 1024) := by rw [hw1]; simp [go_sem]
 have l3 : w1.cell? ⟨w.heap.size, 3, none⟩ = some (.int .i64 31744) := by rw [hw1]; simp [go_sem]
 have l4 : w1.cell? ⟨w.heap.size, 4, none⟩ = some (.int .i64 (32768)) := by rw [hw1]; simp [go_sem]
 have HX : Hid (∀ n, Calls Tryz.prog 66 #[.pointer (some ⟨p, 0, none⟩)] (w1.drewN n) fun e w' => e = .returned (.int .i64 pw) ∧ w' = w1.drewN n) := fun n => power_any _ p bo bu V U 8000 pw _ (HF1.out.still ((Still.refl w1).drewN n))
 have HX2 : Hid (∀ n, Calls Tryz.prog 67 #[.pointer (some ⟨p, 0, none⟩), layV 10 15 1024 31744 (32768)] (w1.drewN n) fun e w' => e = .returned (.tuple #[.int .i64 (lowPair 10 15 1024 31744 V U pw).1, .int .i64 (lowPair 10 15 1024 31744 V U pw).2]) ∧ Kept (fun k => S k ∨ k = w.heap.size) (w1.drewN n) w') := fun n => lower0 _ p bo bu V U pw _ (HF1.out.still ((Still.refl w1).drewN n)) hVU hp1 hp2
 unfold layV at HX2
 have HW := hid hw1
 generalize (lowPair 10 15 1024 31744 V U pw).1 = lo at *
 generalize (lowPair 10 15 1024 31744 V U pw).2 = re at *
 clear h hVU hw1 HF1
 unfold layV
 go_enter Tryz.func43, Tryz.ntmps43
 go_wp2_with fail
 rw [← HW.out]
 go_quiet ((go_at_call 66; exact Calls.quiet_of_same (HX.out _)))
 have HX3 := hid (HX2.out nq)
 have hst := (Still.refl w1).drewN nq
 have n0 := (hst.cell _).trans l0
 have n1 := (hst.cell _).trans l1
 have n2 := (hst.cell _).trans l2
 have n3 := (hst.cell _).trans l3
 have n4 := (hst.cell _).trans l4
 have HK2 := hid (HK1.out.trans (show Kept S w1 (w1.drewN nq) from hst.turn _))
 clear HX HW HX2 HK1 l0 l1 l2 l3 l4 hst
 generalize w1.drewN nq = w2 at *
 go_wp2_with fail
 refine HX3.out.mono ?_
 rintro e w3 ⟨rfl, hk3⟩
 have m1 := hk3.cell n1 (.inr rfl)
 have m2 := hk3.cell n2 (.inr rfl)
 have m3 := hk3.cell n3 (.inr rfl)
 have HK3 := hid (HK2.out.trans (hk3.mono (fun k hs => .inl hs)))
 clear HX3 HK2 n0 n1 n2 n3 n4 hk3
 by_cases hr : re = 0
 ·have hl : Hid (roundP 15 1024 31744 mode neg lo re pw = (lo, 0)) := by unfold Hid roundP; rw [if_pos hr]
  subst hr
  go_wp2
  go_ret2
  exact ⟨by rw [hl.out]; rfl, HK3.out⟩
 ·have HU := hid (toUpper_any mode re neg (lo % 2 == 1) (by omega) b4 w3)
  obtain ⟨ub, hub⟩ : ∃ ub, awayB mode neg re (lo % 2 == 1) = ub := ⟨_, rfl⟩
  rw [hub] at HU
  have hrp : Hid (roundP 15 1024 31744 mode neg lo re pw = if ub = true then (lo + 1, 1 + (if lo < 1024 then 4 else 0) + (if 15 < pw ∨ lo + 1 = 31744 then 2 else 0)) else (lo, 1 + (if lo < 1024 then 4 else 0) + (if 15 < pw ∨ lo = 31744 then 2 else 0))) := by unfold Hid roundP; rw [if_neg hr, hub]
  clear hub
  by_cases hN : lo < 1024
  ·have HNN := hid hN
   go_wp2_with fail
   refine HU.out.mono ?_
   rintro e w4 ⟨rfl, rfl⟩
   clear HU
   cases ub
   ·by_cases hB : 15 < pw
    ·have hl : Hid (roundP 15 1024 31744 mode neg lo re pw = (lo, 7)) := by rw [Hid, hrp.out, if_pos HNN.out]; simp [hB]
     go_wp2
     all_goals (go_ret2; exact ⟨by rw [hl.out]; rfl, HK3.out⟩)
    ·have hI2 : ¬ lo = 31744 := by omega
     have hI3 : (lo == 31744) = false := by simp; omega
     have hB3 : decide (15 < pw) = false := decide_eq_false hB
     have hl : Hid (roundP 15 1024 31744 mode neg lo re pw = (lo, 5)) := by rw [Hid, hrp.out, if_pos HNN.out]; simp [hB, hI2]
     go_wp2
     all_goals (go_ret2; exact ⟨by rw [hl.out]; rfl, HK3.out⟩)
   ·by_cases hB : 15 < pw
    ·have hl : Hid (roundP 15 1024 31744 mode neg lo re pw = (lo + 1, 7)) := by rw [Hid, hrp.out, if_pos HNN.out]; simp [hB]
     go_wp2
     all_goals (go_ret2; exact ⟨by rw [hl.out]; rfl, HK3.out⟩)
    ·have hI2 : ¬ lo + 1 = 31744 := by omega
     have hI3 : (lo + 1 == 31744) = false := by simp; omega
     have hB3 : decide (15 < pw) = false := decide_eq_false hB
     have hl : Hid (roundP 15 1024 31744 mode neg lo re pw = (lo + 1, 5)) := by rw [Hid, hrp.out, if_pos HNN.out]; simp [hB, hI2]
     go_wp2
     all_goals (go_ret2; exact ⟨by rw [hl.out]; rfl, HK3.out⟩)
  ·have HNN := hid hN
   go_wp2_with fail
   refine HU.out.mono ?_
   rintro e w4 ⟨rfl, rfl⟩
   clear HU
   cases ub
   ·by_cases hB : 15 < pw
    ·have hl : Hid (roundP 15 1024 31744 mode neg lo re pw = (lo, 3)) := by rw [Hid, hrp.out, if_neg (Int.not_lt.2 HNN.out)]; simp [hB]
     go_wp2
     all_goals (go_ret2; exact ⟨by rw [hl.out]; rfl, HK3.out⟩)
    ·have hI2 : ¬ lo = 31744 := by omega
     have hI3 : (lo == 31744) = false := by simp; omega
     have hB3 : decide (15 < pw) = false := decide_eq_false hB
     have hl : Hid (roundP 15 1024 31744 mode neg lo re pw = (lo, 1)) := by rw [Hid, hrp.out, if_neg (Int.not_lt.2 HNN.out)]; simp [hB, hI2]
     go_wp2
     all_goals (go_ret2; exact ⟨by rw [hl.out]; rfl, HK3.out⟩)
   ·by_cases hB : 15 < pw
    ·have hl : Hid (roundP 15 1024 31744 mode neg lo re pw = (lo + 1, 3)) := by rw [Hid, hrp.out, if_neg (Int.not_lt.2 HNN.out)]; simp [hB]
     go_wp2
     all_goals (go_ret2; exact ⟨by rw [hl.out]; rfl, HK3.out⟩)
    ·by_cases hI : lo = 31743
     ·subst hI
      have hl : Hid (roundP 15 1024 31744 mode neg 31743 re pw = (31744, 3)) := by rw [Hid, hrp.out]; simp
      go_wp2
      all_goals (go_ret2; exact ⟨by rw [hl.out]; rfl, HK3.out⟩)
     ·have hI2 : ¬ lo + 1 = 31744 := by omega
      have hI3 : (lo + 1 == 31744) = false := by simp; omega
      have hB3 : decide (15 < pw) = false := decide_eq_false hB
      have hl : Hid (roundP 15 1024 31744 mode neg lo re pw = (lo + 1, 1)) := by rw [Hid, hrp.out, if_neg (Int.not_lt.2 HNN.out)]; simp [hB, hI2]
      go_wp2
      all_goals (go_ret2; exact ⟨by rw [hl.out]; rfl, HK3.out⟩)

theorem amount1 (S : Nat → Prop) (p bo bu V U : Nat) (pw mode : Int) (neg : Bool) (w : World) (h : FracAt S w p bo bu V U pw 8000) (hVU : V < 2 * U) (hp1 : -110000000 ≤ pw) (hp2 : pw ≤ 110000000) :
  Calls Tryz.prog 43 #[.pointer (some ⟨p, 0, none⟩), layV 23 127 8388608 2139095040 (2147483648), .bool neg, .int .i64 mode] w fun e w' => e = .returned (.tuple #[.int .i64 (roundP 127 8388608 2139095040 mode neg (lowPair 23 127 8388608 2139095040 V U pw).1 (lowPair 23 127 8388608 2139095040 V U pw).2 pw).1, .int .i64 (roundP 127 8388608 2139095040 mode neg (lowPair 23 127 8388608 2139095040 V U pw).1 (lowPair 23 127 8388608 2139095040 V U pw).2 pw).2]) ∧ Kept S w w' := by
 obtain ⟨w1, hw1⟩ : ∃ w1, w1 = w.alloc (.cells #[.int .i64 23, .int .i64 127, .int .i64 8388608, .int .i64 2139095040, .int .i64 (2147483648)] 63) := ⟨_, rfl⟩
 have HF1 : Hid (FracAt (fun k => S k ∨ k = w.heap.size) w1 p bo bu V U pw 8000) := by rw [hw1]; exact h.alloc _
 have HK1 : Hid (Kept S w w1) := by rw [hw1]; exact Below.kept ((Below.refl _ _).alloc (Nat.le_refl _) _) (fun k hs => h.two.keep k (.inl hs))
 obtain ⟨b1, b2, b3, b4⟩ := lowPair_bd 23 127 8388608 2139095040 V U pw (by decide) (by decide) (by decide) hVU
 have HV := hid hVU
 have l0 : w1.cell? ⟨w.heap.size, 0, none⟩ = some (.int .i64 23) := by rw [hw1]; simp [go_sem]
 have l1 : w1.cell? ⟨w.heap.size, 1, none⟩ = some (.int .i64 127) := by rw [hw1]; simp [go_sem]
 have l2 : w1.cell? ⟨w.heap.size, 2, none⟩ = some (.int .i64 8388608) := by rw [hw1]; simp [go_sem]
 have l3 : w1.cell? ⟨w.heap.size, 3, none⟩ = some (.int .i64 2139095040) := by rw [hw1]; simp [go_sem]
 have l4 : w1.cell? ⟨w.heap.size, 4, none⟩ = some (.int .i64 (2147483648)) := by rw [hw1]; simp [go_sem]
 have HX : Hid (∀ n, Calls Tryz.prog 66 #[.pointer (some ⟨p, 0, none⟩)] (w1.drewN n) fun e w' => e = .returned (.int .i64 pw) ∧ w' = w1.drewN n) := fun n => power_any _ p bo bu V U 8000 pw _ (HF1.out.still ((Still.refl w1).drewN n))
 have HX2 : Hid (∀ n, Calls Tryz.prog 67 #[.pointer (some ⟨p, 0, none⟩), layV 23 127 8388608 2139095040 (2147483648)] (w1.drewN n) fun e w' => e = .returned (.tuple #[.int .i64 (lowPair 23 127 8388608 2139095040 V U pw).1, .int .i64 (lowPair 23 127 8388608 2139095040 V U pw).2]) ∧ Kept (fun k => S k ∨ k = w.heap.size) (w1.drewN n) w') := fun n => lower1 _ p bo bu V U pw _ (HF1.out.still ((Still.refl w1).drewN n)) hVU hp1 hp2
 unfold layV at HX2
 have HW := hid hw1
 generalize (lowPair 23 127 8388608 2139095040 V U pw).1 = lo at *
 generalize (lowPair 23 127 8388608 2139095040 V U pw).2 = re at *
 clear h hVU hw1 HF1
 unfold layV
 go_enter Tryz.func43, Tryz.ntmps43
 go_wp2_with fail
 rw [← HW.out]
 go_quiet ((go_at_call 66; exact Calls.quiet_of_same (HX.out _)))
 have HX3 := hid (HX2.out nq)
 have hst := (Still.refl w1).drewN nq
 have n0 := (hst.cell _).trans l0
 have n1 := (hst.cell _).trans l1
 have n2 := (hst.cell _).trans l2
 have n3 := (hst.cell _).trans l3
 have n4 := (hst.cell _).trans l4
 have HK2 := hid (HK1.out.trans (show Kept S w1 (w1.drewN nq) from hst.turn _))
 clear HX HW HX2 HK1 l0 l1 l2 l3 l4 hst
 generalize w1.drewN nq = w2 at *
 go_wp2_with fail
 refine HX3.out.mono ?_
 rintro e w3 ⟨rfl, hk3⟩
 have m1 := hk3.cell n1 (.inr rfl)
 have m2 := hk3.cell n2 (.inr rfl)
 have m3 := hk3.cell n3 (.inr rfl)
 have HK3 := hid (HK2.out.trans (hk3.mono (fun k hs => .inl hs)))
 clear HX3 HK2 n0 n1 n2 n3 n4 hk3
 by_cases hr : re = 0
 ·have hl : Hid (roundP 127 8388608 2139095040 mode neg lo re pw = (lo, 0)) := by unfold Hid roundP; rw [if_pos hr]
  subst hr
  go_wp2
  go_ret2
  exact ⟨by rw [hl.out]; rfl, HK3.out⟩
 ·have HU := hid (toUpper_any mode re neg (lo % 2 == 1) (by omega) b4 w3)
  obtain ⟨ub, hub⟩ : ∃ ub, awayB mode neg re (lo % 2 == 1) = ub := ⟨_, rfl⟩
  rw [hub] at HU
  have hrp : Hid (roundP 127 8388608 2139095040 mode neg lo re pw = if ub = true then (lo + 1, 1 + (if lo < 8388608 then 4 else 0) + (if 127 < pw ∨ lo + 1 = 2139095040 then 2 else 0)) else (lo, 1 + (if lo < 8388608 then 4 else 0) + (if 127 < pw ∨ lo = 2139095040 then 2 else 0))) := by unfold Hid roundP; rw [if_neg hr, hub]
  clear hub
  by_cases hN : lo < 8388608
  ·have HNN := hid hN
   go_wp2_with fail
   refine HU.out.mono ?_
   rintro e w4 ⟨rfl, rfl⟩
   clear HU
   cases ub
   ·by_cases hB : 127 < pw
    ·have hl : Hid (roundP 127 8388608 2139095040 mode neg lo re pw = (lo, 7)) := by rw [Hid, hrp.out, if_pos HNN.out]; simp [hB]
     go_wp2
     all_goals (go_ret2; exact ⟨by rw [hl.out]; rfl, HK3.out⟩)
    ·have hI2 : ¬ lo = 2139095040 := by omega
     have hI3 : (lo == 2139095040) = false := by simp; omega
     have hB3 : decide (127 < pw) = false := decide_eq_false hB
     have hl : Hid (roundP 127 8388608 2139095040 mode neg lo re pw = (lo, 5)) := by rw [Hid, hrp.out, if_pos HNN.out]; simp [hB, hI2]
     go_wp2
     all_goals (go_ret2; exact ⟨by rw [hl.out]; rfl, HK3.out⟩)
   ·by_cases hB : 127 < pw
    ·have hl : Hid (roundP 127 8388608 2139095040 mode neg lo re pw = (lo + 1, 7)) := by rw [Hid, hrp.out, if_pos HNN.out]; simp [hB]
     go_wp2
     all_goals (go_ret2; exact ⟨by rw [hl.out]; rfl, HK3.out⟩)
    ·have hI2 : ¬ lo + 1 = 2139095040 := by omega
     have hI3 : (lo + 1 == 2139095040) = false := by simp; omega
     have hB3 : decide (127 < pw) = false := decide_eq_false hB
     have hl : Hid (roundP 127 8388608 2139095040 mode neg lo re pw = (lo + 1, 5)) := by rw [Hid, hrp.out, if_pos HNN.out]; simp [hB, hI2]
     go_wp2
     all_goals (go_ret2; exact ⟨by rw [hl.out]; rfl, HK3.out⟩)
  ·have HNN := hid hN
   go_wp2_with fail
   refine HU.out.mono ?_
   rintro e w4 ⟨rfl, rfl⟩
   clear HU
   cases ub
   ·by_cases hB : 127 < pw
    ·have hl : Hid (roundP 127 8388608 2139095040 mode neg lo re pw = (lo, 3)) := by rw [Hid, hrp.out, if_neg (Int.not_lt.2 HNN.out)]; simp [hB]
     go_wp2
     all_goals (go_ret2; exact ⟨by rw [hl.out]; rfl, HK3.out⟩)
    ·have hI2 : ¬ lo = 2139095040 := by omega
     have hI3 : (lo == 2139095040) = false := by simp; omega
     have hB3 : decide (127 < pw) = false := decide_eq_false hB
     have hl : Hid (roundP 127 8388608 2139095040 mode neg lo re pw = (lo, 1)) := by rw [Hid, hrp.out, if_neg (Int.not_lt.2 HNN.out)]; simp [hB, hI2]
     go_wp2
     all_goals (go_ret2; exact ⟨by rw [hl.out]; rfl, HK3.out⟩)
   ·by_cases hB : 127 < pw
    ·have hl : Hid (roundP 127 8388608 2139095040 mode neg lo re pw = (lo + 1, 3)) := by rw [Hid, hrp.out, if_neg (Int.not_lt.2 HNN.out)]; simp [hB]
     go_wp2
     all_goals (go_ret2; exact ⟨by rw [hl.out]; rfl, HK3.out⟩)
    ·by_cases hI : lo = 2139095039
     ·subst hI
      have hl : Hid (roundP 127 8388608 2139095040 mode neg 2139095039 re pw = (2139095040, 3)) := by rw [Hid, hrp.out]; simp
      go_wp2
      all_goals (go_ret2; exact ⟨by rw [hl.out]; rfl, HK3.out⟩)
     ·have hI2 : ¬ lo + 1 = 2139095040 := by omega
      have hI3 : (lo + 1 == 2139095040) = false := by simp; omega
      have hB3 : decide (127 < pw) = false := decide_eq_false hB
      have hl : Hid (roundP 127 8388608 2139095040 mode neg lo re pw = (lo + 1, 1)) := by rw [Hid, hrp.out, if_neg (Int.not_lt.2 HNN.out)]; simp [hB, hI2]
      go_wp2
      all_goals (go_ret2; exact ⟨by rw [hl.out]; rfl, HK3.out⟩)

theorem amount2 (S : Nat → Prop) (p bo bu V U : Nat) (pw mode : Int) (neg : Bool) (w : World) (h : FracAt S w p bo bu V U pw 8000) (hVU : V < 2 * U) (hp1 : -110000000 ≤ pw) (hp2 : pw ≤ 110000000) :
  Calls Tryz.prog 43 #[.pointer (some ⟨p, 0, none⟩), layV 52 1023 4503599627370496 9218868437227405312 (-9223372036854775808), .bool neg, .int .i64 mode] w fun e w' => e = .returned (.tuple #[.int .i64 (roundP 1023 4503599627370496 9218868437227405312 mode neg (lowPair 52 1023 4503599627370496 9218868437227405312 V U pw).1 (lowPair 52 1023 4503599627370496 9218868437227405312 V U pw).2 pw).1, .int .i64 (roundP 1023 4503599627370496 9218868437227405312 mode neg (lowPair 52 1023 4503599627370496 9218868437227405312 V U pw).1 (lowPair 52 1023 4503599627370496 9218868437227405312 V U pw).2 pw).2]) ∧ Kept S w w' := by
 obtain ⟨w1, hw1⟩ : ∃ w1, w1 = w.alloc (.cells #[.int .i64 52, .int .i64 1023, .int .i64 4503599627370496, .int .i64 9218868437227405312, .int .i64 (-9223372036854775808)] 63) := ⟨_, rfl⟩
 have HF1 : Hid (FracAt (fun k => S k ∨ k = w.heap.size) w1 p bo bu V U pw 8000) := by rw [hw1]; exact h.alloc _
 have HK1 : Hid (Kept S w w1) := by rw [hw1]; exact Below.kept ((Below.refl _ _).alloc (Nat.le_refl _) _) (fun k hs => h.two.keep k (.inl hs))
 obtain ⟨b1, b2, b3, b4⟩ := lowPair_bd 52 1023 4503599627370496 9218868437227405312 V U pw (by decide) (by decide) (by decide) hVU
 have HV := hid hVU
 have l0 : w1.cell? ⟨w.heap.size, 0, none⟩ = some (.int .i64 52) := by rw [hw1]; simp [go_sem]
 have l1 : w1.cell? ⟨w.heap.size, 1, none⟩ = some (.int .i64 1023) := by rw [hw1]; simp [go_sem]
 have l2 : w1.cell? ⟨w.heap.size, 2, none⟩ = some (.int .i64 4503599627370496) := by rw [hw1]; simp [go_sem]
 have l3 : w1.cell? ⟨w.heap.size, 3, none⟩ = some (.int .i64 9218868437227405312) := by rw [hw1]; simp [go_sem]
 have l4 : w1.cell? ⟨w.heap.size, 4, none⟩ = some (.int .i64 (-9223372036854775808)) := by rw [hw1]; simp [go_sem]
 have HX : Hid (∀ n, Calls Tryz.prog 66 #[.pointer (some ⟨p, 0, none⟩)] (w1.drewN n) fun e w' => e = .returned (.int .i64 pw) ∧ w' = w1.drewN n) := fun n => power_any _ p bo bu V U 8000 pw _ (HF1.out.still ((Still.refl w1).drewN n))
 have HX2 : Hid (∀ n, Calls Tryz.prog 67 #[.pointer (some ⟨p, 0, none⟩), layV 52 1023 4503599627370496 9218868437227405312 (-9223372036854775808)] (w1.drewN n) fun e w' => e = .returned (.tuple #[.int .i64 (lowPair 52 1023 4503599627370496 9218868437227405312 V U pw).1, .int .i64 (lowPair 52 1023 4503599627370496 9218868437227405312 V U pw).2]) ∧ Kept (fun k => S k ∨ k = w.heap.size) (w1.drewN n) w') := fun n => lower2 _ p bo bu V U pw _ (HF1.out.still ((Still.refl w1).drewN n)) hVU hp1 hp2
 unfold layV at HX2
 have HW := hid hw1
 generalize (lowPair 52 1023 4503599627370496 9218868437227405312 V U pw).1 = lo at *
 generalize (lowPair 52 1023 4503599627370496 9218868437227405312 V U pw).2 = re at *
 clear h hVU hw1 HF1
 unfold layV
 go_enter Tryz.func43, Tryz.ntmps43
 go_wp2_with fail
 rw [← HW.out]
 go_quiet ((go_at_call 66; exact Calls.quiet_of_same (HX.out _)))
 have HX3 := hid (HX2.out nq)
 have hst := (Still.refl w1).drewN nq
 have n0 := (hst.cell _).trans l0
 have n1 := (hst.cell _).trans l1
 have n2 := (hst.cell _).trans l2
 have n3 := (hst.cell _).trans l3
 have n4 := (hst.cell _).trans l4
 have HK2 := hid (HK1.out.trans (show Kept S w1 (w1.drewN nq) from hst.turn _))
 clear HX HW HX2 HK1 l0 l1 l2 l3 l4 hst
 generalize w1.drewN nq = w2 at *
 go_wp2_with fail
 refine HX3.out.mono ?_
 rintro e w3 ⟨rfl, hk3⟩
 have m1 := hk3.cell n1 (.inr rfl)
 have m2 := hk3.cell n2 (.inr rfl)
 have m3 := hk3.cell n3 (.inr rfl)
 have HK3 := hid (HK2.out.trans (hk3.mono (fun k hs => .inl hs)))
 clear HX3 HK2 n0 n1 n2 n3 n4 hk3
 by_cases hr : re = 0
 ·have hl : Hid (roundP 1023 4503599627370496 9218868437227405312 mode neg lo re pw = (lo, 0)) := by unfold Hid roundP; rw [if_pos hr]
  subst hr
  go_wp2
  go_ret2
  exact ⟨by rw [hl.out]; rfl, HK3.out⟩
 ·have HU := hid (toUpper_any mode re neg (lo % 2 == 1) (by omega) b4 w3)
  obtain ⟨ub, hub⟩ : ∃ ub, awayB mode neg re (lo % 2 == 1) = ub := ⟨_, rfl⟩
  rw [hub] at HU
  have hrp : Hid (roundP 1023 4503599627370496 9218868437227405312 mode neg lo re pw = if ub = true then (lo + 1, 1 + (if lo < 4503599627370496 then 4 else 0) + (if 1023 < pw ∨ lo + 1 = 9218868437227405312 then 2 else 0)) else (lo, 1 + (if lo < 4503599627370496 then 4 else 0) + (if 1023 < pw ∨ lo = 9218868437227405312 then 2 else 0))) := by unfold Hid roundP; rw [if_neg hr, hub]
  clear hub
  by_cases hN : lo < 4503599627370496
  ·have HNN := hid hN
   go_wp2_with fail
   refine HU.out.mono ?_
   rintro e w4 ⟨rfl, rfl⟩
   clear HU
   cases ub
   ·by_cases hB : 1023 < pw
    ·have hl : Hid (roundP 1023 4503599627370496 9218868437227405312 mode neg lo re pw = (lo, 7)) := by rw [Hid, hrp.out, if_pos HNN.out]; simp [hB]
     go_wp2
     all_goals (go_ret2; exact ⟨by rw [hl.out]; rfl, HK3.out⟩)
    ·have hI2 : ¬ lo = 9218868437227405312 := by omega
     have hI3 : (lo == 9218868437227405312) = false := by simp; omega
     have hB3 : decide (1023 < pw) = false := decide_eq_false hB
     have hl : Hid (roundP 1023 4503599627370496 9218868437227405312 mode neg lo re pw = (lo, 5)) := by rw [Hid, hrp.out, if_pos HNN.out]; simp [hB, hI2]
     go_wp2
     all_goals (go_ret2; exact ⟨by rw [hl.out]; rfl, HK3.out⟩)
   ·by_cases hB : 1023 < pw
    ·have hl : Hid (roundP 1023 4503599627370496 9218868437227405312 mode neg lo re pw = (lo + 1, 7)) := by rw [Hid, hrp.out, if_pos HNN.out]; simp [hB]
     go_wp2
     all_goals (go_ret2; exact ⟨by rw [hl.out]; rfl, HK3.out⟩)
    ·have hI2 : ¬ lo + 1 = 9218868437227405312 := by omega
     have hI3 : (lo + 1 == 9218868437227405312) = false := by simp; omega
     have hB3 : decide (1023 < pw) = false := decide_eq_false hB
     have hl : Hid (roundP 1023 4503599627370496 9218868437227405312 mode neg lo re pw = (lo + 1, 5)) := by rw [Hid, hrp.out, if_pos HNN.out]; simp [hB, hI2]
     go_wp2
     all_goals (go_ret2; exact ⟨by rw [hl.out]; rfl, HK3.out⟩)
  ·have HNN := hid hN
   go_wp2_with fail
   refine HU.out.mono ?_
   rintro e w4 ⟨rfl, rfl⟩
   clear HU
   cases ub
   ·by_cases hB : 1023 < pw
    ·have hl : Hid (roundP 1023 4503599627370496 9218868437227405312 mode neg lo re pw = (lo, 3)) := by rw [Hid, hrp.out, if_neg (Int.not_lt.2 HNN.out)]; simp [hB]
     go_wp2
     all_goals (go_ret2; exact ⟨by rw [hl.out]; rfl, HK3.out⟩)
    ·have hI2 : ¬ lo = 9218868437227405312 := by omega
     have hI3 : (lo == 9218868437227405312) = false := by simp; omega
     have hB3 : decide (1023 < pw) = false := decide_eq_false hB
     have hl : Hid (roundP 1023 4503599627370496 9218868437227405312 mode neg lo re pw = (lo, 1)) := by rw [Hid, hrp.out, if_neg (Int.not_lt.2 HNN.out)]; simp [hB, hI2]
     go_wp2
     all_goals (go_ret2; exact ⟨by rw [hl.out]; rfl, HK3.out⟩)
   ·by_cases hB : 1023 < pw
    ·have hl : Hid (roundP 1023 4503599627370496 9218868437227405312 mode neg lo re pw = (lo + 1, 3)) := by rw [Hid, hrp.out, if_neg (Int.not_lt.2 HNN.out)]; simp [hB]
     go_wp2
     all_goals (go_ret2; exact ⟨by rw [hl.out]; rfl, HK3.out⟩)
    ·by_cases hI : lo = 9218868437227405311
     ·subst hI
      have hl : Hid (roundP 1023 4503599627370496 9218868437227405312 mode neg 9218868437227405311 re pw = (9218868437227405312, 3)) := by rw [Hid, hrp.out]; simp
      go_wp2
      all_goals (go_ret2; exact ⟨by rw [hl.out]; rfl, HK3.out⟩)
     ·have hI2 : ¬ lo + 1 = 9218868437227405312 := by omega
      have hI3 : (lo + 1 == 9218868437227405312) = false := by simp; omega
      have hB3 : decide (1023 < pw) = false := decide_eq_false hB
      have hl : Hid (roundP 1023 4503599627370496 9218868437227405312 mode neg lo re pw = (lo + 1, 1)) := by rw [Hid, hrp.out, if_neg (Int.not_lt.2 HNN.out)]; simp [hB, hI2]
      go_wp2
      all_goals (go_ret2; exact ⟨by rw [hl.out]; rfl, HK3.out⟩)

end Go.Proofs.YtbkdaoicnobllabGreatDoor

namespace Go.Proofs.YtbkdaoicnobllabGreatDoor

theorem RoundSpec.one {K : Nat} {f mode : Int} {neg : Bool} {X : Nat} {r fl r' fl' : Int} (hK : 1100 ≤ K) (h : RoundSpec K f mode neg X r fl) (h' : RoundSpec K f mode neg X r' fl') : r = r' ∧ fl = fl' := by
 rcases h with ⟨h0, h1, h2⟩ | ⟨h0, h1, h2, h3⟩ | ⟨h0, h1, a, ha, h2, h3, h4⟩
 ·rcases h' with ⟨g0, g1, g2⟩ | ⟨g0, _⟩ | ⟨g0, _⟩
  ·rw [h1, h2, g1, g2]; exact ⟨rfl, rfl⟩
  ·omega
  ·omega
 ·rcases h' with ⟨g0, g1, g2⟩ | ⟨g0, g1, g2, g3⟩ | ⟨g0, g1, _⟩
  ·omega
  ·rw [h2, h3, g2, g3]; exact ⟨rfl, rfl⟩
  ·omega
 ·rcases h' with ⟨g0, g1, g2⟩ | ⟨g0, g1, g2, g3⟩ | ⟨g0, g1, b, gb, g2, g3, g4⟩
  ·omega
  ·omega
  ·have hab := valA_one hK h2 h3 g2 g3
   subst hab
   rcases h4 with ⟨h4, h5, h6⟩ | ⟨h4, h5, h6⟩
   ·rcases g4 with ⟨g4, g5, g6⟩ | ⟨g4, g5, g6⟩
    ·rw [h5, h6, g5, g6]; exact ⟨rfl, rfl⟩
    ·exact absurd h4 g4
   ·rcases g4 with ⟨g4, g5, g6⟩ | ⟨g4, g5, g6⟩
    ·exact absurd g4 h4
    ·have e : r = r' := h5.trans g5.symm
     rw [h6, g6, e]; exact ⟨rfl, rfl⟩

theorem valA_low {K : Nat} {f : Int} (hf : Fmt f) (hK : 1100 ≤ K) : valA K f (2 ^ fQ f) = two K (fLow f) := by
 have h := valA_at K f 0 (2 ^ fQ f) (Nat.le_refl _) hK
 rw [Nat.zero_mul, Nat.zero_add, if_pos rfl] at h
 have hb := hf.b2
 have hq := hf.q
 rw [h, ← two_mul K _ (by rw [hf.e]; omega), hf.e, hf.low]
 congr 1; omega
theorem infN_eq {f : Int} (hf : Fmt f) : infN f = (2 * fB f + 1).toNat * 2 ^ fQ f := by
 have h := hf.i
 have hb := hf.b1
 have e : (2 * fB f + 1) = (((2 * fB f + 1).toNat : Nat) : Int) := by omega
 rw [e] at h
 exact_mod_cast h
theorem valA_inf {K : Nat} {f : Int} (hf : Fmt f) (hK : 1100 ≤ K) : valA K f (infN f) = two K (fB f + 1) := by
 have h := valA_at K f (2 * fB f + 1).toNat 0 (Nat.zero_le _) hK
 have hb := hf.b1
 have hb2 := hf.b2
 have hq := hf.q
 rw [Nat.add_zero, ← infN_eq hf, if_neg (by omega), Nat.add_zero, ← two_mul K _ (by rw [hf.e]; omega), hf.e] at h
 rw [h]; congr 1; omega

theorem round_fill {K : Nat} {f mode : Int} {neg : Bool} {X A : Nat} {re pw : Int} (hf : Fmt f) (hK : 1100 ≤ K) (hX : 0 < X) (hA : A < infN f) (h1 : valA K f A ≤ X) (h2 : X < valA K f (A + 1)) (h3 : X = valA K f A ↔ re = 0)
  (h4 : re ≠ 0 → cmpN (X * 2) (valA K f A + valA K f (A + 1)) + 2 = re) (hp : pw ≤ fB f) :
  RoundSpec K f mode neg X (roundP (fB f) ((2 ^ fQ f : Nat) : Int) (infN f) mode neg A re pw).1 (roundP (fB f) ((2 ^ fQ f : Nat) : Int) (infN f) mode neg A re pw).2 := by
 have hlow : X < two K (fLow f) ↔ A < 2 ^ fQ f := by
  rw [← valA_low hf hK]
  constructor
  ·intro h
   rcases Nat.lt_or_ge A (2 ^ fQ f) with g | g
   ·exact g
   ·have := valA_mono K f hK g; omega
  ·intro h
   have := valA_mono K f hK (show A + 1 ≤ 2 ^ fQ f from h); omega
 have hinf : X < valA K f (infN f) := by have := valA_mono K f hK (show A + 1 ≤ infN f from hA); omega
 refine .inr (.inr ⟨hX, hinf, A, hA, h1, h2, ?_⟩)
 unfold roundP
 have hodd : ((A : Int) % 2 == 1) = (A % 2 == 1) := by
  rw [Bool.eq_iff_iff]; simp; omega
 by_cases hr : re = 0
 ·rw [if_pos hr]; exact .inl ⟨h3.2 hr, rfl, rfl⟩
 ·rw [if_neg hr]
  refine .inr ⟨fun h => hr (h3.1 h), ?_⟩
  rw [h4 hr, hodd]
  by_cases hc : awayB mode neg re (A % 2 == 1) = true
  ·rw [if_pos hc, if_pos hc]
   refine ⟨rfl, ?_⟩
   show 1 + (if (A : Int) < ((2 ^ fQ f : Nat) : Int) then 4 else 0) + (if fB f < pw ∨ (A : Int) + 1 = infN f then 2 else 0) = 1 + (if X < two K (fLow f) then 4 else 0) + (if (A : Int) + 1 = infN f then 2 else 0)
   congr 1
   ·congr 1
    by_cases hl : X < two K (fLow f)
    ·rw [if_pos hl, if_pos (by have := hlow.1 hl; exact_mod_cast this)]
    ·rw [if_neg hl, if_neg (fun h => hl (hlow.2 (by exact_mod_cast h)))]
   ·by_cases hl : (A : Int) + 1 = infN f
    ·rw [if_pos hl, if_pos (.inr hl)]
    ·rw [if_neg hl, if_neg (by omega)]
  ·rw [if_neg hc, if_neg hc]
   refine ⟨rfl, ?_⟩
   show 1 + (if (A : Int) < ((2 ^ fQ f : Nat) : Int) then 4 else 0) + (if fB f < pw ∨ (A : Int) = infN f then 2 else 0) = 1 + (if X < two K (fLow f) then 4 else 0) + (if (A : Int) = infN f then 2 else 0)
   congr 1
   ·congr 1
    by_cases hl : X < two K (fLow f)
    ·rw [if_pos hl, if_pos (by have := hlow.1 hl; exact_mod_cast this)]
    ·rw [if_neg hl, if_neg (fun h => hl (hlow.2 (by exact_mod_cast h)))]
   ·by_cases hl : (A : Int) = infN f
    ·rw [if_pos hl, if_pos (.inr hl)]
    ·rw [if_neg hl, if_neg (by omega)]
theorem round_beyond {K : Nat} {f mode : Int} {neg : Bool} {X V U : Nat} {pw : Int} (hf : Fmt f) (hX : 0 < X) (h : valA K f (infN f) ≤ X) (hp : fB f < pw) :
  RoundSpec K f mode neg X (roundP (fB f) ((2 ^ fQ f : Nat) : Int) (infN f) mode neg (lowPair (fQ f) (fB f) ((2 ^ fQ f : Nat) : Int) (infN f) V U pw).1 (lowPair (fQ f) (fB f) ((2 ^ fQ f : Nat) : Int) (infN f) V U pw).2 pw).1
   (roundP (fB f) ((2 ^ fQ f : Nat) : Int) (infN f) mode neg (lowPair (fQ f) (fB f) ((2 ^ fQ f : Nat) : Int) (infN f) V U pw).1 (lowPair (fQ f) (fB f) ((2 ^ fQ f : Nat) : Int) (infN f) V U pw).2 pw).2 := by
 refine .inr (.inl ⟨hX, h, ?_⟩)
 unfold lowPair
 rw [if_pos hp]
 unfold roundP
 rw [if_neg (show ¬ (3 : Int) = 0 by decide)]
 have hodd : (((infN f : Int) - 1) % 2 == 1) = true := by rw [hf.odd]; rfl
 have hi := hf.i
 have hb := hf.b1
 have hN : (0 : Int) < ((2 ^ fQ f : Nat) : Int) := by have : 0 < 2 ^ fQ f := Nat.pow_pos (by omega); omega
 have hle : (2 * fB f + 1) * ((2 ^ fQ f : Nat) : Int) ≥ 3 * ((2 ^ fQ f : Nat) : Int) := Int.mul_le_mul_of_nonneg_right (by omega) (by omega)
 rw [hodd]
 by_cases hc : awayB mode neg 3 true = true
 ·rw [if_pos hc, if_pos hc]
  refine ⟨?_, by show (infN f : Int) - 1 + 1 = infN f; omega⟩
  show 1 + (if (infN f : Int) - 1 < ((2 ^ fQ f : Nat) : Int) then (4 : Int) else 0) + (if fB f < pw ∨ (infN f : Int) - 1 + 1 = infN f then 2 else 0) = 3
  rw [if_neg (by omega), if_pos (.inl hp)]; rfl
 ·rw [if_neg hc, if_neg hc]
  refine ⟨?_, rfl⟩
  show 1 + (if (infN f : Int) - 1 < ((2 ^ fQ f : Nat) : Int) then (4 : Int) else 0) + (if fB f < pw ∨ (infN f : Int) - 1 = infN f then 2 else 0) = 3
  rw [if_neg (by omega), if_pos (.inl hp)]; rfl
theorem round_tiny {K : Nat} {f mode : Int} {neg : Bool} {X V U : Nat} {pw : Int} (hf : Fmt f) (hK : 1100 ≤ K) (hX : 0 < X) (h : X * 2 < valA K f 1) (hp : pw < -fB f - fQ f) :
  RoundSpec K f mode neg X (roundP (fB f) ((2 ^ fQ f : Nat) : Int) (infN f) mode neg (lowPair (fQ f) (fB f) ((2 ^ fQ f : Nat) : Int) (infN f) V U pw).1 (lowPair (fQ f) (fB f) ((2 ^ fQ f : Nat) : Int) (infN f) V U pw).2 pw).1
   (roundP (fB f) ((2 ^ fQ f : Nat) : Int) (infN f) mode neg (lowPair (fQ f) (fB f) ((2 ^ fQ f : Nat) : Int) (infN f) V U pw).1 (lowPair (fQ f) (fB f) ((2 ^ fQ f : Nat) : Int) (infN f) V U pw).2 pw).2 := by
 have hb := hf.b1
 have hi : 0 < infN f := by rw [infN_eq hf]; exact Nat.mul_pos (by omega) (Nat.pow_pos (by omega))
 have e : lowPair (fQ f) (fB f) ((2 ^ fQ f : Nat) : Int) (infN f) V U pw = (0, 1) := by
  unfold lowPair; rw [if_neg (by omega), if_pos (by omega), if_pos (by omega)]
 rw [e]
 have hz := valA_zero K f
 exact round_fill (A := 0) (re := 1) hf hK hX hi (by omega) (by rw [Nat.zero_add]; omega) (by rw [hz]; omega) (fun _ => by rw [hz, cmpN_lt (by rw [Nat.zero_add, Nat.zero_add]; omega)]; rfl) (by omega)

theorem cell_of {g m U T X A1 A2 : Nat} (hg : 0 < g) (hU : 0 < U) (hX : X * (2 * U) = g * T) (hm : m = T / (2 * U)) (h1 : A1 = g * m) (h2 : A2 = g * (m + 1)) :
  A1 ≤ X ∧ X < A2 ∧ (X = A1 ↔ restOf (T % (2 * U)) U = 0) ∧ (restOf (T % (2 * U)) U ≠ 0 → cmpN (X * 2) (A1 + A2) + 2 = restOf (T % (2 * U)) U) := by
 have hd : 2 * U * m + T % (2 * U) = T := by rw [hm]; exact Nat.div_add_mod T (2 * U)
 have hr : T % (2 * U) < 2 * U := Nat.mod_lt _ (by omega)
 generalize T % (2 * U) = r at *
 subst h1 h2
 have hU2 : 0 < 2 * U := by omega
 have e1 : X * (2 * U) = g * m * (2 * U) + g * r := by rw [hX, ← hd, Nat.mul_add]; congr 1; grind
 have e2 : g * (m + 1) * (2 * U) = g * m * (2 * U) + g * (2 * U) := by grind
 have l1 : g * r < g * (2 * U) := Nat.mul_lt_mul_of_pos_left hr hg
 refine ⟨Nat.le_of_mul_le_mul_right (by rw [e1]; omega) hU2, Nat.lt_of_mul_lt_mul_right (a := 2 * U) (by rw [e1, e2]; omega), ?_, ?_⟩
 ·unfold restOf
  constructor
  ·intro h
   have h0 : g * r = 0 := by rw [h] at e1; omega
   rcases Nat.mul_eq_zero.1 h0 with h0 | h0
   ·omega
   ·rw [if_pos h0]
  ·intro h
   by_cases hr0 : r = 0
   ·rw [hr0, Nat.mul_zero, Nat.add_zero] at e1
    exact Nat.eq_of_mul_eq_mul_right hU2 e1
   ·rw [if_neg hr0] at h
    split at h
    ·omega
    ·split at h <;> omega
 ·intro h
  unfold restOf at h ⊢
  have e3 : (X * 2) * (2 * U) = (g * m + g * m) * (2 * U) + 2 * (g * r) := by grind
  have e4 : (g * m + g * (m + 1)) * (2 * U) = (g * m + g * m) * (2 * U) + 2 * (g * U) := by grind
  by_cases hr0 : r = 0
  ·rw [if_pos hr0] at h; omega
  ·rw [if_neg hr0]
   by_cases hlt : r < U
   ·rw [if_pos hlt, cmpN_lt]
    ·rfl
    ·have l2 : g * r < g * U := Nat.mul_lt_mul_of_pos_left hlt hg
     exact Nat.lt_of_mul_lt_mul_right (a := 2 * U) (by rw [e3, e4]; omega)
   ·rw [if_neg hlt]
    by_cases heq : r = U
    ·rw [if_pos heq, cmpN_eq]
     ·rfl
     ·rw [heq] at e3; exact Nat.eq_of_mul_eq_mul_right hU2 (by rw [e3, e4])
    ·rw [if_neg heq, cmpN_gt]
     ·rfl
     ·have l2 : g * U < g * r := Nat.mul_lt_mul_of_pos_left (by omega) hg
      exact Nat.lt_of_mul_lt_mul_right (a := 2 * U) (by rw [e3, e4]; omega)
structure Cell (K : Nat) (f : Int) (V U : Nat) (pw : Int) (A g m T : Nat) (re : Int) : Prop where
 pos : 0 < g
 lt : A < infN f
 a1 : valA K f A = g * m
 a2 : valA K f (A + 1) = g * (m + 1)
 low : lowPair (fQ f) (fB f) ((2 ^ fQ f : Nat) : Int) (infN f) V U pw = ((A : Int), re)
 m : m = T / (2 * U)
 re : re = restOf (T % (2 * U)) U
 eq : ∀ X : Nat, X * U = V * two K pw → X * (2 * U) = g * T
theorem cell_sub {K : Nat} {f : Int} {V U : Nat} {pw : Int} (hf : Fmt f) (hK : 2500 ≤ K) (hVU : V < 2 * U) (h1 : pw < 1 - fB f) (h2 : -fB f - fQ f ≤ pw) :
  ∃ A m T re, Cell K f V U pw A (two K (fE f)) m T re := by
 have hb := hf.b1
 have hb2 := hf.b2
 have hq := hf.q
 have he := hf.e
 obtain ⟨c, hc⟩ : ∃ c : Nat, c = ((fQ f : Int) + 1 - (1 - fB f - pw)).toNat := ⟨_, rfl⟩
 have hci : (c : Int) = (fQ f : Int) + 1 - (1 - fB f - pw) := by omega
 have hm := take_lt (c := c) hVU
 have hcq : 2 ^ c ≤ 2 ^ fQ f := Nat.pow_le_pow_right (by omega) (by omega)
 have hpN : 0 < 2 ^ fQ f := Nat.pow_pos (by omega)
 refine ⟨V * 2 ^ c / (2 * U), V * 2 ^ c / (2 * U), V * 2 ^ c, _, two_pos _ _, ?_, ?_, ?_, ?_, rfl, rfl, ?_⟩
 ·rw [infN_eq hf]
  have : 1 * 2 ^ fQ f ≤ (2 * fB f + 1).toNat * 2 ^ fQ f := Nat.mul_le_mul_right _ (by omega)
  omega
 ·have h := valA_at K f 0 (V * 2 ^ c / (2 * U)) (by omega) (by omega)
  rw [Nat.zero_mul, Nat.zero_add, if_pos rfl] at h; exact h
 ·have h := valA_at K f 0 (V * 2 ^ c / (2 * U) + 1) (by omega) (by omega)
  rw [Nat.zero_mul, Nat.zero_add, if_pos rfl] at h; exact h
 ·unfold lowPair; rw [if_neg (by omega), if_pos h1, if_neg (by omega), ← hc]
 ·intro X hX
  have e1 : two K pw * 2 = two K (fE f) * 2 ^ c := by
   have e2 := two_mul K pw (by omega) 1
   rw [Nat.pow_one] at e2
   rw [← e2, ← two_mul K _ (by omega)]
   congr 1; omega
  rw [Nat.mul_left_comm, hX, Nat.mul_left_comm, Nat.mul_comm 2, e1, Nat.mul_left_comm]
theorem cell_nrm {K : Nat} {f : Int} {V U : Nat} {pw : Int} (hf : Fmt f) (hK : 2500 ≤ K) (hUV : U ≤ V) (hVU : V < 2 * U) (h1 : 1 - fB f ≤ pw) (h2 : pw ≤ fB f) :
  ∃ A m T re, Cell K f V U pw A (two K (pw - fQ f)) m T re := by
 have hb := hf.b1
 have hb2 := hf.b2
 have hq := hf.q
 have he := hf.e
 have hU : 0 < U := by omega
 have hpN : 0 < 2 ^ fQ f := Nat.pow_pos (by omega)
 have hm := take_lt (c := fQ f + 1) hVU
 have hm2 : 2 ^ fQ f ≤ V * 2 ^ (fQ f + 1) / (2 * U) := by
  rw [Nat.le_div_iff_mul_le (by omega), Nat.pow_succ, Nat.mul_comm V, Nat.mul_assoc, ]
  exact Nat.mul_le_mul_left _ (Nat.mul_le_mul_left 2 hUV)
 obtain ⟨m, hmm⟩ : ∃ m, m = V * 2 ^ (fQ f + 1) / (2 * U) := ⟨_, rfl⟩
 obtain ⟨x, hx⟩ : ∃ x : Nat, x = (pw - (1 - fB f)).toNat := ⟨_, rfl⟩
 have hxi : (x : Int) = pw - (1 - fB f) := by omega
 rw [← hmm] at hm hm2
 rw [Nat.pow_succ] at hm
 have ea : m + x * 2 ^ fQ f = (x + 1) * 2 ^ fQ f + (m - 2 ^ fQ f) := by rw [Nat.succ_mul]; omega
 have ep : fE f + ((x + 1 - 1 : Nat) : Int) = pw - fQ f := by omega
 refine ⟨m + x * 2 ^ fQ f, m, V * 2 ^ (fQ f + 1), _, two_pos _ _, ?_, ?_, ?_, ?_, hmm, rfl, ?_⟩
 ·rw [infN_eq hf]
  have h3 : (x + 2) * 2 ^ fQ f ≤ (2 * fB f + 1).toNat * 2 ^ fQ f := Nat.mul_le_mul_right _ (by omega)
  have h4 : (x + 2) * 2 ^ fQ f = x * 2 ^ fQ f + 2 ^ fQ f * 2 := by grind
  omega
 ·rw [ea, valA_at K f _ _ (by omega) (by omega), if_neg (by omega), ep]
  congr 1; omega
 ·rw [ea, Nat.add_assoc, valA_at K f _ _ (by omega) (by omega), if_neg (by omega), ep]
  congr 1; omega
 ·unfold lowPair; rw [if_neg (by omega), if_neg (by omega), ← hmm]
  congr 1
  rw [← hxi]; push_cast; rfl
 ·intro X hX
  have e1 : two K pw = two K (pw - fQ f) * 2 ^ fQ f := by
   rw [← two_mul K _ (by omega)]; congr 1; omega
  rw [Nat.mul_left_comm, hX, e1, Nat.pow_succ]; grind
theorem cell_any {K : Nat} {f : Int} {V U : Nat} {pw : Int} (hf : Fmt f) (hK : 2500 ≤ K) (hUV : U ≤ V) (hVU : V < 2 * U) (h1 : -fB f - fQ f ≤ pw) (h2 : pw ≤ fB f) :
  ∃ A s m T re, Cell K f V U pw A (two K s) m T re ∧ pw - fQ f ≤ s ∧ fE f ≤ s ∧ s ≤ pw + 1 := by
 have he := hf.e
 have hb := hf.b1
 by_cases h : pw < 1 - fB f
 ·obtain ⟨A, m, T, re, hc⟩ := cell_sub hf hK hVU h h1
  exact ⟨A, fE f, m, T, re, hc, by omega, by omega, by omega⟩
 ·obtain ⟨A, m, T, re, hc⟩ := cell_nrm hf hK hUV hVU (by omega) h2
  exact ⟨A, pw - fQ f, m, T, re, hc, by omega, by omega, by omega⟩
theorem round_same {K : Nat} {f mode : Int} {neg : Bool} {X V U : Nat} {pw : Int} (hf : Fmt f) (hK : 2500 ≤ K) (hKp : -(K : Int) ≤ pw) (hX : X * U = V * two K pw) (hUV : U ≤ V) (hVU : V < 2 * U) :
  RoundSpec K f mode neg X (roundP (fB f) ((2 ^ fQ f : Nat) : Int) (infN f) mode neg (lowPair (fQ f) (fB f) ((2 ^ fQ f : Nat) : Int) (infN f) V U pw).1 (lowPair (fQ f) (fB f) ((2 ^ fQ f : Nat) : Int) (infN f) V U pw).2 pw).1
   (roundP (fB f) ((2 ^ fQ f : Nat) : Int) (infN f) mode neg (lowPair (fQ f) (fB f) ((2 ^ fQ f : Nat) : Int) (infN f) V U pw).1 (lowPair (fQ f) (fB f) ((2 ^ fQ f : Nat) : Int) (infN f) V U pw).2 pw).2 := by
 have hb := hf.b1
 have hb2 := hf.b2
 have hq := hf.q
 have he := hf.e
 have hU : 0 < U := by omega
 have hge : two K pw ≤ X := Nat.le_of_mul_le_mul_right (by rw [hX, Nat.mul_comm]; exact Nat.mul_le_mul_right _ hUV) hU
 have hlt : X < two K (pw + 1) := by
  have e2 := two_mul K pw (by omega) 1
  rw [Nat.pow_one] at e2
  rw [show pw + 1 = pw + (1 : Nat) from rfl, e2]
  apply Nat.lt_of_mul_lt_mul_right (a := U)
  rw [hX, Nat.mul_assoc, Nat.mul_comm (two K pw)]
  exact Nat.mul_lt_mul_of_pos_right hVU (two_pos _ _)
 have hX0 : 0 < X := Nat.lt_of_lt_of_le (two_pos _ _) hge
 by_cases hA : fB f < pw
 ·refine round_beyond hf hX0 ?_ hA
  rw [valA_inf hf (by omega)]
  refine Nat.le_trans ?_ hge
  have e3 := two_mul K (fB f + 1) (by omega) (pw - (fB f + 1)).toNat
  rw [show fB f + 1 + ((pw - (fB f + 1)).toNat : Nat) = pw from by omega] at e3
  rw [e3]; exact Nat.le_mul_of_pos_right _ (Nat.pow_pos (by omega))
 ·by_cases hB : pw < -fB f - fQ f
  ·refine round_tiny hf (by omega) hX0 ?_ hB
   have hv := valA_at K f 0 1 Nat.one_le_two_pow (by omega)
   rw [Nat.zero_mul, Nat.zero_add, if_pos rfl, Nat.mul_one] at hv
   rw [hv]
   have e3 := two_mul K (pw + 1) (by omega) (fE f - (pw + 1)).toNat
   rw [show pw + 1 + ((fE f - (pw + 1)).toNat : Nat) = fE f from by omega] at e3
   rw [e3]
   have : 2 ^ 1 ≤ 2 ^ (fE f - (pw + 1)).toNat := Nat.pow_le_pow_right (by omega) (by omega)
   have h5 : two K (pw + 1) * 2 ≤ two K (pw + 1) * 2 ^ (fE f - (pw + 1)).toNat := Nat.mul_le_mul_left _ (by omega)
   omega
  ·obtain ⟨A, s, m, T, re, hc, _⟩ := cell_any (pw := pw) hf hK hUV hVU (by omega) (by omega)
   obtain ⟨c1, c2, c3, c4⟩ := cell_of hc.pos hU (hc.eq X hX) hc.m hc.a1 hc.a2
   rw [hc.low]
   rw [← hc.re] at c3 c4
   exact round_fill hf (by omega) hX0 hc.lt c1 c2 c3 c4 (by omega)
theorem round_near {K : Nat} {f mode : Int} {neg : Bool} {X Y V U u n : Nat} {pw q : Int} (hf : Fmt f) (hK : 2500 ≤ K) (hKp : -(K : Int) ≤ q) (hX : X * U = V * two K pw) (hUV : U ≤ V) (hVU : V < 2 * U)
  (hq : q < pw - 60) (hu : u = two K q) (x1 : n * u < X) (x2 : X < (n + 1) * u) (y1 : n * u < Y) (y2 : Y < (n + 1) * u) :
  RoundSpec K f mode neg Y (roundP (fB f) ((2 ^ fQ f : Nat) : Int) (infN f) mode neg (lowPair (fQ f) (fB f) ((2 ^ fQ f : Nat) : Int) (infN f) V U pw).1 (lowPair (fQ f) (fB f) ((2 ^ fQ f : Nat) : Int) (infN f) V U pw).2 pw).1
   (roundP (fB f) ((2 ^ fQ f : Nat) : Int) (infN f) mode neg (lowPair (fQ f) (fB f) ((2 ^ fQ f : Nat) : Int) (infN f) V U pw).1 (lowPair (fQ f) (fB f) ((2 ^ fQ f : Nat) : Int) (infN f) V U pw).2 pw).2 := by
 have hb := hf.b1
 have hb2 := hf.b2
 have hqq := hf.q
 have he := hf.e
 have hU : 0 < U := by omega
 have hY0 : 0 < Y := by omega
 have hu0 : 0 < u := by rw [hu]; exact two_pos _ _
 have mul1 : ∀ t : Nat, t * u ≤ X ↔ t * u ≤ Y := by
  intro t
  rcases Nat.lt_or_ge n t with h | h
  ·have := Nat.mul_le_mul_right u (show n + 1 ≤ t from h); omega
  ·have := Nat.mul_le_mul_right u h; omega
 have mul2 : ∀ t : Nat, X < t * u ↔ Y < t * u := by intro t; have := mul1 t; omega
 have mul3 : ∀ t : Nat, X ≠ t * u ∧ Y ≠ t * u := by
  intro t
  rcases Nat.lt_or_ge n t with h | h
  ·have := Nat.mul_le_mul_right u (show n + 1 ≤ t from h); omega
  ·have := Nat.mul_le_mul_right u h; omega
 have pw2 : ∀ t : Int, q ≤ t → two K t = 2 ^ (t - q).toNat * u := by
  intro t ht
  have := two_mul K q hKp (t - q).toNat
  rw [show q + ((t - q).toNat : Nat) = t from by omega] at this
  rw [this, hu, Nat.mul_comm]
 have hge : two K pw ≤ X := Nat.le_of_mul_le_mul_right (by rw [hX, Nat.mul_comm]; exact Nat.mul_le_mul_right _ hUV) hU
 have hlt : X < two K (pw + 1) := by
  have e2 := two_mul K pw (by omega) 1
  rw [Nat.pow_one] at e2
  rw [show pw + 1 = pw + (1 : Nat) from rfl, e2]
  apply Nat.lt_of_mul_lt_mul_right (a := U)
  rw [hX, Nat.mul_assoc, Nat.mul_comm (two K pw)]
  exact Nat.mul_lt_mul_of_pos_right hVU (two_pos _ _)
 by_cases hA : fB f < pw
 ·refine round_beyond hf hY0 ?_ hA
  rw [valA_inf hf (by omega)]
  have hyp : two K pw ≤ Y := by rw [pw2 pw (by omega)] at hge ⊢; exact (mul1 _).1 hge
  refine Nat.le_trans ?_ hyp
  have e3 := two_mul K (fB f + 1) (by omega) (pw - (fB f + 1)).toNat
  rw [show fB f + 1 + ((pw - (fB f + 1)).toNat : Nat) = pw from by omega] at e3
  rw [e3]; exact Nat.le_mul_of_pos_right _ (Nat.pow_pos (by omega))
 ·have hly : Y < two K (pw + 1) := by rw [pw2 (pw + 1) (by omega)] at hlt ⊢; exact (mul2 _).1 hlt
  by_cases hB : pw < -fB f - fQ f
  ·refine round_tiny hf (by omega) hY0 ?_ hB
   have hv := valA_at K f 0 1 Nat.one_le_two_pow (by omega)
   rw [Nat.zero_mul, Nat.zero_add, if_pos rfl, Nat.mul_one] at hv
   rw [hv]
   have e3 := two_mul K (pw + 1) (by omega) (fE f - (pw + 1)).toNat
   rw [show pw + 1 + ((fE f - (pw + 1)).toNat : Nat) = fE f from by omega] at e3
   rw [e3]
   have : 2 ^ 1 ≤ 2 ^ (fE f - (pw + 1)).toNat := Nat.pow_le_pow_right (by omega) (by omega)
   have h5 : two K (pw + 1) * 2 ≤ two K (pw + 1) * 2 ^ (fE f - (pw + 1)).toNat := Nat.mul_le_mul_left _ (by omega)
   omega
  ·obtain ⟨A, s, m, T, re, hc, hs1, hs2, hs3⟩ := cell_any (pw := pw) hf hK hUV hVU (by omega) (by omega)
   obtain ⟨c1, c2, c3, c4⟩ := cell_of hc.pos hU (hc.eq X hX) hc.m hc.a1 hc.a2
   rw [hc.low]
   rw [← hc.re] at c3 c4
   obtain ⟨z, hz⟩ : ∃ z, two K s = 2 * z * u := ⟨2 ^ (s - q - 1).toNat, by
    rw [pw2 s (by omega), show (s - q).toNat = (s - q - 1).toNat + 1 from by omega, Nat.pow_succ, Nat.mul_comm (2 ^ _) 2]⟩
   have a1 : valA K f A = 2 * z * m * u := by rw [hc.a1, hz]; grind
   have a2 : valA K f (A + 1) = 2 * z * (m + 1) * u := by rw [hc.a2, hz]; grind
   have am : valA K f A + valA K f (A + 1) = 2 * (z * (2 * m + 1) * u) := by rw [a1, a2]; grind
   have hn0 : re ≠ 0 := by
    intro h0
    have := c3.2 h0
    rw [a1] at this
    exact (mul3 _).1 this
   have hcmp : cmpN (Y * 2) (valA K f A + valA K f (A + 1)) = cmpN (X * 2) (valA K f A + valA K f (A + 1)) := by
    rw [am]
    have k1 := mul2 (z * (2 * m + 1))
    have k2 := mul3 (z * (2 * m + 1))
    generalize z * (2 * m + 1) * u = t at *
    unfold cmpN
    by_cases hh : X < t
    ·rw [if_pos (by omega), if_pos (by omega)]
    ·rw [if_neg (by omega), if_neg (by omega), if_neg (by omega), if_neg (by omega)]
   refine round_fill hf (by omega) hY0 hc.lt ?_ ?_ ?_ (fun _ => ?_) (by omega)
   ·rw [a1] at c1 ⊢; exact (mul1 _).1 c1
   ·rw [a2] at c2 ⊢; exact (mul2 _).1 c2
   ·constructor
    ·intro h; rw [a1] at h; exact absurd h (mul3 _).2
    ·intro h; exact absurd h hn0
   ·rw [hcmp]; exact c4 hn0
end Go.Proofs.YtbkdaoicnobllabGreatDoor
