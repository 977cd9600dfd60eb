import Derived.Test.YtbkdaoicnobllabGreatDoorG14

namespace Go.Proofs.YtbkdaoicnobllabGreatDoor
open Go.RowKit

/-- The amount and the flags that the program makes of a lower neighbour and a rest. -/
def roundP (B N I mode : Int) (neg : Bool) (lo re pw : Int) : Int × Int :=
  if re = 0 then (lo, 0)
  else if awayB mode neg re (lo % 2 == 1) = true then (lo + 1, 1 + (if lo < N then 4 else 0) + (if B < pw ∨ lo + 1 = I then 2 else 0))
  else (lo, 1 + (if lo < N then 4 else 0) + (if B < pw ∨ lo = I then 2 else 0))
theorem restOf_bd (V U : Nat) : 0 ≤ restOf V U ∧ restOf V U ≤ 3 := by
  unfold restOf; split
  · omega
  · split
    · omega
    · split <;> omega
theorem lowPair_bd (F : Nat) (B N I : Int) (V U : Nat) (pw : Int) (hN : N = ((2 ^ F : Nat) : Int)) (hI : I = (2 * B + 1) * N) (hB : 1 ≤ B) (hVU : V < 2 * U) : 0 ≤ (lowPair F B N I V U pw).1 ∧ (lowPair F B N I V U pw).1 ≤ I - 1 ∧ 0 ≤ (lowPair F B N I V U pw).2 ∧ (lowPair F B N I V U pw).2 ≤ 3 := by
  have hN0 : 0 < 2 ^ F := Nat.pow_pos (by omega)
  have h3 : 3 * N ≤ I := by rw [hI]; exact Int.mul_le_mul_of_nonneg_right (by omega) (by omega)
  unfold lowPair
  by_cases hA : B < pw
  · rw [if_pos hA]; show 0 ≤ I - 1 ∧ I - 1 ≤ I - 1 ∧ (0 : Int) ≤ 3 ∧ (3 : Int) ≤ 3; omega
  · rw [if_neg hA]
    by_cases hC : pw < 1 - B
    · rw [if_pos hC]
      by_cases hD : (F : Int) + 1 - (1 - B - pw) < 0
      · rw [if_pos hD]; show (0 : Int) ≤ 0 ∧ 0 ≤ I - 1 ∧ (0 : Int) ≤ 1 ∧ (1 : Int) ≤ 3; omega
      · rw [if_neg hD]
        have h1 := take_lt (c := ((F : Int) + 1 - (1 - B - pw)).toNat) hVU
        have h2 : 2 ^ ((F : Int) + 1 - (1 - B - pw)).toNat ≤ 2 ^ F := Nat.pow_le_pow_right (by omega) (by omega)
        have hb := restOf_bd (V * 2 ^ ((F : Int) + 1 - (1 - B - pw)).toNat % (2 * U)) U
        refine ⟨Int.natCast_nonneg _, ?_, hb.1, hb.2⟩
        show ((V * 2 ^ ((F : Int) + 1 - (1 - B - pw)).toNat / (2 * U) : Nat) : Int) ≤ I - 1
        omega
    · rw [if_neg hC]
      have h1 : V * 2 ^ (F + 1) / (2 * U) < 2 ^ F * 2 := Nat.lt_of_lt_of_eq (take_lt (c := F + 1) hVU) (Nat.pow_succ ..)
      have hb := restOf_bd (V * 2 ^ (F + 1) % (2 * U)) U
      have h4 : 0 ≤ (pw - (1 - B)) * N := Int.mul_nonneg (by omega) (by omega)
      have h5 : (pw - (1 - B)) * N ≤ (2 * B - 1) * N := Int.mul_le_mul_of_nonneg_right (by omega) (by omega)
      have h6 : I = (2 * B - 1) * N + 2 * N := by rw [hI, ← Int.add_mul]; congr 1; omega
      refine ⟨?_, ?_, hb.1, hb.2⟩
      · show (0 : Int) ≤ ((V * 2 ^ (F + 1) / (2 * U) : Nat) : Int) + (pw - (1 - B)) * N
        generalize V * 2 ^ (F + 1) / (2 * U) = q at *
        omega
      · show ((V * 2 ^ (F + 1) / (2 * U) : Nat) : Int) + (pw - (1 - B)) * N ≤ I - 1
        generalize V * 2 ^ (F + 1) / (2 * U) = q at *
        omega

set_option maxRecDepth 100000 in
set_option maxHeartbeats 2000000 in
theorem amount0 (S : Nat → Prop) (p bo bu V U : Nat) (pw mode : Int) (neg : Bool) (w : World) (h : FracAt S w p bo bu V U pw 8000) (hVU : V < 2 * U) (hp1 : -110000000 ≤ pw) (hp2 : pw ≤ 110000000) :
    Calls Tryz.prog 43 #[.pointer (some ⟨p, 0, none⟩), layV 10 15 1024 31744 (32768), .bool neg, .int .i64 mode] w fun e w' => e = .returned (.tuple #[.int .i64 (roundP 15 1024 31744 mode neg (lowPair 10 15 1024 31744 V U pw).1 (lowPair 10 15 1024 31744 V U pw).2 pw).1, .int .i64 (roundP 15 1024 31744 mode neg (lowPair 10 15 1024 31744 V U pw).1 (lowPair 10 15 1024 31744 V U pw).2 pw).2]) ∧ Kept S w w' := by
  obtain ⟨w1, hw1⟩ : ∃ w1, w1 = w.alloc (.cells #[.int .i64 10, .int .i64 15, .int .i64 1024, .int .i64 31744, .int .i64 (32768)] 63) := ⟨_, rfl⟩
  have HF1 : Hid (FracAt (fun k => S k ∨ k = w.heap.size) w1 p bo bu V U pw 8000) := by rw [hw1]; exact h.alloc _
  have HK1 : Hid (Kept S w w1) := by rw [hw1]; exact Below.kept ((Below.refl _ _).alloc (Nat.le_refl _) _) (fun k hs => h.two.keep k (.inl hs))
  obtain ⟨b1, b2, b3, b4⟩ := lowPair_bd 10 15 1024 31744 V U pw (by decide) (by decide) (by decide) hVU
  have HV := hid hVU
  have l0 : w1.cell? ⟨w.heap.size, 0, none⟩ = some (.int .i64 10) := by rw [hw1]; simp [go_sem]
  have l1 : w1.cell? ⟨w.heap.size, 1, none⟩ = some (.int .i64 15) := by rw [hw1]; simp [go_sem]
  have l2 : w1.cell? ⟨w.heap.size, 2, none⟩ = some (.int .i64 1024) := by rw [hw1]; simp [go_sem]
  have l3 : w1.cell? ⟨w.heap.size, 3, none⟩ = some (.int .i64 31744) := by rw [hw1]; simp [go_sem]
  have l4 : w1.cell? ⟨w.heap.size, 4, none⟩ = some (.int .i64 (32768)) := by rw [hw1]; simp [go_sem]
  have HX : Hid (∀ n, Calls Tryz.prog 66 #[.pointer (some ⟨p, 0, none⟩)] (w1.drewN n) fun e w' => e = .returned (.int .i64 pw) ∧ w' = w1.drewN n) := fun n => power_any _ p bo bu V U 8000 pw _ (HF1.out.still ((Still.refl w1).drewN n))
  have HX2 : Hid (∀ n, Calls Tryz.prog 67 #[.pointer (some ⟨p, 0, none⟩), layV 10 15 1024 31744 (32768)] (w1.drewN n) fun e w' => e = .returned (.tuple #[.int .i64 (lowPair 10 15 1024 31744 V U pw).1, .int .i64 (lowPair 10 15 1024 31744 V U pw).2]) ∧ Kept (fun k => S k ∨ k = w.heap.size) (w1.drewN n) w') := fun n => lower0 _ p bo bu V U pw _ (HF1.out.still ((Still.refl w1).drewN n)) hVU hp1 hp2
  unfold layV at HX2
  have HW := hid hw1
  generalize (lowPair 10 15 1024 31744 V U pw).1 = lo at *
  generalize (lowPair 10 15 1024 31744 V U pw).2 = re at *
  clear h hVU hw1 HF1
  unfold layV
  go_enter Tryz.func43, Tryz.ntmps43
  go_wp2_with fail
  rw [← HW.out]
  go_quiet ((go_at_call 66; exact Calls.quiet_of_same (HX.out _)))
  have HX3 := hid (HX2.out nq)
  have hst := (Still.refl w1).drewN nq
  have n0 := (hst.cell _).trans l0
  have n1 := (hst.cell _).trans l1
  have n2 := (hst.cell _).trans l2
  have n3 := (hst.cell _).trans l3
  have n4 := (hst.cell _).trans l4
  have HK2 := hid (HK1.out.trans (show Kept S w1 (w1.drewN nq) from hst.turn _))
  clear HX HW HX2 HK1 l0 l1 l2 l3 l4 hst
  generalize w1.drewN nq = w2 at *
  go_wp2_with fail
  refine HX3.out.mono ?_
  rintro e w3 ⟨rfl, hk3⟩
  have m1 := hk3.cell n1 (.inr rfl)
  have m2 := hk3.cell n2 (.inr rfl)
  have m3 := hk3.cell n3 (.inr rfl)
  have HK3 := hid (HK2.out.trans (hk3.mono (fun k hs => .inl hs)))
  clear HX3 HK2 n0 n1 n2 n3 n4 hk3
  by_cases hr : re = 0
  · have hl : Hid (roundP 15 1024 31744 mode neg lo re pw = (lo, 0)) := by unfold Hid roundP; rw [if_pos hr]
    subst hr
    go_wp2
    go_ret2
    exact ⟨by rw [hl.out]; rfl, HK3.out⟩
  · have HU := hid (toUpper_any mode re neg (lo % 2 == 1) (by omega) b4 w3)
    obtain ⟨ub, hub⟩ : ∃ ub, awayB mode neg re (lo % 2 == 1) = ub := ⟨_, rfl⟩
    rw [hub] at HU
    have hrp : Hid (roundP 15 1024 31744 mode neg lo re pw = if ub = true then (lo + 1, 1 + (if lo < 1024 then 4 else 0) + (if 15 < pw ∨ lo + 1 = 31744 then 2 else 0)) else (lo, 1 + (if lo < 1024 then 4 else 0) + (if 15 < pw ∨ lo = 31744 then 2 else 0))) := by unfold Hid roundP; rw [if_neg hr, hub]
    clear hub
    by_cases hN : lo < 1024
    · have HNN := hid hN
      go_wp2_with fail
      refine HU.out.mono ?_
      rintro e w4 ⟨rfl, rfl⟩
      clear HU
      cases ub
      · by_cases hB : 15 < pw
        · have hl : Hid (roundP 15 1024 31744 mode neg lo re pw = (lo, 7)) := by rw [Hid, hrp.out, if_pos HNN.out]; simp [hB]
          go_wp2
          all_goals (go_ret2; exact ⟨by rw [hl.out]; rfl, HK3.out⟩)
        · have hI2 : ¬ lo = 31744 := by omega
          have hI3 : (lo == 31744) = false := by simp; omega
          have hB3 : decide (15 < pw) = false := decide_eq_false hB
          have hl : Hid (roundP 15 1024 31744 mode neg lo re pw = (lo, 5)) := by rw [Hid, hrp.out, if_pos HNN.out]; simp [hB, hI2]
          go_wp2
          all_goals (go_ret2; exact ⟨by rw [hl.out]; rfl, HK3.out⟩)
      · by_cases hB : 15 < pw
        · have hl : Hid (roundP 15 1024 31744 mode neg lo re pw = (lo + 1, 7)) := by rw [Hid, hrp.out, if_pos HNN.out]; simp [hB]
          go_wp2
          all_goals (go_ret2; exact ⟨by rw [hl.out]; rfl, HK3.out⟩)
        · have hI2 : ¬ lo + 1 = 31744 := by omega
          have hI3 : (lo + 1 == 31744) = false := by simp; omega
          have hB3 : decide (15 < pw) = false := decide_eq_false hB
          have hl : Hid (roundP 15 1024 31744 mode neg lo re pw = (lo + 1, 5)) := by rw [Hid, hrp.out, if_pos HNN.out]; simp [hB, hI2]
          go_wp2
          all_goals (go_ret2; exact ⟨by rw [hl.out]; rfl, HK3.out⟩)
    · have HNN := hid hN
      go_wp2_with fail
      refine HU.out.mono ?_
      rintro e w4 ⟨rfl, rfl⟩
      clear HU
      cases ub
      · by_cases hB : 15 < pw
        · have hl : Hid (roundP 15 1024 31744 mode neg lo re pw = (lo, 3)) := by rw [Hid, hrp.out, if_neg (Int.not_lt.2 HNN.out)]; simp [hB]
          go_wp2
          all_goals (go_ret2; exact ⟨by rw [hl.out]; rfl, HK3.out⟩)
        · have hI2 : ¬ lo = 31744 := by omega
          have hI3 : (lo == 31744) = false := by simp; omega
          have hB3 : decide (15 < pw) = false := decide_eq_false hB
          have hl : Hid (roundP 15 1024 31744 mode neg lo re pw = (lo, 1)) := by rw [Hid, hrp.out, if_neg (Int.not_lt.2 HNN.out)]; simp [hB, hI2]
          go_wp2
          all_goals (go_ret2; exact ⟨by rw [hl.out]; rfl, HK3.out⟩)
      · by_cases hB : 15 < pw
        · have hl : Hid (roundP 15 1024 31744 mode neg lo re pw = (lo + 1, 3)) := by rw [Hid, hrp.out, if_neg (Int.not_lt.2 HNN.out)]; simp [hB]
          go_wp2
          all_goals (go_ret2; exact ⟨by rw [hl.out]; rfl, HK3.out⟩)
        · by_cases hI : lo = 31743
          · subst hI
            have hl : Hid (roundP 15 1024 31744 mode neg 31743 re pw = (31744, 3)) := by rw [Hid, hrp.out]; simp
            go_wp2
            all_goals (go_ret2; exact ⟨by rw [hl.out]; rfl, HK3.out⟩)
          · have hI2 : ¬ lo + 1 = 31744 := by omega
            have hI3 : (lo + 1 == 31744) = false := by simp; omega
            have hB3 : decide (15 < pw) = false := decide_eq_false hB
            have hl : Hid (roundP 15 1024 31744 mode neg lo re pw = (lo + 1, 1)) := by rw [Hid, hrp.out, if_neg (Int.not_lt.2 HNN.out)]; simp [hB, hI2]
            go_wp2
            all_goals (go_ret2; exact ⟨by rw [hl.out]; rfl, HK3.out⟩)

set_option maxRecDepth 100000 in
set_option maxHeartbeats 2000000 in
theorem amount1 (S : Nat → Prop) (p bo bu V U : Nat) (pw mode : Int) (neg : Bool) (w : World) (h : FracAt S w p bo bu V U pw 8000) (hVU : V < 2 * U) (hp1 : -110000000 ≤ pw) (hp2 : pw ≤ 110000000) :
    Calls Tryz.prog 43 #[.pointer (some ⟨p, 0, none⟩), layV 23 127 8388608 2139095040 (2147483648), .bool neg, .int .i64 mode] w fun e w' => e = .returned (.tuple #[.int .i64 (roundP 127 8388608 2139095040 mode neg (lowPair 23 127 8388608 2139095040 V U pw).1 (lowPair 23 127 8388608 2139095040 V U pw).2 pw).1, .int .i64 (roundP 127 8388608 2139095040 mode neg (lowPair 23 127 8388608 2139095040 V U pw).1 (lowPair 23 127 8388608 2139095040 V U pw).2 pw).2]) ∧ Kept S w w' := by
  obtain ⟨w1, hw1⟩ : ∃ w1, w1 = w.alloc (.cells #[.int .i64 23, .int .i64 127, .int .i64 8388608, .int .i64 2139095040, .int .i64 (2147483648)] 63) := ⟨_, rfl⟩
  have HF1 : Hid (FracAt (fun k => S k ∨ k = w.heap.size) w1 p bo bu V U pw 8000) := by rw [hw1]; exact h.alloc _
  have HK1 : Hid (Kept S w w1) := by rw [hw1]; exact Below.kept ((Below.refl _ _).alloc (Nat.le_refl _) _) (fun k hs => h.two.keep k (.inl hs))
  obtain ⟨b1, b2, b3, b4⟩ := lowPair_bd 23 127 8388608 2139095040 V U pw (by decide) (by decide) (by decide) hVU
  have HV := hid hVU
  have l0 : w1.cell? ⟨w.heap.size, 0, none⟩ = some (.int .i64 23) := by rw [hw1]; simp [go_sem]
  have l1 : w1.cell? ⟨w.heap.size, 1, none⟩ = some (.int .i64 127) := by rw [hw1]; simp [go_sem]
  have l2 : w1.cell? ⟨w.heap.size, 2, none⟩ = some (.int .i64 8388608) := by rw [hw1]; simp [go_sem]
  have l3 : w1.cell? ⟨w.heap.size, 3, none⟩ = some (.int .i64 2139095040) := by rw [hw1]; simp [go_sem]
  have l4 : w1.cell? ⟨w.heap.size, 4, none⟩ = some (.int .i64 (2147483648)) := by rw [hw1]; simp [go_sem]
  have HX : Hid (∀ n, Calls Tryz.prog 66 #[.pointer (some ⟨p, 0, none⟩)] (w1.drewN n) fun e w' => e = .returned (.int .i64 pw) ∧ w' = w1.drewN n) := fun n => power_any _ p bo bu V U 8000 pw _ (HF1.out.still ((Still.refl w1).drewN n))
  have HX2 : Hid (∀ n, Calls Tryz.prog 67 #[.pointer (some ⟨p, 0, none⟩), layV 23 127 8388608 2139095040 (2147483648)] (w1.drewN n) fun e w' => e = .returned (.tuple #[.int .i64 (lowPair 23 127 8388608 2139095040 V U pw).1, .int .i64 (lowPair 23 127 8388608 2139095040 V U pw).2]) ∧ Kept (fun k => S k ∨ k = w.heap.size) (w1.drewN n) w') := fun n => lower1 _ p bo bu V U pw _ (HF1.out.still ((Still.refl w1).drewN n)) hVU hp1 hp2
  unfold layV at HX2
  have HW := hid hw1
  generalize (lowPair 23 127 8388608 2139095040 V U pw).1 = lo at *
  generalize (lowPair 23 127 8388608 2139095040 V U pw).2 = re at *
  clear h hVU hw1 HF1
  unfold layV
  go_enter Tryz.func43, Tryz.ntmps43
  go_wp2_with fail
  rw [← HW.out]
  go_quiet ((go_at_call 66; exact Calls.quiet_of_same (HX.out _)))
  have HX3 := hid (HX2.out nq)
  have hst := (Still.refl w1).drewN nq
  have n0 := (hst.cell _).trans l0
  have n1 := (hst.cell _).trans l1
  have n2 := (hst.cell _).trans l2
  have n3 := (hst.cell _).trans l3
  have n4 := (hst.cell _).trans l4
  have HK2 := hid (HK1.out.trans (show Kept S w1 (w1.drewN nq) from hst.turn _))
  clear HX HW HX2 HK1 l0 l1 l2 l3 l4 hst
  generalize w1.drewN nq = w2 at *
  go_wp2_with fail
  refine HX3.out.mono ?_
  rintro e w3 ⟨rfl, hk3⟩
  have m1 := hk3.cell n1 (.inr rfl)
  have m2 := hk3.cell n2 (.inr rfl)
  have m3 := hk3.cell n3 (.inr rfl)
  have HK3 := hid (HK2.out.trans (hk3.mono (fun k hs => .inl hs)))
  clear HX3 HK2 n0 n1 n2 n3 n4 hk3
  by_cases hr : re = 0
  · have hl : Hid (roundP 127 8388608 2139095040 mode neg lo re pw = (lo, 0)) := by unfold Hid roundP; rw [if_pos hr]
    subst hr
    go_wp2
    go_ret2
    exact ⟨by rw [hl.out]; rfl, HK3.out⟩
  · have HU := hid (toUpper_any mode re neg (lo % 2 == 1) (by omega) b4 w3)
    obtain ⟨ub, hub⟩ : ∃ ub, awayB mode neg re (lo % 2 == 1) = ub := ⟨_, rfl⟩
    rw [hub] at HU
    have hrp : Hid (roundP 127 8388608 2139095040 mode neg lo re pw = if ub = true then (lo + 1, 1 + (if lo < 8388608 then 4 else 0) + (if 127 < pw ∨ lo + 1 = 2139095040 then 2 else 0)) else (lo, 1 + (if lo < 8388608 then 4 else 0) + (if 127 < pw ∨ lo = 2139095040 then 2 else 0))) := by unfold Hid roundP; rw [if_neg hr, hub]
    clear hub
    by_cases hN : lo < 8388608
    · have HNN := hid hN
      go_wp2_with fail
      refine HU.out.mono ?_
      rintro e w4 ⟨rfl, rfl⟩
      clear HU
      cases ub
      · by_cases hB : 127 < pw
        · have hl : Hid (roundP 127 8388608 2139095040 mode neg lo re pw = (lo, 7)) := by rw [Hid, hrp.out, if_pos HNN.out]; simp [hB]
          go_wp2
          all_goals (go_ret2; exact ⟨by rw [hl.out]; rfl, HK3.out⟩)
        · have hI2 : ¬ lo = 2139095040 := by omega
          have hI3 : (lo == 2139095040) = false := by simp; omega
          have hB3 : decide (127 < pw) = false := decide_eq_false hB
          have hl : Hid (roundP 127 8388608 2139095040 mode neg lo re pw = (lo, 5)) := by rw [Hid, hrp.out, if_pos HNN.out]; simp [hB, hI2]
          go_wp2
          all_goals (go_ret2; exact ⟨by rw [hl.out]; rfl, HK3.out⟩)
      · by_cases hB : 127 < pw
        · have hl : Hid (roundP 127 8388608 2139095040 mode neg lo re pw = (lo + 1, 7)) := by rw [Hid, hrp.out, if_pos HNN.out]; simp [hB]
          go_wp2
          all_goals (go_ret2; exact ⟨by rw [hl.out]; rfl, HK3.out⟩)
        · have hI2 : ¬ lo + 1 = 2139095040 := by omega
          have hI3 : (lo + 1 == 2139095040) = false := by simp; omega
          have hB3 : decide (127 < pw) = false := decide_eq_false hB
          have hl : Hid (roundP 127 8388608 2139095040 mode neg lo re pw = (lo + 1, 5)) := by rw [Hid, hrp.out, if_pos HNN.out]; simp [hB, hI2]
          go_wp2
          all_goals (go_ret2; exact ⟨by rw [hl.out]; rfl, HK3.out⟩)
    · have HNN := hid hN
      go_wp2_with fail
      refine HU.out.mono ?_
      rintro e w4 ⟨rfl, rfl⟩
      clear HU
      cases ub
      · by_cases hB : 127 < pw
        · have hl : Hid (roundP 127 8388608 2139095040 mode neg lo re pw = (lo, 3)) := by rw [Hid, hrp.out, if_neg (Int.not_lt.2 HNN.out)]; simp [hB]
          go_wp2
          all_goals (go_ret2; exact ⟨by rw [hl.out]; rfl, HK3.out⟩)
        · have hI2 : ¬ lo = 2139095040 := by omega
          have hI3 : (lo == 2139095040) = false := by simp; omega
          have hB3 : decide (127 < pw) = false := decide_eq_false hB
          have hl : Hid (roundP 127 8388608 2139095040 mode neg lo re pw = (lo, 1)) := by rw [Hid, hrp.out, if_neg (Int.not_lt.2 HNN.out)]; simp [hB, hI2]
          go_wp2
          all_goals (go_ret2; exact ⟨by rw [hl.out]; rfl, HK3.out⟩)
      · by_cases hB : 127 < pw
        · have hl : Hid (roundP 127 8388608 2139095040 mode neg lo re pw = (lo + 1, 3)) := by rw [Hid, hrp.out, if_neg (Int.not_lt.2 HNN.out)]; simp [hB]
          go_wp2
          all_goals (go_ret2; exact ⟨by rw [hl.out]; rfl, HK3.out⟩)
        · by_cases hI : lo = 2139095039
          · subst hI
            have hl : Hid (roundP 127 8388608 2139095040 mode neg 2139095039 re pw = (2139095040, 3)) := by rw [Hid, hrp.out]; simp
            go_wp2
            all_goals (go_ret2; exact ⟨by rw [hl.out]; rfl, HK3.out⟩)
          · have hI2 : ¬ lo + 1 = 2139095040 := by omega
            have hI3 : (lo + 1 == 2139095040) = false := by simp; omega
            have hB3 : decide (127 < pw) = false := decide_eq_false hB
            have hl : Hid (roundP 127 8388608 2139095040 mode neg lo re pw = (lo + 1, 1)) := by rw [Hid, hrp.out, if_neg (Int.not_lt.2 HNN.out)]; simp [hB, hI2]
            go_wp2
            all_goals (go_ret2; exact ⟨by rw [hl.out]; rfl, HK3.out⟩)

set_option maxRecDepth 100000 in
set_option maxHeartbeats 2000000 in
theorem amount2 (S : Nat → Prop) (p bo bu V U : Nat) (pw mode : Int) (neg : Bool) (w : World) (h : FracAt S w p bo bu V U pw 8000) (hVU : V < 2 * U) (hp1 : -110000000 ≤ pw) (hp2 : pw ≤ 110000000) :
    Calls Tryz.prog 43 #[.pointer (some ⟨p, 0, none⟩), layV 52 1023 4503599627370496 9218868437227405312 (-9223372036854775808), .bool neg, .int .i64 mode] w fun e w' => e = .returned (.tuple #[.int .i64 (roundP 1023 4503599627370496 9218868437227405312 mode neg (lowPair 52 1023 4503599627370496 9218868437227405312 V U pw).1 (lowPair 52 1023 4503599627370496 9218868437227405312 V U pw).2 pw).1, .int .i64 (roundP 1023 4503599627370496 9218868437227405312 mode neg (lowPair 52 1023 4503599627370496 9218868437227405312 V U pw).1 (lowPair 52 1023 4503599627370496 9218868437227405312 V U pw).2 pw).2]) ∧ Kept S w w' := by
  obtain ⟨w1, hw1⟩ : ∃ w1, w1 = w.alloc (.cells #[.int .i64 52, .int .i64 1023, .int .i64 4503599627370496, .int .i64 9218868437227405312, .int .i64 (-9223372036854775808)] 63) := ⟨_, rfl⟩
  have HF1 : Hid (FracAt (fun k => S k ∨ k = w.heap.size) w1 p bo bu V U pw 8000) := by rw [hw1]; exact h.alloc _
  have HK1 : Hid (Kept S w w1) := by rw [hw1]; exact Below.kept ((Below.refl _ _).alloc (Nat.le_refl _) _) (fun k hs => h.two.keep k (.inl hs))
  obtain ⟨b1, b2, b3, b4⟩ := lowPair_bd 52 1023 4503599627370496 9218868437227405312 V U pw (by decide) (by decide) (by decide) hVU
  have HV := hid hVU
  have l0 : w1.cell? ⟨w.heap.size, 0, none⟩ = some (.int .i64 52) := by rw [hw1]; simp [go_sem]
  have l1 : w1.cell? ⟨w.heap.size, 1, none⟩ = some (.int .i64 1023) := by rw [hw1]; simp [go_sem]
  have l2 : w1.cell? ⟨w.heap.size, 2, none⟩ = some (.int .i64 4503599627370496) := by rw [hw1]; simp [go_sem]
  have l3 : w1.cell? ⟨w.heap.size, 3, none⟩ = some (.int .i64 9218868437227405312) := by rw [hw1]; simp [go_sem]
  have l4 : w1.cell? ⟨w.heap.size, 4, none⟩ = some (.int .i64 (-9223372036854775808)) := by rw [hw1]; simp [go_sem]
  have HX : Hid (∀ n, Calls Tryz.prog 66 #[.pointer (some ⟨p, 0, none⟩)] (w1.drewN n) fun e w' => e = .returned (.int .i64 pw) ∧ w' = w1.drewN n) := fun n => power_any _ p bo bu V U 8000 pw _ (HF1.out.still ((Still.refl w1).drewN n))
  have HX2 : Hid (∀ n, Calls Tryz.prog 67 #[.pointer (some ⟨p, 0, none⟩), layV 52 1023 4503599627370496 9218868437227405312 (-9223372036854775808)] (w1.drewN n) fun e w' => e = .returned (.tuple #[.int .i64 (lowPair 52 1023 4503599627370496 9218868437227405312 V U pw).1, .int .i64 (lowPair 52 1023 4503599627370496 9218868437227405312 V U pw).2]) ∧ Kept (fun k => S k ∨ k = w.heap.size) (w1.drewN n) w') := fun n => lower2 _ p bo bu V U pw _ (HF1.out.still ((Still.refl w1).drewN n)) hVU hp1 hp2
  unfold layV at HX2
  have HW := hid hw1
  generalize (lowPair 52 1023 4503599627370496 9218868437227405312 V U pw).1 = lo at *
  generalize (lowPair 52 1023 4503599627370496 9218868437227405312 V U pw).2 = re at *
  clear h hVU hw1 HF1
  unfold layV
  go_enter Tryz.func43, Tryz.ntmps43
  go_wp2_with fail
  rw [← HW.out]
  go_quiet ((go_at_call 66; exact Calls.quiet_of_same (HX.out _)))
  have HX3 := hid (HX2.out nq)
  have hst := (Still.refl w1).drewN nq
  have n0 := (hst.cell _).trans l0
  have n1 := (hst.cell _).trans l1
  have n2 := (hst.cell _).trans l2
  have n3 := (hst.cell _).trans l3
  have n4 := (hst.cell _).trans l4
  have HK2 := hid (HK1.out.trans (show Kept S w1 (w1.drewN nq) from hst.turn _))
  clear HX HW HX2 HK1 l0 l1 l2 l3 l4 hst
  generalize w1.drewN nq = w2 at *
  go_wp2_with fail
  refine HX3.out.mono ?_
  rintro e w3 ⟨rfl, hk3⟩
  have m1 := hk3.cell n1 (.inr rfl)
  have m2 := hk3.cell n2 (.inr rfl)
  have m3 := hk3.cell n3 (.inr rfl)
  have HK3 := hid (HK2.out.trans (hk3.mono (fun k hs => .inl hs)))
  clear HX3 HK2 n0 n1 n2 n3 n4 hk3
  by_cases hr : re = 0
  · have hl : Hid (roundP 1023 4503599627370496 9218868437227405312 mode neg lo re pw = (lo, 0)) := by unfold Hid roundP; rw [if_pos hr]
    subst hr
    go_wp2
    go_ret2
    exact ⟨by rw [hl.out]; rfl, HK3.out⟩
  · have HU := hid (toUpper_any mode re neg (lo % 2 == 1) (by omega) b4 w3)
    obtain ⟨ub, hub⟩ : ∃ ub, awayB mode neg re (lo % 2 == 1) = ub := ⟨_, rfl⟩
    rw [hub] at HU
    have hrp : Hid (roundP 1023 4503599627370496 9218868437227405312 mode neg lo re pw = if ub = true then (lo + 1, 1 + (if lo < 4503599627370496 then 4 else 0) + (if 1023 < pw ∨ lo + 1 = 9218868437227405312 then 2 else 0)) else (lo, 1 + (if lo < 4503599627370496 then 4 else 0) + (if 1023 < pw ∨ lo = 9218868437227405312 then 2 else 0))) := by unfold Hid roundP; rw [if_neg hr, hub]
    clear hub
    by_cases hN : lo < 4503599627370496
    · have HNN := hid hN
      go_wp2_with fail
      refine HU.out.mono ?_
      rintro e w4 ⟨rfl, rfl⟩
      clear HU
      cases ub
      · by_cases hB : 1023 < pw
        · have hl : Hid (roundP 1023 4503599627370496 9218868437227405312 mode neg lo re pw = (lo, 7)) := by rw [Hid, hrp.out, if_pos HNN.out]; simp [hB]
          go_wp2
          all_goals (go_ret2; exact ⟨by rw [hl.out]; rfl, HK3.out⟩)
        · have hI2 : ¬ lo = 9218868437227405312 := by omega
          have hI3 : (lo == 9218868437227405312) = false := by simp; omega
          have hB3 : decide (1023 < pw) = false := decide_eq_false hB
          have hl : Hid (roundP 1023 4503599627370496 9218868437227405312 mode neg lo re pw = (lo, 5)) := by rw [Hid, hrp.out, if_pos HNN.out]; simp [hB, hI2]
          go_wp2
          all_goals (go_ret2; exact ⟨by rw [hl.out]; rfl, HK3.out⟩)
      · by_cases hB : 1023 < pw
        · have hl : Hid (roundP 1023 4503599627370496 9218868437227405312 mode neg lo re pw = (lo + 1, 7)) := by rw [Hid, hrp.out, if_pos HNN.out]; simp [hB]
          go_wp2
          all_goals (go_ret2; exact ⟨by rw [hl.out]; rfl, HK3.out⟩)
        · have hI2 : ¬ lo + 1 = 9218868437227405312 := by omega
          have hI3 : (lo + 1 == 9218868437227405312) = false := by simp; omega
          have hB3 : decide (1023 < pw) = false := decide_eq_false hB
          have hl : Hid (roundP 1023 4503599627370496 9218868437227405312 mode neg lo re pw = (lo + 1, 5)) := by rw [Hid, hrp.out, if_pos HNN.out]; simp [hB, hI2]
          go_wp2
          all_goals (go_ret2; exact ⟨by rw [hl.out]; rfl, HK3.out⟩)
    · have HNN := hid hN
      go_wp2_with fail
      refine HU.out.mono ?_
      rintro e w4 ⟨rfl, rfl⟩
      clear HU
      cases ub
      · by_cases hB : 1023 < pw
        · have hl : Hid (roundP 1023 4503599627370496 9218868437227405312 mode neg lo re pw = (lo, 3)) := by rw [Hid, hrp.out, if_neg (Int.not_lt.2 HNN.out)]; simp [hB]
          go_wp2
          all_goals (go_ret2; exact ⟨by rw [hl.out]; rfl, HK3.out⟩)
        · have hI2 : ¬ lo = 9218868437227405312 := by omega
          have hI3 : (lo == 9218868437227405312) = false := by simp; omega
          have hB3 : decide (1023 < pw) = false := decide_eq_false hB
          have hl : Hid (roundP 1023 4503599627370496 9218868437227405312 mode neg lo re pw = (lo, 1)) := by rw [Hid, hrp.out, if_neg (Int.not_lt.2 HNN.out)]; simp [hB, hI2]
          go_wp2
          all_goals (go_ret2; exact ⟨by rw [hl.out]; rfl, HK3.out⟩)
      · by_cases hB : 1023 < pw
        · have hl : Hid (roundP 1023 4503599627370496 9218868437227405312 mode neg lo re pw = (lo + 1, 3)) := by rw [Hid, hrp.out, if_neg (Int.not_lt.2 HNN.out)]; simp [hB]
          go_wp2
          all_goals (go_ret2; exact ⟨by rw [hl.out]; rfl, HK3.out⟩)
        · by_cases hI : lo = 9218868437227405311
          · subst hI
            have hl : Hid (roundP 1023 4503599627370496 9218868437227405312 mode neg 9218868437227405311 re pw = (9218868437227405312, 3)) := by rw [Hid, hrp.out]; simp
            go_wp2
            all_goals (go_ret2; exact ⟨by rw [hl.out]; rfl, HK3.out⟩)
          · have hI2 : ¬ lo + 1 = 9218868437227405312 := by omega
            have hI3 : (lo + 1 == 9218868437227405312) = false := by simp; omega
            have hB3 : decide (1023 < pw) = false := decide_eq_false hB
            have hl : Hid (roundP 1023 4503599627370496 9218868437227405312 mode neg lo re pw = (lo + 1, 1)) := by rw [Hid, hrp.out, if_neg (Int.not_lt.2 HNN.out)]; simp [hB, hI2]
            go_wp2
            all_goals (go_ret2; exact ⟨by rw [hl.out]; rfl, HK3.out⟩)

end Go.Proofs.YtbkdaoicnobllabGreatDoor
