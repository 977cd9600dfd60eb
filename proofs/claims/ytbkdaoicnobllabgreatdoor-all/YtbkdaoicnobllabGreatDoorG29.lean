import Derived.Test.YtbkdaoicnobllabGreatDoorG14
import Derived.Test.YtbkdaoicnobllabGreatDoorG28
import Derived.Test.YtbkdaoicnobllabGreatDoorG07

namespace Go.Proofs.YtbkdaoicnobllabGreatDoor
open Go.RowKit

theorem rShF0 (x prec mode : Int) (h1 : -9223372036854775808 ≤ x) (h2 : x ≤ 9223372036854775807) (w : World) : Calls Tryz.prog 35 #[.int .i64 x, .int .i64 0, .int .i64 0, .int .i64 prec, .int .i64 mode] w fun r w' => FmtPost 0 x 0 prec mode w w' r (ShortQ false 0 (amtI 0 x).toNat) := by
 by_cases h : hasB 0 x = true ∧ allowB 0 prec mode = true
 ·obtain ⟨hh, ha⟩ := h
  obtain ⟨rfl, rfl⟩ := allow_short (by omega) ha
  exact rgood0 x 0 (-1) 0 _ (by unfold hasB sgnF at hh; simp at hh; omega) (by unfold hasB sgnF at hh; simp at hh; omega) (by omega) w (fun a hA hlt w => by
   have := rtextSh 0 a a (negI 0 x) (-1) 0 11 (-14) rfl (by omega) hlt w
   rw [show (amtI 0 x).toNat = a from by omega]; exact this)
 ·exact rbad0s x 0 prec mode _ (by omega) h w
theorem rShF1 (x prec mode : Int) (h1 : -9223372036854775808 ≤ x) (h2 : x ≤ 9223372036854775807) (w : World) : Calls Tryz.prog 35 #[.int .i64 x, .int .i64 1, .int .i64 0, .int .i64 prec, .int .i64 mode] w fun r w' => FmtPost 1 x 0 prec mode w w' r (ShortQ false 1 (amtI 1 x).toNat) := by
 by_cases h : hasB 1 x = true ∧ allowB 0 prec mode = true
 ·obtain ⟨hh, ha⟩ := h
  obtain ⟨rfl, rfl⟩ := allow_short (by omega) ha
  exact rgood1 x 0 (-1) 0 _ (by unfold hasB sgnF at hh; simp at hh; omega) (by unfold hasB sgnF at hh; simp at hh; omega) (by omega) w (fun a hA hlt w => by
   have := rtextSh 1 a a (negI 1 x) (-1) 0 24 (-126) rfl (by omega) hlt w
   rw [show (amtI 1 x).toNat = a from by omega]; exact this)
 ·exact rbad1s x 0 prec mode _ (by omega) h w
theorem rShF2 (x prec mode : Int) (h1 : -9223372036854775808 ≤ x) (h2 : x ≤ 9223372036854775807) (w : World) : Calls Tryz.prog 35 #[.int .i64 x, .int .i64 2, .int .i64 0, .int .i64 prec, .int .i64 mode] w fun r w' => FmtPost 2 x 0 prec mode w w' r (ShortQ false 2 (amtI 2 x).toNat) := by
 by_cases h : hasB 2 x = true ∧ allowB 0 prec mode = true
 ·obtain ⟨hh, ha⟩ := h
  obtain ⟨rfl, rfl⟩ := allow_short (by omega) ha
  exact rgood2 x 0 (-1) 0 _ h1 h2 (by omega) w (fun a hA hlt w => by
   have := rtextSh 2 a a (negI 2 x) (-1) 0 53 (-1022) rfl (by omega) hlt w
   rw [show (amtI 2 x).toNat = a from by omega]; exact this)
 ·exact rbad2s x 0 prec mode _ (by omega) h w
theorem both_sh (cv : Value) (x f prec mode : Int) (h1 : -9223372036854775808 ≤ x) (h2 : x ≤ 9223372036854775807) (w : World) (ht : Tab w) :
  Calls Tryz.prog 25 #[cv, .int .i64 x, .int .i64 f, .int .i64 0, .int .i64 prec, .int .i64 mode] w fun r w' => BothPost w w' r := by
 by_cases hf : 0 ≤ f ∧ f ≤ 2
 ·rcases (by omega : f = 0 ∨ f = 1 ∨ f = 2) with rfl | rfl | rfl
  ·exact formatted_any cv x 0 0 prec mode _ _ (fun T T' a b => a.same b) w ht (fun w hw => pShF cv 0 x prec mode (by decide) h1 h2 w hw) (fun w => rShF0 x prec mode h1 h2 w)
  ·exact formatted_any cv x 1 0 prec mode _ _ (fun T T' a b => a.same b) w ht (fun w hw => pShF cv 1 x prec mode (by decide) h1 h2 w hw) (fun w => rShF1 x prec mode h1 h2 w)
  ·exact formatted_any cv x 2 0 prec mode _ _ (fun T T' a b => a.same b) w ht (fun w hw => pShF cv 2 x prec mode (by decide) h1 h2 w hw) (fun w => rShF2 x prec mode h1 h2 w)
 ·exact formatted_none cv x f 0 prec mode hf w
theorem rPlF0 (x prec mode : Int) (h1 : -9223372036854775808 ≤ x) (h2 : x ≤ 9223372036854775807) (w : World) : Calls Tryz.prog 35 #[.int .i64 x, .int .i64 0, .int .i64 1, .int .i64 prec, .int .i64 mode] w fun r w' => FmtPost 0 x 1 prec mode w w' r (ShortQ true 0 (amtI 0 x).toNat) := by
 by_cases h : hasB 0 x = true ∧ allowB 1 prec mode = true
 ·obtain ⟨hh, ha⟩ := h
  obtain ⟨rfl, rfl⟩ := allow_short (by omega) ha
  exact rgood0 x 1 (-1) 0 _ (by unfold hasB sgnF at hh; simp at hh; omega) (by unfold hasB sgnF at hh; simp at hh; omega) (by omega) w (fun a hA hlt w => by
   have := rtextPl 0 a a (negI 0 x) (-1) 0 11 (-14) rfl (by omega) hlt w
   rw [show (amtI 0 x).toNat = a from by omega]; exact this)
 ·exact rbad0s x 1 prec mode _ (by omega) h w
theorem rPlF1 (x prec mode : Int) (h1 : -9223372036854775808 ≤ x) (h2 : x ≤ 9223372036854775807) (w : World) : Calls Tryz.prog 35 #[.int .i64 x, .int .i64 1, .int .i64 1, .int .i64 prec, .int .i64 mode] w fun r w' => FmtPost 1 x 1 prec mode w w' r (ShortQ true 1 (amtI 1 x).toNat) := by
 by_cases h : hasB 1 x = true ∧ allowB 1 prec mode = true
 ·obtain ⟨hh, ha⟩ := h
  obtain ⟨rfl, rfl⟩ := allow_short (by omega) ha
  exact rgood1 x 1 (-1) 0 _ (by unfold hasB sgnF at hh; simp at hh; omega) (by unfold hasB sgnF at hh; simp at hh; omega) (by omega) w (fun a hA hlt w => by
   have := rtextPl 1 a a (negI 1 x) (-1) 0 24 (-126) rfl (by omega) hlt w
   rw [show (amtI 1 x).toNat = a from by omega]; exact this)
 ·exact rbad1s x 1 prec mode _ (by omega) h w
theorem rPlF2 (x prec mode : Int) (h1 : -9223372036854775808 ≤ x) (h2 : x ≤ 9223372036854775807) (w : World) : Calls Tryz.prog 35 #[.int .i64 x, .int .i64 2, .int .i64 1, .int .i64 prec, .int .i64 mode] w fun r w' => FmtPost 2 x 1 prec mode w w' r (ShortQ true 2 (amtI 2 x).toNat) := by
 by_cases h : hasB 2 x = true ∧ allowB 1 prec mode = true
 ·obtain ⟨hh, ha⟩ := h
  obtain ⟨rfl, rfl⟩ := allow_short (by omega) ha
  exact rgood2 x 1 (-1) 0 _ h1 h2 (by omega) w (fun a hA hlt w => by
   have := rtextPl 2 a a (negI 2 x) (-1) 0 53 (-1022) rfl (by omega) hlt w
   rw [show (amtI 2 x).toNat = a from by omega]; exact this)
 ·exact rbad2s x 1 prec mode _ (by omega) h w
theorem both_pl (cv : Value) (x f prec mode : Int) (h1 : -9223372036854775808 ≤ x) (h2 : x ≤ 9223372036854775807) (w : World) (ht : Tab w) :
  Calls Tryz.prog 25 #[cv, .int .i64 x, .int .i64 f, .int .i64 1, .int .i64 prec, .int .i64 mode] w fun r w' => BothPost w w' r := by
 by_cases hf : 0 ≤ f ∧ f ≤ 2
 ·rcases (by omega : f = 0 ∨ f = 1 ∨ f = 2) with rfl | rfl | rfl
  ·exact formatted_any cv x 0 1 prec mode _ _ (fun T T' a b => a.same b) w ht (fun w hw => pPlF cv 0 x prec mode (by decide) h1 h2 w hw) (fun w => rPlF0 x prec mode h1 h2 w)
  ·exact formatted_any cv x 1 1 prec mode _ _ (fun T T' a b => a.same b) w ht (fun w hw => pPlF cv 1 x prec mode (by decide) h1 h2 w hw) (fun w => rPlF1 x prec mode h1 h2 w)
  ·exact formatted_any cv x 2 1 prec mode _ _ (fun T T' a b => a.same b) w ht (fun w hw => pPlF cv 2 x prec mode (by decide) h1 h2 w hw) (fun w => rPlF2 x prec mode h1 h2 w)
 ·exact formatted_none cv x f 1 prec mode hf w
end Go.Proofs.YtbkdaoicnobllabGreatDoor

namespace Go.Proofs.YtbkdaoicnobllabGreatDoor
open Go.RowKit

theorem allow_none {v prec mode : Int} (hv : ¬ (v = 0 ∨ v = 1 ∨ v = 2 ∨ v = 3 ∨ v = 4)) : allowB v prec mode = false := by
 unfold allowB; rw [if_neg (by omega), if_neg (by omega)]
theorem both_other (cv : Value) (x f verb prec mode : Int) (hv : ¬ (verb = 0 ∨ verb = 1 ∨ verb = 2 ∨ verb = 3 ∨ verb = 4)) (h1 : -9223372036854775808 ≤ x) (h2 : x ≤ 9223372036854775807) (w : World) (ht : Tab w) :
  Calls Tryz.prog 25 #[cv, .int .i64 x, .int .i64 f, .int .i64 verb, .int .i64 prec, .int .i64 mode] w fun r w' => BothPost w w' r := by
 have hn := allow_none (prec := prec) (mode := mode) hv
 by_cases hf : 0 ≤ f ∧ f ≤ 2
 ·rcases (by omega : f = 0 ∨ f = 1 ∨ f = 2) with rfl | rfl | rfl
  ·exact formatted_any cv x 0 verb prec mode (fun _ => False) (fun _ => False) (fun T T' a b => a.elim) w ht (fun w hw => pformat_any cv 0 x verb prec mode _ (by decide) h1 h2 w hw (fun ha => by rw [hn] at ha; cases ha)) (fun w => rbad0n x verb prec mode _ hv (fun h => by rw [hn] at h; exact absurd h.2 (by decide)) w)
  ·exact formatted_any cv x 1 verb prec mode (fun _ => False) (fun _ => False) (fun T T' a b => a.elim) w ht (fun w hw => pformat_any cv 1 x verb prec mode _ (by decide) h1 h2 w hw (fun ha => by rw [hn] at ha; cases ha)) (fun w => rbad1n x verb prec mode _ hv (fun h => by rw [hn] at h; exact absurd h.2 (by decide)) w)
  ·exact formatted_any cv x 2 verb prec mode (fun _ => False) (fun _ => False) (fun T T' a b => a.elim) w ht (fun w hw => pformat_any cv 2 x verb prec mode _ (by decide) h1 h2 w hw (fun ha => by rw [hn] at ha; cases ha)) (fun w => rbad2n x verb prec mode _ hv (fun h => by rw [hn] at h; exact absurd h.2 (by decide)) w)
 ·exact formatted_none cv x f verb prec mode hf w
theorem both_any (cv : Value) (x f verb prec mode : Int) (h1 : -9223372036854775808 ≤ x) (h2 : x ≤ 9223372036854775807) (w : World) (ht : Tab w) :
  Calls Tryz.prog 25 #[cv, .int .i64 x, .int .i64 f, .int .i64 verb, .int .i64 prec, .int .i64 mode] w fun r w' => BothPost w w' r := by
 by_cases hv : verb = 0 ∨ verb = 1 ∨ verb = 2 ∨ verb = 3 ∨ verb = 4
 ·rcases hv with rfl | rfl | rfl | rfl | rfl
  ·exact both_sh cv x f prec mode h1 h2 w ht
  ·exact both_pl cv x f prec mode h1 h2 w ht
  ·exact both_exp cv x f prec mode h1 h2 w ht
  ·exact both_fix cv x f prec mode h1 h2 w ht
  ·exact both_hex cv x f prec mode h1 h2 w ht
 ·exact both_other cv x f verb prec mode hv h1 h2 w ht
end Go.Proofs.YtbkdaoicnobllabGreatDoor

namespace Go.Proofs.YtbkdaoicnobllabGreatDoor
set_option maxRecDepth 100000
set_option maxHeartbeats 1000000
open Go.RowKit

theorem TwoN.below {S : Nat → Prop} {w w1 : World} {bo bu V U l1 l2 : Nat} (h : TwoN S w bo bu V U l1 l2) (hb : Below w.heap.size w w1) : TwoN S w1 bo bu V U l1 l2 := by
 obtain ⟨vo, Lo, vu, Lu, h1, h2⟩ := h
 have ht : Turn (fun k => w.heap.size ≤ k) w w1 := ⟨hb.os, hb.tape, hb.output, hb.size, fun k hk _ => hb.block k hk⟩
 exact ⟨vo, Lo, vu, Lu, ⟨h1.over.turn ht (fun k hk hn => by have := h1.over.foot_lt k hk; omega), h1.under.turn ht (fun k hk hn => by have := h1.under.foot_lt k hk; omega), h1.apart, fun k hk => Nat.lt_of_lt_of_le (h1.keep k hk) hb.size, h1.so, h1.su⟩, h2⟩
theorem FracAt.below {S : Nat → Prop} {w w1 : World} {p bo bu V U : Nat} {pw : Int} {l : Nat} (h : FracAt S w p bo bu V U pw l) (hb : Below w.heap.size w w1) : FracAt S w1 p bo bu V U pw l :=
 h.moved (h.two.below hb) (Below.kept hb h.two.keep)
theorem TwoN.set {S T : Nat → Prop} {w : World} {bo bu V U l1 l2 : Nat} (h : TwoN S w bo bu V U l1 l2) (hs : ∀ k, T k → S k) : TwoN T w bo bu V U l1 l2 := by
 obtain ⟨vo, Lo, vu, Lu, h1, h2⟩ := h
 exact ⟨vo, Lo, vu, Lu, ⟨h1.over, h1.under, h1.apart, fun k hk => h1.keep k (hs k hk), fun k hk ht => h1.so k hk (hs k ht), fun k hk ht => h1.su k hk (hs k ht)⟩, h2⟩
theorem FracAt.alloc {S : Nat → Prop} {w : World} {p bo bu V U : Nat} {pw : Int} {l : Nat} (h : FracAt S w p bo bu V U pw l) (o : Obj) : FracAt (fun k => S k ∨ k = w.heap.size) (w.alloc o) p bo bu V U pw l := by
 have hb : Below w.heap.size w (w.alloc o) := (Below.refl _ _).alloc (Nat.le_refl _) _
 have h1 := h.below hb
 have hp := h.two.keep p (.inr rfl)
 refine ⟨h1.c0, h1.c1, h1.c2, h1.fz, fun hs => ?_, (h.two.alloc o).set (fun k hk => ?_)⟩
 ·rcases hs with hs | hs
  ·exact h.out hs
  ·omega
 ·rcases hk with (hk | hk) | hk
  ·exact .inl (.inl hk)
  ·exact .inr hk
  ·exact .inl (.inr hk)
def lowPair (F : Nat) (B N I : Int) (V U : Nat) (pw : Int) : Int × Int :=
 if B < pw then (I - 1, 3)
 else if pw < 1 - B then
  if (F : Int) + 1 - (1 - B - pw) < 0 then (0, 1) else (((V * 2 ^ ((F : Int) + 1 - (1 - B - pw)).toNat / (2 * U) : Nat) : Int), restOf (V * 2 ^ ((F : Int) + 1 - (1 - B - pw)).toNat % (2 * U)) U)
 else (((V * 2 ^ (F + 1) / (2 * U) : Nat) : Int) + (pw - (1 - B)) * N, restOf (V * 2 ^ (F + 1) % (2 * U)) U)
theorem take_lt {V U c : Nat} (h : V < 2 * U) : V * 2 ^ c / (2 * U) < 2 ^ c := by
 rw [Nat.div_lt_iff_lt_mul (by omega), Nat.mul_comm (2 ^ c)]
 exact Nat.mul_lt_mul_of_pos_right h (Nat.pow_pos (by omega))

theorem lower0 (S : Nat → Prop) (p bo bu V U : Nat) (pw : Int) (w : World) (h : FracAt S w p bo bu V U pw 8000) (hVU : V < 2 * U) (hp1 : -110000000 ≤ pw) (hp2 : pw ≤ 110000000) :
  Calls Tryz.prog 67 #[.pointer (some ⟨p, 0, none⟩), layV 10 15 1024 31744 (32768)] w fun e w' => e = .returned (.tuple #[.int .i64 (lowPair 10 15 1024 31744 V U pw).1, .int .i64 (lowPair 10 15 1024 31744 V U pw).2]) ∧ Kept S w w' := by
 obtain ⟨w1, hw1⟩ : ∃ w1, w1 = w.alloc (.cells #[.int .i64 10, .int .i64 15, .int .i64 1024, .int .i64 31744, .int .i64 (32768)] 63) := ⟨_, rfl⟩
 have HF1 : Hid (FracAt (fun k => S k ∨ k = w.heap.size) w1 p bo bu V U pw 8000) := by rw [hw1]; exact h.alloc _
 have HK1 : Hid (Kept S w w1) := by rw [hw1]; exact Below.kept ((Below.refl _ _).alloc (Nat.le_refl _) _) (fun k hs => h.two.keep k (.inl hs))
 have HV := hid hVU
 have l0 : w1.cell? ⟨w.heap.size, 0, none⟩ = some (.int .i64 10) := by rw [hw1]; simp [go_sem]
 have l1 : w1.cell? ⟨w.heap.size, 1, none⟩ = some (.int .i64 15) := by rw [hw1]; simp [go_sem]
 have l2 : w1.cell? ⟨w.heap.size, 2, none⟩ = some (.int .i64 1024) := by rw [hw1]; simp [go_sem]
 have l3 : w1.cell? ⟨w.heap.size, 3, none⟩ = some (.int .i64 31744) := by rw [hw1]; simp [go_sem]
 have l4 : w1.cell? ⟨w.heap.size, 4, none⟩ = some (.int .i64 (32768)) := by rw [hw1]; simp [go_sem]
 have HX := hid (power_any _ p bo bu V U 8000 pw w1 HF1.out)
 have HW := hid hw1
 clear h hVU hw1
 unfold layV
 go_enter Tryz.func67, Tryz.ntmps67
 go_wp2_with fail
 rw [← HW.out]
 refine HX.out.mono ?_
 rintro e w2 ⟨rfl, rfl⟩
 have HX2 := hid (leastPower_any 10 15 1024 31744 (32768) (by omega) (by omega) w2)
 unfold layV at HX2
 clear HX HW
 go_wp2_with fail
 refine HX2.out.mono ?_
 rintro e w3 ⟨rfl, hb3⟩
 have HF3 := hid (HF1.out.below hb3)
 have HK3 := hid (HK1.out.trans (Below.kept hb3 (fun k hs => HF1.out.two.keep k (.inl (.inl hs)))))
 have m0 := keep_cell' hb3 l0
 have m1 := keep_cell' hb3 l1
 have m2 := keep_cell' hb3 l2
 have m3 := keep_cell' hb3 l3
 clear HX2 HF1 HK1 l0 l1 l2 l3 l4 hb3
 by_cases hA : 15 < pw
 ·have hl : Hid (lowPair 10 15 1024 31744 V U pw = (31744 - 1, 3)) := by unfold Hid lowPair; rw [if_pos hA]
  go_wp2
  go_ret2
  exact ⟨by rw [hl.out]; rfl, HK3.out⟩
 ·by_cases hB : pw < 1 - 15
  ·by_cases hC : (10 : Int) + 1 - (1 - 15 - pw) < 0
   ·have hl : Hid (lowPair 10 15 1024 31744 V U pw = (0, 1)) := by unfold Hid lowPair; rw [if_neg hA, if_pos hB]; exact if_pos hC
    have HX3 := hid (take_neg p (11 - (-14 - pw)) w3 (by omega))
    go_wp2_with fail
    refine HX3.out.mono ?_
    rintro e w4 ⟨rfl, rfl⟩
    clear HX3
    go_wp2
    go_ret2
    exact ⟨by rw [hl.out]; rfl, HK3.out⟩
   ·obtain ⟨c, hc⟩ : ∃ c : Nat, 11 - (-14 - pw) = (c : Int) := ⟨(11 - (-14 - pw)).toNat, by omega⟩
    have hl : Hid (lowPair 10 15 1024 31744 V U pw = (((V * 2 ^ c / (2 * U) : Nat) : Int), restOf (V * 2 ^ c % (2 * U)) U)) := by
     unfold Hid lowPair
     rw [if_neg hA, if_pos hB, if_neg (show ¬ (((10 : Nat) : Int) + 1 - (1 - 15 - pw) < 0) from hC), show (((10 : Nat) : Int) + 1 - (1 - 15 - pw)).toNat = c from by omega]
    have HX3 := hid (take_any _ p bo bu V U c pw w3 HF3.out (by omega) HV.out hp1 hp2)
    have HC := hid hc
    clear hc hC
    go_wp2_with fail
    rw [HC.out]
    refine HX3.out.mono ?_
    rintro e w4 ⟨rfl, hk4⟩
    have HK4 := hid (HK3.out.trans (hk4.mono (fun k hs => .inl hs)))
    clear HX3 hk4
    go_wp2
    go_ret2
    exact ⟨by rw [hl.out]; rfl, HK4.out⟩
  ·have HX3 := hid (take_any _ p bo bu V U 11 pw w3 HF3.out (by omega) HV.out hp1 hp2)
   have hq := take_lt (c := 11) HV.out
   have HL : Hid (lowPair 10 15 1024 31744 V U pw = (((V * 2 ^ 11 / (2 * U) : Nat) : Int) + (pw - -14) * 1024, restOf (V * 2 ^ 11 % (2 * U)) U)) := by unfold Hid lowPair; rw [if_neg hA, if_neg hB]; rfl
   go_wp2_with fail
   refine HX3.out.mono ?_
   rintro e w4 ⟨rfl, hk4⟩
   have n2 := hk4.cell m2 (.inr rfl)
   have HK4 := hid (HK3.out.trans (hk4.mono (fun k hs => .inl hs)))
   obtain ⟨q, hqq⟩ : ∃ q, q = V * 2 ^ 11 / (2 * U) := ⟨_, rfl⟩
   rw [← hqq] at hq HL ⊢
   have hq2 : (q : Int) ≤ 2048 := by omega
   clear HX3 hk4 hqq hq
   go_wp2
   go_ret2
   exact ⟨by rw [HL.out]; rfl, HK4.out⟩

theorem lower1 (S : Nat → Prop) (p bo bu V U : Nat) (pw : Int) (w : World) (h : FracAt S w p bo bu V U pw 8000) (hVU : V < 2 * U) (hp1 : -110000000 ≤ pw) (hp2 : pw ≤ 110000000) :
  Calls Tryz.prog 67 #[.pointer (some ⟨p, 0, none⟩), layV 23 127 8388608 2139095040 (2147483648)] w fun e w' => e = .returned (.tuple #[.int .i64 (lowPair 23 127 8388608 2139095040 V U pw).1, .int .i64 (lowPair 23 127 8388608 2139095040 V U pw).2]) ∧ Kept S w w' := by
 obtain ⟨w1, hw1⟩ : ∃ w1, w1 = w.alloc (.cells #[.int .i64 23, .int .i64 127, .int .i64 8388608, .int .i64 2139095040, .int .i64 (2147483648)] 63) := ⟨_, rfl⟩
 have HF1 : Hid (FracAt (fun k => S k ∨ k = w.heap.size) w1 p bo bu V U pw 8000) := by rw [hw1]; exact h.alloc _
 have HK1 : Hid (Kept S w w1) := by rw [hw1]; exact Below.kept ((Below.refl _ _).alloc (Nat.le_refl _) _) (fun k hs => h.two.keep k (.inl hs))
 have HV := hid hVU
 have l0 : w1.cell? ⟨w.heap.size, 0, none⟩ = some (.int .i64 23) := by rw [hw1]; simp [go_sem]
 have l1 : w1.cell? ⟨w.heap.size, 1, none⟩ = some (.int .i64 127) := by rw [hw1]; simp [go_sem]
 have l2 : w1.cell? ⟨w.heap.size, 2, none⟩ = some (.int .i64 8388608) := by rw [hw1]; simp [go_sem]
 have l3 : w1.cell? ⟨w.heap.size, 3, none⟩ = some (.int .i64 2139095040) := by rw [hw1]; simp [go_sem]
 have l4 : w1.cell? ⟨w.heap.size, 4, none⟩ = some (.int .i64 (2147483648)) := by rw [hw1]; simp [go_sem]
 have HX := hid (power_any _ p bo bu V U 8000 pw w1 HF1.out)
 have HW := hid hw1
 clear h hVU hw1
 unfold layV
 go_enter Tryz.func67, Tryz.ntmps67
 go_wp2_with fail
 rw [← HW.out]
 refine HX.out.mono ?_
 rintro e w2 ⟨rfl, rfl⟩
 have HX2 := hid (leastPower_any 23 127 8388608 2139095040 (2147483648) (by omega) (by omega) w2)
 unfold layV at HX2
 clear HX HW
 go_wp2_with fail
 refine HX2.out.mono ?_
 rintro e w3 ⟨rfl, hb3⟩
 have HF3 := hid (HF1.out.below hb3)
 have HK3 := hid (HK1.out.trans (Below.kept hb3 (fun k hs => HF1.out.two.keep k (.inl (.inl hs)))))
 have m0 := keep_cell' hb3 l0
 have m1 := keep_cell' hb3 l1
 have m2 := keep_cell' hb3 l2
 have m3 := keep_cell' hb3 l3
 clear HX2 HF1 HK1 l0 l1 l2 l3 l4 hb3
 by_cases hA : 127 < pw
 ·have hl : Hid (lowPair 23 127 8388608 2139095040 V U pw = (2139095040 - 1, 3)) := by unfold Hid lowPair; rw [if_pos hA]
  go_wp2
  go_ret2
  exact ⟨by rw [hl.out]; rfl, HK3.out⟩
 ·by_cases hB : pw < 1 - 127
  ·by_cases hC : (23 : Int) + 1 - (1 - 127 - pw) < 0
   ·have hl : Hid (lowPair 23 127 8388608 2139095040 V U pw = (0, 1)) := by unfold Hid lowPair; rw [if_neg hA, if_pos hB]; exact if_pos hC
    have HX3 := hid (take_neg p (24 - (-126 - pw)) w3 (by omega))
    go_wp2_with fail
    refine HX3.out.mono ?_
    rintro e w4 ⟨rfl, rfl⟩
    clear HX3
    go_wp2
    go_ret2
    exact ⟨by rw [hl.out]; rfl, HK3.out⟩
   ·obtain ⟨c, hc⟩ : ∃ c : Nat, 24 - (-126 - pw) = (c : Int) := ⟨(24 - (-126 - pw)).toNat, by omega⟩
    have hl : Hid (lowPair 23 127 8388608 2139095040 V U pw = (((V * 2 ^ c / (2 * U) : Nat) : Int), restOf (V * 2 ^ c % (2 * U)) U)) := by
     unfold Hid lowPair
     rw [if_neg hA, if_pos hB, if_neg (show ¬ (((23 : Nat) : Int) + 1 - (1 - 127 - pw) < 0) from hC), show (((23 : Nat) : Int) + 1 - (1 - 127 - pw)).toNat = c from by omega]
    have HX3 := hid (take_any _ p bo bu V U c pw w3 HF3.out (by omega) HV.out hp1 hp2)
    have HC := hid hc
    clear hc hC
    go_wp2_with fail
    rw [HC.out]
    refine HX3.out.mono ?_
    rintro e w4 ⟨rfl, hk4⟩
    have HK4 := hid (HK3.out.trans (hk4.mono (fun k hs => .inl hs)))
    clear HX3 hk4
    go_wp2
    go_ret2
    exact ⟨by rw [hl.out]; rfl, HK4.out⟩
  ·have HX3 := hid (take_any _ p bo bu V U 24 pw w3 HF3.out (by omega) HV.out hp1 hp2)
   have hq := take_lt (c := 24) HV.out
   have HL : Hid (lowPair 23 127 8388608 2139095040 V U pw = (((V * 2 ^ 24 / (2 * U) : Nat) : Int) + (pw - -126) * 8388608, restOf (V * 2 ^ 24 % (2 * U)) U)) := by unfold Hid lowPair; rw [if_neg hA, if_neg hB]; rfl
   go_wp2_with fail
   refine HX3.out.mono ?_
   rintro e w4 ⟨rfl, hk4⟩
   have n2 := hk4.cell m2 (.inr rfl)
   have HK4 := hid (HK3.out.trans (hk4.mono (fun k hs => .inl hs)))
   obtain ⟨q, hqq⟩ : ∃ q, q = V * 2 ^ 24 / (2 * U) := ⟨_, rfl⟩
   rw [← hqq] at hq HL ⊢
   have hq2 : (q : Int) ≤ 16777216 := by omega
   clear HX3 hk4 hqq hq
   go_wp2
   go_ret2
   exact ⟨by rw [HL.out]; rfl, HK4.out⟩

theorem lower2 (S : Nat → Prop) (p bo bu V U : Nat) (pw : Int) (w : World) (h : FracAt S w p bo bu V U pw 8000) (hVU : V < 2 * U) (hp1 : -110000000 ≤ pw) (hp2 : pw ≤ 110000000) :
  Calls Tryz.prog 67 #[.pointer (some ⟨p, 0, none⟩), layV 52 1023 4503599627370496 9218868437227405312 (-9223372036854775808)] w fun e w' => e = .returned (.tuple #[.int .i64 (lowPair 52 1023 4503599627370496 9218868437227405312 V U pw).1, .int .i64 (lowPair 52 1023 4503599627370496 9218868437227405312 V U pw).2]) ∧ Kept S w w' := by
 obtain ⟨w1, hw1⟩ : ∃ w1, w1 = w.alloc (.cells #[.int .i64 52, .int .i64 1023, .int .i64 4503599627370496, .int .i64 9218868437227405312, .int .i64 (-9223372036854775808)] 63) := ⟨_, rfl⟩
 have HF1 : Hid (FracAt (fun k => S k ∨ k = w.heap.size) w1 p bo bu V U pw 8000) := by rw [hw1]; exact h.alloc _
 have HK1 : Hid (Kept S w w1) := by rw [hw1]; exact Below.kept ((Below.refl _ _).alloc (Nat.le_refl _) _) (fun k hs => h.two.keep k (.inl hs))
 have HV := hid hVU
 have l0 : w1.cell? ⟨w.heap.size, 0, none⟩ = some (.int .i64 52) := by rw [hw1]; simp [go_sem]
 have l1 : w1.cell? ⟨w.heap.size, 1, none⟩ = some (.int .i64 1023) := by rw [hw1]; simp [go_sem]
 have l2 : w1.cell? ⟨w.heap.size, 2, none⟩ = some (.int .i64 4503599627370496) := by rw [hw1]; simp [go_sem]
 have l3 : w1.cell? ⟨w.heap.size, 3, none⟩ = some (.int .i64 9218868437227405312) := by rw [hw1]; simp [go_sem]
 have l4 : w1.cell? ⟨w.heap.size, 4, none⟩ = some (.int .i64 (-9223372036854775808)) := by rw [hw1]; simp [go_sem]
 have HX := hid (power_any _ p bo bu V U 8000 pw w1 HF1.out)
 have HW := hid hw1
 clear h hVU hw1
 unfold layV
 go_enter Tryz.func67, Tryz.ntmps67
 go_wp2_with fail
 rw [← HW.out]
 refine HX.out.mono ?_
 rintro e w2 ⟨rfl, rfl⟩
 have HX2 := hid (leastPower_any 52 1023 4503599627370496 9218868437227405312 (-9223372036854775808) (by omega) (by omega) w2)
 unfold layV at HX2
 clear HX HW
 go_wp2_with fail
 refine HX2.out.mono ?_
 rintro e w3 ⟨rfl, hb3⟩
 have HF3 := hid (HF1.out.below hb3)
 have HK3 := hid (HK1.out.trans (Below.kept hb3 (fun k hs => HF1.out.two.keep k (.inl (.inl hs)))))
 have m0 := keep_cell' hb3 l0
 have m1 := keep_cell' hb3 l1
 have m2 := keep_cell' hb3 l2
 have m3 := keep_cell' hb3 l3
 clear HX2 HF1 HK1 l0 l1 l2 l3 l4 hb3
 by_cases hA : 1023 < pw
 ·have hl : Hid (lowPair 52 1023 4503599627370496 9218868437227405312 V U pw = (9218868437227405312 - 1, 3)) := by unfold Hid lowPair; rw [if_pos hA]
  go_wp2
  go_ret2
  exact ⟨by rw [hl.out]; rfl, HK3.out⟩
 ·by_cases hB : pw < 1 - 1023
  ·by_cases hC : (52 : Int) + 1 - (1 - 1023 - pw) < 0
   ·have hl : Hid (lowPair 52 1023 4503599627370496 9218868437227405312 V U pw = (0, 1)) := by unfold Hid lowPair; rw [if_neg hA, if_pos hB]; exact if_pos hC
    have HX3 := hid (take_neg p (53 - (-1022 - pw)) w3 (by omega))
    go_wp2_with fail
    refine HX3.out.mono ?_
    rintro e w4 ⟨rfl, rfl⟩
    clear HX3
    go_wp2
    go_ret2
    exact ⟨by rw [hl.out]; rfl, HK3.out⟩
   ·obtain ⟨c, hc⟩ : ∃ c : Nat, 53 - (-1022 - pw) = (c : Int) := ⟨(53 - (-1022 - pw)).toNat, by omega⟩
    have hl : Hid (lowPair 52 1023 4503599627370496 9218868437227405312 V U pw = (((V * 2 ^ c / (2 * U) : Nat) : Int), restOf (V * 2 ^ c % (2 * U)) U)) := by
     unfold Hid lowPair
     rw [if_neg hA, if_pos hB, if_neg (show ¬ (((52 : Nat) : Int) + 1 - (1 - 1023 - pw) < 0) from hC), show (((52 : Nat) : Int) + 1 - (1 - 1023 - pw)).toNat = c from by omega]
    have HX3 := hid (take_any _ p bo bu V U c pw w3 HF3.out (by omega) HV.out hp1 hp2)
    have HC := hid hc
    clear hc hC
    go_wp2_with fail
    rw [HC.out]
    refine HX3.out.mono ?_
    rintro e w4 ⟨rfl, hk4⟩
    have HK4 := hid (HK3.out.trans (hk4.mono (fun k hs => .inl hs)))
    clear HX3 hk4
    go_wp2
    go_ret2
    exact ⟨by rw [hl.out]; rfl, HK4.out⟩
  ·have HX3 := hid (take_any _ p bo bu V U 53 pw w3 HF3.out (by omega) HV.out hp1 hp2)
   have hq := take_lt (c := 53) HV.out
   have HL : Hid (lowPair 52 1023 4503599627370496 9218868437227405312 V U pw = (((V * 2 ^ 53 / (2 * U) : Nat) : Int) + (pw - -1022) * 4503599627370496, restOf (V * 2 ^ 53 % (2 * U)) U)) := by unfold Hid lowPair; rw [if_neg hA, if_neg hB]; rfl
   go_wp2_with fail
   refine HX3.out.mono ?_
   rintro e w4 ⟨rfl, hk4⟩
   have n2 := hk4.cell m2 (.inr rfl)
   have HK4 := hid (HK3.out.trans (hk4.mono (fun k hs => .inl hs)))
   obtain ⟨q, hqq⟩ : ∃ q, q = V * 2 ^ 53 / (2 * U) := ⟨_, rfl⟩
   rw [← hqq] at hq HL ⊢
   have hq2 : (q : Int) ≤ 9007199254740992 := by omega
   clear HX3 hk4 hqq hq
   go_wp2
   go_ret2
   exact ⟨by rw [HL.out]; rfl, HK4.out⟩

end Go.Proofs.YtbkdaoicnobllabGreatDoor
