import Derived.Test.YtbkdaoicnobllabGreatDoorG06
import Derived.Test.YtbkdaoicnobllabGreatDoorG04
import Derived.Test.YtbkdaoicnobllabGreatDoorG01
import Derived.Deep.QuietTactic
import Derived.BigQuiet

namespace Go.Proofs.YtbkdaoicnobllabGreatDoor
set_option maxRecDepth 100000
set_option maxHeartbeats 1000000
open Go.RowKit

def layV (F B N I G : Int) : Value := .agg #[.int .i64 F, .int .i64 B, .int .i64 N, .int .i64 I, .int .i64 G]
def layOf (f : Int) : Value := if f = 0 then layV 10 15 1024 31744 32768 else if f = 1 then layV 23 127 8388608 2139095040 2147483648 else layV 52 1023 4503599627370496 9218868437227405312 (-9223372036854775808)

theorem patOf_any (f : Int) (h0 : 0 ≤ f) (h2 : f ≤ 2) (w : World) :
  Calls Tryz.prog 27 #[.int .i64 f] w fun e w' => e = .returned (layOf f) ∧ Below w.heap.size w w' := by
 go_enter Tryz.func27, Tryz.ntmps27
 rcases (by omega : f = 0 ∨ f = 1 ∨ f = 2) with rfl | rfl | rfl
 ·go_wp2
  refine bodyPost_ret (v := .agg #[.int .i64 (10), .int .i64 (15), .int .i64 (1024), .int .i64 (31744), .int .i64 (32768)]) (by simp [results, Tryz.results27, go_sem]) rfl ⟨?_, (Below.refl _ _).alloc (Nat.le_refl _) _⟩
  rfl
 ·go_wp2
  refine bodyPost_ret (v := .agg #[.int .i64 (23), .int .i64 (127), .int .i64 (8388608), .int .i64 (2139095040), .int .i64 (2147483648)]) (by simp [results, Tryz.results27, go_sem]) rfl ⟨?_, (Below.refl _ _).alloc (Nat.le_refl _) _⟩
  rfl
 ·go_wp2
  refine bodyPost_ret (v := .agg #[.int .i64 (52), .int .i64 (1023), .int .i64 (4503599627370496), .int .i64 (9218868437227405312), .int .i64 (-9223372036854775808)]) (by simp [results, Tryz.results27, go_sem]) rfl ⟨?_, (Below.refl _ _).alloc (Nat.le_refl _) _⟩
  rfl
theorem leastPower_any (F B N I G : Int) (hB1 : 0 ≤ B) (hB2 : B ≤ 1023) (w : World) :
  Calls Tryz.prog 90 #[layV F B N I G] w fun e w' => e = .returned (.int .i64 (1 - B)) ∧ Below w.heap.size w w' := by
 unfold layV
 go_enter Tryz.func90, Tryz.ntmps90
 go_wp2
 go_ret
 exact ⟨rfl, (Below.refl _ _).alloc (Nat.le_refl _) _⟩
theorem patNaN_any (f : Int) (h0 : 0 ≤ f) (h2 : f ≤ 2) (w : World) :
    Calls Tryz.prog 40 #[layOf f] w fun e w' => e = .returned (.int .i64 (nanP f)) ∧ Below w.heap.size w w' := by
  rcases (by omega : f = 0 ∨ f = 1 ∨ f = 2) with rfl | rfl | rfl
  all_goals
    (simp only [layOf, layV]
     go_enter Tryz.func40, Tryz.ntmps40
     go_wp2
     go_ret
     exact ⟨rfl, (Below.refl _ _).alloc (Nat.le_refl _) _⟩)
theorem patSigned_any (f a : Int) (neg : Bool) (h0 : 0 ≤ f) (h2 : f ≤ 2) (ha0 : 0 ≤ a) (ha : a ≤ 9218868437227405312) (w : World) :
    Calls Tryz.prog 41 #[layOf f, .int .i64 a, .bool neg] w fun e w' => e = .returned (.int .i64 (signedV f neg a)) ∧ Below w.heap.size w w' := by
  cases neg <;> rcases (by omega : f = 0 ∨ f = 1 ∨ f = 2) with rfl | rfl | rfl
  all_goals
    (simp only [layOf, layV]
     go_enter Tryz.func41, Tryz.ntmps41
     go_wp2
     go_ret
     exact ⟨rfl, (Below.refl _ _).alloc (Nat.le_refl _) _⟩)
theorem toUpper_any (mode rest : Int) (neg odd : Bool) (h1 : 0 < rest) (h2 : rest ≤ 3) (w : World) :
    Calls Tryz.prog 68 #[.int .i64 mode, .bool neg, .bool odd, .int .i64 rest] w fun e w' => e = .returned (.bool (awayB mode neg rest odd)) ∧ w' = w := by
  rcases (by omega : rest = 1 ∨ rest = 2 ∨ rest = 3) with rfl | rfl | rfl
  all_goals
    (by_cases hm : mode = 0 ∨ mode = 1 ∨ mode = 3 ∨ mode = 4
     · rcases hm with rfl | rfl | rfl | rfl
       all_goals
         (go_enter Tryz.func68, Tryz.ntmps68
          go_wp2
          all_goals (go_ret; exact ⟨by simp [awayB], rfl⟩))
     · have m0 : ¬ mode = 0 := by omega
       have m1 : ¬ mode = 1 := by omega
       have m3 : ¬ mode = 3 := by omega
       have m4 : ¬ mode = 4 := by omega
       clear hm
       go_enter Tryz.func68, Tryz.ntmps68
       go_wp2
       go_ret
       exact ⟨by simp [awayB, m0, m1, m3, m4], rfl⟩)
end Go.Proofs.YtbkdaoicnobllabGreatDoor

namespace Go.Proofs.YtbkdaoicnobllabGreatDoor
set_option maxRecDepth 100000
set_option maxHeartbeats 1000000
open Go.RowKit

def sgnF (f : Int) : Int := if f = 0 then 32768 else if f = 1 then 2147483648 else 9223372036854775808
def hasB (f x : Int) : Bool := if f = 2 then true else decide (0 ≤ x ∧ x < 2 * sgnF f)
def negI (f x : Int) : Bool := if f = 2 then decide (x < 0) else decide (sgnF f ≤ x)
theorem ret_two {a b : Int} {c d : Bool} (h : a = b) (k : c = d) : Ending.returned (.tuple #[.int .i64 a, .bool c]) = .returned (.tuple #[.int .i64 b, .bool d]) := by rw [h, k]
theorem ret_two' {a b c d : Int} (h : a = b) (k : c = d) : Ending.returned (.tuple #[.int .i64 a, .int .i64 c]) = .returned (.tuple #[.int .i64 b, .int .i64 d]) := by rw [h, k]
def amtI (f x : Int) : Int := if f = 2 then (if x < 0 then x + sgnF f else x) else if sgnF f ≤ x then x - sgnF f else x
theorem lay_num {f : Int} (hf : 0 ≤ f ∧ f ≤ 2) : ∃ F B N I G : Int, layOf f = layV F B N I G ∧ (infN f : Int) = I ∧ 2 ^ fQ f = N.toNat ∧ fE f = 1 - B - F ∧ 10 ≤ F ∧ F ≤ 52 ∧ 15 ≤ B ∧ B ≤ 1023 ∧ 1024 ≤ N ∧ N ≤ 4503599627370496 ∧ I ≤ 9218868437227405312 ∧ I ≤ 2047 * N := by
 rcases (by omega : f = 0 ∨ f = 1 ∨ f = 2) with rfl | rfl | rfl
 ·exact ⟨10, 15, 1024, 31744, 32768, rfl, rfl, by simp [fQ], rfl, by omega⟩
 ·exact ⟨23, 127, 8388608, 2139095040, 2147483648, rfl, rfl, by simp [fQ], rfl, by omega⟩
 ·exact ⟨52, 1023, 4503599627370496, 9218868437227405312, -9223372036854775808, rfl, rfl, by simp [fQ], rfl, by omega⟩
theorem has_any (f x : Int) (hf : 0 ≤ f ∧ f ≤ 2) (h1 : -9223372036854775808 ≤ x) (h2 : x ≤ 9223372036854775807) (w : World) : Calls Tryz.prog 28 #[layOf f, .int .i64 x] w fun e w' => e = .returned (.bool (hasB f x)) ∧ Below w.heap.size w w' := by
  by_cases h : f = 2
  · subst h
    simp only [layOf, layV]
    go_enter Tryz.func28, Tryz.ntmps28
    go_wp2
    go_ret
    exact ⟨ret_bool (by simp [hasB]), (Below.refl _ _).alloc (Nat.le_refl _) _⟩
  by_cases a : 0 ≤ x <;> by_cases b : x < 2 * sgnF f
  all_goals
    (rcases (by omega : f = 0 ∨ f = 1) with rfl | rfl
     all_goals
       (simp only [sgnF] at b
        first
        | (exfalso; omega)
        | (simp only [layOf, layV]
           clear h
           go_enter Tryz.func28, Tryz.ntmps28
           go_wp2
           all_goals (go_ret; exact ⟨ret_bool (by simp [hasB, sgnF] <;> omega), (Below.refl _ _).alloc (Nat.le_refl _) _⟩))))
theorem split_key {f x : Int} (hf : 0 ≤ f ∧ f ≤ 2) (hh : hasB f x = true) (h1 : -9223372036854775808 ≤ x) (h2 : x ≤ 9223372036854775807) : ∃ F B N I G : Int, layOf f = layV F B N I G ∧ (G == 0) = false ∧ ((bits .and .i64 x G = 0 ∧ x = amtI f x ∧ false = negI f x) ∨ (bits .and .i64 x G = G ∧ (0 ≤ x - G ∧ x - G ≤ 9223372036854775807) ∧ x - G = amtI f x ∧ true = negI f x)) := by
 rcases (by omega : f = 0 ∨ f = 1 ∨ f = 2) with rfl | rfl | rfl
 all_goals simp [hasB, sgnF] at hh
 ·refine ⟨_, _, _, _, _, rfl, rfl, ?_⟩
  by_cases hn : x < 32768
  ·exact .inl ⟨sign_off 15 (by omega) x hh.1 (by simpa using hn), by unfold amtI negI sgnF; simp; omega⟩
  ·exact .inr ⟨(sign_on 15 (by omega) x (by simp; omega) (by simp; omega)).1, by omega, by unfold amtI negI sgnF; simp; omega⟩
 ·refine ⟨_, _, _, _, _, rfl, rfl, ?_⟩
  by_cases hn : x < 2147483648
  ·exact .inl ⟨sign_off 31 (by omega) x hh.1 (by simpa using hn), by unfold amtI negI sgnF; simp; omega⟩
  ·exact .inr ⟨(sign_on 31 (by omega) x (by simp; omega) (by simp; omega)).1, by omega, by unfold amtI negI sgnF; simp; omega⟩
 ·refine ⟨_, _, _, _, _, rfl, rfl, ?_⟩
  by_cases hn : 0 ≤ x
  ·exact .inl ⟨min_off x hn h2, by unfold amtI negI sgnF; simp; omega⟩
  ·exact .inr ⟨(min_on x h1 (by omega)).1, by omega, by unfold amtI negI sgnF; simp; omega⟩
theorem split_any (f x : Int) (hf : 0 ≤ f ∧ f ≤ 2) (hh : hasB f x = true) (h1 : -9223372036854775808 ≤ x) (h2 : x ≤ 9223372036854775807) (w : World) : Calls Tryz.prog 36 #[layOf f, .int .i64 x] w fun e w' => e = .returned (.tuple #[.int .i64 (amtI f x), .bool (negI f x)]) ∧ Below w.heap.size w w' := by
  obtain ⟨F, B, N, I, G, hl, hg, ⟨hb, ht⟩ | ⟨hb, hc, ht⟩⟩ := split_key hf hh h1 h2
  all_goals
    (have HT := hid ht
     clear ht
     rw [hl]
     unfold layV
     clear hl hh
     go_enter Tryz.func36, Tryz.ntmps36
     go_wp2
     go_ret2
     exact ⟨ret_two HT.out.1 HT.out.2, (Below.refl _ _).alloc (Nat.le_refl _) _⟩)
theorem number_any (f : Int) (hf : 0 ≤ f ∧ f ≤ 2) (a : Nat) (ha : (a : Int) < infN f) (w : World) : Calls Tryz.prog 53 #[layOf f, .int .i64 a] w fun e w' => e = .returned (.tuple #[.int .i64 (mA (fQ f) a : Nat), .int .i64 (fE f + (xA (fQ f) a : Nat))]) ∧ Below w.heap.size w w' := by
  obtain ⟨F, B, N, I, G, hl, hI, hN, hE, f1, f2, b1, b2, n1, n2, i2, i3⟩ := lay_num hf
  obtain ⟨A, hA⟩ : ∃ A : Int, A = (a : Int) := ⟨_, rfl⟩
  rw [← hA] at ha ⊢
  have hA0 : 0 ≤ A := by omega
  have hA1 : A < 9218868437227405312 := by omega
  have HL := hid (leastPower_any F B N I G (by omega) (by omega))
  have HT : Hid (A < N → (mA (fQ f) a : Int) = A ∧ fE f + (xA (fQ f) a : Int) = 1 - B - F) := fun h => by
    unfold mA xA; rw [hN, Nat.div_eq_of_lt (by omega : a < N.toNat), if_pos rfl, Nat.mod_eq_of_lt (by omega)]; omega
  have HU : Hid (¬ A < N → (mA (fQ f) a : Int) = N + A % N ∧ fE f + (xA (fQ f) a : Int) = 1 - B - F + A / N - 1) := fun h => by
    obtain ⟨n, rfl⟩ : ∃ n : Nat, N = n := ⟨N.toNat, by omega⟩
    have := Nat.div_pos (by omega : n ≤ a) (by omega)
    unfold mA xA; rw [hN, hA, Int.toNat_natCast, if_neg (by omega), hE, ← Int.natCast_ediv, ← Int.natCast_emod]; omega
  have tm : A.tmod N = A % N := Int.tmod_eq_emod_of_nonneg (by omega)
  have td : A.tdiv N = A / N := Int.tdiv_eq_ediv_of_nonneg (by omega)
  have hq0 : 0 ≤ A / N := Int.ediv_nonneg (by omega) (by omega)
  have hq1 : A / N ≤ 2100 := by
    have := (Int.ediv_lt_iff_lt_mul (by omega : 0 < N)).2 (show A < 2047 * N by omega); omega
  have hr0 : 0 ≤ A % N := Int.emod_nonneg _ (by omega)
  have hr1 : A % N < N := Int.emod_lt_of_pos _ (by omega)
  have hn0 : ¬ N ≤ 0 := by omega
  have hn3 : (N == 0) = false := by rw [beq_eq_false_iff_ne]; omega
  rw [hl]
  clear hA hl hI hN hE i2 i3 ha
  unfold layV at *
  by_cases hlow : A < N
  all_goals
    (go_enter Tryz.func53, Tryz.ntmps53
     go_wp2_with fail
     have d0 : (w.alloc (.cells #[.int .i64 F, .int .i64 B, .int .i64 N, .int .i64 I, .int .i64 G] 63)).cell? ⟨w.heap.size, 0, none⟩ = some (Value.int .i64 F) := by simp [go_sem]
     have d1 : (w.alloc (.cells #[.int .i64 F, .int .i64 B, .int .i64 N, .int .i64 I, .int .i64 G] 63)).cell? ⟨w.heap.size, 1, none⟩ = some (Value.int .i64 B) := by simp [go_sem]
     have d2 : (w.alloc (.cells #[.int .i64 F, .int .i64 B, .int .i64 N, .int .i64 I, .int .i64 G] 63)).cell? ⟨w.heap.size, 2, none⟩ = some (Value.int .i64 N) := by simp [go_sem]
     have d3 : (w.alloc (.cells #[.int .i64 F, .int .i64 B, .int .i64 N, .int .i64 I, .int .i64 G] 63)).cell? ⟨w.heap.size, 3, none⟩ = some (Value.int .i64 I) := by simp [go_sem]
     have d4 : (w.alloc (.cells #[.int .i64 F, .int .i64 B, .int .i64 N, .int .i64 I, .int .i64 G] 63)).cell? ⟨w.heap.size, 4, none⟩ = some (Value.int .i64 G) := by simp [go_sem]
     have HB : Hid (Below w.heap.size w (w.alloc (.cells #[.int .i64 F, .int .i64 B, .int .i64 N, .int .i64 I, .int .i64 G] 63))) := (Below.refl _ _).alloc (Nat.le_refl _) _
     have hw : w.heap.size < (w.alloc (.cells #[.int .i64 F, .int .i64 B, .int .i64 N, .int .i64 I, .int .i64 G] 63)).heap.size := by simp
     generalize (w.alloc (.cells #[.int .i64 F, .int .i64 B, .int .i64 N, .int .i64 I, .int .i64 G] 63)) = W at *
     go_region_held3 (fun w' => w'.cell? ⟨w.heap.size, 0, none⟩ = some (Value.int .i64 F) ∧ w'.cell? ⟨w.heap.size, 1, none⟩ = some (Value.int .i64 B) ∧ w'.cell? ⟨w.heap.size, 2, none⟩ = some (Value.int .i64 N) ∧ w'.cell? ⟨w.heap.size, 3, none⟩ = some (Value.int .i64 I) ∧ w'.cell? ⟨w.heap.size, 4, none⟩ = some (Value.int .i64 G))
       (first | go_keep | exact ⟨keep_cell' hb (by assumption), keep_cell' hb (by assumption), keep_cell' hb (by assumption), keep_cell' hb (by assumption), keep_cell' hb (by assumption)⟩)
       ((go_at_call 90; refine (HL.out _).mono ?_; rintro e w4 ⟨rfl, hb⟩))
     have hb4 := (Below.refl W.heap.size W).drew.trans hb
     have HB4 : Hid (Below w.heap.size w w4) := HB.out.trans (hb4.mono (by omega))
     have e2 := keep_cell' hb4 d2
     have e0 := keep_cell' hb4 d0
     clear hb hb4 d0 d1 d2 d3 d4 hw HB
     go_wp2)
  · go_ret2
    exact ⟨ret_two' (HT.out hlow).1.symm (HT.out hlow).2.symm, HB4.out⟩
  · go_quiet (fail)
    go_wp2
    go_ret2
    exact ⟨ret_two' (HU.out hlow).1.symm (HU.out hlow).2.symm, HB4.out.trans ((((Still.refl w4).drewN _).below _).mono HB4.out.size)⟩
end Go.Proofs.YtbkdaoicnobllabGreatDoor

namespace Go.Proofs.YtbkdaoicnobllabGreatDoor
set_option maxRecDepth 100000
set_option maxHeartbeats 1000000
open Go.RowKit

def styV (verb prec mode : Int) : Value := .agg #[.int .i64 verb, .int .i64 prec, .int .i64 mode]
def outT (f x : Int) (T : List UInt8) : List UInt8 :=
 if (infN f : Int) < amtI f x then [110, 97, 110] else (if negI f x = true then [45] else []) ++ (if amtI f x < infN f then T else [105, 110, 102])
def TextPost (w w' : World) (r : Ending) (Q : List UInt8 → Prop) : Prop := ∃ T : List UInt8, r = .returned (.string (str T)) ∧ Q T ∧ T.length ≤ 5000 ∧ Below w.heap.size w w'
def OutPost (f x : Int) (w w' : World) (r : Ending) (Q : List UInt8 → Prop) : Prop := ∃ T : List UInt8, r = .returned (.string (str (outT f x T))) ∧ (amtI f x < infN f → Q T) ∧ T.length ≤ 5000 ∧ Below w.heap.size w w'
theorem amtI_nonneg (f x : Int) (h : hasB f x = true) (hf : f = 0 ∨ f = 1 ∨ f = 2) (hx : -9223372036854775808 ≤ x ∧ x ≤ 9223372036854775807) : 0 ≤ amtI f x ∧ amtI f x ≤ 9223372036854775807 := by
 rcases hf with rfl | rfl | rfl <;> simp [hasB, amtI, sgnF] at * <;> (repeat' split) <;> omega
def allowB (verb prec mode : Int) : Bool := if verb = 0 ∨ verb = 1 ∨ verb = 4 then decide (prec = -1 ∧ mode = 0) else if verb = 2 ∨ verb = 3 then decide (0 ≤ prec ∧ prec ≤ 800 ∧ 0 ≤ mode ∧ mode ≤ 4) else false
def modeB (m : Int) : Bool := decide (0 ≤ m ∧ m ≤ 4)
def formB (f : Int) : Bool := decide (0 ≤ f ∧ f ≤ 2)
theorem isMode_any (m : Int) (w : World) : Calls Tryz.prog 31 #[.int .i64 m] w fun e w' => e = .returned (.bool (modeB m)) ∧ w' = w := by
 by_cases a : 0 ≤ m
 ·by_cases b : m ≤ 4
  ·have HT : Hid (true = modeB m) := by unfold Hid modeB; simp; omega
   go_enter Tryz.func31, Tryz.ntmps31
   go_wp2
   all_goals (go_ret; exact ⟨ret_bool (by first | exact HT.out | (rw [← HT.out]; simp; omega)), rfl⟩)
  ·have HT : Hid (false = modeB m) := by unfold Hid modeB; simp; omega
   go_enter Tryz.func31, Tryz.ntmps31
   go_wp2
   all_goals (go_ret; exact ⟨ret_bool (by first | exact HT.out | (rw [← HT.out]; simp; omega)), rfl⟩)
 ·have HT : Hid (false = modeB m) := by unfold Hid modeB; simp; omega
  go_enter Tryz.func31, Tryz.ntmps31
  go_wp2
  all_goals (go_ret; exact ⟨ret_bool (by first | exact HT.out | (rw [← HT.out]; simp; omega)), rfl⟩)
theorem isFormat_any (m : Int) (w : World) : Calls Tryz.prog 26 #[.int .i64 m] w fun e w' => e = .returned (.bool (formB m)) ∧ w' = w := by
 by_cases a : 0 ≤ m
 ·by_cases b : m ≤ 2
  ·have HT : Hid (true = formB m) := by unfold Hid formB; simp; omega
   go_enter Tryz.func26, Tryz.ntmps26
   go_wp2
   all_goals (go_ret; exact ⟨ret_bool (by first | exact HT.out | (rw [← HT.out]; simp; omega)), rfl⟩)
  ·have HT : Hid (false = formB m) := by unfold Hid formB; simp; omega
   go_enter Tryz.func26, Tryz.ntmps26
   go_wp2
   all_goals (go_ret; exact ⟨ret_bool (by first | exact HT.out | (rw [← HT.out]; simp; omega)), rfl⟩)
 ·have HT : Hid (false = formB m) := by unfold Hid formB; simp; omega
  go_enter Tryz.func26, Tryz.ntmps26
  go_wp2
  all_goals (go_ret; exact ⟨ret_bool (by first | exact HT.out | (rw [← HT.out]; simp; omega)), rfl⟩)
theorem allowed_short (verb prec mode : Int) (hv : verb = 0 ∨ verb = 1 ∨ verb = 4) (w : World) : Calls Tryz.prog 29 #[styV verb prec mode] w fun e w' => e = .returned (.bool (allowB verb prec mode)) ∧ Below w.heap.size w w' := by
 by_cases p : prec = -1
 ·by_cases m : mode = 0
  ·subst p m
   rcases hv with rfl | rfl | rfl
   ·have HT : Hid (true = allowB 0 (-1) 0) := by unfold Hid allowB; first | (simp; done) | (simp; omega)
    unfold styV
    go_enter Tryz.func29, Tryz.ntmps29
    go_wp2
    all_goals (go_ret; exact ⟨ret_bool (by first | exact HT.out | (rw [← HT.out]; simp; omega)), (Below.refl _ _).alloc (Nat.le_refl _) _⟩)
   ·have HT : Hid (true = allowB 1 (-1) 0) := by unfold Hid allowB; first | (simp; done) | (simp; omega)
    unfold styV
    go_enter Tryz.func29, Tryz.ntmps29
    go_wp2
    all_goals (go_ret; exact ⟨ret_bool (by first | exact HT.out | (rw [← HT.out]; simp; omega)), (Below.refl _ _).alloc (Nat.le_refl _) _⟩)
   ·have HT : Hid (true = allowB 4 (-1) 0) := by unfold Hid allowB; first | (simp; done) | (simp; omega)
    unfold styV
    go_enter Tryz.func29, Tryz.ntmps29
    go_wp2
    all_goals (go_ret; exact ⟨ret_bool (by first | exact HT.out | (rw [← HT.out]; simp; omega)), (Below.refl _ _).alloc (Nat.le_refl _) _⟩)
  ·subst p
   have t : (mode == 0) = false := by rw [beq_eq_false_iff_ne]; exact m
   rcases hv with rfl | rfl | rfl
   ·have HT : Hid (false = allowB 0 (-1) mode) := by unfold Hid allowB; first | (simp; done) | (simp; omega)
    unfold styV
    go_enter Tryz.func29, Tryz.ntmps29
    go_wp2
    all_goals (go_ret; exact ⟨ret_bool (by first | exact HT.out | (rw [← HT.out]; simp; omega)), (Below.refl _ _).alloc (Nat.le_refl _) _⟩)
   ·have HT : Hid (false = allowB 1 (-1) mode) := by unfold Hid allowB; first | (simp; done) | (simp; omega)
    unfold styV
    go_enter Tryz.func29, Tryz.ntmps29
    go_wp2
    all_goals (go_ret; exact ⟨ret_bool (by first | exact HT.out | (rw [← HT.out]; simp; omega)), (Below.refl _ _).alloc (Nat.le_refl _) _⟩)
   ·have HT : Hid (false = allowB 4 (-1) mode) := by unfold Hid allowB; first | (simp; done) | (simp; omega)
    unfold styV
    go_enter Tryz.func29, Tryz.ntmps29
    go_wp2
    all_goals (go_ret; exact ⟨ret_bool (by first | exact HT.out | (rw [← HT.out]; simp; omega)), (Below.refl _ _).alloc (Nat.le_refl _) _⟩)
 ·have t : (prec == -1) = false := by rw [beq_eq_false_iff_ne]; exact p
  rcases hv with rfl | rfl | rfl
  ·have HT : Hid (false = allowB 0 prec mode) := by unfold Hid allowB; first | (simp; done) | (simp; omega)
   unfold styV
   go_enter Tryz.func29, Tryz.ntmps29
   go_wp2
   all_goals (go_ret; exact ⟨ret_bool (by first | exact HT.out | (rw [← HT.out]; simp; omega)), (Below.refl _ _).alloc (Nat.le_refl _) _⟩)
  ·have HT : Hid (false = allowB 1 prec mode) := by unfold Hid allowB; first | (simp; done) | (simp; omega)
   unfold styV
   go_enter Tryz.func29, Tryz.ntmps29
   go_wp2
   all_goals (go_ret; exact ⟨ret_bool (by first | exact HT.out | (rw [← HT.out]; simp; omega)), (Below.refl _ _).alloc (Nat.le_refl _) _⟩)
  ·have HT : Hid (false = allowB 4 prec mode) := by unfold Hid allowB; first | (simp; done) | (simp; omega)
   unfold styV
   go_enter Tryz.func29, Tryz.ntmps29
   go_wp2
   all_goals (go_ret; exact ⟨ret_bool (by first | exact HT.out | (rw [← HT.out]; simp; omega)), (Below.refl _ _).alloc (Nat.le_refl _) _⟩)
theorem allowed_exact (verb prec mode : Int) (hv : verb = 2 ∨ verb = 3) (w : World) : Calls Tryz.prog 29 #[styV verb prec mode] w fun e w' => e = .returned (.bool (allowB verb prec mode)) ∧ Below w.heap.size w w' := by
 by_cases p : 0 ≤ prec
 ·by_cases p2 : prec ≤ 800
  ·by_cases m : 0 ≤ mode ∧ mode ≤ 4
   ·rcases hv with rfl | rfl
    ·have HT : Hid (true = allowB 2 prec mode) := by unfold Hid allowB; simp; omega
     unfold styV
     go_enter Tryz.func29, Tryz.ntmps29
     go_wp2_with (go_at_call 31; refine (isMode_any _ _).mono ?_; rintro e w' ⟨rfl, rfl⟩)
     all_goals (go_ret; exact ⟨ret_bool (by first | exact HT.out | (rw [← HT.out]; unfold modeB; simp; omega)), (Below.refl _ _).alloc (Nat.le_refl _) _⟩)
    ·have HT : Hid (true = allowB 3 prec mode) := by unfold Hid allowB; simp; omega
     unfold styV
     go_enter Tryz.func29, Tryz.ntmps29
     go_wp2_with (go_at_call 31; refine (isMode_any _ _).mono ?_; rintro e w' ⟨rfl, rfl⟩)
     all_goals (go_ret; exact ⟨ret_bool (by first | exact HT.out | (rw [← HT.out]; unfold modeB; simp; omega)), (Below.refl _ _).alloc (Nat.le_refl _) _⟩)
   ·rcases hv with rfl | rfl
    ·have HT : Hid (false = allowB 2 prec mode) := by unfold Hid allowB; simp; omega
     unfold styV
     go_enter Tryz.func29, Tryz.ntmps29
     go_wp2_with (go_at_call 31; refine (isMode_any _ _).mono ?_; rintro e w' ⟨rfl, rfl⟩)
     all_goals (go_ret; exact ⟨ret_bool (by first | exact HT.out | (rw [← HT.out]; unfold modeB; simp; omega)), (Below.refl _ _).alloc (Nat.le_refl _) _⟩)
    ·have HT : Hid (false = allowB 3 prec mode) := by unfold Hid allowB; simp; omega
     unfold styV
     go_enter Tryz.func29, Tryz.ntmps29
     go_wp2_with (go_at_call 31; refine (isMode_any _ _).mono ?_; rintro e w' ⟨rfl, rfl⟩)
     all_goals (go_ret; exact ⟨ret_bool (by first | exact HT.out | (rw [← HT.out]; unfold modeB; simp; omega)), (Below.refl _ _).alloc (Nat.le_refl _) _⟩)
  ·rcases hv with rfl | rfl
   ·have HT : Hid (false = allowB 2 prec mode) := by unfold Hid allowB; simp; omega
    unfold styV
    go_enter Tryz.func29, Tryz.ntmps29
    go_wp2_with (go_at_call 31; refine (isMode_any _ _).mono ?_; rintro e w' ⟨rfl, rfl⟩)
    all_goals (go_ret; exact ⟨ret_bool (by first | exact HT.out | (rw [← HT.out]; unfold modeB; simp; omega)), (Below.refl _ _).alloc (Nat.le_refl _) _⟩)
   ·have HT : Hid (false = allowB 3 prec mode) := by unfold Hid allowB; simp; omega
    unfold styV
    go_enter Tryz.func29, Tryz.ntmps29
    go_wp2_with (go_at_call 31; refine (isMode_any _ _).mono ?_; rintro e w' ⟨rfl, rfl⟩)
    all_goals (go_ret; exact ⟨ret_bool (by first | exact HT.out | (rw [← HT.out]; unfold modeB; simp; omega)), (Below.refl _ _).alloc (Nat.le_refl _) _⟩)
 ·rcases hv with rfl | rfl
  ·have HT : Hid (false = allowB 2 prec mode) := by unfold Hid allowB; simp; omega
   unfold styV
   go_enter Tryz.func29, Tryz.ntmps29
   go_wp2_with (go_at_call 31; refine (isMode_any _ _).mono ?_; rintro e w' ⟨rfl, rfl⟩)
   all_goals (go_ret; exact ⟨ret_bool (by first | exact HT.out | (rw [← HT.out]; unfold modeB; simp; omega)), (Below.refl _ _).alloc (Nat.le_refl _) _⟩)
  ·have HT : Hid (false = allowB 3 prec mode) := by unfold Hid allowB; simp; omega
   unfold styV
   go_enter Tryz.func29, Tryz.ntmps29
   go_wp2_with (go_at_call 31; refine (isMode_any _ _).mono ?_; rintro e w' ⟨rfl, rfl⟩)
   all_goals (go_ret; exact ⟨ret_bool (by first | exact HT.out | (rw [← HT.out]; unfold modeB; simp; omega)), (Below.refl _ _).alloc (Nat.le_refl _) _⟩)
theorem allowed_none (verb prec mode : Int) (h : ¬ (verb = 0 ∨ verb = 1 ∨ verb = 4 ∨ verb = 2 ∨ verb = 3)) (w : World) : Calls Tryz.prog 29 #[styV verb prec mode] w fun e w' => e = .returned (.bool (allowB verb prec mode)) ∧ Below w.heap.size w w' := by
 have t0 : (verb == 0) = false := by rw [beq_eq_false_iff_ne]; omega
 have t1 : (verb == 1) = false := by rw [beq_eq_false_iff_ne]; omega
 have t2 : (verb == 2) = false := by rw [beq_eq_false_iff_ne]; omega
 have t3 : (verb == 3) = false := by rw [beq_eq_false_iff_ne]; omega
 have t4 : (verb == 4) = false := by rw [beq_eq_false_iff_ne]; omega
 have HT : Hid (false = allowB verb prec mode) := by unfold Hid allowB; rw [if_neg (by omega), if_neg (by omega)]
 clear h
 unfold styV
 go_enter Tryz.func29, Tryz.ntmps29
 go_wp2
 go_ret
 exact ⟨ret_bool HT.out, (Below.refl _ _).alloc (Nat.le_refl _) _⟩
theorem allowed_any (verb prec mode : Int) (w : World) : Calls Tryz.prog 29 #[styV verb prec mode] w fun e w' => e = .returned (.bool (allowB verb prec mode)) ∧ Below w.heap.size w w' := by
 by_cases h : verb = 0 ∨ verb = 1 ∨ verb = 4
 ·exact allowed_short verb prec mode h w
 ·by_cases h2 : verb = 2 ∨ verb = 3
  ·exact allowed_exact verb prec mode h2 w
  ·exact allowed_none verb prec mode (by omega) w
end Go.Proofs.YtbkdaoicnobllabGreatDoor

namespace Go.Proofs.YtbkdaoicnobllabGreatDoor
set_option maxRecDepth 100000
set_option maxHeartbeats 1000000
open Go.RowKit

theorem textOf_any (f x verb prec mode : Int) (Q : List UInt8 → Prop) (hf : 0 ≤ f ∧ f ≤ 2) (hh : hasB f x = true) (h1 : -9223372036854775808 ≤ x) (h2 : x ≤ 9223372036854775807) (w : World) (ht : Tab w)
    (HT0 : ∀ a : Nat, amtI f x = a → (a : Int) < infN f → ∀ w : World, Tab w → Calls Tryz.prog 37 #[.int .i64 a, layOf f, .bool (negI f x), styV verb prec mode] w fun r w' => TextPost w w' r Q) :
    Calls Tryz.prog 30 #[.int .i64 x, layOf f, styV verb prec mode] w fun r w' => OutPost f x w w' r Q := by
  have hnn := amtI_nonneg f x hh (by omega) (by omega)
  obtain ⟨a, ha⟩ : ∃ a : Nat, amtI f x = a := ⟨(amtI f x).toNat, by omega⟩
  have HSP := hid (fun w => split_any f x hf hh h1 h2 w)
  obtain ⟨F, B, N, I, G, hl, hI, hN, hE, f1, f2, b1, b2, n1, n2, i2, i3⟩ := lay_num hf
  rw [hl] at HT0 HSP ⊢
  obtain ⟨A, hA⟩ : ∃ A, amtI f x = A := ⟨_, rfl⟩
  obtain ⟨ng, hng⟩ : ∃ ng, negI f x = ng := ⟨_, rfl⟩
  rw [hA, hng] at HSP
  have HT : Hid (A < I → ∀ w : World, Tab w → Calls Tryz.prog 37 #[.int .i64 A, layV F B N I G, .bool ng, styV verb prec mode] w fun r w' => TextPost w w' r Q) := fun h w hw => by
    have := HT0 a ha (by omega) w hw
    rw [← ha, hA, hng] at this; exact this
  rw [hA] at hnn
  obtain ⟨hA0, hA1⟩ := hnn
  have HTAB := hid ht
  have HPO : Hid (∀ (w w' : World) (r : Ending) (T : List UInt8), r = .returned (.string (str (outT f x T))) → (A < I → Q T) → T.length ≤ 5000 → Below w.heap.size w w' → OutPost f x w w' r Q) := fun w w' r T p1 p2 p3 p4 => ⟨T, p1, fun h => p2 (by rw [hA, hI] at h; exact h), p3, p4⟩
  have HO : Hid (∀ T, outT f x T = if I < A then [110, 97, 110] else (if ng = true then [45] else []) ++ (if A < I then T else [105, 110, 102])) := fun T => by unfold outT; rw [hA, hI, hng]
  clear HT0 ht h1 h2 hl hI hN hE hA ha hng hh
  unfold layV styV at *
  go_enter Tryz.func30, Tryz.ntmps30
  go_wp2_with fail
  have d0 : ((w.alloc (.cells #[.int .i64 F, .int .i64 B, .int .i64 N, .int .i64 I, .int .i64 G] 63)).alloc (.cells #[.int .i64 verb, .int .i64 prec, .int .i64 mode] 66)).cell? ⟨w.heap.size, 0, none⟩ = some (Value.int .i64 F) := by simp [go_sem]
  have d1 : ((w.alloc (.cells #[.int .i64 F, .int .i64 B, .int .i64 N, .int .i64 I, .int .i64 G] 63)).alloc (.cells #[.int .i64 verb, .int .i64 prec, .int .i64 mode] 66)).cell? ⟨w.heap.size, 1, none⟩ = some (Value.int .i64 B) := by simp [go_sem]
  have d2 : ((w.alloc (.cells #[.int .i64 F, .int .i64 B, .int .i64 N, .int .i64 I, .int .i64 G] 63)).alloc (.cells #[.int .i64 verb, .int .i64 prec, .int .i64 mode] 66)).cell? ⟨w.heap.size, 2, none⟩ = some (Value.int .i64 N) := by simp [go_sem]
  have d3 : ((w.alloc (.cells #[.int .i64 F, .int .i64 B, .int .i64 N, .int .i64 I, .int .i64 G] 63)).alloc (.cells #[.int .i64 verb, .int .i64 prec, .int .i64 mode] 66)).cell? ⟨w.heap.size, 3, none⟩ = some (Value.int .i64 I) := by simp [go_sem]
  have d4 : ((w.alloc (.cells #[.int .i64 F, .int .i64 B, .int .i64 N, .int .i64 I, .int .i64 G] 63)).alloc (.cells #[.int .i64 verb, .int .i64 prec, .int .i64 mode] 66)).cell? ⟨w.heap.size, 4, none⟩ = some (Value.int .i64 G) := by simp [go_sem]
  have s0 : ((w.alloc (.cells #[.int .i64 F, .int .i64 B, .int .i64 N, .int .i64 I, .int .i64 G] 63)).alloc (.cells #[.int .i64 verb, .int .i64 prec, .int .i64 mode] 66)).cell? ⟨w.heap.size + 1, 0, none⟩ = some (Value.int .i64 verb) := by simp [go_sem]
  have s1 : ((w.alloc (.cells #[.int .i64 F, .int .i64 B, .int .i64 N, .int .i64 I, .int .i64 G] 63)).alloc (.cells #[.int .i64 verb, .int .i64 prec, .int .i64 mode] 66)).cell? ⟨w.heap.size + 1, 1, none⟩ = some (Value.int .i64 prec) := by simp [go_sem]
  have s2 : ((w.alloc (.cells #[.int .i64 F, .int .i64 B, .int .i64 N, .int .i64 I, .int .i64 G] 63)).alloc (.cells #[.int .i64 verb, .int .i64 prec, .int .i64 mode] 66)).cell? ⟨w.heap.size + 1, 2, none⟩ = some (Value.int .i64 mode) := by simp [go_sem]
  have HB : Hid (Below w.heap.size w ((w.alloc (.cells #[.int .i64 F, .int .i64 B, .int .i64 N, .int .i64 I, .int .i64 G] 63)).alloc (.cells #[.int .i64 verb, .int .i64 prec, .int .i64 mode] 66))) := ((Below.refl _ _).alloc (Nat.le_refl _) _).alloc (by simp) _
  have hw : w.heap.size + 1 < ((w.alloc (.cells #[.int .i64 F, .int .i64 B, .int .i64 N, .int .i64 I, .int .i64 G] 63)).alloc (.cells #[.int .i64 verb, .int .i64 prec, .int .i64 mode] 66)).heap.size := by simp
  generalize ((w.alloc (.cells #[.int .i64 F, .int .i64 B, .int .i64 N, .int .i64 I, .int .i64 G] 63)).alloc (.cells #[.int .i64 verb, .int .i64 prec, .int .i64 mode] 66)) = W at *
  refine (HSP.out W).mono ?_
  rintro r w1 ⟨rfl, hb1⟩
  have HB1 : Hid (Below w.heap.size w w1) := HB.out.trans (hb1.mono (by omega))
  have HT1 : Hid (Tab w1) := HTAB.out.below HB1.out
  have e0 := keep_cell' hb1 d0; have e1 := keep_cell' hb1 d1; have e2 := keep_cell' hb1 d2; have e3 := keep_cell' hb1 d3; have e4 := keep_cell' hb1 d4; have z0 := keep_cell' hb1 s0; have z1 := keep_cell' hb1 s1; have z2 := keep_cell' hb1 s2
  clear hb1 d0 d1 d2 d3 d4 s0 s1 s2 hw HB HSP
  by_cases hnan : I < A
  · have HS : Hid (outT f x [] = [110, 97, 110]) := by unfold Hid; rw [HO.out, if_pos hnan]
    go_wp2
    go_ret
    exact HPO.out _ _ _ [] (ret_str (by rw [HS.out]; rfl)) (fun h => by omega) (by simp) HB1.out
  · by_cases hfin : A < I
    · have HN := hid (HT.out hfin w1 HT1.out)
      have HS : Hid (∀ T, outT f x T = (if ng = true then [45] else []) ++ T) := fun T => by rw [HO.out, if_neg hnan, if_pos hfin]
      cases ng
      all_goals
        (go_wp2_with fail
         refine HN.out.mono ?_
         rintro r w2 ⟨T, rfl, hq, hl, hb2⟩
         have HF := hid (And.intro hq (And.intro hl (HB1.out.trans (hb2.mono HB1.out.size))))
         have hts : (str T).size ≤ 5000 := by rw [str_size]; exact hl
         clear hq hl hb2 HN
         go_wp2
         go_ret
         exact HPO.out _ _ _ T (ret_str (by rw [HS.out]; first | rfl | exact str_append [45] T)) (fun _ => HF.out.1) HF.out.2.1 HF.out.2.2)
    · have HS : Hid (outT f x [] = (if ng = true then [45] else []) ++ [105, 110, 102]) := by unfold Hid; rw [HO.out, if_neg hnan, if_neg hfin]
      cases ng
      all_goals
        (go_wp2
         go_ret
         exact HPO.out _ _ _ [] (ret_str (by rw [HS.out]; rfl)) (fun h => by omega) (by simp) HB1.out)
end Go.Proofs.YtbkdaoicnobllabGreatDoor

namespace Go.Proofs.YtbkdaoicnobllabGreatDoor
set_option maxRecDepth 100000
set_option maxHeartbeats 1000000
open Go.RowKit

def FmtPost (f x verb prec mode : Int) (w w' : World) (r : Ending) (Q : List UInt8 → Prop) : Prop :=
 (hasB f x = true ∧ allowB verb prec mode = true ∧ ∃ T : List UInt8, r = .returned (.tuple #[.string (str (outT f x T)), .int .i64 0]) ∧ (amtI f x < infN f → Q T) ∧ T.length ≤ 5000 ∧ Below w.heap.size w w') ∨
 (¬ (hasB f x = true ∧ allowB verb prec mode = true) ∧ r = .returned (.tuple #[.string (str []), .int .i64 1]) ∧ Below w.heap.size w w')
theorem pformat_none (cv : Value) (x f verb prec mode : Int) (hf : ¬ (0 ≤ f ∧ f ≤ 2)) (w : World) : Calls Tryz.prog 21 #[cv, .int .i64 x, .int .i64 f, .int .i64 verb, .int .i64 prec, .int .i64 mode] w fun r w' => r = .returned (.tuple #[.string (str []), .int .i64 1]) ∧ Below w.heap.size w w' := by
 have HF : Hid (∀ w, Calls Tryz.prog 26 #[.int .i64 f] w fun e w' => e = .returned (.bool false) ∧ w' = w) := fun w => by
  have := isFormat_any f w
  rw [show formB f = false from by unfold formB; simp; omega] at this; exact this
 clear hf
 go_enter Tryz.func21, Tryz.ntmps21
 go_wp2_with fail
 refine (HF.out _).mono ?_
 rintro r w1 ⟨rfl, rfl⟩
 go_wp2
 go_ret2
 exact ⟨rfl, by first | exact Below.refl _ _ | exact ((Below.refl _ _).alloc (Nat.le_refl _) _).alloc (by simp) _⟩
theorem pformat_any (cv : Value) (f x verb prec mode : Int) (Q : List UInt8 → Prop) (hf : 0 ≤ f ∧ f ≤ 2) (h1 : -9223372036854775808 ≤ x) (h2 : x ≤ 9223372036854775807) (w : World) (ht : Tab w)
  (HT0 : allowB verb prec mode = true → ∀ a : Nat, amtI f x = a → (a : Int) < infN f → ∀ w : World, Tab w → Calls Tryz.prog 37 #[.int .i64 a, layOf f, .bool (negI f x), styV verb prec mode] w fun r w' => TextPost w w' r Q) :
  Calls Tryz.prog 21 #[cv, .int .i64 x, .int .i64 f, .int .i64 verb, .int .i64 prec, .int .i64 mode] w fun r w' => FmtPost f x verb prec mode w w' r Q := by
 have HF : Hid (∀ w, Calls Tryz.prog 26 #[.int .i64 f] w fun e w' => e = .returned (.bool true) ∧ w' = w) := fun w => by
  have := isFormat_any f w
  rw [show formB f = true from by unfold formB; simp; omega] at this; exact this
 have HOF := hid (patOf_any f hf.1 hf.2)
 have HHS := hid (fun w => has_any f x hf h1 h2 w)
 have HAL := hid (allowed_any verb prec mode)
 have HTX : Hid (hasB f x = true → allowB verb prec mode = true → ∀ w : World, Tab w → Calls Tryz.prog 30 #[.int .i64 x, layOf f, styV verb prec mode] w fun r w' => OutPost f x w w' r Q) := fun hh ha w hw => textOf_any f x verb prec mode Q hf hh h1 h2 w hw (HT0 ha)
 have HTAB := hid ht
 obtain ⟨F, B, N, I, G, hl, hI, hN, hE, f1, f2, b1, b2, n1, n2, i2, i3⟩ := lay_num hf
 rw [hl] at HOF HHS HTX
 clear HT0 ht h1 h2 hl hI hN hE
 unfold layV styV at *
 go_enter Tryz.func21, Tryz.ntmps21
 go_wp2_with fail
 refine (HF.out _).mono ?_
 rintro r w0 ⟨rfl, rfl⟩
 go_wp2_with fail
 refine (HOF.out _).mono ?_
 rintro r w1 ⟨rfl, hb1⟩
 have HB1 : Hid (Below w0.heap.size w0 w1) := hb1
 clear hb1 HF HOF
 go_wp2_with fail
 have d0 : ((w1.alloc (.cells #[.int .i64 F, .int .i64 B, .int .i64 N, .int .i64 I, .int .i64 G] 63)).alloc (.cells #[.int .i64 verb, .int .i64 prec, .int .i64 mode] 66)).cell? ⟨w1.heap.size, 0, none⟩ = some (Value.int .i64 F) := by simp [go_sem]
 have d1 : ((w1.alloc (.cells #[.int .i64 F, .int .i64 B, .int .i64 N, .int .i64 I, .int .i64 G] 63)).alloc (.cells #[.int .i64 verb, .int .i64 prec, .int .i64 mode] 66)).cell? ⟨w1.heap.size, 1, none⟩ = some (Value.int .i64 B) := by simp [go_sem]
 have d2 : ((w1.alloc (.cells #[.int .i64 F, .int .i64 B, .int .i64 N, .int .i64 I, .int .i64 G] 63)).alloc (.cells #[.int .i64 verb, .int .i64 prec, .int .i64 mode] 66)).cell? ⟨w1.heap.size, 2, none⟩ = some (Value.int .i64 N) := by simp [go_sem]
 have d3 : ((w1.alloc (.cells #[.int .i64 F, .int .i64 B, .int .i64 N, .int .i64 I, .int .i64 G] 63)).alloc (.cells #[.int .i64 verb, .int .i64 prec, .int .i64 mode] 66)).cell? ⟨w1.heap.size, 3, none⟩ = some (Value.int .i64 I) := by simp [go_sem]
 have d4 : ((w1.alloc (.cells #[.int .i64 F, .int .i64 B, .int .i64 N, .int .i64 I, .int .i64 G] 63)).alloc (.cells #[.int .i64 verb, .int .i64 prec, .int .i64 mode] 66)).cell? ⟨w1.heap.size, 4, none⟩ = some (Value.int .i64 G) := by simp [go_sem]
 have s0 : ((w1.alloc (.cells #[.int .i64 F, .int .i64 B, .int .i64 N, .int .i64 I, .int .i64 G] 63)).alloc (.cells #[.int .i64 verb, .int .i64 prec, .int .i64 mode] 66)).cell? ⟨w1.heap.size + 1, 0, none⟩ = some (Value.int .i64 verb) := by simp [go_sem]
 have s1 : ((w1.alloc (.cells #[.int .i64 F, .int .i64 B, .int .i64 N, .int .i64 I, .int .i64 G] 63)).alloc (.cells #[.int .i64 verb, .int .i64 prec, .int .i64 mode] 66)).cell? ⟨w1.heap.size + 1, 1, none⟩ = some (Value.int .i64 prec) := by simp [go_sem]
 have s2 : ((w1.alloc (.cells #[.int .i64 F, .int .i64 B, .int .i64 N, .int .i64 I, .int .i64 G] 63)).alloc (.cells #[.int .i64 verb, .int .i64 prec, .int .i64 mode] 66)).cell? ⟨w1.heap.size + 1, 2, none⟩ = some (Value.int .i64 mode) := by simp [go_sem]
 have HB2 : Hid (Below w0.heap.size w0 ((w1.alloc (.cells #[.int .i64 F, .int .i64 B, .int .i64 N, .int .i64 I, .int .i64 G] 63)).alloc (.cells #[.int .i64 verb, .int .i64 prec, .int .i64 mode] 66))) := HB1.out.trans ((((Below.refl _ _).alloc (Nat.le_refl _) _).alloc (by simp) _).mono HB1.out.size)
 obtain ⟨C, hC⟩ : ∃ C, C = w1.heap.size := ⟨_, rfl⟩
 rw [← hC] at d0 d1 d2 d3 d4 s0 s1 s2 ⊢
 generalize ((w1.alloc (.cells #[.int .i64 F, .int .i64 B, .int .i64 N, .int .i64 I, .int .i64 G] 63)).alloc (.cells #[.int .i64 verb, .int .i64 prec, .int .i64 mode] 66)) = W at *
 cases hhas : hasB f x with
 | false =>
  rw [hhas] at HHS
  refine (HHS.out W).mono ?_
  rintro r w2 ⟨rfl, hb2⟩
  have HF : Hid (FmtPost f x verb prec mode w0 w2 (.returned (.tuple #[.string (str []), .int .i64 1])) Q) := .inr ⟨by rw [hhas]; simp, rfl, HB2.out.trans (hb2.mono HB2.out.size)⟩
  clear hb2 hhas HHS HAL HTX d0 d1 d2 d3 d4 s0 s1 s2 hC
  go_wp2
  go_ret2
  exact HF.out
 | true =>
  rw [hhas] at HHS
  refine (HHS.out W).mono ?_
  rintro r w2 ⟨rfl, hb2⟩
  have HB3 : Hid (Below w0.heap.size w0 w2) := HB2.out.trans (hb2.mono HB2.out.size)
  have e0 := keep_cell' hb2 d0; have e1 := keep_cell' hb2 d1; have e2 := keep_cell' hb2 d2; have e3 := keep_cell' hb2 d3; have e4 := keep_cell' hb2 d4; have z0 := keep_cell' hb2 s0; have z1 := keep_cell' hb2 s1; have z2 := keep_cell' hb2 s2
  clear hb2 HHS d0 d1 d2 d3 d4 s0 s1 s2 hC
  cases hal : allowB verb prec mode with
  | false =>
   rw [hal] at HAL
   have HF : Hid (∀ w', Below w0.heap.size w0 w' → FmtPost f x verb prec mode w0 w' (.returned (.tuple #[.string (str []), .int .i64 1])) Q) := fun w' hw => .inr ⟨by rw [hal]; simp, rfl, hw⟩
   clear HTX hhas hal
   go_wp2_with fail
   refine (HAL.out w2).mono ?_
   rintro r w3 ⟨rfl, hb3⟩
   have HB4 := hid (HB3.out.trans (hb3.mono HB3.out.size))
   clear hb3 HAL
   go_wp2
   go_ret2
   exact HF.out _ HB4.out
  | true =>
   rw [hal] at HAL
   have HTY := hid (HTX.out hhas hal)
   have HF : Hid (∀ (w' : World) (T : List UInt8), (amtI f x < infN f → Q T) → T.length ≤ 5000 → Below w0.heap.size w0 w' → FmtPost f x verb prec mode w0 w' (.returned (.tuple #[.string (str (outT f x T)), .int .i64 0])) Q) := fun w' T p1 p2 p3 => .inl ⟨hhas, hal, T, rfl, p1, p2, p3⟩
   clear HTX hhas hal
   go_wp2_with fail
   refine (HAL.out w2).mono ?_
   rintro r w3 ⟨rfl, hb3⟩
   have HB4 : Hid (Below w0.heap.size w0 w3) := HB3.out.trans (hb3.mono HB3.out.size)
   have u0 := keep_cell' hb3 e0; have u1 := keep_cell' hb3 e1; have u2 := keep_cell' hb3 e2; have u3 := keep_cell' hb3 e3; have u4 := keep_cell' hb3 e4; have v0 := keep_cell' hb3 z0; have v1 := keep_cell' hb3 z1; have v2 := keep_cell' hb3 z2
   clear hb3 HAL e0 e1 e2 e3 e4 z0 z1 z2
   go_wp2_with fail
   refine (HTY.out w3 (HTAB.out.below HB4.out)).mono ?_
   rintro r w4 ⟨T, rfl, hq, hl, hb4⟩
   have HG := hid (HF.out w4 T hq hl (HB4.out.trans (hb4.mono HB4.out.size)))
   clear hq hl hb4 HTY HF
   go_wp2
   go_ret2
   exact HG.out
end Go.Proofs.YtbkdaoicnobllabGreatDoor

namespace Go.Proofs.YtbkdaoicnobllabGreatDoor
open Go.RowKit

theorem pnew_any (w : World) : Calls Tryz.prog 6 #[] w fun e w' => ∃ v, e = .returned v ∧ Below w.heap.size w w' := by
 go_enter Tryz.func6, Tryz.ntmps6
 go_wp2
 go_ret
 exact ⟨_, rfl, (Below.refl _ _).alloc (Nat.le_refl _) _⟩
theorem allow_short {v prec mode : Int} (hv : v = 0 ∨ v = 1 ∨ v = 4) (h : allowB v prec mode = true) : prec = -1 ∧ mode = 0 := by
 unfold allowB at h; rw [if_pos hv] at h; simpa using h
theorem allow_exact {v prec mode : Int} (hv : v = 2 ∨ v = 3) (h : allowB v prec mode = true) : 0 ≤ prec ∧ prec ≤ 800 ∧ 0 ≤ mode ∧ mode ≤ 4 := by
 unfold allowB at h; rw [if_neg (by omega), if_pos hv] at h; simpa using h
end Go.Proofs.YtbkdaoicnobllabGreatDoor
