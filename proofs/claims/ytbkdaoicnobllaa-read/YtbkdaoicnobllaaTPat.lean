import Derived.Test.YtbkdaoicnobllaaTTake
import Derived.Test.YtbkdaoicnobllaaTRefL

namespace Go.Proofs.Ytbkdaoicnobllaa
open Go.RowKit

/-- A Layout's value. -/
def layV (F B N I G : Int) : Value := .agg #[.int .i64 F, .int .i64 B, .int .i64 N, .int .i64 I, .int .i64 G]
def layOf (f : Int) : Value := if f = 0 then layV 10 15 1024 31744 32768 else if f = 1 then layV 23 127 8388608 2139095040 2147483648 else layV 52 1023 4503599627370496 9218868437227405312 (-9223372036854775808)

set_option maxRecDepth 100000 in
set_option maxHeartbeats 1000000 in
theorem patOf_any (f : Int) (h0 : 0 ≤ f) (h2 : f ≤ 2) (w : World) :
    Calls Try.prog 28 #[.int .i64 f] w fun e w' => e = .returned (layOf f) ∧ Below w.heap.size w w' := by
  go_enter Try.func28, Try.ntmps28
  rcases (by omega : f = 0 ∨ f = 1 ∨ f = 2) with rfl | rfl | rfl
  · go_wp2
    refine bodyPost_ret (v := .agg #[.int .i64 (10), .int .i64 (15), .int .i64 (1024), .int .i64 (31744), .int .i64 (32768)]) (by simp [results, Try.results28, go_sem]) rfl ⟨?_, (Below.refl _ _).alloc (Nat.le_refl _) _⟩
    rfl
  · go_wp2
    refine bodyPost_ret (v := .agg #[.int .i64 (23), .int .i64 (127), .int .i64 (8388608), .int .i64 (2139095040), .int .i64 (2147483648)]) (by simp [results, Try.results28, go_sem]) rfl ⟨?_, (Below.refl _ _).alloc (Nat.le_refl _) _⟩
    rfl
  · go_wp2
    refine bodyPost_ret (v := .agg #[.int .i64 (52), .int .i64 (1023), .int .i64 (4503599627370496), .int .i64 (9218868437227405312), .int .i64 (-9223372036854775808)]) (by simp [results, Try.results28, go_sem]) rfl ⟨?_, (Below.refl _ _).alloc (Nat.le_refl _) _⟩
    rfl
set_option maxRecDepth 100000 in
set_option maxHeartbeats 1000000 in
theorem leastPower_any (F B N I G : Int) (hB1 : 0 ≤ B) (hB2 : B ≤ 1023) (w : World) :
    Calls Try.prog 84 #[layV F B N I G] w fun e w' => e = .returned (.int .i64 (1 - B)) ∧ Below w.heap.size w w' := by
  unfold layV
  go_enter Try.func84, Try.ntmps84
  go_wp2
  go_ret
  exact ⟨rfl, (Below.refl _ _).alloc (Nat.le_refl _) _⟩
set_option maxRecDepth 100000 in
set_option maxHeartbeats 1000000 in
theorem patNaN_any (f : Int) (h0 : 0 ≤ f) (h2 : f ≤ 2) (w : World) :
    Calls Try.prog 40 #[layOf f] w fun e w' => e = .returned (.int .i64 (nanP f)) ∧ Below w.heap.size w w' := by
  rcases (by omega : f = 0 ∨ f = 1 ∨ f = 2) with rfl | rfl | rfl
  · simp only [layOf, layV]
    go_enter Try.func40, Try.ntmps40
    go_wp2
    go_ret
    exact ⟨rfl, (Below.refl _ _).alloc (Nat.le_refl _) _⟩
  · simp only [layOf, layV]
    go_enter Try.func40, Try.ntmps40
    go_wp2
    go_ret
    exact ⟨rfl, (Below.refl _ _).alloc (Nat.le_refl _) _⟩
  · simp only [layOf, layV]
    go_enter Try.func40, Try.ntmps40
    go_wp2
    go_ret
    exact ⟨rfl, (Below.refl _ _).alloc (Nat.le_refl _) _⟩
set_option maxRecDepth 100000 in
set_option maxHeartbeats 1000000 in
theorem patSigned_any (f a : Int) (neg : Bool) (h0 : 0 ≤ f) (h2 : f ≤ 2) (ha0 : 0 ≤ a) (ha : a ≤ 9218868437227405312) (w : World) :
    Calls Try.prog 41 #[layOf f, .int .i64 a, .bool neg] w fun e w' => e = .returned (.int .i64 (signedV f neg a)) ∧ Below w.heap.size w w' := by
  cases neg
  · rcases (by omega : f = 0 ∨ f = 1 ∨ f = 2) with rfl | rfl | rfl
    · simp only [layOf, layV]
      go_enter Try.func41, Try.ntmps41
      go_wp2
      go_ret
      exact ⟨rfl, (Below.refl _ _).alloc (Nat.le_refl _) _⟩
    · simp only [layOf, layV]
      go_enter Try.func41, Try.ntmps41
      go_wp2
      go_ret
      exact ⟨rfl, (Below.refl _ _).alloc (Nat.le_refl _) _⟩
    · simp only [layOf, layV]
      go_enter Try.func41, Try.ntmps41
      go_wp2
      go_ret
      exact ⟨rfl, (Below.refl _ _).alloc (Nat.le_refl _) _⟩
  · rcases (by omega : f = 0 ∨ f = 1 ∨ f = 2) with rfl | rfl | rfl
    · simp only [layOf, layV]
      go_enter Try.func41, Try.ntmps41
      go_wp2
      go_ret
      exact ⟨rfl, (Below.refl _ _).alloc (Nat.le_refl _) _⟩
    · simp only [layOf, layV]
      go_enter Try.func41, Try.ntmps41
      go_wp2
      go_ret
      exact ⟨rfl, (Below.refl _ _).alloc (Nat.le_refl _) _⟩
    · simp only [layOf, layV]
      go_enter Try.func41, Try.ntmps41
      go_wp2
      go_ret
      exact ⟨rfl, (Below.refl _ _).alloc (Nat.le_refl _) _⟩
set_option maxRecDepth 100000 in
set_option maxHeartbeats 1000000 in
theorem toUpper_any (mode rest : Int) (neg odd : Bool) (h1 : 0 < rest) (h2 : rest ≤ 3) (w : World) :
    Calls Try.prog 70 #[.int .i64 mode, .bool neg, .bool odd, .int .i64 rest] w fun e w' => e = .returned (.bool (awayB mode neg rest odd)) ∧ w' = w := by
  rcases (by omega : rest = 1 ∨ rest = 2 ∨ rest = 3) with rfl | rfl | rfl
  · by_cases m0 : mode = 0
    · subst m0
      go_enter Try.func70, Try.ntmps70
      go_wp2
      all_goals (go_ret; exact ⟨by simp [awayB], rfl⟩)
    · by_cases m1 : mode = 1
      · subst m1
        go_enter Try.func70, Try.ntmps70
        go_wp2
        all_goals (go_ret; exact ⟨by simp [awayB], rfl⟩)
      · by_cases m3 : mode = 3
        · subst m3
          go_enter Try.func70, Try.ntmps70
          go_wp2
          all_goals (go_ret; exact ⟨by simp [awayB], rfl⟩)
        · by_cases m4 : mode = 4
          · subst m4
            go_enter Try.func70, Try.ntmps70
            go_wp2
            all_goals (go_ret; exact ⟨by simp [awayB], rfl⟩)
          · go_enter Try.func70, Try.ntmps70
            go_wp2
            go_ret
            exact ⟨by simp [awayB, m0, m1, m3, m4], rfl⟩
  · by_cases m0 : mode = 0
    · subst m0
      go_enter Try.func70, Try.ntmps70
      go_wp2
      all_goals (go_ret; exact ⟨by simp [awayB], rfl⟩)
    · by_cases m1 : mode = 1
      · subst m1
        go_enter Try.func70, Try.ntmps70
        go_wp2
        all_goals (go_ret; exact ⟨by simp [awayB], rfl⟩)
      · by_cases m3 : mode = 3
        · subst m3
          go_enter Try.func70, Try.ntmps70
          go_wp2
          all_goals (go_ret; exact ⟨by simp [awayB], rfl⟩)
        · by_cases m4 : mode = 4
          · subst m4
            go_enter Try.func70, Try.ntmps70
            go_wp2
            all_goals (go_ret; exact ⟨by simp [awayB], rfl⟩)
          · go_enter Try.func70, Try.ntmps70
            go_wp2
            go_ret
            exact ⟨by simp [awayB, m0, m1, m3, m4], rfl⟩
  · by_cases m0 : mode = 0
    · subst m0
      go_enter Try.func70, Try.ntmps70
      go_wp2
      all_goals (go_ret; exact ⟨by simp [awayB], rfl⟩)
    · by_cases m1 : mode = 1
      · subst m1
        go_enter Try.func70, Try.ntmps70
        go_wp2
        all_goals (go_ret; exact ⟨by simp [awayB], rfl⟩)
      · by_cases m3 : mode = 3
        · subst m3
          go_enter Try.func70, Try.ntmps70
          go_wp2
          all_goals (go_ret; exact ⟨by simp [awayB], rfl⟩)
        · by_cases m4 : mode = 4
          · subst m4
            go_enter Try.func70, Try.ntmps70
            go_wp2
            all_goals (go_ret; exact ⟨by simp [awayB], rfl⟩)
          · go_enter Try.func70, Try.ntmps70
            go_wp2
            go_ret
            exact ⟨by simp [awayB, m0, m1, m3, m4], rfl⟩
end Go.Proofs.Ytbkdaoicnobllaa
