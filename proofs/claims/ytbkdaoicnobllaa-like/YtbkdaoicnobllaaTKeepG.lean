import Derived.Test.YtbkdaoicnobllaaTKeepF
import Derived.Test.YtbkdaoicnobllaaTKeepFa
import Derived.Test.YtbkdaoicnobllaaTKeepFb

namespace Go.Proofs.Ytbkdaoicnobllaa
open Go.RowKit

set_option maxRecDepth 100000 in
set_option maxHeartbeats 1000000 in
theorem mirrored_any (cv : Value) (s : ByteArray) (b : Int) (hb : -9223372036854775808 ≤ b ∧ b ≤ 9223372036854775807) (hs : s.size ≤ 16384) (w : World) :
    Calls Try.prog 16 #[cv, .string s, .int .i64 b] w fun e w' => e = .returned (.bool true) ∧ Below w.heap.size w w' := by
  have h3 : pickV b 3 < 3 := Nat.mod_lt _ (by omega)
  by_cases h0 : 0 < s.size
  · by_cases h45 : s[0].toNat = 45
    · have tz : ((s.size : Int) == 0) = false := by rw [beq_eq_false_iff_ne]; omega
      have t45 : (((s[0].toNat : Nat) : Int) == 45) = true := by simp; omega
      clear h45
      go_enter Try.func16, Try.ntmps16
      go_wp2
      all_goals (go_ret; exact ⟨rfl, Below.refl _ _⟩)
    · by_cases h43 : s[0].toNat = 43
      · have tz : ((s.size : Int) == 0) = false := by rw [beq_eq_false_iff_ne]; omega
        have t45 : (((s[0].toNat : Nat) : Int) == 45) = false := by simp; omega
        have t43 : (((s[0].toNat : Nat) : Int) == 43) = true := by simp; omega
        clear h45 h43
        go_enter Try.func16, Try.ntmps16
        go_wp2
        all_goals (go_ret; exact ⟨rfl, Below.refl _ _⟩)
      · by_cases h9 : s.size = 900
        · have tz : ((s.size : Int) == 0) = false := by rw [beq_eq_false_iff_ne]; omega
          have t45 : (((s[0].toNat : Nat) : Int) == 45) = false := by simp; omega
          have t43 : (((s[0].toNat : Nat) : Int) == 43) = false := by simp; omega
          have t9 : ((s.size : Int) == 900) = true := by rw [beq_iff_eq]; omega
          clear h45 h43 h9
          go_enter Try.func16, Try.ntmps16
          go_wp2
          all_goals (go_ret; exact ⟨rfl, Below.refl _ _⟩)
        · rcases (by omega : pickV b 3 = 0 ∨ pickV b 3 = 1 ∨ pickV b 3 = 2) with h | h | h
          · exact mirrored0 cv s b hb h hs w h0 h45 h43 h9
          · exact mirrored1 cv s b hb h hs w h0 h45 h43 h9
          · exact mirrored2 cv s b hb h hs w h0 h45 h43 h9
  · have tz : ((s.size : Int) == 0) = true := by rw [beq_iff_eq]; omega
    go_enter Try.func16, Try.ntmps16
    go_wp2
    all_goals (go_ret; exact ⟨rfl, Below.refl _ _⟩)
set_option maxRecDepth 100000 in
set_option maxHeartbeats 1000000 in
theorem lawMirrored_any (s : ByteArray) (b : Int) (hb : -9223372036854775808 ≤ b ∧ b ≤ 9223372036854775807) (w : World) :
    Calls Try.prog 6 #[.string s, .int .i64 b] w fun e w' => e = .returned (.bool true) ∧ Below w.heap.size w w' := by
  have HBB := hid hb
  clear hb
  go_enter Try.func6, Try.ntmps6
  go_wp2_with fail
  refine (new_any w).mono ?_
  rintro e w1 ⟨v, rfl, hb1⟩
  have HB1 := hid hb1
  have HX := hid (kone_any v b HBB.out w1)
  clear hb1
  go_wp2_with fail
  refine HX.out.mono ?_
  rintro e w2 ⟨rfl, hb2⟩
  have HB2 : Hid (Below w.heap.size w w2) := HB1.out.trans (hb2.mono HB1.out.size)
  clear HX hb2 HB1
  by_cases hl : 16384 < s.size
  · have t : decide ((16384 : Int) < (s.size : Int)) = true := by simp; omega
    clear hl
    go_wp2
    all_goals (go_ret; exact ⟨rfl, HB2.out⟩)
  · have t : decide ((16384 : Int) < (s.size : Int)) = false := by simp; omega
    have HX2 := hid (mirrored_any v s b HBB.out (by omega) w2)
    clear hl
    go_wp2_with fail
    refine HX2.out.mono ?_
    rintro e w3 ⟨rfl, hb3⟩
    have HB3 : Hid (Below w.heap.size w w3) := HB2.out.trans (hb3.mono HB2.out.size)
    clear HX2 hb3 HB2
    go_wp2
    all_goals (go_ret; exact ⟨rfl, HB3.out⟩)
end Go.Proofs.Ytbkdaoicnobllaa
