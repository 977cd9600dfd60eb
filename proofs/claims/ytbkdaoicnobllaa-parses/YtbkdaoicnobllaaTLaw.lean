import Derived.Test.YtbkdaoicnobllaaTPar
import Derived.Test.YtbkdaoicnobllaaTRefP
import Derived.Test.YtbkdaoicnobllaaTNew

namespace Go.Proofs.Ytbkdaoicnobllaa
open Go.RowKit

set_option maxRecDepth 100000 in
set_option maxHeartbeats 1000000 in
theorem parsed_any (cv : Value) (s : ByteArray) (f mode : Int) (w : World) (hs : s.size ≤ maxLen) :
    Calls Try.prog 9 #[cv, .string s, .int .i64 f, .int .i64 mode] w fun e w' => ∃ bts : Int, e = .returned (.tuple #[.int .i64 bts, .bool true]) ∧ Below w.heap.size w w' := by
  have HX := hid (parse_any cv s f mode w)
  go_enter Try.func9, Try.ntmps9
  go_wp2_with fail
  refine HX.out.mono ?_
  rintro e w1 ⟨b1, f1, a1, e1, rfl, hb1, hp⟩
  have HB1 := hid hb1
  have HP := hid hp
  have HX2 := hid (refParse_any s f mode 30000 w1 (by omega) hs)
  clear HX hb1 hp
  go_wp2_with fail
  refine HX2.out.mono ?_
  rintro e w2 ⟨hb2, b2, f2, a2, e2, rfl, hr⟩
  obtain ⟨h1, h2, h3, h4⟩ := parse_join (Nat.le_refl _) HP.out hr
  subst h1 h2 h3 h4
  have HB2 : Hid (Below w.heap.size w w2) := HB1.out.trans (hb2.mono HB1.out.size)
  clear HX2 hb2 hr HP HB1
  go_wp2
  all_goals (go_ret2; exact ⟨_, rfl, HB2.out⟩)
set_option maxRecDepth 100000 in
set_option maxHeartbeats 1000000 in
theorem parses_any (s : ByteArray) (f mode : Int) (w : World) (hs : s.size ≤ maxLen) :
    Calls Try.prog 3 #[.string s, .int .i64 f, .int .i64 mode] w fun e w' => e = .returned (.bool true) ∧ Below w.heap.size w w' := by
  go_enter Try.func3, Try.ntmps3
  by_cases hl : 16384 < s.size
  · have t : decide ((16384 : Int) < (s.size : Int)) = true := by simp; omega
    clear hl
    go_wp2
    all_goals (go_ret; exact ⟨rfl, Below.refl _ _⟩)
  · have t : decide ((16384 : Int) < (s.size : Int)) = false := by simp; omega
    have HS := hid hs
    clear hl hs
    go_wp2_with fail
    refine (new_any w).mono ?_
    rintro e w1 ⟨v, rfl, hb1⟩
    have HB1 := hid hb1
    have HX := hid (parsed_any v s f mode w1 HS.out)
    clear hb1
    go_wp2_with fail
    refine HX.out.mono ?_
    rintro e w2 ⟨b, rfl, hb2⟩
    have HB2 : Hid (Below w.heap.size w w2) := HB1.out.trans (hb2.mono HB1.out.size)
    clear HX hb2 HB1
    go_wp2
    go_ret
    exact ⟨rfl, HB2.out⟩
end Go.Proofs.Ytbkdaoicnobllaa
