import Derived.Test.YtbkdaoicnobllaaDoorGFmt
import Derived.Test.YtbkdaoicnobllaaDoorGBada

namespace Go.Proofs.YtbkdaoicnobllaaDoor
open Go.RowKit

/-- What both sides answer, together. -/
def BothPost (w w' : World) (r : Ending) : Prop := ∃ s : ByteArray, r = .returned (.tuple #[.string s, .bool true]) ∧ s.size ≤ 6000 ∧ Below w.heap.size w w'
theorem outT_length (f x : Int) (T : List UInt8) (h : T.length ≤ 5000) : (outT f x T).length ≤ 5001 := by
  unfold outT; repeat' split
  all_goals (simp; try omega)
theorem outT_same {f x : Int} {Q1 Q2 : List UInt8 → Prop} (hj : ∀ T T', Q1 T → Q2 T' → T = T') {T T' : List UInt8} (h1 : amtI f x < infN f → Q1 T) (h2 : amtI f x < infN f → Q2 T') : outT f x T' = outT f x T := by
  by_cases h : amtI f x < infN f
  · rw [hj T T' (h1 h) (h2 h)]
  · unfold outT; rw [if_neg h, if_neg h]
set_option maxRecDepth 100000 in
set_option maxHeartbeats 1000000 in
theorem formatted_any (cv : Value) (x f verb prec mode : Int) (Q1 Q2 : List UInt8 → Prop) (hj : ∀ T T', Q1 T → Q2 T' → T = T') (w : World) (ht : Tab w)
    (HP0 : ∀ w : World, Tab w → Calls Tryd.prog 11 #[cv, .int .i64 x, .int .i64 f, .int .i64 verb, .int .i64 prec, .int .i64 mode] w fun r w' => FmtPost f x verb prec mode w w' r Q1)
    (HR0 : ∀ w : World, Calls Tryd.prog 12 #[.int .i64 x, .int .i64 f, .int .i64 verb, .int .i64 prec, .int .i64 mode] w fun r w' => FmtPost f x verb prec mode w w' r Q2) :
    Calls Tryd.prog 9 #[cv, .int .i64 x, .int .i64 f, .int .i64 verb, .int .i64 prec, .int .i64 mode] w fun r w' => BothPost w w' r := by
  have HP := hid (HP0 w ht)
  have HR := hid HR0
  have HJ := hid hj
  clear HP0 HR0 ht hj
  go_enter Tryd.func9, Tryd.ntmps9
  go_wp2_with fail
  refine HP.out.mono ?_
  rintro r w1 (⟨g1, g2, T, rfl, hq, hl, hb⟩ | ⟨g1, rfl, hb⟩)
  · obtain ⟨s, hs⟩ : ∃ s, str (outT f x T) = s := ⟨_, rfl⟩
    rw [hs]
    have HS : Hid (s.size ≤ 6000) := by unfold Hid; rw [← hs, str_size]; have := outT_length f x T hl; omega
    have HB := hid hb
    have HX : Hid (∀ w : World, Calls Tryd.prog 12 #[.int .i64 x, .int .i64 f, .int .i64 verb, .int .i64 prec, .int .i64 mode] w fun r w' => r = .returned (.tuple #[.string s, .int .i64 0]) ∧ Below w.heap.size w w') := fun w => by
      refine (HR.out w).mono ?_
      rintro r w' (⟨_, _, T', rfl, hq', _, hb'⟩ | ⟨g3, _⟩)
      · exact ⟨by rw [outT_same HJ.out hq hq', hs], hb'⟩
      · exact absurd ⟨g1, g2⟩ g3
    clear HP HR HJ g1 g2 hq hl hb hs
    go_wp2_with fail
    refine (HX.out _).mono ?_
    rintro r w2 ⟨rfl, hb2⟩
    have HB2 : Hid (Below w.heap.size w w2) := HB.out.trans (hb2.mono HB.out.size)
    clear hb2 HX
    go_wp2
    all_goals (go_ret2; exact ⟨_, rfl, HS.out, HB2.out⟩)
  · have HB := hid hb
    have HX : Hid (∀ w : World, Calls Tryd.prog 12 #[.int .i64 x, .int .i64 f, .int .i64 verb, .int .i64 prec, .int .i64 mode] w fun r w' => r = .returned (.tuple #[.string (str []), .int .i64 1]) ∧ Below w.heap.size w w') := fun w => by
      refine (HR.out w).mono ?_
      rintro r w' (⟨g3, g4, _⟩ | ⟨_, rfl, hb'⟩)
      · exact absurd ⟨g3, g4⟩ g1
      · exact ⟨rfl, hb'⟩
    obtain ⟨s, hs⟩ : ∃ s, str [] = s := ⟨_, rfl⟩
    rw [hs] at HX ⊢
    have HS : Hid (s.size ≤ 6000) := by unfold Hid; rw [← hs, str_size]; simp
    clear HP HR HJ g1 hb hs
    go_wp2_with fail
    refine (HX.out _).mono ?_
    rintro r w2 ⟨rfl, hb2⟩
    have HB2 : Hid (Below w.heap.size w w2) := HB.out.trans (hb2.mono HB.out.size)
    clear hb2 HX
    go_wp2
    all_goals (go_ret2; exact ⟨_, rfl, HS.out, HB2.out⟩)
set_option maxRecDepth 100000 in
set_option maxHeartbeats 1000000 in
theorem formatted_none (cv : Value) (x f verb prec mode : Int) (hf : ¬ (0 ≤ f ∧ f ≤ 2)) (w : World) :
    Calls Tryd.prog 9 #[cv, .int .i64 x, .int .i64 f, .int .i64 verb, .int .i64 prec, .int .i64 mode] w fun r w' => BothPost w w' r := by
  have HP := hid (pformat_none cv x f verb prec mode hf)
  have HR := hid (rformat_none x f verb prec mode hf)
  obtain ⟨s, hs⟩ : ∃ s, str [] = s := ⟨_, rfl⟩
  rw [hs] at HP HR
  have HS : Hid (s.size ≤ 6000) := by unfold Hid; rw [← hs, str_size]; simp
  clear hf hs
  go_enter Tryd.func9, Tryd.ntmps9
  go_wp2_with fail
  refine (HP.out _).mono ?_
  rintro r w1 ⟨rfl, hb⟩
  have HB := hid hb
  clear hb HP
  go_wp2_with fail
  refine (HR.out _).mono ?_
  rintro r w2 ⟨rfl, rfl⟩
  clear HR
  go_wp2
  all_goals (go_ret2; exact ⟨_, rfl, HS.out, HB.out⟩)
end Go.Proofs.YtbkdaoicnobllaaDoor
