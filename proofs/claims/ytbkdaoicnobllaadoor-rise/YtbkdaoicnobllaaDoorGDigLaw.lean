import Derived.Test.YtbkdaoicnobllaaDoorGHexes
import Derived.Test.YtbkdaoicnobllaaDoorGRtd

namespace Go.Proofs.YtbkdaoicnobllaaDoor
open Go.RowKit

theorem rExpF0 (x prec mode : Int) (h1 : -9223372036854775808 ≤ x) (h2 : x ≤ 9223372036854775807) (w : World) : Calls Tryd.prog 12 #[.int .i64 x, .int .i64 0, .int .i64 2, .int .i64 prec, .int .i64 mode] w fun r w' => FmtPost 0 x 2 prec mode w w' r (ExpQ (awayB mode (negI 0 x)) (valA 3000 0 (amtI 0 x).toNat) prec.toNat) := by
  by_cases h : hasB 0 x = true ∧ allowB 2 prec mode = true
  · obtain ⟨hh, ha⟩ := h
    obtain ⟨p1, p2, p3, p4⟩ := allow_exact (by omega) ha
    exact rgood0v2 x prec mode _ (by unfold hasB sgnF at hh; simp at hh; omega) (by unfold hasB sgnF at hh; simp at hh; omega) p1 p2 p3 p4 w (fun a hA hlt w => by
      have := rtextExp 0 a a (negI 0 x) prec mode 11 (-14) rfl (by omega) hlt p1 p2 w
      rw [show (amtI 0 x).toNat = a from by omega]; exact this)
  · exact rbad0v2 x prec mode _ h w
theorem pExpF0 (cv : Value) (x prec mode : Int) (h1 : -9223372036854775808 ≤ x) (h2 : x ≤ 9223372036854775807) (w : World) (ht : Tab w) : Calls Tryd.prog 11 #[cv, .int .i64 x, .int .i64 0, .int .i64 2, .int .i64 prec, .int .i64 mode] w fun r w' => FmtPost 0 x 2 prec mode w w' r (ExpQ (awayB mode (negI 0 x)) (valA 3000 0 (amtI 0 x).toNat) prec.toNat) :=
  pformat0 cv x 2 prec mode _ h1 h2 w ht (fun ha a hA hlt w hw => by
    obtain ⟨p1, p2, p3, p4⟩ := allow_exact (by omega) ha
    have := numExp0 a (negI 0 x) prec mode p1 p2 hlt w hw
    rw [show (amtI 0 x).toNat = a from by omega]; exact this)
theorem rExpF1 (x prec mode : Int) (h1 : -9223372036854775808 ≤ x) (h2 : x ≤ 9223372036854775807) (w : World) : Calls Tryd.prog 12 #[.int .i64 x, .int .i64 1, .int .i64 2, .int .i64 prec, .int .i64 mode] w fun r w' => FmtPost 1 x 2 prec mode w w' r (ExpQ (awayB mode (negI 1 x)) (valA 3000 1 (amtI 1 x).toNat) prec.toNat) := by
  by_cases h : hasB 1 x = true ∧ allowB 2 prec mode = true
  · obtain ⟨hh, ha⟩ := h
    obtain ⟨p1, p2, p3, p4⟩ := allow_exact (by omega) ha
    exact rgood1v2 x prec mode _ (by unfold hasB sgnF at hh; simp at hh; omega) (by unfold hasB sgnF at hh; simp at hh; omega) p1 p2 p3 p4 w (fun a hA hlt w => by
      have := rtextExp 1 a a (negI 1 x) prec mode 24 (-126) rfl (by omega) hlt p1 p2 w
      rw [show (amtI 1 x).toNat = a from by omega]; exact this)
  · exact rbad1v2 x prec mode _ h w
theorem pExpF1 (cv : Value) (x prec mode : Int) (h1 : -9223372036854775808 ≤ x) (h2 : x ≤ 9223372036854775807) (w : World) (ht : Tab w) : Calls Tryd.prog 11 #[cv, .int .i64 x, .int .i64 1, .int .i64 2, .int .i64 prec, .int .i64 mode] w fun r w' => FmtPost 1 x 2 prec mode w w' r (ExpQ (awayB mode (negI 1 x)) (valA 3000 1 (amtI 1 x).toNat) prec.toNat) :=
  pformat1 cv x 2 prec mode _ h1 h2 w ht (fun ha a hA hlt w hw => by
    obtain ⟨p1, p2, p3, p4⟩ := allow_exact (by omega) ha
    have := numExp1 a (negI 1 x) prec mode p1 p2 hlt w hw
    rw [show (amtI 1 x).toNat = a from by omega]; exact this)
theorem rExpF2 (x prec mode : Int) (h1 : -9223372036854775808 ≤ x) (h2 : x ≤ 9223372036854775807) (w : World) : Calls Tryd.prog 12 #[.int .i64 x, .int .i64 2, .int .i64 2, .int .i64 prec, .int .i64 mode] w fun r w' => FmtPost 2 x 2 prec mode w w' r (ExpQ (awayB mode (negI 2 x)) (valA 3000 2 (amtI 2 x).toNat) prec.toNat) := by
  by_cases h : hasB 2 x = true ∧ allowB 2 prec mode = true
  · obtain ⟨hh, ha⟩ := h
    obtain ⟨p1, p2, p3, p4⟩ := allow_exact (by omega) ha
    exact rgood2v2 x prec mode _ h1 h2 p1 p2 p3 p4 w (fun a hA hlt w => by
      have := rtextExp 2 a a (negI 2 x) prec mode 53 (-1022) rfl (by omega) hlt p1 p2 w
      rw [show (amtI 2 x).toNat = a from by omega]; exact this)
  · exact rbad2v2 x prec mode _ h w
theorem pExpF2 (cv : Value) (x prec mode : Int) (h1 : -9223372036854775808 ≤ x) (h2 : x ≤ 9223372036854775807) (w : World) (ht : Tab w) : Calls Tryd.prog 11 #[cv, .int .i64 x, .int .i64 2, .int .i64 2, .int .i64 prec, .int .i64 mode] w fun r w' => FmtPost 2 x 2 prec mode w w' r (ExpQ (awayB mode (negI 2 x)) (valA 3000 2 (amtI 2 x).toNat) prec.toNat) :=
  pformat2 cv x 2 prec mode _ h1 h2 w ht (fun ha a hA hlt w hw => by
    obtain ⟨p1, p2, p3, p4⟩ := allow_exact (by omega) ha
    have := numExp2 a (negI 2 x) prec mode p1 p2 hlt w hw
    rw [show (amtI 2 x).toNat = a from by omega]; exact this)
theorem both_exp (cv : Value) (x f prec mode : Int) (h1 : -9223372036854775808 ≤ x) (h2 : x ≤ 9223372036854775807) (w : World) (ht : Tab w) :
    Calls Tryd.prog 9 #[cv, .int .i64 x, .int .i64 f, .int .i64 2, .int .i64 prec, .int .i64 mode] w fun r w' => BothPost w w' r := by
  by_cases hf : 0 ≤ f ∧ f ≤ 2
  · rcases (by omega : f = 0 ∨ f = 1 ∨ f = 2) with rfl | rfl | rfl
    · exact formatted_any cv x 0 2 prec mode _ _ (fun T T' a b => a.same b) w ht (fun w hw => pExpF0 cv x prec mode h1 h2 w hw) (fun w => rExpF0 x prec mode h1 h2 w)
    · exact formatted_any cv x 1 2 prec mode _ _ (fun T T' a b => a.same b) w ht (fun w hw => pExpF1 cv x prec mode h1 h2 w hw) (fun w => rExpF1 x prec mode h1 h2 w)
    · exact formatted_any cv x 2 2 prec mode _ _ (fun T T' a b => a.same b) w ht (fun w hw => pExpF2 cv x prec mode h1 h2 w hw) (fun w => rExpF2 x prec mode h1 h2 w)
  · exact formatted_none cv x f 2 prec mode hf w
theorem rFixF0 (x prec mode : Int) (h1 : -9223372036854775808 ≤ x) (h2 : x ≤ 9223372036854775807) (w : World) : Calls Tryd.prog 12 #[.int .i64 x, .int .i64 0, .int .i64 3, .int .i64 prec, .int .i64 mode] w fun r w' => FmtPost 0 x 3 prec mode w w' r (FixQ (awayB mode (negI 0 x)) (valA 3000 0 (amtI 0 x).toNat) prec.toNat) := by
  by_cases h : hasB 0 x = true ∧ allowB 3 prec mode = true
  · obtain ⟨hh, ha⟩ := h
    obtain ⟨p1, p2, p3, p4⟩ := allow_exact (by omega) ha
    exact rgood0v3 x prec mode _ (by unfold hasB sgnF at hh; simp at hh; omega) (by unfold hasB sgnF at hh; simp at hh; omega) p1 p2 p3 p4 w (fun a hA hlt w => by
      have := rtextFix 0 a a (negI 0 x) prec mode 11 (-14) rfl (by omega) hlt p1 p2 w
      rw [show (amtI 0 x).toNat = a from by omega]; exact this)
  · exact rbad0v3 x prec mode _ h w
theorem pFixF0 (cv : Value) (x prec mode : Int) (h1 : -9223372036854775808 ≤ x) (h2 : x ≤ 9223372036854775807) (w : World) (ht : Tab w) : Calls Tryd.prog 11 #[cv, .int .i64 x, .int .i64 0, .int .i64 3, .int .i64 prec, .int .i64 mode] w fun r w' => FmtPost 0 x 3 prec mode w w' r (FixQ (awayB mode (negI 0 x)) (valA 3000 0 (amtI 0 x).toNat) prec.toNat) :=
  pformat0 cv x 3 prec mode _ h1 h2 w ht (fun ha a hA hlt w hw => by
    obtain ⟨p1, p2, p3, p4⟩ := allow_exact (by omega) ha
    have := numFix0 a (negI 0 x) prec mode p1 p2 hlt w hw
    rw [show (amtI 0 x).toNat = a from by omega]; exact this)
theorem rFixF1 (x prec mode : Int) (h1 : -9223372036854775808 ≤ x) (h2 : x ≤ 9223372036854775807) (w : World) : Calls Tryd.prog 12 #[.int .i64 x, .int .i64 1, .int .i64 3, .int .i64 prec, .int .i64 mode] w fun r w' => FmtPost 1 x 3 prec mode w w' r (FixQ (awayB mode (negI 1 x)) (valA 3000 1 (amtI 1 x).toNat) prec.toNat) := by
  by_cases h : hasB 1 x = true ∧ allowB 3 prec mode = true
  · obtain ⟨hh, ha⟩ := h
    obtain ⟨p1, p2, p3, p4⟩ := allow_exact (by omega) ha
    exact rgood1v3 x prec mode _ (by unfold hasB sgnF at hh; simp at hh; omega) (by unfold hasB sgnF at hh; simp at hh; omega) p1 p2 p3 p4 w (fun a hA hlt w => by
      have := rtextFix 1 a a (negI 1 x) prec mode 24 (-126) rfl (by omega) hlt p1 p2 w
      rw [show (amtI 1 x).toNat = a from by omega]; exact this)
  · exact rbad1v3 x prec mode _ h w
theorem pFixF1 (cv : Value) (x prec mode : Int) (h1 : -9223372036854775808 ≤ x) (h2 : x ≤ 9223372036854775807) (w : World) (ht : Tab w) : Calls Tryd.prog 11 #[cv, .int .i64 x, .int .i64 1, .int .i64 3, .int .i64 prec, .int .i64 mode] w fun r w' => FmtPost 1 x 3 prec mode w w' r (FixQ (awayB mode (negI 1 x)) (valA 3000 1 (amtI 1 x).toNat) prec.toNat) :=
  pformat1 cv x 3 prec mode _ h1 h2 w ht (fun ha a hA hlt w hw => by
    obtain ⟨p1, p2, p3, p4⟩ := allow_exact (by omega) ha
    have := numFix1 a (negI 1 x) prec mode p1 p2 hlt w hw
    rw [show (amtI 1 x).toNat = a from by omega]; exact this)
theorem rFixF2 (x prec mode : Int) (h1 : -9223372036854775808 ≤ x) (h2 : x ≤ 9223372036854775807) (w : World) : Calls Tryd.prog 12 #[.int .i64 x, .int .i64 2, .int .i64 3, .int .i64 prec, .int .i64 mode] w fun r w' => FmtPost 2 x 3 prec mode w w' r (FixQ (awayB mode (negI 2 x)) (valA 3000 2 (amtI 2 x).toNat) prec.toNat) := by
  by_cases h : hasB 2 x = true ∧ allowB 3 prec mode = true
  · obtain ⟨hh, ha⟩ := h
    obtain ⟨p1, p2, p3, p4⟩ := allow_exact (by omega) ha
    exact rgood2v3 x prec mode _ h1 h2 p1 p2 p3 p4 w (fun a hA hlt w => by
      have := rtextFix 2 a a (negI 2 x) prec mode 53 (-1022) rfl (by omega) hlt p1 p2 w
      rw [show (amtI 2 x).toNat = a from by omega]; exact this)
  · exact rbad2v3 x prec mode _ h w
theorem pFixF2 (cv : Value) (x prec mode : Int) (h1 : -9223372036854775808 ≤ x) (h2 : x ≤ 9223372036854775807) (w : World) (ht : Tab w) : Calls Tryd.prog 11 #[cv, .int .i64 x, .int .i64 2, .int .i64 3, .int .i64 prec, .int .i64 mode] w fun r w' => FmtPost 2 x 3 prec mode w w' r (FixQ (awayB mode (negI 2 x)) (valA 3000 2 (amtI 2 x).toNat) prec.toNat) :=
  pformat2 cv x 3 prec mode _ h1 h2 w ht (fun ha a hA hlt w hw => by
    obtain ⟨p1, p2, p3, p4⟩ := allow_exact (by omega) ha
    have := numFix2 a (negI 2 x) prec mode p1 p2 hlt w hw
    rw [show (amtI 2 x).toNat = a from by omega]; exact this)
theorem both_fix (cv : Value) (x f prec mode : Int) (h1 : -9223372036854775808 ≤ x) (h2 : x ≤ 9223372036854775807) (w : World) (ht : Tab w) :
    Calls Tryd.prog 9 #[cv, .int .i64 x, .int .i64 f, .int .i64 3, .int .i64 prec, .int .i64 mode] w fun r w' => BothPost w w' r := by
  by_cases hf : 0 ≤ f ∧ f ≤ 2
  · rcases (by omega : f = 0 ∨ f = 1 ∨ f = 2) with rfl | rfl | rfl
    · exact formatted_any cv x 0 3 prec mode _ _ (fun T T' a b => a.same b) w ht (fun w hw => pFixF0 cv x prec mode h1 h2 w hw) (fun w => rFixF0 x prec mode h1 h2 w)
    · exact formatted_any cv x 1 3 prec mode _ _ (fun T T' a b => a.same b) w ht (fun w hw => pFixF1 cv x prec mode h1 h2 w hw) (fun w => rFixF1 x prec mode h1 h2 w)
    · exact formatted_any cv x 2 3 prec mode _ _ (fun T T' a b => a.same b) w ht (fun w hw => pFixF2 cv x prec mode h1 h2 w hw) (fun w => rFixF2 x prec mode h1 h2 w)
  · exact formatted_none cv x f 3 prec mode hf w
set_option maxRecDepth 100000 in
set_option maxHeartbeats 1000000 in
theorem digits_law (x f : Int) (fix : Bool) (prec mode : Int) (h1 : -9223372036854775808 ≤ x ∧ x ≤ 9223372036854775807) (w : World) (ht : Tab w) :
    Calls Tryd.prog 4 #[.int .i64 x, .int .i64 f, .bool fix, .int .i64 prec, .int .i64 mode] w fun r w' => r = .returned (.bool true) ∧ Below w.heap.size w w' := by
  have HX2 : Hid (∀ (cv : Value) (w : World), Tab w → Calls Tryd.prog 9 #[cv, .int .i64 x, .int .i64 f, .int .i64 2, .int .i64 prec, .int .i64 mode] w fun r w' => BothPost w w' r) := fun cv w hw => both_exp cv x f prec mode h1.1 h1.2 w hw
  have HX3 : Hid (∀ (cv : Value) (w : World), Tab w → Calls Tryd.prog 9 #[cv, .int .i64 x, .int .i64 f, .int .i64 3, .int .i64 prec, .int .i64 mode] w fun r w' => BothPost w w' r) := fun cv w hw => both_fix cv x f prec mode h1.1 h1.2 w hw
  have HT := hid ht
  clear h1 ht
  cases fix
  · go_enter Tryd.func4, Tryd.ntmps4
    go_wp2_with fail
    refine (pnew_any w).mono ?_
    rintro r w1 ⟨v, rfl, hb1⟩
    have HB1 := hid hb1
    clear hb1
    go_wp2_with fail
    refine (HX2.out v w1 (HT.out.below HB1.out)).mono ?_
    rintro r w2 ⟨s, rfl, hs, hb2⟩
    have HB2 : Hid (Below w.heap.size w w2) := HB1.out.trans (hb2.mono HB1.out.size)
    clear hs hb2 HX2 HX3
    go_wp2
    go_ret
    exact ⟨rfl, HB2.out⟩
  · go_enter Tryd.func4, Tryd.ntmps4
    go_wp2_with fail
    refine (pnew_any w).mono ?_
    rintro r w1 ⟨v, rfl, hb1⟩
    have HB1 := hid hb1
    clear hb1
    go_wp2_with fail
    refine (HX3.out v w1 (HT.out.below HB1.out)).mono ?_
    rintro r w2 ⟨s, rfl, hs, hb2⟩
    have HB2 : Hid (Below w.heap.size w w2) := HB1.out.trans (hb2.mono HB1.out.size)
    clear hs hb2 HX2 HX3
    go_wp2
    go_ret
    exact ⟨rfl, HB2.out⟩
end Go.Proofs.YtbkdaoicnobllaaDoor
