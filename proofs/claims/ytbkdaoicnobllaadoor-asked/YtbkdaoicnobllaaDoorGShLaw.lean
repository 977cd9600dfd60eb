import Derived.Test.YtbkdaoicnobllaaDoorGDigLaw
import Derived.Test.YtbkdaoicnobllaaDoorGShort
import Derived.Test.YtbkdaoicnobllaaDoorGRshort

namespace Go.Proofs.YtbkdaoicnobllaaDoor
open Go.RowKit

theorem rShF0 (x prec mode : Int) (h1 : -9223372036854775808 ≤ x) (h2 : x ≤ 9223372036854775807) (w : World) : Calls Tryd.prog 12 #[.int .i64 x, .int .i64 0, .int .i64 0, .int .i64 prec, .int .i64 mode] w fun r w' => FmtPost 0 x 0 prec mode w w' r (ShortQ false 0 (amtI 0 x).toNat) := by
  by_cases h : hasB 0 x = true ∧ allowB 0 prec mode = true
  · obtain ⟨hh, ha⟩ := h
    obtain ⟨rfl, rfl⟩ := allow_short (by omega) ha
    exact rgood0v0 x _ (by unfold hasB sgnF at hh; simp at hh; omega) (by unfold hasB sgnF at hh; simp at hh; omega) w (fun a hA hlt w => by
      have := rtextSh 0 a a (negI 0 x) (-1) 0 11 (-14) rfl (by omega) hlt w
      rw [show (amtI 0 x).toNat = a from by omega]; exact this)
  · exact rbad0v0 x prec mode _ h w
theorem pShF0 (cv : Value) (x prec mode : Int) (h1 : -9223372036854775808 ≤ x) (h2 : x ≤ 9223372036854775807) (w : World) (ht : Tab w) : Calls Tryd.prog 11 #[cv, .int .i64 x, .int .i64 0, .int .i64 0, .int .i64 prec, .int .i64 mode] w fun r w' => FmtPost 0 x 0 prec mode w w' r (ShortQ false 0 (amtI 0 x).toNat) :=
  pformat0 cv x 0 prec mode _ h1 h2 w ht (fun _ a hA hlt w hw => by
    have := numSh0 a (negI 0 x) prec mode hlt w hw
    rw [show (amtI 0 x).toNat = a from by omega]; exact this)
theorem rShF1 (x prec mode : Int) (h1 : -9223372036854775808 ≤ x) (h2 : x ≤ 9223372036854775807) (w : World) : Calls Tryd.prog 12 #[.int .i64 x, .int .i64 1, .int .i64 0, .int .i64 prec, .int .i64 mode] w fun r w' => FmtPost 1 x 0 prec mode w w' r (ShortQ false 1 (amtI 1 x).toNat) := by
  by_cases h : hasB 1 x = true ∧ allowB 0 prec mode = true
  · obtain ⟨hh, ha⟩ := h
    obtain ⟨rfl, rfl⟩ := allow_short (by omega) ha
    exact rgood1v0 x _ (by unfold hasB sgnF at hh; simp at hh; omega) (by unfold hasB sgnF at hh; simp at hh; omega) w (fun a hA hlt w => by
      have := rtextSh 1 a a (negI 1 x) (-1) 0 24 (-126) rfl (by omega) hlt w
      rw [show (amtI 1 x).toNat = a from by omega]; exact this)
  · exact rbad1v0 x prec mode _ h w
theorem pShF1 (cv : Value) (x prec mode : Int) (h1 : -9223372036854775808 ≤ x) (h2 : x ≤ 9223372036854775807) (w : World) (ht : Tab w) : Calls Tryd.prog 11 #[cv, .int .i64 x, .int .i64 1, .int .i64 0, .int .i64 prec, .int .i64 mode] w fun r w' => FmtPost 1 x 0 prec mode w w' r (ShortQ false 1 (amtI 1 x).toNat) :=
  pformat1 cv x 0 prec mode _ h1 h2 w ht (fun _ a hA hlt w hw => by
    have := numSh1 a (negI 1 x) prec mode hlt w hw
    rw [show (amtI 1 x).toNat = a from by omega]; exact this)
theorem rShF2 (x prec mode : Int) (h1 : -9223372036854775808 ≤ x) (h2 : x ≤ 9223372036854775807) (w : World) : Calls Tryd.prog 12 #[.int .i64 x, .int .i64 2, .int .i64 0, .int .i64 prec, .int .i64 mode] w fun r w' => FmtPost 2 x 0 prec mode w w' r (ShortQ false 2 (amtI 2 x).toNat) := by
  by_cases h : hasB 2 x = true ∧ allowB 0 prec mode = true
  · obtain ⟨hh, ha⟩ := h
    obtain ⟨rfl, rfl⟩ := allow_short (by omega) ha
    exact rgood2v0 x _ h1 h2 w (fun a hA hlt w => by
      have := rtextSh 2 a a (negI 2 x) (-1) 0 53 (-1022) rfl (by omega) hlt w
      rw [show (amtI 2 x).toNat = a from by omega]; exact this)
  · exact rbad2v0 x prec mode _ h w
theorem pShF2 (cv : Value) (x prec mode : Int) (h1 : -9223372036854775808 ≤ x) (h2 : x ≤ 9223372036854775807) (w : World) (ht : Tab w) : Calls Tryd.prog 11 #[cv, .int .i64 x, .int .i64 2, .int .i64 0, .int .i64 prec, .int .i64 mode] w fun r w' => FmtPost 2 x 0 prec mode w w' r (ShortQ false 2 (amtI 2 x).toNat) :=
  pformat2 cv x 0 prec mode _ h1 h2 w ht (fun _ a hA hlt w hw => by
    have := numSh2 a (negI 2 x) prec mode hlt w hw
    rw [show (amtI 2 x).toNat = a from by omega]; exact this)
theorem both_sh (cv : Value) (x f prec mode : Int) (h1 : -9223372036854775808 ≤ x) (h2 : x ≤ 9223372036854775807) (w : World) (ht : Tab w) :
    Calls Tryd.prog 9 #[cv, .int .i64 x, .int .i64 f, .int .i64 0, .int .i64 prec, .int .i64 mode] w fun r w' => BothPost w w' r := by
  by_cases hf : 0 ≤ f ∧ f ≤ 2
  · rcases (by omega : f = 0 ∨ f = 1 ∨ f = 2) with rfl | rfl | rfl
    · exact formatted_any cv x 0 0 prec mode _ _ (fun T T' a b => a.same b) w ht (fun w hw => pShF0 cv x prec mode h1 h2 w hw) (fun w => rShF0 x prec mode h1 h2 w)
    · exact formatted_any cv x 1 0 prec mode _ _ (fun T T' a b => a.same b) w ht (fun w hw => pShF1 cv x prec mode h1 h2 w hw) (fun w => rShF1 x prec mode h1 h2 w)
    · exact formatted_any cv x 2 0 prec mode _ _ (fun T T' a b => a.same b) w ht (fun w hw => pShF2 cv x prec mode h1 h2 w hw) (fun w => rShF2 x prec mode h1 h2 w)
  · exact formatted_none cv x f 0 prec mode hf w
theorem rPlF0 (x prec mode : Int) (h1 : -9223372036854775808 ≤ x) (h2 : x ≤ 9223372036854775807) (w : World) : Calls Tryd.prog 12 #[.int .i64 x, .int .i64 0, .int .i64 1, .int .i64 prec, .int .i64 mode] w fun r w' => FmtPost 0 x 1 prec mode w w' r (ShortQ true 0 (amtI 0 x).toNat) := by
  by_cases h : hasB 0 x = true ∧ allowB 1 prec mode = true
  · obtain ⟨hh, ha⟩ := h
    obtain ⟨rfl, rfl⟩ := allow_short (by omega) ha
    exact rgood0v1 x _ (by unfold hasB sgnF at hh; simp at hh; omega) (by unfold hasB sgnF at hh; simp at hh; omega) w (fun a hA hlt w => by
      have := rtextPl 0 a a (negI 0 x) (-1) 0 11 (-14) rfl (by omega) hlt w
      rw [show (amtI 0 x).toNat = a from by omega]; exact this)
  · exact rbad0v1 x prec mode _ h w
theorem pPlF0 (cv : Value) (x prec mode : Int) (h1 : -9223372036854775808 ≤ x) (h2 : x ≤ 9223372036854775807) (w : World) (ht : Tab w) : Calls Tryd.prog 11 #[cv, .int .i64 x, .int .i64 0, .int .i64 1, .int .i64 prec, .int .i64 mode] w fun r w' => FmtPost 0 x 1 prec mode w w' r (ShortQ true 0 (amtI 0 x).toNat) :=
  pformat0 cv x 1 prec mode _ h1 h2 w ht (fun _ a hA hlt w hw => by
    have := numPl0 a (negI 0 x) prec mode hlt w hw
    rw [show (amtI 0 x).toNat = a from by omega]; exact this)
theorem rPlF1 (x prec mode : Int) (h1 : -9223372036854775808 ≤ x) (h2 : x ≤ 9223372036854775807) (w : World) : Calls Tryd.prog 12 #[.int .i64 x, .int .i64 1, .int .i64 1, .int .i64 prec, .int .i64 mode] w fun r w' => FmtPost 1 x 1 prec mode w w' r (ShortQ true 1 (amtI 1 x).toNat) := by
  by_cases h : hasB 1 x = true ∧ allowB 1 prec mode = true
  · obtain ⟨hh, ha⟩ := h
    obtain ⟨rfl, rfl⟩ := allow_short (by omega) ha
    exact rgood1v1 x _ (by unfold hasB sgnF at hh; simp at hh; omega) (by unfold hasB sgnF at hh; simp at hh; omega) w (fun a hA hlt w => by
      have := rtextPl 1 a a (negI 1 x) (-1) 0 24 (-126) rfl (by omega) hlt w
      rw [show (amtI 1 x).toNat = a from by omega]; exact this)
  · exact rbad1v1 x prec mode _ h w
theorem pPlF1 (cv : Value) (x prec mode : Int) (h1 : -9223372036854775808 ≤ x) (h2 : x ≤ 9223372036854775807) (w : World) (ht : Tab w) : Calls Tryd.prog 11 #[cv, .int .i64 x, .int .i64 1, .int .i64 1, .int .i64 prec, .int .i64 mode] w fun r w' => FmtPost 1 x 1 prec mode w w' r (ShortQ true 1 (amtI 1 x).toNat) :=
  pformat1 cv x 1 prec mode _ h1 h2 w ht (fun _ a hA hlt w hw => by
    have := numPl1 a (negI 1 x) prec mode hlt w hw
    rw [show (amtI 1 x).toNat = a from by omega]; exact this)
theorem rPlF2 (x prec mode : Int) (h1 : -9223372036854775808 ≤ x) (h2 : x ≤ 9223372036854775807) (w : World) : Calls Tryd.prog 12 #[.int .i64 x, .int .i64 2, .int .i64 1, .int .i64 prec, .int .i64 mode] w fun r w' => FmtPost 2 x 1 prec mode w w' r (ShortQ true 2 (amtI 2 x).toNat) := by
  by_cases h : hasB 2 x = true ∧ allowB 1 prec mode = true
  · obtain ⟨hh, ha⟩ := h
    obtain ⟨rfl, rfl⟩ := allow_short (by omega) ha
    exact rgood2v1 x _ h1 h2 w (fun a hA hlt w => by
      have := rtextPl 2 a a (negI 2 x) (-1) 0 53 (-1022) rfl (by omega) hlt w
      rw [show (amtI 2 x).toNat = a from by omega]; exact this)
  · exact rbad2v1 x prec mode _ h w
theorem pPlF2 (cv : Value) (x prec mode : Int) (h1 : -9223372036854775808 ≤ x) (h2 : x ≤ 9223372036854775807) (w : World) (ht : Tab w) : Calls Tryd.prog 11 #[cv, .int .i64 x, .int .i64 2, .int .i64 1, .int .i64 prec, .int .i64 mode] w fun r w' => FmtPost 2 x 1 prec mode w w' r (ShortQ true 2 (amtI 2 x).toNat) :=
  pformat2 cv x 1 prec mode _ h1 h2 w ht (fun _ a hA hlt w hw => by
    have := numPl2 a (negI 2 x) prec mode hlt w hw
    rw [show (amtI 2 x).toNat = a from by omega]; exact this)
theorem both_pl (cv : Value) (x f prec mode : Int) (h1 : -9223372036854775808 ≤ x) (h2 : x ≤ 9223372036854775807) (w : World) (ht : Tab w) :
    Calls Tryd.prog 9 #[cv, .int .i64 x, .int .i64 f, .int .i64 1, .int .i64 prec, .int .i64 mode] w fun r w' => BothPost w w' r := by
  by_cases hf : 0 ≤ f ∧ f ≤ 2
  · rcases (by omega : f = 0 ∨ f = 1 ∨ f = 2) with rfl | rfl | rfl
    · exact formatted_any cv x 0 1 prec mode _ _ (fun T T' a b => a.same b) w ht (fun w hw => pPlF0 cv x prec mode h1 h2 w hw) (fun w => rPlF0 x prec mode h1 h2 w)
    · exact formatted_any cv x 1 1 prec mode _ _ (fun T T' a b => a.same b) w ht (fun w hw => pPlF1 cv x prec mode h1 h2 w hw) (fun w => rPlF1 x prec mode h1 h2 w)
    · exact formatted_any cv x 2 1 prec mode _ _ (fun T T' a b => a.same b) w ht (fun w hw => pPlF2 cv x prec mode h1 h2 w hw) (fun w => rPlF2 x prec mode h1 h2 w)
  · exact formatted_none cv x f 1 prec mode hf w
set_option maxRecDepth 100000 in
set_option maxHeartbeats 1000000 in
theorem shorts_law (x f : Int) (h1 : -9223372036854775808 ≤ x ∧ x ≤ 9223372036854775807) (w : World) (ht : Tab w) :
    Calls Tryd.prog 7 #[.int .i64 x, .int .i64 f] w fun r w' => r = .returned (.bool true) ∧ Below w.heap.size w w' := by
  have HX0 : Hid (∀ (cv : Value) (w : World), Tab w → Calls Tryd.prog 9 #[cv, .int .i64 x, .int .i64 f, .int .i64 0, .int .i64 (-1), .int .i64 0] w fun r w' => BothPost w w' r) := fun cv w hw => both_sh cv x f (-1) 0 h1.1 h1.2 w hw
  have HX1 : Hid (∀ (cv : Value) (w : World), Tab w → Calls Tryd.prog 9 #[cv, .int .i64 x, .int .i64 f, .int .i64 1, .int .i64 (-1), .int .i64 0] w fun r w' => BothPost w w' r) := fun cv w hw => both_pl cv x f (-1) 0 h1.1 h1.2 w hw
  have HT := hid ht
  clear h1 ht
  go_enter Tryd.func7, Tryd.ntmps7
  go_wp2_with fail
  refine (pnew_any w).mono ?_
  rintro r w1 ⟨v, rfl, hb1⟩
  have HB1 := hid hb1
  clear hb1
  go_wp2_with fail
  refine (HX0.out v w1 (HT.out.below HB1.out)).mono ?_
  rintro r w2 ⟨s, rfl, hs, hb2⟩
  have HB2 : Hid (Below w.heap.size w w2) := HB1.out.trans (hb2.mono HB1.out.size)
  clear hs hb2 HX0
  go_wp2_with fail
  refine (HX1.out v w2 (HT.out.below HB2.out)).mono ?_
  rintro r w3 ⟨s3, rfl, hs3, hb3⟩
  have HB3 : Hid (Below w.heap.size w w3) := HB2.out.trans (hb3.mono HB2.out.size)
  clear hs3 hb3 HX1
  go_wp2
  go_ret
  exact ⟨rfl, HB3.out⟩
end Go.Proofs.YtbkdaoicnobllaaDoor
