import Derived.Test.YtbkdaoicnobllaaDoorGForm
import Derived.Test.YtbkdaoicnobllaaDoorGNumHex
import Derived.Test.YtbkdaoicnobllaaDoorGRth
import Derived.Test.YtbkdaoicnobllaaDoorGGooda
import Derived.Test.YtbkdaoicnobllaaDoorGGoodb
import Derived.Test.YtbkdaoicnobllaaDoorGGoodc
import Derived.Test.YtbkdaoicnobllaaDoorGBadb
import Derived.Test.YtbkdaoicnobllaaDoorGBadc

namespace Go.Proofs.YtbkdaoicnobllaaDoor
open Go.RowKit

theorem pnew_any (w : World) : Calls Tryd.prog 8 #[] w fun e w' => ∃ v, e = .returned v ∧ Below w.heap.size w w' := by
  go_enter Tryd.func8, Tryd.ntmps8
  go_wp2
  go_ret
  exact ⟨_, rfl, (Below.refl _ _).alloc (Nat.le_refl _) _⟩
theorem allow_short {v prec mode : Int} (hv : v = 0 ∨ v = 1 ∨ v = 4) (h : allowB v prec mode = true) : prec = -1 ∧ mode = 0 := by
  unfold allowB at h; rw [if_pos hv] at h; simpa using h
theorem allow_exact {v prec mode : Int} (hv : v = 2 ∨ v = 3) (h : allowB v prec mode = true) : 0 ≤ prec ∧ prec ≤ 800 ∧ 0 ≤ mode ∧ mode ≤ 4 := by
  unfold allowB at h; rw [if_neg (by omega), if_pos hv] at h; simpa using h
theorem rhexF0 (x prec mode : Int) (h1 : -9223372036854775808 ≤ x) (h2 : x ≤ 9223372036854775807) (w : World) : Calls Tryd.prog 12 #[.int .i64 x, .int .i64 0, .int .i64 4, .int .i64 prec, .int .i64 mode] w fun r w' => FmtPost 0 x 4 prec mode w w' r (HexQ 0 (amtI 0 x).toNat) := by
  by_cases h : hasB 0 x = true ∧ allowB 4 prec mode = true
  · obtain ⟨hh, ha⟩ := h
    obtain ⟨rfl, rfl⟩ := allow_short (by omega) ha
    exact rgood0v4 x _ (by unfold hasB sgnF at hh; simp at hh; omega) (by unfold hasB sgnF at hh; simp at hh; omega) w (fun a hA hlt w => by
      have := rtextHex0 a (negI 0 x) (-1) 0 hlt w
      rw [show (amtI 0 x).toNat = a from by omega]; exact this)
  · exact rbad0v4 x prec mode _ h w
theorem phexF0 (cv : Value) (x prec mode : Int) (h1 : -9223372036854775808 ≤ x) (h2 : x ≤ 9223372036854775807) (w : World) (ht : Tab w) : Calls Tryd.prog 11 #[cv, .int .i64 x, .int .i64 0, .int .i64 4, .int .i64 prec, .int .i64 mode] w fun r w' => FmtPost 0 x 4 prec mode w w' r (HexQ 0 (amtI 0 x).toNat) :=
  pformat0 cv x 4 prec mode _ h1 h2 w ht (fun _ a hA hlt w hw => by
    have := numHex0 a (negI 0 x) prec mode hlt w hw
    rw [show (amtI 0 x).toNat = a from by omega]; exact this)
theorem rhexF1 (x prec mode : Int) (h1 : -9223372036854775808 ≤ x) (h2 : x ≤ 9223372036854775807) (w : World) : Calls Tryd.prog 12 #[.int .i64 x, .int .i64 1, .int .i64 4, .int .i64 prec, .int .i64 mode] w fun r w' => FmtPost 1 x 4 prec mode w w' r (HexQ 1 (amtI 1 x).toNat) := by
  by_cases h : hasB 1 x = true ∧ allowB 4 prec mode = true
  · obtain ⟨hh, ha⟩ := h
    obtain ⟨rfl, rfl⟩ := allow_short (by omega) ha
    exact rgood1v4 x _ (by unfold hasB sgnF at hh; simp at hh; omega) (by unfold hasB sgnF at hh; simp at hh; omega) w (fun a hA hlt w => by
      have := rtextHex1 a (negI 1 x) (-1) 0 hlt w
      rw [show (amtI 1 x).toNat = a from by omega]; exact this)
  · exact rbad1v4 x prec mode _ h w
theorem phexF1 (cv : Value) (x prec mode : Int) (h1 : -9223372036854775808 ≤ x) (h2 : x ≤ 9223372036854775807) (w : World) (ht : Tab w) : Calls Tryd.prog 11 #[cv, .int .i64 x, .int .i64 1, .int .i64 4, .int .i64 prec, .int .i64 mode] w fun r w' => FmtPost 1 x 4 prec mode w w' r (HexQ 1 (amtI 1 x).toNat) :=
  pformat1 cv x 4 prec mode _ h1 h2 w ht (fun _ a hA hlt w hw => by
    have := numHex1 a (negI 1 x) prec mode hlt w hw
    rw [show (amtI 1 x).toNat = a from by omega]; exact this)
theorem rhexF2 (x prec mode : Int) (h1 : -9223372036854775808 ≤ x) (h2 : x ≤ 9223372036854775807) (w : World) : Calls Tryd.prog 12 #[.int .i64 x, .int .i64 2, .int .i64 4, .int .i64 prec, .int .i64 mode] w fun r w' => FmtPost 2 x 4 prec mode w w' r (HexQ 2 (amtI 2 x).toNat) := by
  by_cases h : hasB 2 x = true ∧ allowB 4 prec mode = true
  · obtain ⟨hh, ha⟩ := h
    obtain ⟨rfl, rfl⟩ := allow_short (by omega) ha
    exact rgood2v4 x _ h1 h2 w (fun a hA hlt w => by
      have := rtextHex2 a (negI 2 x) (-1) 0 hlt w
      rw [show (amtI 2 x).toNat = a from by omega]; exact this)
  · exact rbad2v4 x prec mode _ h w
theorem phexF2 (cv : Value) (x prec mode : Int) (h1 : -9223372036854775808 ≤ x) (h2 : x ≤ 9223372036854775807) (w : World) (ht : Tab w) : Calls Tryd.prog 11 #[cv, .int .i64 x, .int .i64 2, .int .i64 4, .int .i64 prec, .int .i64 mode] w fun r w' => FmtPost 2 x 4 prec mode w w' r (HexQ 2 (amtI 2 x).toNat) :=
  pformat2 cv x 4 prec mode _ h1 h2 w ht (fun _ a hA hlt w hw => by
    have := numHex2 a (negI 2 x) prec mode hlt w hw
    rw [show (amtI 2 x).toNat = a from by omega]; exact this)
theorem both_hex (cv : Value) (x f prec mode : Int) (h1 : -9223372036854775808 ≤ x) (h2 : x ≤ 9223372036854775807) (w : World) (ht : Tab w) :
    Calls Tryd.prog 9 #[cv, .int .i64 x, .int .i64 f, .int .i64 4, .int .i64 prec, .int .i64 mode] w fun r w' => BothPost w w' r := by
  by_cases hf : 0 ≤ f ∧ f ≤ 2
  · rcases (by omega : f = 0 ∨ f = 1 ∨ f = 2) with rfl | rfl | rfl
    · exact formatted_any cv x 0 4 prec mode _ _ (fun T T' a b => a.same b) w ht (fun w hw => phexF0 cv x prec mode h1 h2 w hw) (fun w => rhexF0 x prec mode h1 h2 w)
    · exact formatted_any cv x 1 4 prec mode _ _ (fun T T' a b => a.same b) w ht (fun w hw => phexF1 cv x prec mode h1 h2 w hw) (fun w => rhexF1 x prec mode h1 h2 w)
    · exact formatted_any cv x 2 4 prec mode _ _ (fun T T' a b => a.same b) w ht (fun w hw => phexF2 cv x prec mode h1 h2 w hw) (fun w => rhexF2 x prec mode h1 h2 w)
  · exact formatted_none cv x f 4 prec mode hf w
set_option maxRecDepth 100000 in
set_option maxHeartbeats 1000000 in
theorem hexes_any (x f : Int) (h1 : -9223372036854775808 ≤ x ∧ x ≤ 9223372036854775807) (_h2 : -9223372036854775808 ≤ f ∧ f ≤ 9223372036854775807) (w : World) (ht : Tab w) :
    Calls Tryd.prog 3 #[.int .i64 x, .int .i64 f] w fun r w' => r = .returned (.bool true) ∧ Below w.heap.size w w' := by
  have HX : Hid (∀ (cv : Value) (w : World), Tab w → Calls Tryd.prog 9 #[cv, .int .i64 x, .int .i64 f, .int .i64 4, .int .i64 (-1), .int .i64 0] w fun r w' => BothPost w w' r) := fun cv w hw => both_hex cv x f (-1) 0 h1.1 h1.2 w hw
  have HT := hid ht
  clear h1 _h2 ht
  go_enter Tryd.func3, Tryd.ntmps3
  go_wp2_with fail
  refine (pnew_any w).mono ?_
  rintro r w1 ⟨v, rfl, hb1⟩
  have HB1 := hid hb1
  clear hb1
  go_wp2_with fail
  refine (HX.out v w1 (HT.out.below HB1.out)).mono ?_
  rintro r w2 ⟨s, rfl, hs, hb2⟩
  have HB2 : Hid (Below w.heap.size w w2) := HB1.out.trans (hb2.mono HB1.out.size)
  clear hs hb2 HX
  go_wp2
  go_ret
  exact ⟨rfl, HB2.out⟩
end Go.Proofs.YtbkdaoicnobllaaDoor
