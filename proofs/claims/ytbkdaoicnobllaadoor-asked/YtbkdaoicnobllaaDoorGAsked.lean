import Derived.Test.YtbkdaoicnobllaaDoorGShLaw

namespace Go.Proofs.YtbkdaoicnobllaaDoor
open Go.RowKit

theorem allow_none {v prec mode : Int} (hv : ¬ (v = 0 ∨ v = 1 ∨ v = 2 ∨ v = 3 ∨ v = 4)) : allowB v prec mode = false := by
  unfold allowB; rw [if_neg (by omega), if_neg (by omega)]
theorem both_other (cv : Value) (x f verb prec mode : Int) (hv : ¬ (verb = 0 ∨ verb = 1 ∨ verb = 2 ∨ verb = 3 ∨ verb = 4)) (h1 : -9223372036854775808 ≤ x) (h2 : x ≤ 9223372036854775807) (w : World) (ht : Tab w) :
    Calls Tryd.prog 9 #[cv, .int .i64 x, .int .i64 f, .int .i64 verb, .int .i64 prec, .int .i64 mode] w fun r w' => BothPost w w' r := by
  have hn := allow_none (prec := prec) (mode := mode) hv
  by_cases hf : 0 ≤ f ∧ f ≤ 2
  · rcases (by omega : f = 0 ∨ f = 1 ∨ f = 2) with rfl | rfl | rfl
    · exact formatted_any cv x 0 verb prec mode (fun _ => False) (fun _ => False) (fun T T' a b => a.elim) w ht (fun w hw => pformat0 cv x verb prec mode _ h1 h2 w hw (fun ha => by rw [hn] at ha; cases ha)) (fun w => rbad0n x verb prec mode _ hv (fun h => by rw [hn] at h; exact absurd h.2 (by decide)) w)
    · exact formatted_any cv x 1 verb prec mode (fun _ => False) (fun _ => False) (fun T T' a b => a.elim) w ht (fun w hw => pformat1 cv x verb prec mode _ h1 h2 w hw (fun ha => by rw [hn] at ha; cases ha)) (fun w => rbad1n x verb prec mode _ hv (fun h => by rw [hn] at h; exact absurd h.2 (by decide)) w)
    · exact formatted_any cv x 2 verb prec mode (fun _ => False) (fun _ => False) (fun T T' a b => a.elim) w ht (fun w hw => pformat2 cv x verb prec mode _ h1 h2 w hw (fun ha => by rw [hn] at ha; cases ha)) (fun w => rbad2n x verb prec mode _ hv (fun h => by rw [hn] at h; exact absurd h.2 (by decide)) w)
  · exact formatted_none cv x f verb prec mode hf w
theorem both_any (cv : Value) (x f verb prec mode : Int) (h1 : -9223372036854775808 ≤ x) (h2 : x ≤ 9223372036854775807) (w : World) (ht : Tab w) :
    Calls Tryd.prog 9 #[cv, .int .i64 x, .int .i64 f, .int .i64 verb, .int .i64 prec, .int .i64 mode] w fun r w' => BothPost w w' r := by
  by_cases hv : verb = 0 ∨ verb = 1 ∨ verb = 2 ∨ verb = 3 ∨ verb = 4
  · rcases hv with rfl | rfl | rfl | rfl | rfl
    · exact both_sh cv x f prec mode h1 h2 w ht
    · exact both_pl cv x f prec mode h1 h2 w ht
    · exact both_exp cv x f prec mode h1 h2 w ht
    · exact both_fix cv x f prec mode h1 h2 w ht
    · exact both_hex cv x f prec mode h1 h2 w ht
  · exact both_other cv x f verb prec mode hv h1 h2 w ht
set_option maxRecDepth 100000 in
set_option maxHeartbeats 1000000 in
theorem asked_law (x f verb prec mode : Int) (h1 : -9223372036854775808 ≤ x ∧ x ≤ 9223372036854775807) (w : World) (ht : Tab w) :
    Calls Tryd.prog 6 #[.int .i64 x, .int .i64 f, .int .i64 verb, .int .i64 prec, .int .i64 mode] w fun r w' => r = .returned (.bool true) ∧ Below w.heap.size w w' := by
  have HX : Hid (∀ (cv : Value) (w : World), Tab w → Calls Tryd.prog 9 #[cv, .int .i64 x, .int .i64 f, .int .i64 verb, .int .i64 prec, .int .i64 mode] w fun r w' => BothPost w w' r) := fun cv w hw => both_any cv x f verb prec mode h1.1 h1.2 w hw
  have HT := hid ht
  clear h1 ht
  go_enter Tryd.func6, Tryd.ntmps6
  go_wp2_with fail
  refine (pnew_any w).mono ?_
  rintro r w1 ⟨v, rfl, hb1⟩
  have HB1 := hid hb1
  clear hb1
  go_wp2_with fail
  refine (HX.out v w1 (HT.out.below HB1.out)).mono ?_
  rintro r w2 ⟨s, rfl, hs, hb2⟩
  have HB2 : Hid (Below w.heap.size w w2) := HB1.out.trans (hb2.mono HB1.out.size)
  clear hs hb2 HX
  go_wp2
  go_ret
  exact ⟨rfl, HB2.out⟩
end Go.Proofs.YtbkdaoicnobllaaDoor
