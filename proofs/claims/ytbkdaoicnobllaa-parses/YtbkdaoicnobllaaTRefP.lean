import Derived.Test.YtbkdaoicnobllaaTRefM
import Derived.Test.YtbkdaoicnobllaaTRefN
import Derived.Test.YtbkdaoicnobllaaTRefO

namespace Go.Proofs.Ytbkdaoicnobllaa
open Go.RowKit

/-- The reference's Parse, whatever the arguments. -/
theorem refParse_any (s : ByteArray) (f mode : Int) (K : Nat) (w : World) (hK : 2500 ≤ K) (hsz : s.size ≤ maxLen) :
    Calls Try.prog 19 #[.string s, .int .i64 f, .int .i64 mode] w fun r w' => Below w.heap.size w w' ∧ ∃ bts fl at' err : Int, r = .returned (.tuple #[.int .i64 bts, .int .i64 fl, .int .i64 at', .int .i64 err]) ∧ ParseSpec K (chs s) f mode bts fl at' err := by
  by_cases hv : 0 ≤ f ∧ f ≤ 2 ∧ 0 ≤ mode ∧ mode ≤ 4
  · have hc : f = 0 ∨ f = 1 ∨ f = 2 := by omega
    rcases hc with rfl | rfl | rfl
    · exact refParse0 s mode K w hv.2.2 hK hsz
    · exact refParse1 s mode K w hv.2.2 hK hsz
    · exact refParse2 s mode K w hv.2.2 hK hsz
  · have HV := hid hv
    by_cases h1 : f < 0
    · clear hv
      go_enter Try.func19, Try.ntmps19
      go_wp2
      refine bodyPost_ret (v := .tuple #[.int .i64 0, .int .i64 0, .int .i64 0, .int .i64 1]) (by simp [results, Try.results19, go_sem]) rfl ?_
      exact ⟨Below.refl _ _, _, _, _, _, rfl, .inl ⟨HV.out, rfl, rfl, rfl, rfl⟩⟩
    · have d1 : decide (f < 0) = false := decide_eq_false h1
      by_cases h2 : 2 < f
      · clear hv
        go_enter Try.func19, Try.ntmps19
        go_wp2
        refine bodyPost_ret (v := .tuple #[.int .i64 0, .int .i64 0, .int .i64 0, .int .i64 1]) (by simp [results, Try.results19, go_sem]) rfl ?_
        exact ⟨Below.refl _ _, _, _, _, _, rfl, .inl ⟨HV.out, rfl, rfl, rfl, rfl⟩⟩
      · have d2 : decide (2 < f) = false := decide_eq_false h2
        by_cases h3 : mode < 0
        · clear hv
          go_enter Try.func19, Try.ntmps19
          go_wp2
          refine bodyPost_ret (v := .tuple #[.int .i64 0, .int .i64 0, .int .i64 0, .int .i64 1]) (by simp [results, Try.results19, go_sem]) rfl ?_
          exact ⟨Below.refl _ _, _, _, _, _, rfl, .inl ⟨HV.out, rfl, rfl, rfl, rfl⟩⟩
        · have d3 : decide (mode < 0) = false := decide_eq_false h3
          have h4 : 4 < mode := by omega
          clear hv
          go_enter Try.func19, Try.ntmps19
          go_wp2
          refine bodyPost_ret (v := .tuple #[.int .i64 0, .int .i64 0, .int .i64 0, .int .i64 1]) (by simp [results, Try.results19, go_sem]) rfl ?_
          exact ⟨Below.refl _ _, _, _, _, _, rfl, .inl ⟨HV.out, rfl, rfl, rfl, rfl⟩⟩

end Go.Proofs.Ytbkdaoicnobllaa
