import Derived.Test.YtbkdaoicnobllaaTKnowB
import Derived.Test.YtbkdaoicnobllaaTMiss
import Derived.Deep.RegionHeld3

namespace Go.Proofs.Ytbkdaoicnobllaa
open Go.RowKit

set_option maxRecDepth 100000 in
set_option maxHeartbeats 4000000 in
theorem lawRead_any (c : Int) (hc : -9223372036854775808 ≤ c ∧ c ≤ 9223372036854775807) (w : World) :
    Calls Try.prog 4 #[.int .i64 c] w fun e w' => e = .returned (.bool true) ∧ Below w.heap.size w w' := by
  have h37 : pickV c 37 < 37 := Nat.mod_lt _ (by omega)
  have HCC := hid hc
  clear hc
  go_enter Try.func4, Try.ntmps4
  go_wp2_with fail
  refine (new_any w).mono ?_
  rintro e w1 ⟨v, rfl, hb1⟩
  have HB1 := hid hb1
  clear hb1
  go_wp2_with fail
  refine (knowns_any w1).mono ?_
  rintro e w2 ⟨rfl, hw2⟩
  have HB2 : Hid (Below w.heap.size w w2) := by unfold Hid; rw [hw2]; exact HB1.out.alloc HB1.out.size _
  have HXp := hid (pick_any c 37 (by omega) (by omega) HCC.out w2)
  obtain ⟨k, hk⟩ : ∃ k, k = pickV c 37 := ⟨_, rfl⟩
  rw [← hk] at HXp h37
  clear hk
  obtain ⟨G, hG⟩ : ∃ G, G = w1.heap.size := ⟨_, rfl⟩
  rw [← hG]
  by_cases h36 : k = 36
  · subst h36
    have HXm := hid (misses_any v w2)
    clear hw2
    go_wp2_with fail
    refine HXp.out.mono ?_
    rintro e w3 ⟨rfl, rfl⟩
    clear HXp
    go_wp2_with fail
    refine HXm.out.mono ?_
    rintro e w4 ⟨rfl, hb4⟩
    have HB4 : Hid (Below w.heap.size w w4) := HB2.out.trans (hb4.mono HB2.out.size)
    clear HXm hb4
    go_wp2
    go_ret
    exact ⟨rfl, HB4.out⟩
  · have hk : k < 36 := by omega
    obtain ⟨tx, fx, mx, bx, gx, c0, c1, c2, c3, c4, hsay⟩ := kn_mem k hk w1
    rw [← hw2, ← hG] at c0 c1 c2 c3 c4
    have HSAY := hid hsay
    have t36 : ((k : Int) == 36) = false := by simp; omega
    clear hw2 hsay h36 hG
    go_wp2_with fail
    refine HXp.out.mono ?_
    rintro e w3 ⟨rfl, rfl⟩
    clear HXp
    go_wp2_with fail
    have i0 : (0 : Int) ≤ (k : Int) := by omega
    have i1 : (k : Int) < 36 := by omega
    go_region_held3 (fun w' => w'.cell? ⟨G, k * 6, none⟩ = some (.string tx) ∧ w'.cell? ⟨G, k * 6 + 1, none⟩ = some (.int .i64 fx) ∧ w'.cell? ⟨G, k * 6 + 2, none⟩ = some (.int .i64 mx) ∧ w'.cell? ⟨G, k * 6 + 3, none⟩ = some (.int .i64 bx) ∧ w'.cell? ⟨G, k * 6 + 4, none⟩ = some (.int .i64 gx))
      (first | go_keep | exact ⟨keep_cell' hb (by assumption), keep_cell' hb (by assumption), keep_cell' hb (by assumption), keep_cell' hb (by assumption), keep_cell' hb (by assumption)⟩)
      ((go_at_call 13; refine (HSAY.out _ _).mono ?_; rintro e w4 ⟨rfl, hb⟩))
    have HB4 : Hid (Below w.heap.size w w4) := HB2.out.drew.trans (hb.mono HB2.out.size)
    clear hb c0 c1 c2 c3 c4
    go_wp2
    go_ret
    exact ⟨rfl, HB4.out⟩
end Go.Proofs.Ytbkdaoicnobllaa
