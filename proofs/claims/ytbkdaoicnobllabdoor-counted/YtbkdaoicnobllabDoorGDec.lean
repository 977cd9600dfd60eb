import Derived.Test.YtbkdaoicnobllabDoorGNatC
import Derived.Test.YtbkdaoicnobllabDoorGNatB
import Derived.Test.YtbkdaoicnobllabDoorGMath

namespace Go.Proofs.YtbkdaoicnobllabDoor
open Go.RowKit

/-- A Decimal at block b. -/
structure DecAt (w : World) (b : Nat) (v : Value) (D : List Nat) (e : Int) : Prop where
  c0 : w.cell? ⟨b, 0, none⟩ = some v
  c1 : w.cell? ⟨b, 1, none⟩ = some (.int .i64 e)
  row : Row w v D
  digs : Digs D
  head : Headed D
  pos : 0 < D.length
  len : D.length ≤ 20000
  elo : -20000 ≤ e
  ehi : e ≤ 20000
theorem DecAt.below {w w' : World} {b : Nat} {v : Value} {D : List Nat} {e : Int} (h : DecAt w b v D e) (hb : Below w.heap.size w w') : DecAt w' b v D e :=
  ⟨keep_cell' hb h.c0, keep_cell' hb h.c1, h.row.below hb (Nat.le_refl _), h.digs, h.head, h.pos, h.len, h.elo, h.ehi⟩
/-- Its form: a slice that is not empty. -/
theorem DecAt.form {w : World} {b : Nat} {v : Value} {D : List Nat} {e : Int} (h : DecAt w b v D e) : ∃ g off cap, v = .slice (some ⟨g, off, none⟩) D.length cap ∧ D.length ≤ cap ∧ cap ≤ maxLen ∧ g < w.heap.size ∧ ∀ j, j < D.length → w.cell? ⟨g, off + j, none⟩ = some (.int .i64 (D.getD j 0 : Nat)) := by
  rcases h.row with ⟨h0, _⟩ | ⟨g, off, cap, hv, h1, h2, h3, h4⟩
  · have := h.pos; rw [h0] at this; simp at this
  · exact ⟨g, off, cap, hv, h1, h2, h3, h4⟩
set_option maxRecDepth 100000 in
set_option maxHeartbeats 1000000 in
theorem firstPower_any (b : Nat) (v : Value) (D : List Nat) (e : Int) (w : World) (h : DecAt w b v D e) :
    Calls Tryd.prog 35 #[.pointer (some ⟨b, 0, none⟩)] w fun r w' => r = .returned (.int .i64 (e + D.length - 1)) ∧ Still w w' := by
  obtain ⟨g, off, cap, rfl, _⟩ := h.form
  have c0 := h.c0
  have c1 := h.c1
  have h1 := h.len
  have h2 := h.elo
  have h3 := h.ehi
  obtain ⟨n, hn⟩ : ∃ n, n = D.length := ⟨_, rfl⟩
  rw [← hn] at c0 h1 ⊢
  clear h hn
  go_enter Tryd.func35, Tryd.ntmps35
  go_wp2
  go_quiet (fail)
  go_wp2
  go_ret
  exact ⟨rfl, (Still.refl w).drewN _⟩
set_option maxRecDepth 100000 in
set_option maxHeartbeats 1000000 in
theorem lastPower_any (b : Nat) (v : Value) (D : List Nat) (e : Int) (w : World) (h : DecAt w b v D e) :
    Calls Tryd.prog 33 #[.pointer (some ⟨b, 0, none⟩)] w fun r w' => r = .returned (.int .i64 e) ∧ w' = w := by
  have c1 := h.c1
  clear h
  go_enter Tryd.func33, Tryd.ntmps33
  go_wp2
  go_ret
  exact ⟨rfl, rfl⟩
set_option maxRecDepth 100000 in
set_option maxHeartbeats 1000000 in
theorem digitAt_any (b : Nat) (v : Value) (D : List Nat) (e i : Int) (w : World) (h : DecAt w b v D e) :
    Calls Tryd.prog 55 #[.pointer (some ⟨b, 0, none⟩), .int .i64 i] w fun r w' => r = .returned (.int .i64 (dAt D i : Nat)) ∧ w' = w := by
  obtain ⟨g, off, cap, rfl, h4, h5, _, h7⟩ := h.form
  unfold maxLen at h5
  have c0 := h.c0
  have h1 := h.len
  obtain ⟨n, hn⟩ : ∃ n, n = D.length := ⟨_, rfl⟩
  rw [← hn] at c0 h1 h4 h7
  by_cases hi : i < 0
  · have HD : Hid (dAt D i = 0) := by unfold Hid dAt; rw [if_pos hi]
    clear h hn h7
    go_enter Tryd.func55, Tryd.ntmps55
    go_wp2
    all_goals go_ret
    all_goals exact ⟨ret_int (by rw [HD.out]; rfl), rfl⟩
  · by_cases hi2 : (n : Int) ≤ i
    · have HD : Hid (dAt D i = 0) := by unfold Hid dAt; rw [if_neg hi, List.getD_eq_getElem?_getD, List.getElem?_eq_none (by omega)]; rfl
      clear h hn h7
      go_enter Tryd.func55, Tryd.ntmps55
      go_wp2
      all_goals go_ret
      all_goals exact ⟨ret_int (by rw [HD.out]; rfl), rfl⟩
    · obtain ⟨j, rfl⟩ : ∃ j : Nat, i = j := ⟨i.toNat, by omega⟩
      have HD : Hid (dAt D (j : Int) = D.getD j 0) := by unfold Hid dAt; rw [if_neg hi]; simp
      have cj := h7 j (by omega)
      have hjn : j < n := by omega
      clear h hn h7
      go_enter Tryd.func55, Tryd.ntmps55
      go_wp2
      all_goals go_ret
      all_goals exact ⟨ret_int (by rw [HD.out]; simp), rfl⟩
end Go.Proofs.YtbkdaoicnobllabDoor

namespace Go.Proofs.YtbkdaoicnobllabDoor
open Go.RowKit

/-- A slice that is not nil. -/
def SomeS (v : Value) : Prop := ∃ g n cp, v = .slice (some ⟨g, 0, none⟩) n cp
theorem Own.someS {w : World} {b : Nat} {v : Value} {L : List Nat} (h : Own w b v L) (hl : L ≠ []) : SomeS v := by
  rcases h.form with ⟨h0, _⟩ | ⟨g, cap, hv, _⟩
  · exact absurd h0 hl
  · exact ⟨g, _, cap, hv⟩
set_option maxRecDepth 100000 in
set_option maxHeartbeats 1000000 in
theorem first_any (b : Nat) (v : Value) (D : List Nat) (e count : Int) (w : World) (h : DecAt w b v D e) (hc : count ≤ 30000) :
    Calls Tryd.prog 43 #[.pointer (some ⟨b, 0, none⟩), .int .i64 count] w fun r w' => ∃ v' : Value, r = .returned v' ∧ SomeS v' ∧ Own w' w.heap.size v' (firstL D count.toNat) ∧ Below w.heap.size w w' := by
  obtain ⟨i0, hi, hz0, hz1, hz2⟩ := info_parts Tryd.info_int
  have HH := hid h
  clear h
  go_enter Tryd.func43, Tryd.ntmps43
  go_wp2
  go_loopw [5, 6] (fun l ii wr => ∃ k : Nat, ii = .int .i64 k ∧ k ≤ count.toNat ∧ SomeS l ∧ Own wr w.heap.size l (firstL D k) ∧ Below w.heap.size w wr) (fun _ ii _ => count.toNat - (intOf ii).toNat)
  case atStart => exact ⟨0, rfl, Nat.zero_le _, ⟨_, _, _, rfl⟩, Own.empty w, (Below.refl _ _).alloc (Nat.le_refl _) _⟩
  case round =>
    obtain ⟨k, rfl, hk, hsm, hown, hb⟩ := hrel
    have hsz := hb.size
    by_cases hlt : (k : Int) < count
    · have HX := hid (digitAt_any b v D e k wr (HH.out.below hb))
      obtain ⟨x, hx⟩ : ∃ x, x = dAt D (k : Int) := ⟨_, rfl⟩
      rw [← hx] at HX
      have hx9 : x ≤ 9 := by rw [hx]; exact dAt_le HH.out.digs _
      have HS : Hid (firstL D (k + 1) = firstL D k ++ [x]) := by unfold Hid; rw [firstL_succ, hx]; unfold dAt; rw [if_neg (by omega)]; simp
      have hown' : wr.ownsRow w.heap.size 3 1 u5 k (ints (firstL D k)) := by have := hown; unfold Own at this; rwa [firstL_length] at this
      clear hown hx hsm
      go_wp2_with fail
      refine HX.out.mono ?_
      rintro r w0 ⟨rfl, rfl⟩
      clear HX
      go_wp2_with (at_builtin; refine wpList_append_own _ rfl (.tmp 17) (.tmp 19) 66 rfl w.heap.size 3 i0 (.int .i64 0) 1 8 Tryd.underlying66 hi hz0 hz1 hz2 rfl (by decide) _ _ _ rfl (hown'.alloc _) ⟨w0.heap.size, 0, none⟩ 1 1 [.int .i64 (x : Int)] rfl rfl (cell_one_new _ _ _) (by intro u hu; simp at hu; subst hu; rfl) (by unfold maxLen; omega) (by omega) (by simp; omega) ?_)
      intro v' w1 hown1 hgrow _
      have hb1 : Hid (Below w.heap.size w w1) := (hb.alloc (by omega) _).grown hgrow (by simp; omega) (fun k hk => (hown'.lt k hk).1)
      have hown2 : Hid (Own w1 w.heap.size v' (firstL D (k + 1))) := by unfold Hid; rw [HS.out]; exact Own.snoc hown1 (firstL_length D k) rfl
      clear hown' hgrow hown1 hb HS
      go_wp2
      go_roundw
      case rel => exact ⟨k + 1, by go_num, by omega, hown2.out.someS (by rw [firstL_succ]; simp), hown2.out, hb1.out⟩
      case measure => simp [intOf]; omega
    · have HK : Hid (count.toNat = k) := by unfold Hid; omega
      have HO := hid (And.intro hsm (And.intro hown hb))
      clear hown hb hsm
      go_wp2
      go_ret
      exact ⟨_, rfl, HO.out.1, by rw [HK.out]; exact HO.out.2.1, HO.out.2.2⟩

set_option maxRecDepth 100000 in
set_option maxHeartbeats 1000000 in
theorem noughts_any (count : Int) (w : World) (hc : count ≤ 30000) :
    Calls Tryd.prog 37 #[.int .i64 count] w fun r w' => ∃ v' : Value, r = .returned v' ∧ SomeS v' ∧ Own w' w.heap.size v' (List.replicate count.toNat 0) ∧ Below w.heap.size w w' := by
  obtain ⟨i0, hi, hz0, hz1, hz2⟩ := info_parts Tryd.info_int
  go_enter Tryd.func37, Tryd.ntmps37
  go_wp2
  go_loopw [3, 4] (fun l ii wr => ∃ k : Nat, ii = .int .i64 k ∧ k ≤ count.toNat ∧ SomeS l ∧ Own wr w.heap.size l (List.replicate k 0) ∧ Below w.heap.size w wr) (fun _ ii _ => count.toNat - (intOf ii).toNat)
  case atStart => exact ⟨0, rfl, Nat.zero_le _, ⟨_, _, _, rfl⟩, Own.empty w, (Below.refl _ _).alloc (Nat.le_refl _) _⟩
  case round =>
    obtain ⟨k, rfl, hk, hsm, hown, hb⟩ := hrel
    have hsz := hb.size
    by_cases hlt : (k : Int) < count
    · have hown' : wr.ownsRow w.heap.size 3 1 u3 k (ints (List.replicate k 0)) := by have := hown; unfold Own at this; rwa [List.length_replicate] at this
      clear hown hsm
      go_wp2_with (at_builtin; refine wpList_append_own _ rfl (.tmp 11) (.tmp 12) 66 rfl w.heap.size 3 i0 (.int .i64 0) 1 8 Tryd.underlying66 hi hz0 hz1 hz2 rfl (by decide) _ _ _ rfl (hown'.alloc _) ⟨wr.heap.size, 0, none⟩ 1 1 [.int .i64 0] rfl rfl (cell_one_new _ _ _) (by intro u hu; simp at hu; subst hu; rfl) (by unfold maxLen; omega) (by omega) (by simp; omega) ?_)
      intro v' w1 hown1 hgrow _
      have hb1 : Hid (Below w.heap.size w w1) := (hb.alloc (by omega) _).grown hgrow (by simp; omega) (fun k hk => (hown'.lt k hk).1)
      have hown2 : Hid (Own w1 w.heap.size v' (List.replicate (k + 1) 0)) := by unfold Hid; rw [List.replicate_succ']; exact Own.snoc hown1 List.length_replicate rfl
      clear hown' hgrow hown1 hb
      go_wp2
      go_roundw
      case rel => exact ⟨k + 1, by go_num, by omega, hown2.out.someS (by rw [List.replicate_succ']; simp), hown2.out, hb1.out⟩
      case measure => simp [intOf]; omega
    · have HK : Hid (count.toNat = k) := by unfold Hid; omega
      have HO := hid (And.intro hsm (And.intro hown hb))
      clear hown hb hsm
      go_wp2
      go_ret
      exact ⟨_, rfl, HO.out.1, by rw [HK.out]; exact HO.out.2.1, HO.out.2.2⟩
end Go.Proofs.YtbkdaoicnobllabDoor
