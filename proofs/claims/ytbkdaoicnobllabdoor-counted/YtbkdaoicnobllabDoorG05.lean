import Derived.Test.YtbkdaoicnobllabDoorG04
import Derived.Test.YtbkdaoicnobllabDoorG02

namespace Go.Proofs.YtbkdaoicnobllabDoor
open Go.RowKit

/-- Whether rounding goes up, nothing being left meaning no. -/
def upB (mode : Int) (neg : Bool) (rest : Int) (odd : Bool) : Bool := if rest = 0 then false else awayB mode neg rest odd
set_option maxRecDepth 100000 in
set_option maxHeartbeats 1000000 in
theorem upper_any (mode rest : Int) (neg odd : Bool) (h1 : 0 ≤ rest) (h2 : rest ≤ 3) (w : World) :
    Calls Tryd.prog 50 #[.int .i64 mode, .bool neg, .bool odd, .int .i64 rest] w fun e w' => e = .returned (.bool (upB mode neg rest odd)) ∧ w' = w := by
  rcases (by omega : rest = 0 ∨ rest = 1 ∨ rest = 2 ∨ rest = 3) with rfl | rfl | rfl | rfl
  · go_enter Tryd.func50, Tryd.ntmps50
    go_wp2
    go_ret
    exact ⟨by simp [upB], rfl⟩
  · by_cases m0 : mode = 0
    · subst m0
      go_enter Tryd.func50, Tryd.ntmps50
      go_wp2
      all_goals (go_ret; exact ⟨by simp [upB, awayB], rfl⟩)
    · by_cases m1 : mode = 1
      · subst m1
        go_enter Tryd.func50, Tryd.ntmps50
        go_wp2
        all_goals (go_ret; exact ⟨by simp [upB, awayB], rfl⟩)
      · by_cases m3 : mode = 3
        · subst m3
          go_enter Tryd.func50, Tryd.ntmps50
          go_wp2
          all_goals (go_ret; exact ⟨by simp [upB, awayB], rfl⟩)
        · by_cases m4 : mode = 4
          · subst m4
            go_enter Tryd.func50, Tryd.ntmps50
            go_wp2
            all_goals (go_ret; exact ⟨by simp [upB, awayB], rfl⟩)
          · go_enter Tryd.func50, Tryd.ntmps50
            go_wp2
            go_ret
            exact ⟨by simp [upB, awayB, m0, m1, m3, m4], rfl⟩
  · by_cases m0 : mode = 0
    · subst m0
      go_enter Tryd.func50, Tryd.ntmps50
      go_wp2
      all_goals (go_ret; exact ⟨by simp [upB, awayB], rfl⟩)
    · by_cases m1 : mode = 1
      · subst m1
        go_enter Tryd.func50, Tryd.ntmps50
        go_wp2
        all_goals (go_ret; exact ⟨by simp [upB, awayB], rfl⟩)
      · by_cases m3 : mode = 3
        · subst m3
          go_enter Tryd.func50, Tryd.ntmps50
          go_wp2
          all_goals (go_ret; exact ⟨by simp [upB, awayB], rfl⟩)
        · by_cases m4 : mode = 4
          · subst m4
            go_enter Tryd.func50, Tryd.ntmps50
            go_wp2
            all_goals (go_ret; exact ⟨by simp [upB, awayB], rfl⟩)
          · go_enter Tryd.func50, Tryd.ntmps50
            go_wp2
            go_ret
            exact ⟨by simp [upB, awayB, m0, m1, m3, m4], rfl⟩
  · by_cases m0 : mode = 0
    · subst m0
      go_enter Tryd.func50, Tryd.ntmps50
      go_wp2
      all_goals (go_ret; exact ⟨by simp [upB, awayB], rfl⟩)
    · by_cases m1 : mode = 1
      · subst m1
        go_enter Tryd.func50, Tryd.ntmps50
        go_wp2
        all_goals (go_ret; exact ⟨by simp [upB, awayB], rfl⟩)
      · by_cases m3 : mode = 3
        · subst m3
          go_enter Tryd.func50, Tryd.ntmps50
          go_wp2
          all_goals (go_ret; exact ⟨by simp [upB, awayB], rfl⟩)
        · by_cases m4 : mode = 4
          · subst m4
            go_enter Tryd.func50, Tryd.ntmps50
            go_wp2
            all_goals (go_ret; exact ⟨by simp [upB, awayB], rfl⟩)
          · go_enter Tryd.func50, Tryd.ntmps50
            go_wp2
            go_ret
            exact ⟨by simp [upB, awayB, m0, m1, m3, m4], rfl⟩
set_option maxRecDepth 100000 in
set_option maxHeartbeats 1000000 in
theorem any_nil (ao : Option Addr) (cap : Nat) (w : World) :
    Calls Tryd.prog 61 #[.slice ao 0 cap] w fun e w' => e = .returned (.bool false) ∧ w' = w := by
  go_enter Tryd.func61, Tryd.ntmps61
  go_wp2
  go_loop [7] (fun i => i = .int .i64 0) (fun _ => 0)
  case atStart => rfl
  case round =>
    subst hrel
    go_wp2
    go_ret
    exact ⟨rfl, rfl⟩
/-- Whether a digit is above 0. -/
def moreB (L : List Nat) : Bool := decide (num L ≠ 0)
theorem ret_bool {a b : Bool} (h : a = b) : Ending.returned (.bool a) = .returned (.bool b) := by rw [h]
theorem getD_mem {L : List Nat} {j : Nat} (h : j < L.length) : L.getD j 0 ∈ L := by
  rw [List.getD_eq_getElem?_getD, List.getElem?_eq_getElem h]; exact List.getElem_mem h
set_option maxRecDepth 100000 in
set_option maxHeartbeats 1000000 in
theorem any_some (g off cap n : Nat) (L : List Nat) (w : World) (hn : L.length = n) (_hl : n ≤ 100000) (hcap : n ≤ cap) (hc2 : cap ≤ 9223372036854775807) (hce : ∀ j, j < n → w.cell? ⟨g, off + j, none⟩ = some (.int .i64 (L.getD j 0 : Nat))) :
    Calls Tryd.prog 61 #[.slice (some ⟨g, off, none⟩) n cap] w fun e w' => e = .returned (.bool (moreB L)) ∧ w' = w := by
  have HC := hid hce
  have HN := hid hn
  clear hce hn
  go_enter Tryd.func61, Tryd.ntmps61
  go_wp2
  go_loop [7] (fun i => ∃ k : Nat, i = .int .i64 k ∧ k ≤ n ∧ Hid (∀ j, j < k → L.getD j 0 = 0)) (fun i => n - (intOf i).toNat)
  case atStart => exact ⟨0, rfl, Nat.zero_le _, fun j hj => by omega⟩
  case round =>
    obtain ⟨k, rfl, hk, HZ⟩ := hrel
    by_cases hlt : k < n
    · obtain ⟨x, hx⟩ : ∃ x, x = L.getD k 0 := ⟨_, rfl⟩
      have cx := HC.out k hlt
      rw [← hx] at cx
      by_cases h0 : 0 < x
      · have HR : Hid (moreB L = true) := by
          unfold Hid moreB
          simp only [decide_eq_true_eq]
          intro hz
          have := (num_zero_iff L).1 hz _ (getD_mem (by rw [HN.out]; exact hlt) : L.getD k 0 ∈ L)
          omega
        have t : decide (0 < x) = true := by simp; omega
        clear hx
        go_wp2
        go_ret
        exact ⟨ret_bool HR.out.symm, rfl⟩
      · have hx0 : x = 0 := by omega
        have HX : Hid (L.getD k 0 = 0) := by unfold Hid; omega
        have t : decide (0 < x) = false := by simp; omega
        clear hx h0 hx0
        go_wp2
        go_round
        case rel => exact ⟨k + 1, by go_num, by omega, fun j hj => if h : j = k then h ▸ HX.out else HZ.out j (by omega)⟩
        case measure => simp [intOf]; omega
    · have HR : Hid (moreB L = false) := by
        unfold Hid moreB
        simp only [decide_eq_false_iff_not, Classical.not_not]
        exact num_all_zero L (fun j hj => HZ.out j (by rw [HN.out] at hj; omega))
      go_wp2
      go_ret
      exact ⟨ret_bool HR.out.symm, rfl⟩
/-- What stands behind the first digits, against half of the last one's worth. -/
def behL (D : List Nat) (c : Int) : Int :=
  if c < 0 then 1 else if (D.length : Int) ≤ c then 0 else
    if D.getD c.toNat 0 = 0 ∧ num (D.drop (c.toNat + 1)) = 0 then 0 else if D.getD c.toNat 0 < 5 then 1 else if D.getD c.toNat 0 = 5 ∧ num (D.drop (c.toNat + 1)) = 0 then 2 else 3
theorem behL_left {D : List Nat} (h : Digs D) (h0 : 0 < num D) (K : Nat) (e p : Int) (he : -(K : Int) ≤ e) (hp : -(K : Int) ≤ p) : behL D (D.length + e - p) = leftN (val K D e) (10 ^ (p + K).toNat) := by
  unfold behL
  by_cases h1 : (D.length : Int) + e - p < 0
  · rw [if_pos h1, (cut_high h K e p he (by omega) h0).2]
  · rw [if_neg h1]
    obtain ⟨k, hk⟩ : ∃ k : Nat, (k : Int) = D.length + e - p := ⟨(D.length + e - p).toNat, by omega⟩
    rw [← hk, Int.toNat_natCast]
    by_cases h2 : D.length ≤ k
    · rw [if_pos (by omega), (cut_low D K e p hp k hk h2).2]
    · rw [if_neg (by omega), (cut_mid h K e p he k hk (by omega)).2]
theorem behL_at (D : List Nat) (k : Nat) (hk : k < D.length) (x : Nat) (hx : x = D.getD k 0) (m : Bool) (hm : m = moreB (D.drop (k + 1))) (r : Int) (hr : r = if x = 0 ∧ m = false then 0 else if x < 5 then 1 else if x = 5 ∧ m = false then 2 else 3) : r = behL D (k : Int) := by
  unfold behL
  rw [if_neg (by omega), if_neg (by omega), Int.toNat_natCast, ← hx, hr]
  have e : (num (D.drop (k + 1)) = 0) = (m = false) := by
    rw [hm]; unfold moreB
    exact propext ⟨fun h => by simp [h], fun h => by simpa using h⟩
  simp only [e]
set_option maxRecDepth 100000 in
set_option maxHeartbeats 1000000 in
theorem behind_any (b : Nat) (v : Value) (D : List Nat) (e c : Int) (w : World) (h : DecAt w b v D e) (hc1 : -100000 ≤ c) (hc2 : c ≤ 100000) :
    Calls Tryd.prog 49 #[.pointer (some ⟨b, 0, none⟩), .int .i64 c] w fun r w' => r = .returned (.int .i64 (behL D c)) ∧ w' = w := by
  obtain ⟨g, off, cap, rfl, h4, h5, _, h7⟩ := h.form
  unfold maxLen at h5
  have c0 := h.c0
  have h1 := h.len
  obtain ⟨n, hn⟩ : ∃ n, n = D.length := ⟨_, rfl⟩
  rw [← hn] at c0 h1 h4 h7
  by_cases hneg : c < 0
  · have HD : Hid (1 = behL D c) := by unfold Hid behL; rw [if_pos hneg]
    clear h hn h7
    go_enter Tryd.func49, Tryd.ntmps49
    go_wp2
    go_ret
    exact ⟨ret_int HD.out, rfl⟩
  · by_cases hge : (n : Int) ≤ c
    · have HD : Hid (0 = behL D c) := by unfold Hid behL; rw [if_neg hneg, if_pos (by omega)]
      clear h hn h7
      go_enter Tryd.func49, Tryd.ntmps49
      go_wp2
      go_ret
      exact ⟨ret_int HD.out, rfl⟩
    · obtain ⟨k, rfl⟩ : ∃ k : Nat, c = k := ⟨c.toNat, by omega⟩
      have hkn : k < n := by omega
      obtain ⟨x, hx⟩ : ∃ x, x = D.getD k 0 := ⟨_, rfl⟩
      have cx := h7 k hkn
      rw [← hx] at cx
      have hx9 : x ≤ 9 := by rw [hx]; exact h.digs.getD k
      obtain ⟨m, hm⟩ : ∃ m, m = moreB (D.drop (k + 1)) := ⟨_, rfl⟩
      have HD : Hid (∀ r, (r = if x = 0 ∧ m = false then 0 else if x < 5 then 1 else if x = 5 ∧ m = false then 2 else 3) → r = behL D (k : Int)) := fun r hr => behL_at D k (by omega) x hx m hm r hr
      by_cases hlast : k + 1 = n
      · have HM : Hid (m = false) := by
          unfold Hid; rw [hm, List.drop_of_length_le (by omega)]; rfl
        clear h hn h7 hx hm
        have hk1 : (k : Int) + 1 = n := by omega
        rcases (by omega : x = 0 ∨ (0 < x ∧ x < 5) ∨ x = 5 ∨ 5 < x) with rfl | ⟨q1, q2⟩ | rfl | q1
        · go_enter Tryd.func49, Tryd.ntmps49
          go_wp2_with fail
          all_goals (
            refine (any_nil _ _ w).mono ?_
            rintro r w' ⟨rfl, rfl⟩
            go_wp2
            all_goals (go_ret; exact ⟨ret_int (HD.out _ (by simp [HM.out])), rfl⟩))
        · have t0 : ((x : Int) == 0) = false := by rw [beq_eq_false_iff_ne]; omega
          have t1 : decide (x < 5) = true := by simp; omega
          go_enter Tryd.func49, Tryd.ntmps49
          go_wp2_with fail
          all_goals (
            refine (any_nil _ _ w).mono ?_
            rintro r w' ⟨rfl, rfl⟩
            go_wp2
            all_goals (go_ret; exact ⟨ret_int (HD.out _ (by simp [HM.out, q2, show ¬ x = 0 from by omega])), rfl⟩))
        · go_enter Tryd.func49, Tryd.ntmps49
          go_wp2_with fail
          all_goals (
            refine (any_nil _ _ w).mono ?_
            rintro r w' ⟨rfl, rfl⟩
            go_wp2
            all_goals (go_ret; exact ⟨ret_int (HD.out _ (by simp [HM.out])), rfl⟩))
        · have t0 : ((x : Int) == 0) = false := by rw [beq_eq_false_iff_ne]; omega
          have t1 : decide (x < 5) = false := by simp; omega
          have t2 : ((x : Int) == 5) = false := by rw [beq_eq_false_iff_ne]; omega
          go_enter Tryd.func49, Tryd.ntmps49
          go_wp2_with fail
          all_goals (
            refine (any_nil _ _ w).mono ?_
            rintro r w' ⟨rfl, rfl⟩
            go_wp2
            all_goals (go_ret; exact ⟨ret_int (HD.out _ (by simp [HM.out, show ¬ x < 5 from by omega, show ¬ x = 0 from by omega, show ¬ x = 5 from by omega])), rfl⟩))
      · have HX : Hid (Calls Tryd.prog 61 #[.slice (some ⟨g, off + (k + 1), none⟩) (n - (k + 1)) (cap - (k + 1))] w fun e w' => e = .returned (.bool m) ∧ w' = w) := by
          unfold Hid; rw [hm]
          exact any_some g (off + (k + 1)) (cap - (k + 1)) (n - (k + 1)) (D.drop (k + 1)) w (by rw [List.length_drop, ← hn]) (by omega) (by omega) (by omega) (fun j hj => by
            have := h7 (k + 1 + j) (by omega)
            rw [show off + (k + 1) + j = off + (k + 1 + j) from by omega, this]
            congr 3
            rw [List.getD_eq_getElem?_getD, List.getD_eq_getElem?_getD, List.getElem?_drop])
        clear h hn h7 hx hm
        cases m
        · rcases (by omega : x = 0 ∨ (0 < x ∧ x < 5) ∨ x = 5 ∨ 5 < x) with rfl | ⟨q1, q2⟩ | rfl | q1
          · go_enter Tryd.func49, Tryd.ntmps49
            go_wp2_with fail
            all_goals (
              refine HX.out.mono ?_
              rintro r w' ⟨rfl, rfl⟩
              go_wp2
              all_goals (go_ret; exact ⟨ret_int (HD.out _ (by simp [])), rfl⟩))
          · have t0 : ((x : Int) == 0) = false := by rw [beq_eq_false_iff_ne]; omega
            have t1 : decide (x < 5) = true := by simp; omega
            go_enter Tryd.func49, Tryd.ntmps49
            go_wp2_with fail
            all_goals (
              refine HX.out.mono ?_
              rintro r w' ⟨rfl, rfl⟩
              go_wp2
              all_goals (go_ret; exact ⟨ret_int (HD.out _ (by simp [q2, show ¬ x = 0 from by omega])), rfl⟩))
          · go_enter Tryd.func49, Tryd.ntmps49
            go_wp2_with fail
            all_goals (
              refine HX.out.mono ?_
              rintro r w' ⟨rfl, rfl⟩
              go_wp2
              all_goals (go_ret; exact ⟨ret_int (HD.out _ (by simp [])), rfl⟩))
          · have t0 : ((x : Int) == 0) = false := by rw [beq_eq_false_iff_ne]; omega
            have t1 : decide (x < 5) = false := by simp; omega
            have t2 : ((x : Int) == 5) = false := by rw [beq_eq_false_iff_ne]; omega
            go_enter Tryd.func49, Tryd.ntmps49
            go_wp2_with fail
            all_goals (
              refine HX.out.mono ?_
              rintro r w' ⟨rfl, rfl⟩
              go_wp2
              all_goals (go_ret; exact ⟨ret_int (HD.out _ (by simp [show ¬ x < 5 from by omega, show ¬ x = 0 from by omega, show ¬ x = 5 from by omega])), rfl⟩))
        · rcases (by omega : x = 0 ∨ (0 < x ∧ x < 5) ∨ x = 5 ∨ 5 < x) with rfl | ⟨q1, q2⟩ | rfl | q1
          · go_enter Tryd.func49, Tryd.ntmps49
            go_wp2_with fail
            all_goals (
              refine HX.out.mono ?_
              rintro r w' ⟨rfl, rfl⟩
              go_wp2
              all_goals (go_ret; exact ⟨ret_int (HD.out _ (by simp [])), rfl⟩))
          · have t0 : ((x : Int) == 0) = false := by rw [beq_eq_false_iff_ne]; omega
            have t1 : decide (x < 5) = true := by simp; omega
            go_enter Tryd.func49, Tryd.ntmps49
            go_wp2_with fail
            all_goals (
              refine HX.out.mono ?_
              rintro r w' ⟨rfl, rfl⟩
              go_wp2
              all_goals (go_ret; exact ⟨ret_int (HD.out _ (by simp [q2, show ¬ x = 0 from by omega])), rfl⟩))
          · go_enter Tryd.func49, Tryd.ntmps49
            go_wp2_with fail
            all_goals (
              refine HX.out.mono ?_
              rintro r w' ⟨rfl, rfl⟩
              go_wp2
              all_goals (go_ret; exact ⟨ret_int (HD.out _ (by simp [])), rfl⟩))
          · have t0 : ((x : Int) == 0) = false := by rw [beq_eq_false_iff_ne]; omega
            have t1 : decide (x < 5) = false := by simp; omega
            have t2 : ((x : Int) == 5) = false := by rw [beq_eq_false_iff_ne]; omega
            go_enter Tryd.func49, Tryd.ntmps49
            go_wp2_with fail
            all_goals (
              refine HX.out.mono ?_
              rintro r w' ⟨rfl, rfl⟩
              go_wp2
              all_goals (go_ret; exact ⟨ret_int (HD.out _ (by simp [show ¬ x < 5 from by omega, show ¬ x = 0 from by omega, show ¬ x = 5 from by omega])), rfl⟩))

end Go.Proofs.YtbkdaoicnobllabDoor
