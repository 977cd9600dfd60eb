import Derived.Test.YtbkdaoicnobllabGreatDoorG05
import Derived.Test.YtbkdaoicnobllabGreatDoorG04
import Derived.Deep.AppendLies

namespace Go.Proofs.YtbkdaoicnobllabGreatDoor
open Go.RowKit

def nextP (D : List Nat) (z k : Nat) : List Nat := (if z = D.length then [1] else []) ++ (List.range k).map (nextAt D z)
theorem nextP_succ (D : List Nat) (z k : Nat) : nextP D z (k + 1) = nextP D z k ++ [nextAt D z k] := by unfold nextP; rw [List.range_succ]; simp
theorem nextP_length (D : List Nat) (z k : Nat) : (nextP D z k).length = (if z = D.length then 1 else 0) + k := by unfold nextP; split <;> simp <;> omega
set_option maxRecDepth 100000 in
set_option maxHeartbeats 1000000 in
theorem next_some (g off cap n : Nat) (D : List Nat) (w : World) (hn : D.length = n) (hl : n ≤ 30000) (hcap : n ≤ cap) (hc2 : cap ≤ 9223372036854775807) (hg : g < w.heap.size) (hce : ∀ j, j < n → w.cell? ⟨g, off + j, none⟩ = some (.int .i64 (D.getD j 0 : Nat))) (hd : Digs D) :
    Calls Tryz.prog 128 #[.slice (some ⟨g, off, none⟩) n cap] w fun r w' => ∃ v' : Value, r = .returned v' ∧ ∃ z : Nat, Nines D z ∧ Own w' w.heap.size v' (nextL D z) ∧ Below w.heap.size w w' := by
  have H4 := hid hce
  have HN := hid hn
  have HD := hid hd
  obtain ⟨i0, hi, hz0, hz1, hz2⟩ := info_parts Tryz.info_int
  clear hce hn hd
  go_enter Tryz.func128, Tryz.ntmps128
  go_wp2
  go_loop [3, 4] (fun zz ii => ∃ z : Nat, zz = .int .i64 z ∧ ii = .int .i64 ((n : Int) - 1 - z) ∧ z ≤ n ∧ Hid (∀ i, n - z ≤ i → i < n → D.getD i 0 = 9)) (fun zz _ => n - (intOf zz).toNat)
  case atStart => exact ⟨0, rfl, by simp, Nat.zero_le _, fun i h1 h2 => by omega⟩
  case round =>
    obtain ⟨z, rfl, rfl, hz, HZ⟩ := hrel
    by_cases hzn : z < n
    · obtain ⟨j, hj⟩ : ∃ j : Nat, (n : Int) - 1 - z = j := ⟨n - 1 - z, by omega⟩
      rw [hj]
      obtain ⟨x, hx⟩ : ∃ x, x = D.getD j 0 := ⟨_, rfl⟩
      have cx := H4.out j (by omega)
      rw [← hx] at cx
      have hjn : j < n := by omega
      by_cases h9 : x = 9
      · subst h9
        have HX : Hid (D.getD j 0 = 9) := hx.symm
        have HJ := hid hj
        clear hx
        go_wp2
        go_round
        case rel => exact ⟨z + 1, by go_num, by have := HJ.out; go_num, by omega, fun i h1 h2 => if h : i = j then h ▸ HX.out else HZ.out i (by have := HJ.out; omega) h2⟩
        case measure => simp [intOf]; omega
      · have t9 : ((x : Int) == 9) = false := by rw [beq_eq_false_iff_ne]; omega
        have HNI : Hid (Nines D z) := ⟨by rw [HN.out]; exact hz, by rw [HN.out]; exact HZ.out, fun _ => by rw [HN.out, show n - 1 - z = j from by omega, ← hx]; exact h9⟩
        have tn : ((z : Int) == (n : Int)) = false := by rw [beq_eq_false_iff_ne]; omega
        have tn2 : (z == n) = false := by rw [beq_eq_false_iff_ne]; omega
        have tn3 : ¬ z = n := by omega
        have HS : Hid (Own (w.alloc (.cells #[] 3)) w.heap.size (.slice (some ⟨w.heap.size, 0, none⟩) 0 0) (nextP D z 0) ∧ Below w.heap.size w (w.alloc (.cells #[] 3))) := by
          refine ⟨?_, (Below.refl _ _).alloc (Nat.le_refl _) _⟩
          rw [show nextP D z 0 = [] from by unfold nextP; rw [HN.out, if_neg (by omega)]; rfl]
          exact Own.empty w
        clear hx h9 hj HZ
        go_wp2
        go_loopw [5, 34] (fun l ii wr => ∃ k : Nat, ii = .int .i64 k ∧ k ≤ n ∧ Own wr w.heap.size l (nextP D z k) ∧ Below w.heap.size w wr) (fun _ ii _ => n - (intOf ii).toNat)
        case atStart => exact ⟨0, rfl, Nat.zero_le _, HS.out.1, HS.out.2⟩
        case round =>
          obtain ⟨k, rfl, hk, hown, hb⟩ := hrel
          have hsz := hb.size
          by_cases hlt : k < n
          · obtain ⟨x, hx⟩ : ∃ x, x = D.getD k 0 := ⟨_, rfl⟩
            have hx9 : x ≤ 9 := by rw [hx]; exact HD.out.getD k
            have cx : wr.cell? ⟨g, off + k, none⟩ = some (.int .i64 x) := by
              rw [hx, hb.cell (p := ⟨g, off + k, none⟩) (by show g < _; omega)]; exact H4.out k hlt
            have hlen : (nextP D z k).length = k + 0 := by rw [nextP_length, HN.out]; rw [if_neg (by omega)]; omega
            have hown' : wr.ownsRow w.heap.size 3 1 u5 (k + 0) (ints (nextP D z k)) := by have := hown; unfold Own at this; rwa [hlen] at this
            have HL := hid hlen
            clear hown hlen
            by_cases q : n ≤ k + z
            · have q1 : (n : Int) ≤ (k : Int) + z := by omega
              have HV : Hid (nextP D z (k + 1) = nextP D z k ++ [0]) := by unfold Hid; rw [nextP_succ]; unfold nextAt; rw [HN.out]; rw [if_pos q]
              clear hx
              go_wp2_with (at_builtin; refine wpList_append_own _ rfl (.tmp 56) (.tmp 58) 69 rfl w.heap.size 3 i0 (.int .i64 0) 1 8 Tryz.underlying69 hi hz0 hz1 hz2 rfl (by decide) _ _ _ rfl (hown'.alloc _) ⟨wr.heap.size, 0, none⟩ 1 1 [.int .i64 0] rfl rfl (cell_one_new _ _ _) (by intro u hu; simp at hu; subst hu; rfl) (by unfold maxLen; omega) (by omega) (by simp; omega) ?_)
              intro v' w1 hown1 hgrow _
              have hb1 : Hid (Below w.heap.size w w1) := (hb.alloc (by omega) _).grown hgrow (by simp; omega) (fun k hk => (hown'.lt k hk).1)
              have hown2 : Hid (Own w1 w.heap.size v' (nextP D z (k + 1))) := by unfold Hid; rw [HV.out]; exact Own.snoc hown1 HL.out (by simp)
              clear hown' hgrow hown1 hb HV cx
              go_wp2
              go_roundw
              case rel => exact ⟨k + 1, by go_num, by omega, hown2.out, hb1.out⟩
              case measure => simp [intOf]; omega
            · by_cases q2 : k + z + 1 = n
              · have q1 : ¬ (n : Int) ≤ (k : Int) + z := by omega
                have q3 : (((k : Int) + z) == (n : Int) - 1) = true := by simp; omega
                have HV : Hid (nextP D z (k + 1) = nextP D z k ++ [x + 1]) := by unfold Hid; rw [nextP_succ]; unfold nextAt; rw [HN.out]; rw [if_neg q, if_pos q2, hx]
                clear hx
                go_wp2_with (at_builtin; refine wpList_append_own _ rfl (.tmp 56) (.tmp 58) 69 rfl w.heap.size 3 i0 (.int .i64 0) 1 8 Tryz.underlying69 hi hz0 hz1 hz2 rfl (by decide) _ _ _ rfl (hown'.alloc _) ⟨wr.heap.size, 0, none⟩ 1 1 [.int .i64 ((x : Int) + 1)] rfl rfl (cell_one_new _ _ _) (by intro u hu; simp at hu; subst hu; rfl) (by unfold maxLen; omega) (by omega) (by simp; omega) ?_)
                intro v' w1 hown1 hgrow _
                have hb1 : Hid (Below w.heap.size w w1) := (hb.alloc (by omega) _).grown hgrow (by simp; omega) (fun k hk => (hown'.lt k hk).1)
                have hown2 : Hid (Own w1 w.heap.size v' (nextP D z (k + 1))) := by unfold Hid; rw [HV.out]; exact Own.snoc hown1 HL.out (by simp)
                clear hown' hgrow hown1 hb HV cx
                go_wp2
                go_roundw
                case rel => exact ⟨k + 1, by go_num, by omega, hown2.out, hb1.out⟩
                case measure => simp [intOf]; omega
              · have q1 : ¬ (n : Int) ≤ (k : Int) + z := by omega
                have q3 : (((k : Int) + z) == (n : Int) - 1) = false := by rw [beq_eq_false_iff_ne]; omega
                have HV : Hid (nextP D z (k + 1) = nextP D z k ++ [x]) := by unfold Hid; rw [nextP_succ]; unfold nextAt; rw [HN.out]; rw [if_neg q, if_neg q2, hx]
                clear hx
                go_wp2_with (at_builtin; refine wpList_append_own _ rfl (.tmp 56) (.tmp 58) 69 rfl w.heap.size 3 i0 (.int .i64 0) 1 8 Tryz.underlying69 hi hz0 hz1 hz2 rfl (by decide) _ _ _ rfl (hown'.alloc _) ⟨wr.heap.size, 0, none⟩ 1 1 [.int .i64 (x : Int)] rfl rfl (cell_one_new _ _ _) (by intro u hu; simp at hu; subst hu; rfl) (by unfold maxLen; omega) (by omega) (by simp; omega) ?_)
                intro v' w1 hown1 hgrow _
                have hb1 : Hid (Below w.heap.size w w1) := (hb.alloc (by omega) _).grown hgrow (by simp; omega) (fun k hk => (hown'.lt k hk).1)
                have hown2 : Hid (Own w1 w.heap.size v' (nextP D z (k + 1))) := by unfold Hid; rw [HV.out]; exact Own.snoc hown1 HL.out (by simp)
                clear hown' hgrow hown1 hb HV cx
                go_wp2
                go_roundw
                case rel => exact ⟨k + 1, by go_num, by omega, hown2.out, hb1.out⟩
                case measure => simp [intOf]; omega
          · have hkn : k = n := by omega
            have HO : Hid (Own wr w.heap.size u5 (nextL D z) ∧ Below w.heap.size w wr) := by
              refine ⟨?_, hb⟩
              rw [hkn] at hown
              rw [show nextL D z = nextP D z n from by unfold nextL nextP; rw [HN.out]]; exact hown
            clear hown hb
            go_wp2
            go_ret
            exact ⟨_, rfl, z, HNI.out, HO.out⟩
    · have hzn2 : z = n := by omega
      subst hzn2
      have HNI : Hid (Nines D z) := ⟨by rw [HN.out]; exact Nat.le_refl _, by rw [HN.out]; exact HZ.out, fun h => by rw [HN.out] at h; omega⟩
      have tn : (z : Int) - 1 - z = -1 := by omega
      have hown0 := Own.empty w
      have hown' : (w.alloc (.cells #[] 3)).ownsRow w.heap.size 3 1 (.slice (some ⟨w.heap.size, 0, none⟩) 0 0) 0 (ints []) := hown0
      have hb0 : Below w.heap.size w (w.alloc (.cells #[] 3)) := (Below.refl _ _).alloc (Nat.le_refl _) _
      obtain ⟨W0, hW0⟩ : ∃ W0, W0 = w.alloc (.cells #[] 3) := ⟨_, rfl⟩
      have hsz0 := hb0.size
      clear hown0 HZ hzn
      rw [tn]
      go_wp2_with (at_builtin; refine wpList_append_own _ rfl (.tmp 29) (.tmp 30) 69 rfl w.heap.size 3 i0 (.int .i64 0) 1 8 Tryz.underlying69 hi hz0 hz1 hz2 rfl (by decide) _ _ _ rfl (hown'.alloc _) ⟨w.heap.size + 1, 0, none⟩ 1 1 [.int .i64 1] rfl rfl (by simp [go_sem]) (by intro u hu; simp at hu; subst hu; rfl) (by unfold maxLen; omega) (by omega) (by simp; omega) ?_)
      intro v' w1 hown1 hgrow _
      have HS : Hid (Own w1 w.heap.size v' (nextP D z 0) ∧ Below w.heap.size w w1) := by
        refine ⟨?_, (hb0.alloc (by omega) _).grown hgrow (by simp; omega) (fun k hk => (hown'.lt k hk).1)⟩
        rw [show nextP D z 0 = [] ++ [1] from by unfold nextP; rw [HN.out, if_pos rfl]; rfl]
        exact Own.snoc hown1 rfl rfl
      clear hown' hgrow hown1 hb0 hW0 hsz0
      go_wp2
      go_loopw [5, 34] (fun l ii wr => ∃ k : Nat, ii = .int .i64 k ∧ k ≤ z ∧ Own wr w.heap.size l (nextP D z k) ∧ Below w.heap.size w wr) (fun _ ii _ => z - (intOf ii).toNat)
      case atStart => exact ⟨0, rfl, Nat.zero_le _, HS.out.1, HS.out.2⟩
      case round =>
        obtain ⟨k, rfl, hk, hown, hb⟩ := hrel
        have hsz := hb.size
        by_cases hlt : k < z
        · obtain ⟨x, hx⟩ : ∃ x, x = D.getD k 0 := ⟨_, rfl⟩
          have hx9 : x ≤ 9 := by rw [hx]; exact HD.out.getD k
          have cx : wr.cell? ⟨g, off + k, none⟩ = some (.int .i64 x) := by
            rw [hx, hb.cell (p := ⟨g, off + k, none⟩) (by show g < _; omega)]; exact H4.out k hlt
          have hlen : (nextP D z k).length = k + 1 := by rw [nextP_length, HN.out]; simp; omega
          have hown' : wr.ownsRow w.heap.size 3 1 u5 (k + 1) (ints (nextP D z k)) := by have := hown; unfold Own at this; rwa [hlen] at this
          have HL := hid hlen
          clear hown hlen
          have q1 : (z : Int) ≤ (k : Int) + z := by omega
          have HV : Hid (nextP D z (k + 1) = nextP D z k ++ [0]) := by unfold Hid; rw [nextP_succ]; unfold nextAt; rw [HN.out]; rw [if_pos (by omega)]
          clear hx
          go_wp2_with (at_builtin; refine wpList_append_own _ rfl (.tmp 56) (.tmp 58) 69 rfl w.heap.size 3 i0 (.int .i64 0) 1 8 Tryz.underlying69 hi hz0 hz1 hz2 rfl (by decide) _ _ _ rfl (hown'.alloc _) ⟨wr.heap.size, 0, none⟩ 1 1 [.int .i64 0] rfl rfl (cell_one_new _ _ _) (by intro u hu; simp at hu; subst hu; rfl) (by unfold maxLen; omega) (by omega) (by simp; omega) ?_)
          intro v' w1 hown1 hgrow _
          have hb1 : Hid (Below w.heap.size w w1) := (hb.alloc (by omega) _).grown hgrow (by simp; omega) (fun k hk => (hown'.lt k hk).1)
          have hown2 : Hid (Own w1 w.heap.size v' (nextP D z (k + 1))) := by unfold Hid; rw [HV.out]; exact Own.snoc hown1 HL.out (by simp)
          clear hown' hgrow hown1 hb HV cx
          go_wp2
          go_roundw
          case rel => exact ⟨k + 1, by go_num, by omega, hown2.out, hb1.out⟩
          case measure => simp [intOf]; omega
        · have hkn : k = z := by omega
          have HO : Hid (Own wr w.heap.size u5 (nextL D z) ∧ Below w.heap.size w wr) := by
            refine ⟨?_, hb⟩
            rw [hkn] at hown
            rw [show nextL D z = nextP D z z from by unfold nextL nextP; rw [HN.out]]; exact hown
          clear hown hb
          go_wp2
          go_ret
          exact ⟨_, rfl, z, HNI.out, HO.out⟩
end Go.Proofs.YtbkdaoicnobllabGreatDoor

namespace Go.Proofs.YtbkdaoicnobllabGreatDoor
open Go.RowKit

theorem Own.mono {w : World} {b b2 : Nat} {v : Value} {L : List Nat} (h : Own w b v L) (hb : b2 ≤ b) : Own w b2 v L := by
  refine ⟨h.1, ?_⟩
  rcases h.2 with h2 | ⟨g, cap, cur, h1, h2, h3⟩
  · exact .inl h2
  · exact .inr ⟨g, cap, cur, h1, Nat.le_trans hb h2, h3⟩
theorem next_ne {D : List Nat} {z : Nat} (hz : Nines D z) : nextL D z ≠ [] := by
  intro h
  have h1 := num_next D z hz
  rw [h, num_nil] at h1; omega
set_option maxRecDepth 100000 in
set_option maxHeartbeats 2000000 in
theorem drounded_any (b : Nat) (v : Value) (D : List Nat) (e p mode : Int) (neg : Bool) (w : World) (h : DecAt w b v D e) (hp1 : -20000 ≤ p) (hp2 : p ≤ 20000) (hc : D.length + e - p ≤ 30000) :
    Calls Tryz.prog 100 #[.pointer (some ⟨b, 0, none⟩), .int .i64 p, .int .i64 mode, .bool neg] w fun r w' => ∃ v' : Value, r = .returned v' ∧ SomeS v' ∧ ∃ R : List Nat, Rnd (awayB mode neg) D e p R ∧ Own w' w.heap.size v' R ∧ Below w.heap.size w w' := by
  obtain ⟨g, off, cap, rfl, hx1, hx2, hx3, hx4⟩ := h.form
  clear hx1 hx2 hx3 hx4
  have c0 := h.c0
  have c1 := h.c1
  have h1 := h.len
  have h2 := h.elo
  have h3 := h.ehi
  obtain ⟨n, hn⟩ : ∃ n, n = D.length := ⟨_, rfl⟩
  obtain ⟨v, hv⟩ : ∃ v, v = Value.slice (some ⟨g, off, none⟩) D.length cap := ⟨_, rfl⟩
  have HH : Hid (DecAt w b v D e) := by unfold Hid; rw [hv]; exact h
  have HV := hid hv
  obtain ⟨c, hcc⟩ : ∃ c : Int, c = (n : Int) + e - p := ⟨_, rfl⟩
  have hcl : c ≤ 30000 := by rw [hcc, hn]; exact hc
  have hcl2 : -60000 ≤ c := by omega
  have hce : (n : Int) + e - p = c := hcc.symm
  have HC : Hid (c = D.length + e - p) := by unfold Hid; rw [hcc, hn]
  rw [← hn] at c0 h1
  have HN := hid hn
  clear h hn hc hcc hv
  go_enter Tryz.func100, Tryz.ntmps100
  go_wp2
  go_quiet (fail)
  go_wp2_with fail
  refine (first_any b v D e c _ (HH.out.below (((Still.refl w).drewN _).below _)) hcl).mono ?_
  rintro r w1 ⟨v1, rfl, ⟨g1, m, cp1, rfl⟩, hown, hb⟩
  have HB1 : Hid (Below w.heap.size w w1) := (((Still.refl w).drewN _).below _).trans hb
  have HOW : Hid (Own w1 w.heap.size (.slice (some ⟨g1, 0, none⟩) m cp1) (firstL D c.toNat)) := hown
  have hm : m = c.toNat := by
    rcases hown.form with ⟨_, h2⟩ | ⟨g', cap', hv, _⟩
    · cases h2
    · rw [firstL_length] at hv; simp only [Value.slice.injEq] at hv; exact hv.2.1
  have HD1 : Hid (DecAt w1 b v D e) := HH.out.below HB1.out
  obtain ⟨rest, hrest⟩ : ∃ rest, rest = behL D c := ⟨_, rfl⟩
  have HR := hid hrest
  have hlf : ∀ K : Nat, -(K : Int) ≤ e → -(K : Int) ≤ p → rest = leftN (val K D e) (10 ^ (p + K).toNat) := fun K k1 k2 => by
    rw [hrest, HC.out]; exact behL_left HH.out.digs (HH.out.head.pos HH.out.pos) K e p k1 k2
  have hr0 : 0 ≤ rest := by rw [hlf 20000 (by omega) (by omega)]; exact (leftN_range _ _).1
  have hr3 : rest ≤ 3 := by rw [hlf 20000 (by omega) (by omega)]; exact (leftN_range _ _).2
  obtain ⟨od, hod⟩ : ∃ od, od = (num (firstL D c.toNat) % 2 == 1) := ⟨_, rfl⟩
  have HST : Hid (upB mode neg rest od = false → Rnd (awayB mode neg) D e p (firstL D c.toNat)) := fun hu => by
    have := Rnd.stay (aw := awayB mode neg) (K := 20000) (left := rest) (odd := od) HH.out.digs HH.out.head HH.out.pos (by omega) (by omega) (hlf 20000 (by omega) (by omega)) (by rw [hod, HC.out]) (by
      unfold upB at hu
      split at hu
      · exact .inl (by assumption)
      · exact .inr hu)
    rw [HC.out]; exact this
  have HUP : Hid (upB mode neg rest od = true → ∀ z, Nines (firstL D c.toNat) z → Rnd (awayB mode neg) D e p (nextL (firstL D c.toNat) z)) := fun hu z hz => by
    have := Rnd.up (aw := awayB mode neg) (K := 20000) (left := rest) (odd := od) HH.out.digs HH.out.head HH.out.pos (by omega) (by omega) (by rw [← HC.out]; exact hz) (hlf 20000 (by omega) (by omega)) (by rw [hod, HC.out]) (by
      intro h0; unfold upB at hu; rw [if_pos h0] at hu; cases hu) (by
      unfold upB at hu
      split at hu
      · cases hu
      · exact hu)
    rw [HC.out]; exact this
  have HNX : Hid (Calls Tryz.prog 128 #[.slice (some ⟨g1, 0, none⟩) m cp1] w1 fun r w' => ∃ v' : Value, r = .returned v' ∧ ∃ z : Nat, Nines (firstL D c.toNat) z ∧ Own w' w1.heap.size v' (nextL (firstL D c.toNat) z) ∧ Below w1.heap.size w1 w') := by
    rcases HOW.out.form with ⟨_, h2⟩ | ⟨g', cap', hv, q1, q2, q3, q4⟩
    · cases h2
    · simp only [Value.slice.injEq, Option.some.injEq, Addr.mk.injEq, and_true] at hv
      obtain ⟨rfl, _, rfl⟩ := hv
      unfold maxLen at q4
      rw [firstL_length] at q3
      exact next_some g1 0 cp1 m (firstL D c.toNat) w1 (by rw [firstL_length, hm]) (by omega) (by omega) (by omega) q2 (fun j hj => by rw [Nat.zero_add]; exact HOW.out.cell (by rw [firstL_length, hm]) j hj) (firstL_digs HH.out.digs _)
  have hcap1 : m ≤ cp1 ∧ cp1 ≤ 9223372036854775807 := by
    rcases HOW.out.form with ⟨_, h2⟩ | ⟨g', cap', hv, q1, q2, q3, q4⟩
    · cases h2
    · simp only [Value.slice.injEq] at hv
      unfold maxLen at q4
      rw [firstL_length] at q3
      omega
  have HM := hid hm
  have HBH := hid (behind_any b v D e c w1 HD1.out (by omega) (by omega))
  rw [← hrest] at HBH
  have hev := num_odd (firstL D c.toNat)
  rw [firstL_length] at hev
  by_cases hm0 : m = 0
  · have hod0 : od = false := by rw [hod, show c.toNat = 0 from by omega]; rfl
    subst hod0
    subst hm0
    clear hown hb c0 c1 hod hrest hlf hev hm hce hcl hcl2
    cases hup : upB mode neg rest false with
    | false =>
      have HST := hid (HST.out hup)
      have HU : Hid (∀ w, Calls Tryz.prog 68 #[.int .i64 mode, .bool neg, .bool false, .int .i64 rest] w fun e w' => e = .returned (.bool false) ∧ w' = w) := fun w => by
        have := upper_any mode rest neg false hr0 hr3 w
        rw [hup] at this; exact this
      clear hup
      go_wp2_with fail
      refine HBH.out.mono ?_
      rintro r w2 ⟨rfl, rfl⟩
      go_wp2_with fail
      refine (HU.out _).mono ?_
      rintro r w3 ⟨rfl, rfl⟩
      go_wp2
      go_ret
      exact ⟨_, rfl, ⟨_, _, _, rfl⟩, _, HST.out, HOW.out, HB1.out⟩
    | true =>
      have HUP := hid (HUP.out hup)
      have HU : Hid (∀ w, Calls Tryz.prog 68 #[.int .i64 mode, .bool neg, .bool false, .int .i64 rest] w fun e w' => e = .returned (.bool true) ∧ w' = w) := fun w => by
        have := upper_any mode rest neg false hr0 hr3 w
        rw [hup] at this; exact this
      clear hup
      go_wp2_with fail
      refine HBH.out.mono ?_
      rintro r w2 ⟨rfl, rfl⟩
      go_wp2_with fail
      refine (HU.out _).mono ?_
      rintro r w3 ⟨rfl, rfl⟩
      go_wp2_with fail
      refine HNX.out.mono ?_
      rintro r w4 ⟨v4, rfl, z, hz4, ho4, hb4⟩
      have HF : Hid (SomeS v4 ∧ Rnd (awayB mode neg) D e p (nextL (firstL D c.toNat) z) ∧ Own w4 w.heap.size v4 (nextL (firstL D c.toNat) z) ∧ Below w.heap.size w w4) := ⟨ho4.someS (next_ne hz4), HUP.out z hz4, Own.mono ho4 HB1.out.size, HB1.out.trans (hb4.mono HB1.out.size)⟩
      clear hz4 ho4 hb4
      go_wp2
      go_ret
      exact ⟨_, rfl, HF.out.1, _, HF.out.2⟩
  · obtain ⟨x, hx⟩ : ∃ x, x = (firstL D c.toNat).getD (m - 1) 0 := ⟨_, rfl⟩
    have cx : w1.cell? ⟨g1, m - 1, none⟩ = some (.int .i64 x) := by rw [hx]; exact HOW.out.cell (by rw [firstL_length, hm]) (m - 1) (by omega)
    have hm1 : (m : Int) - 1 = ((m - 1 : Nat) : Int) := by omega
    have hmp : 0 < m := by omega
    rw [show (firstL D c.toNat).getD (c.toNat - 1) 0 = x from by rw [hx, hm]] at hev
    by_cases hx2 : x % 2 = 1
    · have hodt : od = true := by rw [hod, hev, hx2]; rfl
      subst hodt
      have hxi : (x : Int) % 2 = 1 := by omega
      clear hown hb c0 c1 hod hrest hlf hev hx hx2 hm hce
      cases hup : upB mode neg rest true with
      | false =>
        have HST := hid (HST.out hup)
        have HU : Hid (∀ w, Calls Tryz.prog 68 #[.int .i64 mode, .bool neg, .bool true, .int .i64 rest] w fun e w' => e = .returned (.bool false) ∧ w' = w) := fun w => by
          have := upper_any mode rest neg true hr0 hr3 w
          rw [hup] at this; exact this
        clear hup
        go_wp2_with fail
        refine HBH.out.mono ?_
        rintro r w2 ⟨rfl, rfl⟩
        go_wp2_with fail
        refine (HU.out _).mono ?_
        rintro r w3 ⟨rfl, rfl⟩
        go_wp2
        go_ret
        exact ⟨_, rfl, ⟨_, _, _, rfl⟩, _, HST.out, HOW.out, HB1.out⟩
      | true =>
        have HUP := hid (HUP.out hup)
        have HU : Hid (∀ w, Calls Tryz.prog 68 #[.int .i64 mode, .bool neg, .bool true, .int .i64 rest] w fun e w' => e = .returned (.bool true) ∧ w' = w) := fun w => by
          have := upper_any mode rest neg true hr0 hr3 w
          rw [hup] at this; exact this
        clear hup
        go_wp2_with fail
        refine HBH.out.mono ?_
        rintro r w2 ⟨rfl, rfl⟩
        go_wp2_with fail
        refine (HU.out _).mono ?_
        rintro r w3 ⟨rfl, rfl⟩
        go_wp2_with fail
        refine HNX.out.mono ?_
        rintro r w4 ⟨v4, rfl, z, hz4, ho4, hb4⟩
        have HF : Hid (SomeS v4 ∧ Rnd (awayB mode neg) D e p (nextL (firstL D c.toNat) z) ∧ Own w4 w.heap.size v4 (nextL (firstL D c.toNat) z) ∧ Below w.heap.size w w4) := ⟨ho4.someS (next_ne hz4), HUP.out z hz4, Own.mono ho4 HB1.out.size, HB1.out.trans (hb4.mono HB1.out.size)⟩
        clear hz4 ho4 hb4
        go_wp2
        go_ret
        exact ⟨_, rfl, HF.out.1, _, HF.out.2⟩
    · have hx0 : x % 2 = 0 := by omega
      have hodf : od = false := by rw [hod, hev, hx0]; rfl
      subst hodf
      have hxi : (x : Int) % 2 = 0 := by omega
      clear hown hb c0 c1 hod hrest hlf hev hx hx2 hx0 hm hce
      cases hup : upB mode neg rest false with
      | false =>
        have HST := hid (HST.out hup)
        have HU : Hid (∀ w, Calls Tryz.prog 68 #[.int .i64 mode, .bool neg, .bool false, .int .i64 rest] w fun e w' => e = .returned (.bool false) ∧ w' = w) := fun w => by
          have := upper_any mode rest neg false hr0 hr3 w
          rw [hup] at this; exact this
        clear hup
        go_wp2_with fail
        refine HBH.out.mono ?_
        rintro r w2 ⟨rfl, rfl⟩
        go_wp2_with fail
        refine (HU.out _).mono ?_
        rintro r w3 ⟨rfl, rfl⟩
        go_wp2
        go_ret
        exact ⟨_, rfl, ⟨_, _, _, rfl⟩, _, HST.out, HOW.out, HB1.out⟩
      | true =>
        have HUP := hid (HUP.out hup)
        have HU : Hid (∀ w, Calls Tryz.prog 68 #[.int .i64 mode, .bool neg, .bool false, .int .i64 rest] w fun e w' => e = .returned (.bool true) ∧ w' = w) := fun w => by
          have := upper_any mode rest neg false hr0 hr3 w
          rw [hup] at this; exact this
        clear hup
        go_wp2_with fail
        refine HBH.out.mono ?_
        rintro r w2 ⟨rfl, rfl⟩
        go_wp2_with fail
        refine (HU.out _).mono ?_
        rintro r w3 ⟨rfl, rfl⟩
        go_wp2_with fail
        refine HNX.out.mono ?_
        rintro r w4 ⟨v4, rfl, z, hz4, ho4, hb4⟩
        have HF : Hid (SomeS v4 ∧ Rnd (awayB mode neg) D e p (nextL (firstL D c.toNat) z) ∧ Own w4 w.heap.size v4 (nextL (firstL D c.toNat) z) ∧ Below w.heap.size w w4) := ⟨ho4.someS (next_ne hz4), HUP.out z hz4, Own.mono ho4 HB1.out.size, HB1.out.trans (hb4.mono HB1.out.size)⟩
        clear hz4 ho4 hb4
        go_wp2
        go_ret
        exact ⟨_, rfl, HF.out.1, _, HF.out.2⟩
end Go.Proofs.YtbkdaoicnobllabGreatDoor

namespace Go.Proofs.YtbkdaoicnobllabGreatDoor
open Go.RowKit

/-- A number so far, X left. -/
structure FromSt (w wr : World) (V : Nat) (X : Int) (v : Value) (L : List Nat) : Prop where
  cell : wr.cell? ⟨w.heap.size, 0, none⟩ = some v
  frozen : wr.frozen? ⟨w.heap.size, 0, none⟩ = false
  own : Own wr 0 v L
  above : ∀ k, v.ownBlock = some k → w.heap.size < k
  lim : Lim L
  num : nv L + X.toNat * 1073741824 ^ L.length = V
  len : L.length ≤ 3
  last : X = 0 → 0 < L.length → L.getD (L.length - 1) 0 ≠ 0
  below : Below w.heap.size w wr
theorem Own.setOther {w : World} {b : Nat} {v u : Value} {L : List Nat} (h : Own w 0 v L) (hap : ∀ k, v.ownBlock = some k → b < k) : Own (w.setCell ⟨b, 0, none⟩ u) 0 v L := by
  refine ⟨h.1, ?_⟩
  rcases h.2 with h2 | ⟨g, cap, cur, hv, hg, hh, r⟩
  · exact .inl h2
  · exact .inr ⟨g, cap, cur, hv, hg, by rw [Below.heap_setCell _ _ _ _ (fun e => by have := hap g (by rw [hv]; rfl); simp at e; omega)]; exact hh, r⟩
theorem FromSt.put {w w1 : World} {V : Nat} {q : Int} {v u : Value} {L : List Nat} (hc : w1.cell? ⟨w.heap.size, 0, none⟩ = some u) (hf : w1.frozen? ⟨w.heap.size, 0, none⟩ = false) (ho : Own w1 0 v L) (ha : ∀ k, v.ownBlock = some k → w.heap.size < k) (hl : Lim L)
    (hn : nv L + q.toNat * 1073741824 ^ L.length = V) (hlen : L.length ≤ 3) (hla : q = 0 → 0 < L.length → L.getD (L.length - 1) 0 ≠ 0) (hb : Below w.heap.size w w1) : FromSt w (w1.setCell ⟨w.heap.size, 0, none⟩ v) V q v L :=
  ⟨World.cell?_setCell_same' _ _ _ (by rw [hc]; rfl), by rw [show (w1.setCell ⟨w.heap.size, 0, none⟩ v).frozen? ⟨w.heap.size, 0, none⟩ = w1.frozen? ⟨w.heap.size, 0, none⟩ from by simp [go_sem]]; exact hf, ho.setOther ha, ha, hl, hn, hlen, hla, hb.setCell (p := ⟨w.heap.size, 0, none⟩) (Nat.le_refl _) _⟩
theorem from_len {L : List Nat} {X V : Nat} (h : nv L + X * 1073741824 ^ L.length = V) (hX : 0 < X) (hV : V < 1152921504606846976) : L.length < 2 := by
  apply Nat.lt_of_not_le; intro hle
  have h1 : 1073741824 ^ 2 ≤ 1073741824 ^ L.length := Nat.pow_le_pow_right (by omega) hle
  have h2 : 1 * 1073741824 ^ L.length ≤ X * 1073741824 ^ L.length := Nat.mul_le_mul_right _ hX
  have h3 : (1073741824 : Nat) ^ 2 = 1152921504606846976 := by decide
  omega
set_option maxRecDepth 100000 in
set_option maxHeartbeats 1000000 in
theorem fromInt_any (V : Nat) (w : World) (hV : V < 1152921504606846976) :
    Calls Tryz.prog 124 #[.int .i64 V] w fun e w' => e = .returned (.pointer (some ⟨w.heap.size, 0, none⟩)) ∧ NewNat w.heap.size w' w.heap.size V 3 ∧ Below w.heap.size w w' := by
  obtain ⟨i0, hi, hz0, hz1, hz2⟩ := info_parts Tryz.info_int
  obtain ⟨X0, hX0⟩ : ∃ X0 : Int, X0 = (V : Int) := ⟨_, rfl⟩
  rw [← hX0]
  have HX0 := hid hX0
  have HV := hid hV
  have hX1 : 0 ≤ X0 := by omega
  have hX2 : X0 < 1152921504606846976 := by omega
  clear hX0 hV
  go_enter Tryz.func124, Tryz.ntmps124
  go_wp2
  go_loopw [4] (fun ll wr => ∃ (X : Int) (v : Value) (L : List Nat), ll = .int .i64 X ∧ (0 ≤ X ∧ X < 1152921504606846976) ∧ FromSt w wr V X v L) (fun ll _ => (intOf ll).toNat)
  case atStart =>
    refine ⟨X0, .slice none 0 0, [], rfl, ⟨hX1, hX2⟩, ⟨by simp [go_sem], by simp [go_sem], Own.nil _ _, fun k hk => by simp [Value.ownBlock] at hk, fun d hd => by simp at hd, by have := HX0.out; simp [nv]; omega, by simp, fun _ h => by simp at h, (Below.refl _ _).alloc (Nat.le_refl _) _⟩⟩
  case round =>
    clear hX1 hX2
    obtain ⟨X, v, L, rfl, ⟨hx1, hx2⟩, hst⟩ := hrel
    obtain ⟨hcb, hfb, hown, hvo, hli, hnum, hlen, hla, hb⟩ := hst
    have hsz := hb.size
    have hbw : w.heap.size < wr.heap.size := World.block_lt_of_cell? wr _ hcb
    by_cases hpos : 0 < X
    · obtain ⟨r, hr⟩ : ∃ r : Int, X % 1073741824 = r := ⟨_, rfl⟩
      obtain ⟨q, hq⟩ : ∃ q : Int, X / 1073741824 = q := ⟨_, rfl⟩
      have hr0 : 0 ≤ r := by omega
      have hr1 : r < 1073741824 := by omega
      have hq0 : 0 ≤ q := by omega
      have hq1 : q < X := by omega
      have hl2 := from_len hnum (by omega) HV.out
      have HLI := hid hli
      have HST : Hid (nv (L ++ [r.toNat]) + q.toNat * 1073741824 ^ (L ++ [r.toNat]).length = V) := by
        have := word_step L X.toNat V hnum
        rw [show X.toNat % 1073741824 = r.toNat from by omega, show X.toNat / 1073741824 = q.toNat from by omega] at this; exact this
      have HLA : Hid (q = 0 → 0 < (L ++ [r.toNat]).length → (L ++ [r.toNat]).getD ((L ++ [r.toNat]).length - 1) 0 ≠ 0) := fun h _ => by
        rw [List.length_append, List.length_singleton, Nat.add_sub_cancel, List.getD_eq_getElem?_getD, List.getElem?_append_right (Nat.le_refl _)]; simp; omega
      clear hnum hla hli hlen
      rcases hown.form with ⟨h0, hv⟩ | ⟨g, cap, hv, _, hgw, hc1, hc2⟩
      · subst hv
        have HL : Hid (L.length = 0) := by unfold Hid; rw [h0]; rfl
        clear h0 hl2
        have hown' : wr.ownsRow 0 3 1 (.slice none 0 0) 0 (ints L) := by have := hown; unfold Own at this; rwa [HL.out] at this
        clear hown
        go_wp2_with (at_builtin; refine wpList_append_lies _ rfl (.tmp 16) (.tmp 19) 69 rfl 0 3 i0 (.int .i64 0) 1 8 Tryz.underlying69 hi hz0 hz1 hz2 rfl (by decide) _ _ _ rfl (hown'.alloc _) ⟨wr.heap.size, 0, none⟩ 1 1 [.int .i64 r] rfl rfl (cell_one_new _ _ _) (by intro u hu; simp at hu; subst hu; rfl) (by omega) (by unfold maxLen; omega) (by omega) (by omega) (wr.heap.size + 1) (by simp) ?_)
        intro g2 cap2 w1 hown1 hgrow hat hlt2
        have hb1 : Below w.heap.size w w1 := (hb.alloc (by omega) _).grown hgrow (by simp; omega) (fun k hk => by simp [Value.ownBlock] at hk)
        have hcb1 : w1.cell? ⟨w.heap.size, 0, none⟩ = some (.slice none 0 0) := by
          rw [hgrow.cell_far ⟨w.heap.size, 0, none⟩ (by simp; omega) (by simp [Value.ownBlock]), World.cell?_alloc_past _ _ _ hbw]; exact hcb
        have hfb1 : w1.frozen? ⟨w.heap.size, 0, none⟩ = false := by
          rw [hgrow.frozen_far ⟨w.heap.size, 0, none⟩ (by simp; omega) (by simp [Value.ownBlock])]; simp [go_sem, hbw]; exact hfb
        have hown2 : Own w1 0 (.slice (some ⟨g2, 0, none⟩) (0 + 1) cap2) (L ++ [r.toNat]) := Own.snoc hown1 HL.out (by omega)
        have hg2 : w.heap.size < g2 := by
          rcases hat with hat | hat
          · simp [Value.ownBlock] at hat
          · omega
        have HN : Hid (FromSt w (w1.setCell ⟨w.heap.size, 0, none⟩ (.slice (some ⟨g2, 0, none⟩) (0 + 1) cap2)) V q (.slice (some ⟨g2, 0, none⟩) (0 + 1) cap2) (L ++ [r.toNat])) :=
          FromSt.put hcb1 hfb1 hown2 (by simp [Value.ownBlock]; omega) (HLI.out.snoc r.toNat (by omega)) HST.out (by rw [List.length_append, HL.out, List.length_singleton]; omega) HLA.out hb1
        clear hown' hgrow hat hown1 hb hb1 hown2 hcb hfb
        go_wp2
        go_roundw
        case rel => exact ⟨q, _, _, by rw [hq], by omega, HN.out⟩
        case measure => simp [intOf]; omega
      · obtain ⟨m, hm⟩ : ∃ m, L.length = m := ⟨_, rfl⟩
        rw [hm] at hv hl2 hc1
        subst hv
        unfold maxLen at hc2
        have HL := hid hm
        have hgb := hvo g (by simp [Value.ownBlock])
        clear hm
        have hown' : wr.ownsRow 0 3 1 (.slice (some ⟨g, 0, none⟩) m cap) m (ints L) := by have := hown; unfold Own at this; rwa [HL.out] at this
        clear hown
        go_wp2_with (at_builtin; refine wpList_append_lies _ rfl (.tmp 16) (.tmp 19) 69 rfl 0 3 i0 (.int .i64 0) 1 8 Tryz.underlying69 hi hz0 hz1 hz2 rfl (by decide) _ _ _ rfl (hown'.alloc _) ⟨wr.heap.size, 0, none⟩ 1 1 [.int .i64 r] rfl rfl (cell_one_new _ _ _) (by intro u hu; simp at hu; subst hu; rfl) (by omega) (by unfold maxLen; omega) (by omega) (by omega) (wr.heap.size + 1) (by simp) ?_)
        intro g2 cap2 w1 hown1 hgrow hat hlt2
        have hb1 : Below w.heap.size w w1 := (hb.alloc (by omega) _).grown hgrow (by simp; omega) (fun k hk => by have := hvo k (by simpa [Value.ownBlock] using hk); omega)
        have hcb1 : w1.cell? ⟨w.heap.size, 0, none⟩ = some (.slice (some ⟨g, 0, none⟩) m cap) := by
          rw [hgrow.cell_far ⟨w.heap.size, 0, none⟩ (by simp; omega) (by simp [Value.ownBlock]; omega), World.cell?_alloc_past _ _ _ hbw]; exact hcb
        have hfb1 : w1.frozen? ⟨w.heap.size, 0, none⟩ = false := by
          rw [hgrow.frozen_far ⟨w.heap.size, 0, none⟩ (by simp; omega) (by simp [Value.ownBlock]; omega)]; simp [go_sem, hbw]; exact hfb
        have hown2 : Own w1 0 (.slice (some ⟨g2, 0, none⟩) (m + 1) cap2) (L ++ [r.toNat]) := Own.snoc hown1 HL.out (by omega)
        have hg2 : w.heap.size < g2 := by
          rcases hat with hat | hat
          · simp [Value.ownBlock] at hat; omega
          · omega
        have HN : Hid (FromSt w (w1.setCell ⟨w.heap.size, 0, none⟩ (.slice (some ⟨g2, 0, none⟩) (m + 1) cap2)) V q (.slice (some ⟨g2, 0, none⟩) (m + 1) cap2) (L ++ [r.toNat])) :=
          FromSt.put hcb1 hfb1 hown2 (by simp [Value.ownBlock]; omega) (HLI.out.snoc r.toNat (by omega)) HST.out (by rw [List.length_append, HL.out, List.length_singleton]; omega) HLA.out hb1
        clear hown' hgrow hat hown1 hb hb1 hown2 hcb hfb
        go_wp2
        go_roundw
        case rel => exact ⟨q, _, _, by rw [hq], by omega, HN.out⟩
        case measure => simp [intOf]; omega
    · have hX0 : X = 0 := by omega
      subst hX0
      have HN : Hid (NewNat w.heap.size wr w.heap.size V 3 ∧ Below w.heap.size w wr) :=
        ⟨⟨v, L, ⟨hcb, hfb, hown, fun h => by have := hvo _ h; omega, hli, hla rfl⟩, by simpa using hnum, hlen, Nat.le_refl _, fun g hg => by have := hvo g hg; omega⟩, hb⟩
      clear hcb hfb hown hvo hli hnum hla hb
      go_wp2
      go_ret
      exact ⟨rfl, HN.out⟩
end Go.Proofs.YtbkdaoicnobllabGreatDoor
