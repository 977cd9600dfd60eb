import Derived.Test.YtbkdaoicnobllaaTNatB
import Derived.Test.YtbkdaoicnobllaaTNatA

namespace Go.Proofs.Ytbkdaoicnobllaa
open Go.RowKit

/-- Only draws. -/
structure Still (w w' : World) : Prop where
  drew : ∃ m, w' = w.drewN m
theorem Still.heap {w w' : World} (h : Still w w') : w'.heap = w.heap := by obtain ⟨m, rfl⟩ := h.drew; rfl
theorem Still.os {w w' : World} (h : Still w w') : w'.os = w.os := by obtain ⟨m, rfl⟩ := h.drew; rfl
theorem Still.tape {w w' : World} (h : Still w w') : w'.tape = w.tape := by obtain ⟨m, rfl⟩ := h.drew; rfl
theorem Still.output {w w' : World} (h : Still w w') : w'.output = w.output := by obtain ⟨m, rfl⟩ := h.drew; rfl
theorem Still.refl (w : World) : Still w w := ⟨0, rfl⟩
theorem Still.drewN {w w1 : World} (h : Still w w1) (n : Nat) : Still w (w1.drewN n) := by
  obtain ⟨m, rfl⟩ := h.drew
  exact ⟨_, World.drewN_drewN ..⟩
theorem Still.trans {w w1 w2 : World} (h : Still w w1) (k : Still w1 w2) : Still w w2 := by
  obtain ⟨m, rfl⟩ := k.drew
  exact h.drewN m
theorem Still.below {w w1 : World} (h : Still w w1) (B : Nat) : Below B w w1 := ⟨h.os, h.tape, h.output, by rw [h.heap]; exact Nat.le_refl _, fun k _ => by rw [h.heap]⟩
theorem Still.cell {w w1 : World} (h : Still w w1) (a : Addr) : w1.cell? a = w.cell? a := World.cell?_of_block (by rw [h.heap])
theorem Still.turn {w w1 : World} (h : Still w w1) (S : Nat → Prop) : Turn S w w1 := ⟨h.os, h.tape, h.output, by rw [h.heap]; exact Nat.le_refl _, fun k _ _ => by rw [h.heap]⟩
theorem Still.natAt {w w1 : World} (h : Still w w1) {b : Nat} {v : Value} {L : List Nat} (hn : NatAt w b v L) : NatAt w1 b v L := hn.turn (h.turn (fun _ => False)) (fun _ _ h => h)

theorem nv_len_lt {L1 L2 : List Nat} (h1 : Lim L1) (h2 : 0 < L2.length → L2.getD (L2.length - 1) 0 ≠ 0) (h : L1.length < L2.length) : nv L1 < nv L2 := by
  apply Nat.lt_of_not_le; intro hle
  have := len_le_of_nv h1 h2 hle; omega
theorem nv_split (L : List Nat) (i : Nat) (hi : i ≤ L.length) : nv L = nv (L.take i) + 1073741824 ^ i * nv (L.drop i) := by
  conv => lhs; rw [← List.take_append_drop i L]
  rw [nv_append, List.length_take, Nat.min_eq_left hi]
theorem nv_at_lt {L1 L2 : List Nat} {i : Nat} (hl1 : Lim L1) (hi1 : i < L1.length) (hi2 : i < L2.length) (hd : L1.drop (i + 1) = L2.drop (i + 1)) (h : L1.getD i 0 < L2.getD i 0) : nv L1 < nv L2 := by
  rw [nv_split L1 (i + 1) (by omega), nv_split L2 (i + 1) (by omega), hd, nv_take_any, nv_take_any]
  have a := nv_lt (hl1.take i)
  rw [List.length_take, Nat.min_eq_left (by omega)] at a
  have b : 1073741824 ^ i * (L1.getD i 0 + 1) ≤ 1073741824 ^ i * L2.getD i 0 := Nat.mul_le_mul_left _ h
  rw [Nat.mul_add, Nat.mul_one] at b
  omega
theorem drop_eq_step {L1 L2 : List Nat} {i : Nat} (hi1 : i < L1.length) (hi2 : i < L2.length) (hd : L1.drop (i + 1) = L2.drop (i + 1)) (h : L1.getD i 0 = L2.getD i 0) : L1.drop i = L2.drop i := by
  rw [List.drop_eq_getElem_cons hi1, List.drop_eq_getElem_cons hi2, hd]
  rw [List.getD_eq_getElem?_getD, List.getElem?_eq_getElem hi1, List.getD_eq_getElem?_getD, List.getElem?_eq_getElem hi2] at h
  have h2 : L1[i] = L2[i] := by simpa using h
  rw [h2]

set_option maxRecDepth 100000 in
set_option maxHeartbeats 2000000 in
theorem compare_any (b1 b2 : Nat) (v1 v2 : Value) (L1 L2 : List Nat) (w : World) (hA : NatAt w b1 v1 L1) (hB : NatAt w b2 v2 L2) (hl1 : L1.length ≤ 90000) (_hl2 : L2.length ≤ 90000) :
    Calls Try.prog 90 #[.pointer (some ⟨b1, 0, none⟩), .pointer (some ⟨b2, 0, none⟩)] w fun e w' => e = .returned (.int .i64 (cmpN (nv L1) (nv L2))) ∧ Still w w' := by
  obtain ⟨a1, c1, hv1⟩ := hA.own.row.isSlice
  obtain ⟨a2, c2, hv2⟩ := hB.own.row.isSlice
  subst hv1 hv2
  have hc1 := hA.cell
  have hc2 := hB.cell
  have HA := hid hA
  have HB := hid hB
  by_cases hlen : L1.length = L2.length
  · obtain ⟨n, hn⟩ : ∃ n, n = L1.length := ⟨_, rfl⟩
    rw [← hlen, ← hn] at hc2
    rw [← hn] at hc1
    have hself : (((n : Nat) : Int) != ((n : Nat) : Int)) = false := by simp
    by_cases hn0 : n = 0
    · have HC : Hid (cmpN (nv L1) (nv L2) = 0) := cmpN_eq (by rw [hA.zero_iff.1 (by omega), hB.zero_iff.1 (by omega)])
      subst hn0
      clear hA hB hlen hn hself
      go_enter Try.func90, Try.ntmps90
      go_wp2
      go_quiet (fail)
      go_wp2
      go_loop [5] (fun i => i = .int .i64 (-1)) (fun _ => 0)
      case atStart => rfl
      case round =>
        subst hrel
        go_wp2
        go_ret
        exact ⟨ret_int HC.out.symm, (Still.refl w).drewN _⟩
    · rcases hA.own.form with ⟨h0, _⟩ | ⟨g1, cap1, hv1, _⟩
      · rw [h0] at hn; simp at hn; omega
      · rcases hB.own.form with ⟨h0, _⟩ | ⟨g2, cap2, hv2, _⟩
        · rw [h0] at hlen; simp at hlen; rw [hlen] at hn; simp at hn; omega
        · rw [← hn] at hv1
          rw [← hlen, ← hn] at hv2
          simp only [Value.slice.injEq] at hv1 hv2
          obtain ⟨rfl, _, rfl⟩ := hv1
          obtain ⟨rfl, _, rfl⟩ := hv2
          have HN1 : Hid (L1.length = n) := hn.symm
          have HN2 : Hid (L2.length = n) := by unfold Hid; rw [← hlen]; exact hn.symm
          have hn9 : n ≤ 90000 := by omega
          rw [HN1.out] at HA
          rw [HN2.out] at HB
          have hcap1 : n ≤ c1 ∧ c1 ≤ 9223372036854775807 := by
            rcases HA.out.own.form with ⟨h0, _⟩ | ⟨_, _, hv, _, _, h3, h4⟩
            · rw [h0] at HN1; have := HN1.out; simp at this; omega
            · simp only [Value.slice.injEq] at hv; unfold maxLen at h4; have := HN1.out; omega
          have hcap2 : n ≤ c2 ∧ c2 ≤ 9223372036854775807 := by
            rcases HB.out.own.form with ⟨h0, _⟩ | ⟨_, _, hv, _, _, h3, h4⟩
            · rw [h0] at HN2; have := HN2.out; simp at this; omega
            · simp only [Value.slice.injEq] at hv; unfold maxLen at h4; have := HN2.out; omega
          clear hA hB hlen hn hl1 _hl2
          go_enter Try.func90, Try.ntmps90
          go_wp2
          go_quiet (fail)
          go_wp2
          have hst := (Still.refl w).drewN nq
          have hc1' := (hst.cell _).trans hc1
          have hc2' := (hst.cell _).trans hc2
          have HST := hid hst
          clear hc1 hc2 hst
          generalize w.drewN nq = w1 at *
          go_wp2
          go_loopw [5] (fun ii wr => ∃ k : Nat, k ≤ n ∧ ii = .int .i64 ((k : Int) - 1) ∧ Hid (L1.drop k = L2.drop k) ∧ Still w wr) (fun ii _ => (intOf ii + 1).toNat)
          case atStart => exact ⟨n, Nat.le_refl _, rfl, by unfold Hid; rw [List.drop_eq_nil_of_le (by rw [HN1.out]; exact Nat.le_refl _), List.drop_eq_nil_of_le (by rw [HN2.out]; exact Nat.le_refl _)], HST.out⟩
          case round =>
            clear hc1' hc2' HST
            obtain ⟨k, hk, rfl, HD, hst⟩ := hrel
            by_cases hpos : 0 < k
            · obtain ⟨j, rfl⟩ : ∃ j, k = j + 1 := ⟨k - 1, by omega⟩
              rw [show ((j + 1 : Nat) : Int) - 1 = (j : Int) from by omega]
              have hA1 := hst.natAt HA.out
              have hB1 := hst.natAt HB.out
              have d1 := hA1.cell
              have d2 := hB1.cell
              obtain ⟨x, hx⟩ : ∃ x, x = L1.getD j 0 := ⟨_, rfl⟩
              obtain ⟨y, hy⟩ : ∃ y, y = L2.getD j 0 := ⟨_, rfl⟩
              have cx : wr.cell? ⟨g1, j, none⟩ = some (.int .i64 x) := by rw [hA1.own.cell HN1.out j (by omega), hx]
              have cy : wr.cell? ⟨g2, j, none⟩ = some (.int .i64 y) := by rw [hB1.own.cell HN2.out j (by omega), hy]
              have j0 : (0 : Int) ≤ (j : Int) := by omega
              have j1 : (j : Int) < (n : Int) := by omega
              have HX := hid (And.intro hx hy)
              have HST := hid hst
              clear hx hy hA1 hB1 hst
              by_cases hxy : x = y
              · have hb : (((x : Nat) : Int) != ((y : Nat) : Int)) = false := by simp [hxy]
                have HXY := hid hxy
                clear hxy
                go_wp2
                go_quiet (fail)
                go_wp2
                go_roundw
                case rel => exact ⟨j, by omega, rfl, drop_eq_step (by rw [HN1.out]; omega) (by rw [HN2.out]; omega) HD.out (by rw [← HX.out.1, ← HX.out.2]; exact HXY.out), HST.out.drewN _⟩
                case measure => simp [intOf]
              · have hb : (((x : Nat) : Int) != ((y : Nat) : Int)) = true := by simp; omega
                have HC : Hid ((if (x : Int) < (y : Int) then (-1 : Int) else if (x : Int) = (y : Int) then 0 else 1) = cmpN (nv L1) (nv L2)) := by
                  unfold Hid
                  by_cases hlt : x < y
                  · rw [if_pos (by omega), cmpN_lt (nv_at_lt HA.out.lim (by rw [HN1.out]; omega) (by rw [HN2.out]; omega) HD.out (by rw [← HX.out.1, ← HX.out.2]; exact hlt))]
                  · rw [if_neg (by omega), if_neg (by omega), cmpN_gt (nv_at_lt HB.out.lim (by rw [HN2.out]; omega) (by rw [HN1.out]; omega) HD.out.symm (by rw [← HX.out.1, ← HX.out.2]; omega))]
                obtain ⟨V, hV⟩ : ∃ V, V = (if (x : Int) < (y : Int) then (-1 : Int) else if (x : Int) = (y : Int) then 0 else 1) := ⟨_, rfl⟩
                have hord : ∀ W, Calls Try.prog 95 #[.int .i64 (x : Int), .int .i64 (y : Int)] W fun e w' => e = .returned (.int .i64 V) ∧ w' = W := fun W => by rw [hV]; exact order_any _ _ W
                rw [← hV] at HC
                have HORD := hid hord
                clear hV hord hxy
                go_wp2
                go_quiet (fail)
                go_wp2
                have hst2 := (Still.refl wr).drewN nq
                have d1' := (hst2.cell _).trans d1
                have d2' := (hst2.cell _).trans d2
                have cx' := (hst2.cell _).trans cx
                have cy' := (hst2.cell _).trans cy
                have HST2 := hid (HST.out.trans hst2)
                clear d1 d2 cx cy hst2
                generalize wr.drewN nq = w2 at *
                go_quiet ((go_at_call 95; exact Calls.quiet_of_same (HORD.out _)))
                go_wp2
                go_ret
                exact ⟨ret_int HC.out, HST2.out.drewN _⟩
            · have hk0 : k = 0 := by omega
              subst hk0
              have HC : Hid (cmpN (nv L1) (nv L2) = 0) := cmpN_eq (by have := HD.out; simp at this; rw [this])
              clear HD
              go_wp2
              go_ret
              exact ⟨ret_int HC.out.symm, hst⟩
  · have hbn : (((L1.length : Nat) : Int) != ((L2.length : Nat) : Int)) = true := by simp; omega
    have HC : Hid ((if (L1.length : Int) < (L2.length : Int) then (-1 : Int) else if (L1.length : Int) = (L2.length : Int) then 0 else 1) = cmpN (nv L1) (nv L2)) := by
      unfold Hid
      by_cases hlt : L1.length < L2.length
      · rw [if_pos (by omega), cmpN_lt (nv_len_lt hA.lim hB.nrm hlt)]
      · rw [if_neg (by omega), if_neg (by omega), cmpN_gt (nv_len_lt hB.lim hA.nrm (by omega))]
    obtain ⟨n1, hn1⟩ : ∃ n1, n1 = L1.length := ⟨_, rfl⟩
    obtain ⟨n2, hn2⟩ : ∃ n2, n2 = L2.length := ⟨_, rfl⟩
    rw [← hn1] at hc1 hbn HC hl1
    rw [← hn2] at hc2 hbn HC _hl2
    clear hA hB hlen hn1 hn2
    go_enter Try.func90, Try.ntmps90
    go_wp2
    go_quiet (fail)
    go_wp2
    have hst := (Still.refl w).drewN nq
    have hc1' := (hst.cell _).trans hc1
    have hc2' := (hst.cell _).trans hc2
    have HST := hid hst
    clear hc1 hc2 hst
    generalize w.drewN nq = w1 at *
    obtain ⟨V, hV⟩ : ∃ V, V = (if (n1 : Int) < (n2 : Int) then (-1 : Int) else if (n1 : Int) = (n2 : Int) then 0 else 1) := ⟨_, rfl⟩
    have hord : ∀ W, Calls Try.prog 95 #[.int .i64 (n1 : Int), .int .i64 (n2 : Int)] W fun e w' => e = .returned (.int .i64 V) ∧ w' = W := fun W => by rw [hV]; exact order_any _ _ W
    rw [← hV] at HC
    have HORD := hid hord
    clear hV hord
    go_quiet ((go_at_call 95; exact Calls.quiet_of_same (HORD.out _)))
    go_wp2
    go_ret
    exact ⟨ret_int HC.out, HST.out.drewN _⟩

end Go.Proofs.Ytbkdaoicnobllaa

namespace Go.Proofs.Ytbkdaoicnobllaa
open Go.RowKit

/-- How many bits a number has. -/
def IsLen (n bl : Nat) : Prop := (n = 0 ∧ bl = 0) ∨ (0 < bl ∧ 2 ^ (bl - 1) ≤ n ∧ n < 2 ^ bl)
theorem len_top {L : List Nat} {x j : Nat} (hl : Lim L) (hp : 0 < L.length) (hx : x = L.getD (L.length - 1) 0) (hj : 0 < j) (h1 : 2 ^ (j - 1) ≤ x) (h2 : x < 2 ^ j) : IsLen (nv L) (30 * (L.length - 1) + j) := by
  have e : L.take (L.length - 1 + 1) = L := List.take_of_length_le (by omega)
  have hs := nv_take_any L (L.length - 1)
  rw [e, ← hx] at hs
  have a := nv_lt (hl.take (L.length - 1))
  rw [List.length_take, Nat.min_eq_left (by omega)] at a
  rw [pow30] at hs a
  refine .inr ⟨by omega, ?_, ?_⟩
  · rw [hs, show 30 * (L.length - 1) + j - 1 = 30 * (L.length - 1) + (j - 1) from by omega, Nat.pow_add]
    exact Nat.le_trans (Nat.mul_le_mul_left _ h1) (Nat.le_add_left _ _)
  · rw [hs, Nat.pow_add]
    have : 2 ^ (30 * (L.length - 1)) * (x + 1) ≤ 2 ^ (30 * (L.length - 1)) * 2 ^ j := Nat.mul_le_mul_left _ h2
    rw [Nat.mul_add, Nat.mul_one] at this
    omega

set_option maxRecDepth 100000 in
set_option maxHeartbeats 1000000 in
theorem bitLength_any (b : Nat) (v : Value) (L : List Nat) (w : World) (h : NatAt w b v L) (hlen : L.length ≤ 90000) :
    Calls Try.prog 88 #[.pointer (some ⟨b, 0, none⟩)] w fun e w' => Still w w' ∧ ∃ bl : Nat, e = .returned (.int .i64 bl) ∧ IsLen (nv L) bl ∧ bl ≤ 30 * L.length := by
  have hc := h.cell
  have HH := hid h
  rcases h.own.form with ⟨h0, hv⟩ | ⟨g, cap, hv, _, _, hc1, hc2⟩
  · subst hv h0
    clear h
    go_enter Try.func88, Try.ntmps88
    go_wp2
    go_ret
    exact ⟨Still.refl w, 0, rfl, .inl ⟨rfl, rfl⟩, Nat.zero_le _⟩
  · obtain ⟨n, hn⟩ : ∃ n, n = L.length := ⟨_, rfl⟩
    subst hv
    unfold maxLen at hc2
    rw [← hn] at hc hc1 hlen
    by_cases hn0 : n = 0
    · have hz := h.zero_iff.1 (by omega)
      have HZ := hid hz
      subst hn0
      clear h hn hz
      go_enter Try.func88, Try.ntmps88
      go_wp2
      go_ret
      exact ⟨Still.refl w, 0, rfl, .inl ⟨HZ.out, rfl⟩, Nat.zero_le _⟩
    · have hb0 : ((n : Int) == 0) = false := by rw [beq_eq_false_iff_ne]; omega
      obtain ⟨x, hx⟩ : ∃ x, x = L.getD (n - 1) 0 := ⟨_, rfl⟩
      have cx : w.cell? ⟨g, n - 1, none⟩ = some (.int .i64 x) := by rw [hx]; exact (hn ▸ h.own : Own w 0 (.slice (some ⟨g, 0, none⟩) n cap) L).cell hn.symm (n - 1) (by omega)
      have hxp : x ≠ 0 := by rw [hx, hn]; exact h.nrm (by omega)
      have hx30 : x < 1073741824 := by rw [hx]; exact h.lim.getD _
      have HX := hid hx
      have HN := hid hn
      have i0 : (0 : Int) ≤ (n : Int) - 1 := by omega
      have i1 : (n : Int) - 1 < (n : Int) := by omega
      clear h hn hx
      go_enter Try.func88, Try.ntmps88
      go_wp2
      go_quiet (fail)
      go_wp2
      go_loop [3, 4] (fun ll tt => ∃ j t : Nat, ll = .int .i64 (((n : Int) - 1) * 30 + j) ∧ tt = .int .i64 t ∧ j ≤ 30 ∧ t ≤ x ∧ Hid (t = x / 2 ^ j) ∧ Hid (j = 0 ∨ 2 ^ (j - 1) ≤ x)) (fun _ tt => (intOf tt).toNat)
      case atStart => exact ⟨0, x, by simp, rfl, by omega, Nat.le_refl _, by simp [Hid], .inl rfl⟩
      case round =>
        obtain ⟨j, t, rfl, rfl, hj, htx, HT, HJ⟩ := hrel
        by_cases hpos : 0 < t
        · have hle : 2 ^ j ≤ x := by
            have := HT.out
            apply Nat.le_of_not_lt; intro hlt
            rw [Nat.div_eq_of_lt hlt] at this; omega
          have hj30 : j < 30 := by
            apply Nat.lt_of_not_le; intro hge
            have : 2 ^ 30 ≤ 2 ^ j := Nat.pow_le_pow_right (by omega) hge
            omega
          have HLE := hid hle
          clear hle
          go_wp2
          go_round
          case rel => exact ⟨j + 1, t / 2, by go_num, by go_num, by omega, by omega, by unfold Hid; rw [HT.out, Nat.pow_succ, Nat.div_div_eq_div_mul], .inr HLE.out⟩
          case measure => simp [intOf]; omega
        · have ht0 : t = 0 := by omega
          subst ht0
          have hlt : x < 2 ^ j := by
            have := HT.out
            rcases (Nat.div_eq_zero_iff).1 this.symm with h | h
            · have : 0 < 2 ^ j := Nat.pow_pos (by omega); omega
            · exact h
          have hj0 : 0 < j := by
            apply Nat.pos_of_ne_zero; intro h0; rw [h0] at hlt; simp at hlt; omega
          have hjl : 2 ^ (j - 1) ≤ x := by
            rcases HJ.out with h | h
            · omega
            · exact h
          have HLT := hid (And.intro hlt (And.intro hj0 hjl))
          clear hlt hj0 hjl
          go_wp2
          go_ret
          refine ⟨(Still.refl w).drewN _, 30 * (n - 1) + j, ret_int ?_, ?_, ?_⟩
          · show ((n : Int) - 1) * 30 + j = _; omega
          · have hnn := HN.out
            have := len_top (L := L) (x := x) (j := j) HH.out.lim (by omega) (by rw [← hnn]; exact HX.out) HLT.out.2.1 HLT.out.2.2 HLT.out.1
            rw [← hnn] at this
            exact this
          · have hnn := HN.out; omega

end Go.Proofs.Ytbkdaoicnobllaa

namespace Go.Proofs.Ytbkdaoicnobllaa
open Go.RowKit

theorem below_turn {B : Nat} {w wr w1 : World} {S : Nat → Prop} (hb : Below B w wr) (ht : Turn S wr w1) (hs : ∀ k, S k → B ≤ k) (hB : B ≤ wr.heap.size) : Below B w w1 :=
  hb.trans ⟨ht.os, ht.tape, ht.output, ht.size, fun k hk => ht.block k (Nat.lt_of_lt_of_le hk hB) (fun h => by have := hs k h; omega)⟩
/-- A Nat in blocks from B on, with the number V. -/
def NewNat (B : Nat) (w : World) (b : Nat) (V len : Nat) : Prop := ∃ v L, NatAt w b v L ∧ nv L = V ∧ L.length ≤ len ∧ B ≤ b ∧ ∀ g, v.ownBlock = some g → B ≤ g
theorem NewNat.post {B : Nat} {w0 w w1 : World} {b : Nat} {v : Value} {V len : Nat} (hb : Below B w0 w) (hB : B ≤ w.heap.size) (hbb : B ≤ b) (hv : ∀ g, v.ownBlock = some g → B ≤ g) (hp : NatPost w w1 b v V len) : NewNat B w1 b V len ∧ Below B w0 w1 := by
  obtain ⟨v', L', h1, h2, h3, h4, h5⟩ := hp
  refine ⟨⟨v', L', h1, h2, h3, hbb, fun g hg => ?_⟩, below_turn hb h4 (fun k hk => (by
    rcases hk with rfl | hk
    · exact hbb
    · exact hv k hk)) hB⟩
  rcases h5 with h5 | ⟨g', h5, hg'⟩
  · exact hv g (by rw [← h5]; exact hg)
  · rw [h5] at hg; cases hg; omega

end Go.Proofs.Ytbkdaoicnobllaa

namespace Go.Proofs.Ytbkdaoicnobllaa
open Go.RowKit

/-- The number of a row of digits of base B. -/
def numB (B : Nat) (D : List Nat) : Nat := D.foldl (fun a d => a * B + d) 0
theorem numB_snoc (B : Nat) (D : List Nat) (d : Nat) : numB B (D ++ [d]) = numB B D * B + d := by simp [numB]
set_option maxRecDepth 100000 in
set_option maxHeartbeats 1000000 in
theorem fromDigits10 (bd off cap n : Nat) (D : List Nat) (w : World) (hn : D.length = n) (hlen : n ≤ 1000) (_hcap : n ≤ cap) (_hc2 : cap ≤ maxLen) (_hbd : bd < w.heap.size) (hce : ∀ j, j < n → w.cell? ⟨bd, off + j, none⟩ = some (.int .i64 (D.getD j 0 : Nat))) (hdg : ∀ d, d ∈ D → d < 10) :
    Calls Try.prog 79 #[.slice (some ⟨bd, off, none⟩) n cap, .int .i64 10] w fun e w' => e = .returned (.pointer (some ⟨w.heap.size, 0, none⟩)) ∧ NewNat w.heap.size w' w.heap.size (numB 10 D) (n + 1) ∧ Below w.heap.size w w' := by
  have HN := hid hn
  have HC : Hid (∀ j, j < n → w.cell? ⟨bd, off + j, none⟩ = some (.int .i64 (D.getD j 0 : Nat))) := hce
  have HD := hid hdg
  unfold maxLen at _hc2
  clear hn hce hdg
  go_enter Try.func79, Try.ntmps79
  go_wp2
  go_loopw [6, 7, 14] (fun gg ss ii wr => ∃ i sc gr : Nat, gg = .int .i64 gr ∧ ss = .int .i64 sc ∧ ii = .int .i64 i ∧ i ≤ n ∧ gr < sc ∧ 1 ≤ sc ∧ sc < 1073741824 ∧ Below w.heap.size w wr ∧ w.heap.size < wr.heap.size ∧
      ∃ v L, NatAt wr w.heap.size v L ∧ L.length ≤ i ∧ (∀ g, v.ownBlock = some g → w.heap.size ≤ g) ∧ Hid (nv L * sc + gr = numB 10 (D.take i))) (fun _ _ ii _ => n - (intOf ii).toNat)
  case atStart =>
    refine ⟨0, 1, 0, rfl, rfl, rfl, Nat.zero_le _, by omega, by omega, by omega, (Below.refl _ _).alloc (Nat.le_refl _) _, by simp, .slice none 0 0, [], ⟨by simp [go_sem], by simp [go_sem], Own.nil _ _, by simp [Value.ownBlock], fun x hx => by simp at hx, fun h => by simp at h⟩, by simp, fun g hg => by simp [Value.ownBlock] at hg, by simp [Hid, nv, numB]⟩
  case round =>
    obtain ⟨i, sc, gr, rfl, rfl, rfl, hin, hgs, hs1, hs2, hb, hws, v, L, hN, hl, hv, HE⟩ := hrel
    by_cases hlt : i < n
    · obtain ⟨x, hx⟩ : ∃ x, x = D.getD i 0 := ⟨_, rfl⟩
      have hxb : x < 10 := by
        rw [hx, List.getD_eq_getElem?_getD, List.getElem?_eq_getElem (by rw [HN.out]; exact hlt)]
        exact HD.out _ (List.getElem_mem _)
      have cx : wr.cell? ⟨bd, off + i, none⟩ = some (.int .i64 x) := by rw [hx]; exact keep_cell' hb (HC.out i hlt)
      have hsn : Hid (numB 10 (D.take (i + 1)) = numB 10 (D.take i) * 10 + x) := by unfold Hid; rw [take_succ_getD D i (by rw [HN.out]; exact hlt), numB_snoc, ← hx]
      clear hx
      have HBG := hid (And.intro hgs (And.intro hs1 hs2))
      have i1 : (sc : Int) ≤ 1073741823 := by omega
      have i2 : (gr : Int) ≤ 1073741823 := by omega
      by_cases hbig : 1073741824 ≤ sc * 10
      · have hx2 := mulAdd_any w.heap.size sc gr v L wr hN (by omega) hs2 (by omega)
        have HX2 := hid hx2
        have HV := hid hv
        have HBB := hid hbig
        have t1 : decide ((1073741824 : Int) ≤ (sc : Int) * 10) = true := by simp; omega
        clear hN hv hx2 hbig hgs hs1 hs2
        go_wp2_with fail
        refine HX2.out.mono ?_
        rintro e w1 ⟨rfl, hp1⟩
        obtain ⟨⟨v1, L1, g1, g2, g3, g4, g5⟩, hb1⟩ := NewNat.post hb (Nat.le_of_lt hws) (Nat.le_refl _) HV.out hp1
        have hsz := hb1.size
        have hws1 := World.block_lt_of_cell? w1 _ g1.cell
        have HST := hid (And.intro g1 (And.intro g2 g5))
        clear hp1 g1 g2 g5 g4 hb HX2 cx
        go_wp2
        go_roundw
        case rel =>
          exact ⟨i + 1, 10, x, by go_num, rfl, by go_num, by omega, hxb, by omega, by omega, hb1, hws1, v1, L1, HST.out.1, by omega, HST.out.2.2, by unfold Hid; rw [HST.out.2.1, HE.out, hsn.out]⟩
        case measure => simp [intOf]; omega
      · have HST := hid (And.intro hN hv)
        have HBB := hid hbig
        have t1 : decide ((1073741824 : Int) ≤ (sc : Int) * 10) = false := by simp; omega
        clear hN hv hbig hgs hs1 hs2
        go_wp2
        go_roundw
        case rel =>
          have h0 := HBG.out
          have h9 := HBB.out
          exact ⟨i + 1, sc * 10, gr * 10 + x, by go_num, by go_num, by go_num, by omega, by omega, by omega, by omega, hb, hws, v, L, HST.out.1, by omega, HST.out.2, by unfold Hid; rw [hsn.out, ← HE.out]; grind⟩
        case measure => simp [intOf]; omega
    · have hin2 : i = n := by omega
      subst hin2
      have HX2 := hid (mulAdd_any w.heap.size sc gr v L wr hN (by omega) hs2 (by omega))
      have HV := hid hv
      have i1 : (sc : Int) ≤ 1073741823 := by omega
      have i2 : (gr : Int) ≤ 1073741823 := by omega
      clear hN hv hgs hs1 hs2
      go_wp2_with fail
      refine HX2.out.mono ?_
      rintro e w1 ⟨rfl, hp1⟩
      obtain ⟨h1, hb1⟩ := NewNat.post hb (Nat.le_of_lt hws) (Nat.le_refl _) HV.out hp1
      have hfin : Hid (NewNat w.heap.size w1 w.heap.size (numB 10 D) (i + 1)) := by
        obtain ⟨v1, L1, q1, q2, q3, q4⟩ := h1
        have he := HE.out
        rw [take_eq_self HN.out] at he
        exact ⟨v1, L1, q1, q2.trans he, by omega, q4⟩
      clear hp1 h1 hb HX2
      go_wp2
      go_ret
      exact ⟨rfl, hfin.out, hb1⟩

set_option maxRecDepth 100000 in
set_option maxHeartbeats 1000000 in
theorem fromDigits16 (bd off cap n : Nat) (D : List Nat) (w : World) (hn : D.length = n) (hlen : n ≤ 1000) (_hcap : n ≤ cap) (_hc2 : cap ≤ maxLen) (_hbd : bd < w.heap.size) (hce : ∀ j, j < n → w.cell? ⟨bd, off + j, none⟩ = some (.int .i64 (D.getD j 0 : Nat))) (hdg : ∀ d, d ∈ D → d < 16) :
    Calls Try.prog 79 #[.slice (some ⟨bd, off, none⟩) n cap, .int .i64 16] w fun e w' => e = .returned (.pointer (some ⟨w.heap.size, 0, none⟩)) ∧ NewNat w.heap.size w' w.heap.size (numB 16 D) (n + 1) ∧ Below w.heap.size w w' := by
  have HN := hid hn
  have HC : Hid (∀ j, j < n → w.cell? ⟨bd, off + j, none⟩ = some (.int .i64 (D.getD j 0 : Nat))) := hce
  have HD := hid hdg
  unfold maxLen at _hc2
  clear hn hce hdg
  go_enter Try.func79, Try.ntmps79
  go_wp2
  go_loopw [6, 7, 14] (fun gg ss ii wr => ∃ i sc gr : Nat, gg = .int .i64 gr ∧ ss = .int .i64 sc ∧ ii = .int .i64 i ∧ i ≤ n ∧ gr < sc ∧ 1 ≤ sc ∧ sc < 1073741824 ∧ Below w.heap.size w wr ∧ w.heap.size < wr.heap.size ∧
      ∃ v L, NatAt wr w.heap.size v L ∧ L.length ≤ i ∧ (∀ g, v.ownBlock = some g → w.heap.size ≤ g) ∧ Hid (nv L * sc + gr = numB 16 (D.take i))) (fun _ _ ii _ => n - (intOf ii).toNat)
  case atStart =>
    refine ⟨0, 1, 0, rfl, rfl, rfl, Nat.zero_le _, by omega, by omega, by omega, (Below.refl _ _).alloc (Nat.le_refl _) _, by simp, .slice none 0 0, [], ⟨by simp [go_sem], by simp [go_sem], Own.nil _ _, by simp [Value.ownBlock], fun x hx => by simp at hx, fun h => by simp at h⟩, by simp, fun g hg => by simp [Value.ownBlock] at hg, by simp [Hid, nv, numB]⟩
  case round =>
    obtain ⟨i, sc, gr, rfl, rfl, rfl, hin, hgs, hs1, hs2, hb, hws, v, L, hN, hl, hv, HE⟩ := hrel
    by_cases hlt : i < n
    · obtain ⟨x, hx⟩ : ∃ x, x = D.getD i 0 := ⟨_, rfl⟩
      have hxb : x < 16 := by
        rw [hx, List.getD_eq_getElem?_getD, List.getElem?_eq_getElem (by rw [HN.out]; exact hlt)]
        exact HD.out _ (List.getElem_mem _)
      have cx : wr.cell? ⟨bd, off + i, none⟩ = some (.int .i64 x) := by rw [hx]; exact keep_cell' hb (HC.out i hlt)
      have hsn : Hid (numB 16 (D.take (i + 1)) = numB 16 (D.take i) * 16 + x) := by unfold Hid; rw [take_succ_getD D i (by rw [HN.out]; exact hlt), numB_snoc, ← hx]
      clear hx
      have HBG := hid (And.intro hgs (And.intro hs1 hs2))
      have i1 : (sc : Int) ≤ 1073741823 := by omega
      have i2 : (gr : Int) ≤ 1073741823 := by omega
      by_cases hbig : 1073741824 ≤ sc * 16
      · have hx2 := mulAdd_any w.heap.size sc gr v L wr hN (by omega) hs2 (by omega)
        have HX2 := hid hx2
        have HV := hid hv
        have HBB := hid hbig
        have t1 : decide ((1073741824 : Int) ≤ (sc : Int) * 16) = true := by simp; omega
        clear hN hv hx2 hbig hgs hs1 hs2
        go_wp2_with fail
        refine HX2.out.mono ?_
        rintro e w1 ⟨rfl, hp1⟩
        obtain ⟨⟨v1, L1, g1, g2, g3, g4, g5⟩, hb1⟩ := NewNat.post hb (Nat.le_of_lt hws) (Nat.le_refl _) HV.out hp1
        have hsz := hb1.size
        have hws1 := World.block_lt_of_cell? w1 _ g1.cell
        have HST := hid (And.intro g1 (And.intro g2 g5))
        clear hp1 g1 g2 g5 g4 hb HX2 cx
        go_wp2
        go_roundw
        case rel =>
          exact ⟨i + 1, 16, x, by go_num, rfl, by go_num, by omega, hxb, by omega, by omega, hb1, hws1, v1, L1, HST.out.1, by omega, HST.out.2.2, by unfold Hid; rw [HST.out.2.1, HE.out, hsn.out]⟩
        case measure => simp [intOf]; omega
      · have HST := hid (And.intro hN hv)
        have HBB := hid hbig
        have t1 : decide ((1073741824 : Int) ≤ (sc : Int) * 16) = false := by simp; omega
        clear hN hv hbig hgs hs1 hs2
        go_wp2
        go_roundw
        case rel =>
          have h0 := HBG.out
          have h9 := HBB.out
          exact ⟨i + 1, sc * 16, gr * 16 + x, by go_num, by go_num, by go_num, by omega, by omega, by omega, by omega, hb, hws, v, L, HST.out.1, by omega, HST.out.2, by unfold Hid; rw [hsn.out, ← HE.out]; grind⟩
        case measure => simp [intOf]; omega
    · have hin2 : i = n := by omega
      subst hin2
      have HX2 := hid (mulAdd_any w.heap.size sc gr v L wr hN (by omega) hs2 (by omega))
      have HV := hid hv
      have i1 : (sc : Int) ≤ 1073741823 := by omega
      have i2 : (gr : Int) ≤ 1073741823 := by omega
      clear hN hv hgs hs1 hs2
      go_wp2_with fail
      refine HX2.out.mono ?_
      rintro e w1 ⟨rfl, hp1⟩
      obtain ⟨h1, hb1⟩ := NewNat.post hb (Nat.le_of_lt hws) (Nat.le_refl _) HV.out hp1
      have hfin : Hid (NewNat w.heap.size w1 w.heap.size (numB 16 D) (i + 1)) := by
        obtain ⟨v1, L1, q1, q2, q3, q4⟩ := h1
        have he := HE.out
        rw [take_eq_self HN.out] at he
        exact ⟨v1, L1, q1, q2.trans he, by omega, q4⟩
      clear hp1 h1 hb HX2
      go_wp2
      go_ret
      exact ⟨rfl, hfin.out, hb1⟩

end Go.Proofs.Ytbkdaoicnobllaa
