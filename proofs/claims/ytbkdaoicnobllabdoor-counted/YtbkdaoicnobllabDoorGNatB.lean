import Derived.Test.YtbkdaoicnobllabDoorGNatA

namespace Go.Proofs.YtbkdaoicnobllabDoor
open Go.RowKit

theorem NatPost.refl {w : World} {b : Nat} {v : Value} {L : List Nat} (h : NatAt w b v L) : NatPost w w b v (nv L) L.length := ⟨v, L, h, rfl, Nat.le_refl _, Turn.refl _ _, .inl rfl⟩
/-- One operation behind another. -/
theorem NatPost.chain {w w1 w2 : World} {b : Nat} {v v1 : Value} {V V2 len len2 : Nat} {L1 : List Nat} (_h : NatAt w1 b v1 L1) (ht : Turn (Foot b v) w w1) (hv : v1.ownBlock = v.ownBlock ∨ ∃ g, v1.ownBlock = some g ∧ w.heap.size ≤ g) (h2 : NatPost w1 w2 b v1 V len) (hV : V = V2) (hl : len ≤ len2) : NatPost w w2 b v V2 len2 :=
  (h2.after ht hv).widen hV hl

set_option maxRecDepth 100000 in
set_option maxHeartbeats 1000000 in
theorem mulFive_any (b p : Nat) (v : Value) (L : List Nat) (w : World) (h : NatAt w b v L) (hlen : L.length ≤ 40000) (hp : p ≤ 40000) :
    Calls Tryd.prog 48 #[.pointer (some ⟨b, 0, none⟩), .int .i64 p] w fun e w' => e = .returned (.tuple #[]) ∧ NatPost w w' b v (nv L * 5 ^ p) (L.length + p) := by
  have HH := hid (NatPost.refl h)
  clear h
  go_enter Tryd.func48, Tryd.ntmps48
  go_wp2
  go_loopw [1] (fun q wr => ∃ k : Nat, k ≤ p ∧ q = .int .i64 k ∧ NatPost w wr b v (nv L * 5 ^ (p - k)) (L.length + (p - k))) (fun q _ => (intOf q).toNat)
  case atStart => exact ⟨p, Nat.le_refl _, rfl, HH.out.widen (by simp) (by omega)⟩
  case round =>
    obtain ⟨k, hk, rfl, hpost⟩ := hrel
    by_cases hge : 12 ≤ k
    · obtain ⟨v1, L1, hN, hV, hl1, ht, hv⟩ := hpost
      have hx := mulAdd_any b 244140625 0 v1 L1 wr hN (by omega) (by omega) (by omega)
      rw [show ((244140625 : Nat) : Int) = 244140625 from rfl, show ((0 : Nat) : Int) = 0 from rfl] at hx
      have HS := hid (And.intro hN (And.intro hV (And.intro ht hv)))
      clear hN hV ht hv
      go_wp2_with fail
      refine hx.mono ?_
      rintro e w1 ⟨rfl, hp1⟩
      have hfin := hid (NatPost.chain (V2 := nv L * 5 ^ (p - (k - 12))) (len2 := L.length + (p - (k - 12))) HS.out.1 HS.out.2.2.1 HS.out.2.2.2 hp1 (by rw [HS.out.2.1, Nat.add_zero, show p - (k - 12) = p - k + 12 from by omega, Nat.pow_add, ← Nat.mul_assoc]) (by omega))
      clear hp1 hx
      go_wp2
      go_roundw
      case rel => exact ⟨k - 12, by omega, by go_num, hfin.out⟩
      case measure => simp [intOf]; omega
    · have HP := hid hpost
      clear hpost
      go_wp2
      go_loopw [1] (fun q wr => ∃ k : Nat, k ≤ p ∧ q = .int .i64 k ∧ NatPost w wr b v (nv L * 5 ^ (p - k)) (L.length + (p - k))) (fun q _ => (intOf q).toNat)
      case atStart => exact ⟨k, hk, rfl, HP.out⟩
      case round =>
        clear hge HP
        obtain ⟨k, hk, rfl, hpost⟩ := hrel
        by_cases hge : 0 < k
        · obtain ⟨v1, L1, hN, hV, hl1, ht, hv⟩ := hpost
          have hx := mulAdd_any b 5 0 v1 L1 wr hN (by omega) (by omega) (by omega)
          rw [show ((5 : Nat) : Int) = 5 from rfl, show ((0 : Nat) : Int) = 0 from rfl] at hx
          have HS := hid (And.intro hN (And.intro hV (And.intro ht hv)))
          clear hN hV ht hv
          go_wp2_with fail
          refine hx.mono ?_
          rintro e w1 ⟨rfl, hp1⟩
          have hfin := hid (NatPost.chain (V2 := nv L * 5 ^ (p - (k - 1))) (len2 := L.length + (p - (k - 1))) HS.out.1 HS.out.2.2.1 HS.out.2.2.2 hp1 (by rw [HS.out.2.1, Nat.add_zero, show p - (k - 1) = p - k + 1 from by omega, Nat.pow_succ, ← Nat.mul_assoc]) (by omega))
          clear hp1 hx
          go_wp2
          go_roundw
          case rel => exact ⟨k - 1, by omega, by go_num, hfin.out⟩
          case measure => simp [intOf]; omega
        · have hk0 : k = 0 := by omega
          subst hk0
          have HP := hid hpost
          clear hpost
          go_wp2
          go_end0
          exact ⟨rfl, HP.out⟩

theorem nv_zeros (c : Nat) (L : List Nat) : nv (List.replicate c 0 ++ L) = 1073741824 ^ c * nv L := by
  induction c with
  | zero => simp
  | succ c ih => rw [List.replicate_succ, List.cons_append, nv, ih, Nat.pow_succ]; grind

set_option maxRecDepth 100000 in
set_option maxHeartbeats 1000000 in
theorem shiftLimbs_zero (b : Nat) (c : Int) (w : World) (hc : c ≤ 0) :
    Calls Tryd.prog 57 #[.pointer (some ⟨b, 0, none⟩), .int .i64 c] w fun e w' => e = .returned (.tuple #[]) ∧ w' = w := by
  go_enter Tryd.func57, Tryd.ntmps57
  go_wp2
  exact bodyPost_ret (v := .tuple #[]) (by simp [results, Tryd.results57]) rfl ⟨rfl, rfl⟩

theorem shift_set (c i n : Nat) (L : List Nat) (hn : L.length = n) (hi : i < n) : (List.replicate c 0 ++ (L.take i ++ List.replicate (n - i) 0)).set (c + i) (L.getD i 0) = List.replicate c 0 ++ (L.take (i + 1) ++ List.replicate (n - (i + 1)) 0) := by
  obtain ⟨m, hm⟩ : ∃ m, n - i = m + 1 := ⟨n - i - 1, by omega⟩
  rw [List.set_append_right _ _ (by simp), List.length_replicate, Nat.add_sub_cancel_left, List.set_append_right _ _ (by simp; omega), List.length_take, Nat.min_eq_left (by omega), Nat.sub_self, hm, List.replicate_succ, List.set_cons_zero, take_succ_getD L i (by omega), show n - (i + 1) = m from by omega]
  simp

set_option maxRecDepth 100000 in
set_option maxHeartbeats 1000000 in
theorem shiftLimbs_pos (b g cap n c : Nat) (L : List Nat) (w : World) (h : NatAt w b (.slice (some ⟨g, 0, none⟩) n cap) L) (hn : L.length = n) (hlen : n ≤ 40000) (hcp : 0 < c) (hc2 : c ≤ 40000) (hn0 : 0 < n) :
    Calls Tryd.prog 57 #[.pointer (some ⟨b, 0, none⟩), .int .i64 c] w fun e w' => e = .returned (.tuple #[]) ∧ NatPost w w' b (.slice (some ⟨g, 0, none⟩) n cap) (nv L * 1073741824 ^ c) (n + c) := by
  have hcb := h.cell
  have hfb := h.frozen
  have HH := hid h
  have HN := hid hn
  obtain ⟨i0, hi, hz0, hz1, hz2⟩ := info_parts Tryd.info_int
  have hbl : b < w.heap.size := World.block_lt_of_cell? w _ hcb
  clear h hn
  go_enter Tryd.func57, Tryd.ntmps57
  go_wp2_with (at_make; refine wpList_make_full _ rfl (.tmp 16) (.tmp 16) 66 rfl 0 3 i0 (.int .i64 0) 1 Tryd.underlying66 hi hz0 hz1 .i64 .i64 _ _ (c + n) rfl rfl ?hL ?hC ?b2 ?b3 ?b4 ?_)
  case hL => show (c : Int) + n = _; omega
  case hC => show (c : Int) + n = _; omega
  case b2 => rw [hz2]; omega
  case b3 => unfold maxLen; omega
  case b4 => omega
  intro w1 hown0 hgrow
  have hown : Own w1 0 (.slice (some ⟨w.heap.size, 0, none⟩) (c + n) (c + n)) (List.replicate (c + n) 0) := by
    unfold Own; rw [List.length_replicate, ← ints_replicate, ← toList_madeCells_one, ← Nat.mul_one (c + n)]
    simpa using hown0
  have hb1 : Below w.heap.size w w1 := (Below.refl _ _).grown hgrow (Nat.le_refl _) (fun k hk => by cases hk)
  clear hown0 hgrow
  go_wp2
  go_loopw [20] (fun ii wr => ∃ i : Nat, ii = .int .i64 i ∧ i ≤ n ∧ Own wr 0 (.slice (some ⟨w.heap.size, 0, none⟩) (c + n) (c + n)) (List.replicate c 0 ++ (L.take i ++ List.replicate (n - i) 0)) ∧ Below w.heap.size w wr) (fun ii _ => n - (intOf ii).toNat)
  case atStart => exact ⟨0, rfl, Nat.zero_le _, by rw [List.take_zero, List.nil_append, List.replicate_append_replicate]; exact hown, hb1⟩
  case round =>
    clear hown hb1
    obtain ⟨i, rfl, hin, hown, hb⟩ := hrel
    have hsz := hb.size
    have hlenM : (List.replicate c 0 ++ (L.take i ++ List.replicate (n - i) 0)).length = c + n := by simp [HN.out]; omega
    by_cases hlt : i < n
    · obtain ⟨x, hx⟩ : ∃ x, x = L.getD i 0 := ⟨_, rfl⟩
      have cx : wr.cell? ⟨g, i, none⟩ = some (.int .i64 x) := by
        rw [keep_cell' hb (HH.out.own.cell HN.out i hlt), hx]
      have cy := hown.cell hlenM (c + i) (by omega)
      have fy := hown.frozen hlenM (c + i)
      have hown2 := hown.store hlenM (c + i) x
      rw [hx, shift_set c i n L HN.out hlt, ← hx] at hown2
      have HO2 := hid hown2
      have hb2 := hid (hb.setCell (p := ⟨w.heap.size, c + i, none⟩) (by show w.heap.size ≤ w.heap.size; omega) (.int .i64 (x : Nat)))
      have HX := hid hx
      have hgb : g < wr.heap.size := World.block_lt_of_cell? wr _ cx
      have hgw : ¬ g = w.heap.size := by have := World.block_lt_of_cell? w _ (HH.out.own.cell HN.out i hlt); simp at this; omega
      clear hx hown hown2 hb hlenM
      go_wp2
      go_roundw
      case rel => exact ⟨i + 1, by go_num, by omega, HO2.out, hb2.out⟩
      case measure => simp [intOf]; omega
    · have hin2 : i = n := by omega
      subst hin2
      have hcb1 := keep_cell' hb hcb
      have hfb1 : wr.frozen? ⟨b, 0, none⟩ = false := (hb.frozen (p := ⟨b, 0, none⟩) hbl).trans hfb
      rw [Nat.sub_self, List.replicate_zero, List.append_nil, take_eq_self HN.out] at hown
      have hst := hid (NatAt.mk_set (w := wr) hcb1 hfb1 hown (by simp [Value.ownBlock]; omega) (fun x hx => by
        rcases List.mem_append.1 hx with hx | hx
        · rw [List.eq_of_mem_replicate hx]; omega
        · exact HH.out.lim x hx) (fun _ => by
        rw [List.length_append, List.length_replicate, HN.out, List.getD_eq_getElem?_getD, List.getElem?_append_right (by simp; omega), List.length_replicate, show c + i - 1 - c = i - 1 from by omega, ← List.getD_eq_getElem?_getD, ← HN.out]
        exact HH.out.nrm (by rw [HN.out]; exact hn0)))
      have ht := hid (((Turn.refl (Foot b (.slice (some ⟨g, 0, none⟩) i cap)) w).below hb).setCell ⟨b, 0, none⟩ (.slice (some ⟨w.heap.size, 0, none⟩) (c + i) (c + i)) (.inl rfl))
      clear hown hb hlenM
      go_wp2
      go_end0
      exact ⟨rfl, _, _, hst.out, by rw [nv_zeros, Nat.mul_comm], by simp [HN.out]; omega, ht.out, .inr ⟨w.heap.size, rfl, Nat.le_refl _⟩⟩

end Go.Proofs.YtbkdaoicnobllabDoor

namespace Go.Proofs.YtbkdaoicnobllabDoor
open Go.RowKit

theorem nv_pos {L : List Nat} (h : 0 < L.length) (hn : L.getD (L.length - 1) 0 ≠ 0) : 0 < nv L := by
  have e : L.take (L.length - 1 + 1) = L := List.take_of_length_le (by omega)
  have := nv_take_succ L (L.length - 1) (by omega)
  rw [e] at this
  rw [this]
  exact Nat.lt_of_lt_of_le (Nat.mul_pos (Nat.pow_pos (by omega)) (Nat.pos_of_ne_zero hn)) (Nat.le_add_left _ _)
theorem NatAt.zero_iff {w : World} {b : Nat} {v : Value} {L : List Nat} (h : NatAt w b v L) : L.length = 0 ↔ nv L = 0 := by
  constructor
  · intro h0; rw [List.length_eq_zero_iff.1 h0]; rfl
  · intro h0
    apply Nat.eq_zero_of_not_pos; intro hp
    have := nv_pos hp (h.nrm hp); omega
theorem pow30 (a : Nat) : 1073741824 ^ a = 2 ^ (30 * a) := by rw [Nat.pow_mul]

set_option maxRecDepth 100000 in
set_option maxHeartbeats 1000000 in
theorem shift_any (b : Nat) (p : Int) (v : Value) (L : List Nat) (w : World) (h : NatAt w b v L) (hlen : L.length ≤ 30000) (hp : p ≤ 30000) :
    Calls Tryd.prog 46 #[.pointer (some ⟨b, 0, none⟩), .int .i64 p] w fun e w' => e = .returned (.tuple #[]) ∧ NatPost w w' b v (nv L * 2 ^ p.toNat) (L.length + 1 + p.toNat) := by
  obtain ⟨ao, cap, hv⟩ := h.own.row.isSlice
  by_cases hp0 : p ≤ 0
  · have HF := hid ((NatPost.refl h).widen (V2 := nv L * 2 ^ p.toNat) (len2 := L.length + 1 + p.toNat) (by rw [show p.toNat = 0 from by omega]; simp) (by omega))
    clear h hv
    go_enter Tryd.func46, Tryd.ntmps46
    go_wp2
    exact bodyPost_ret (v := .tuple #[]) (by simp [results, Tryd.results46]) rfl ⟨rfl, HF.out⟩
  · obtain ⟨q, hq⟩ := Int.eq_ofNat_of_zero_le (show 0 ≤ p by omega)
    subst hq
    rw [Int.toNat_natCast]
    have hd0 : decide ((q : Int) ≤ 0) = false := decide_eq_false hp0
    by_cases hL : L.length = 0
    · have hz := h.zero_iff.1 hL
      have HF := hid ((NatPost.refl h).widen (V2 := nv L * 2 ^ q) (len2 := L.length + 1 + q) (by rw [hz]; simp) (by omega))
      have hc := h.cell
      rw [hv, hL] at hc
      clear h hv hL hz hlen
      go_enter Tryd.func46, Tryd.ntmps46
      go_wp2
      exact bodyPost_ret (v := .tuple #[]) (by simp [results, Tryd.results46]) rfl ⟨rfl, HF.out⟩
    · have hc := h.cell
      rw [hv] at hc
      have hn0 : ((L.length : Int) == 0) = false := by rw [beq_eq_false_iff_ne]; omega
      have HH := hid h
      have hp1 : (0 : Int) < q := by omega
      clear h hp0
      go_enter Tryd.func46, Tryd.ntmps46
      go_wp2
      go_loop [5, 6] (fun ff ii => ∃ i F : Nat, ii = .int .i64 i ∧ (i : Int) ≤ (q : Int) % 30 ∧ ff = .int .i64 F ∧ F ≤ 536870912 ∧ Hid (F = 2 ^ i)) (fun _ ii => 30 - (intOf ii).toNat)
      case atStart => exact ⟨0, 1, rfl, by omega, rfl, by omega, rfl⟩
      case round =>
        obtain ⟨i, F, rfl, hi, rfl, hF, HF⟩ := hrel
        by_cases hlt : (i : Int) < (q : Int) % 30
        · have hF2 : F ≤ 268435456 := by
            rw [HF.out]; exact Nat.le_trans (Nat.pow_le_pow_right (by omega) (show i ≤ 28 by omega)) (by decide)
          go_wp2
          go_round
          case rel => exact ⟨i + 1, F * 2, by go_num, by omega, by go_num, by omega, by unfold Hid; rw [HF.out, Nat.pow_succ]⟩
          case measure => simp [intOf]; omega
        · have hiq : i = q % 30 := by omega
          have HIQ := hid hiq
          clear hiq
          go_wp2_with fail
          have hx := mulAdd_any b F 0 v L w HH.out (by omega) (by omega) (by omega)
          rw [show ((0 : Nat) : Int) = 0 from rfl] at hx
          refine hx.mono ?_
          rintro e w1 ⟨rfl, v1, L1, hN1, hV1, hl1, ht1, hv1⟩
          have hpos1 : 0 < L1.length := by
            apply Nat.pos_of_ne_zero; intro h0
            have h2 := hN1.zero_iff.1 h0
            rw [hV1] at h2
            have h3 := nv_pos (by omega) (HH.out.nrm (by omega))
            have h4 : 0 < F := by rw [HF.out]; exact Nat.pow_pos (by omega)
            have := Nat.mul_pos h3 h4; omega
          have HS := hid (And.intro hN1 (And.intro hV1 (And.intro ht1 hv1)))
          by_cases hq30 : q / 30 = 0
          · have hfin := hid (NatPost.chain (V2 := nv L * 2 ^ q) (len2 := L.length + 1 + q) HS.out.1 HS.out.2.2.1 HS.out.2.2.2 (NatPost.refl HS.out.1) (by rw [HS.out.2.1, HF.out, HIQ.out, Nat.add_zero, show q % 30 = q from by omega]) (by omega))
            clear hx hN1 hV1 ht1 hv1 hc
            go_wp2_with fail
            refine (shiftLimbs_zero b _ _ (by omega)).mono ?_
            rintro e w2 ⟨rfl, rfl⟩
            go_wp2
            go_end0
            exact ⟨rfl, hfin.out⟩
          · rcases hN1.own.form with ⟨h0, _⟩ | ⟨g1, cap1, hvv, _⟩
            · rw [h0] at hpos1; simp at hpos1
            · subst hvv
              have hsl := shiftLimbs_pos b g1 cap1 L1.length (q / 30) L1 w1 hN1 rfl (by omega) (by omega) (by omega) hpos1
              clear hx hN1 hV1 ht1 hv1 hc
              go_wp2_with fail
              rw [show (q : Int) / 30 = ((q / 30 : Nat) : Int) from by omega]
              refine hsl.mono ?_
              rintro e w2 ⟨rfl, hp2⟩
              have hfin := hid (NatPost.chain (V2 := nv L * 2 ^ q) (len2 := L.length + 1 + q) HS.out.1 HS.out.2.2.1 HS.out.2.2.2 hp2 (by
                rw [HS.out.2.1, HF.out, HIQ.out, Nat.add_zero, pow30, Nat.mul_assoc, ← Nat.pow_add]; congr 2; omega) (by omega))
              clear hp2 hsl
              go_wp2
              go_end0
              exact ⟨rfl, hfin.out⟩

end Go.Proofs.YtbkdaoicnobllabDoor

namespace Go.Proofs.YtbkdaoicnobllabDoor
open Go.RowKit

theorem nv_take_any (L : List Nat) (i : Nat) : nv (L.take (i + 1)) = nv (L.take i) + 1073741824 ^ i * L.getD i 0 := by
  by_cases h : i < L.length
  · exact nv_take_succ L i h
  · rw [List.take_of_length_le (by omega), List.take_of_length_le (by omega), List.getD_eq_getElem?_getD, List.getElem?_eq_none (by omega)]; simp
/-- A limb's step of a difference. -/
theorem sub_step (L1 L2 M : List Nat) (i o y o' : Nat) (hi : i < M.length) (h : nv (M.take i) + nv (L2.take i) = nv (L1.take i) + o * 1073741824 ^ i) (hy : y + L2.getD i 0 + o = L1.getD i 0 + o' * 1073741824) :
    nv ((M.set i y).take (i + 1)) + nv (L2.take (i + 1)) = nv (L1.take (i + 1)) + o' * 1073741824 ^ (i + 1) := by
  have e1 : (M.set i y).take i = M.take i := by rw [List.take_set]; exact List.set_eq_of_length_le (by rw [List.length_take]; omega)
  rw [nv_take_any, e1, getD_set M i i _ hi, if_pos rfl, nv_take_any, nv_take_any, Nat.pow_succ]
  generalize 1073741824 ^ i = P at *
  generalize L2.getD i 0 = a at *
  generalize L1.getD i 0 = c at *
  have h2 : P * y + P * a + P * o = P * c + o' * (P * 1073741824) := by
    have : P * (y + a + o) = P * (c + o' * 1073741824) := by rw [hy]
    grind
  have h3 : o * P = P * o := Nat.mul_comm _ _
  omega
theorem sub_end {L1 L2 M : List Nat} {o n : Nat} (hM : M.length = n) (h1 : L1.length = n) (h2 : L2.length ≤ n) (hl : Lim M) (hle : nv L2 ≤ nv L1) (h : nv (M.take n) + nv (L2.take n) = nv (L1.take n) + o * 1073741824 ^ n) : nv M = nv L1 - nv L2 := by
  rw [take_eq_self hM, take_eq_self h1, List.take_of_length_le h2] at h
  have h3 := nv_lt hl
  rw [hM] at h3
  cases o with
  | zero => omega
  | succ o => rw [Nat.succ_mul] at h; omega
theorem len_le_of_nv {L1 L2 : List Nat} (h1 : Lim L1) (h2 : 0 < L2.length → L2.getD (L2.length - 1) 0 ≠ 0) (hle : nv L2 ≤ nv L1) : L2.length ≤ L1.length := by
  apply Nat.le_of_not_lt; intro hlt
  have hp : 0 < L2.length := by omega
  have a := nv_lt h1
  have b : 1073741824 ^ (L2.length - 1) ≤ nv L2 := by
    have e : L2.take (L2.length - 1 + 1) = L2 := List.take_of_length_le (by omega)
    have := nv_take_any L2 (L2.length - 1)
    rw [e] at this
    rw [this]
    have h3 := h2 hp
    have : 1073741824 ^ (L2.length - 1) * 1 ≤ 1073741824 ^ (L2.length - 1) * L2.getD (L2.length - 1) 0 := Nat.mul_le_mul_left _ (by omega)
    omega
  have c : 1073741824 ^ L1.length ≤ 1073741824 ^ (L2.length - 1) := Nat.pow_le_pow_right (by omega) (by omega)
  omega
/-- Two Nats that share no block. -/
def Apart (b1 : Nat) (v1 : Value) (b2 : Nat) (v2 : Value) : Prop := ∀ k, Foot b1 v1 k → ¬ Foot b2 v2 k

end Go.Proofs.YtbkdaoicnobllabDoor

namespace Go.Proofs.YtbkdaoicnobllabDoor
open Go.RowKit

/-- Only draws. -/
structure Still (w w' : World) : Prop where
  drew : ∃ m, w' = w.drewN m
theorem Still.heap {w w' : World} (h : Still w w') : w'.heap = w.heap := by obtain ⟨m, rfl⟩ := h.drew; rfl
theorem Still.os {w w' : World} (h : Still w w') : w'.os = w.os := by obtain ⟨m, rfl⟩ := h.drew; rfl
theorem Still.tape {w w' : World} (h : Still w w') : w'.tape = w.tape := by obtain ⟨m, rfl⟩ := h.drew; rfl
theorem Still.output {w w' : World} (h : Still w w') : w'.output = w.output := by obtain ⟨m, rfl⟩ := h.drew; rfl
theorem Still.refl (w : World) : Still w w := ⟨0, rfl⟩
theorem Still.drewN {w w1 : World} (h : Still w w1) (n : Nat) : Still w (w1.drewN n) := by
  obtain ⟨m, rfl⟩ := h.drew
  exact ⟨_, World.drewN_drewN ..⟩
theorem Still.trans {w w1 w2 : World} (h : Still w w1) (k : Still w1 w2) : Still w w2 := by
  obtain ⟨m, rfl⟩ := k.drew
  exact h.drewN m
theorem Still.below {w w1 : World} (h : Still w w1) (B : Nat) : Below B w w1 := ⟨h.os, h.tape, h.output, by rw [h.heap]; exact Nat.le_refl _, fun k _ => by rw [h.heap]⟩
theorem Still.cell {w w1 : World} (h : Still w w1) (a : Addr) : w1.cell? a = w.cell? a := World.cell?_of_block (by rw [h.heap])
theorem Still.turn {w w1 : World} (h : Still w w1) (S : Nat → Prop) : Turn S w w1 := ⟨h.os, h.tape, h.output, by rw [h.heap]; exact Nat.le_refl _, fun k _ _ => by rw [h.heap]⟩
theorem Still.natAt {w w1 : World} (h : Still w w1) {b : Nat} {v : Value} {L : List Nat} (hn : NatAt w b v L) : NatAt w1 b v L := hn.turn (h.turn (fun _ => False)) (fun _ _ h => h)

theorem nv_len_lt {L1 L2 : List Nat} (h1 : Lim L1) (h2 : 0 < L2.length → L2.getD (L2.length - 1) 0 ≠ 0) (h : L1.length < L2.length) : nv L1 < nv L2 := by
  apply Nat.lt_of_not_le; intro hle
  have := len_le_of_nv h1 h2 hle; omega
theorem nv_split (L : List Nat) (i : Nat) (hi : i ≤ L.length) : nv L = nv (L.take i) + 1073741824 ^ i * nv (L.drop i) := by
  conv => lhs; rw [← List.take_append_drop i L]
  rw [nv_append, List.length_take, Nat.min_eq_left hi]
theorem nv_at_lt {L1 L2 : List Nat} {i : Nat} (hl1 : Lim L1) (hi1 : i < L1.length) (hi2 : i < L2.length) (hd : L1.drop (i + 1) = L2.drop (i + 1)) (h : L1.getD i 0 < L2.getD i 0) : nv L1 < nv L2 := by
  rw [nv_split L1 (i + 1) (by omega), nv_split L2 (i + 1) (by omega), hd, nv_take_any, nv_take_any]
  have a := nv_lt (hl1.take i)
  rw [List.length_take, Nat.min_eq_left (by omega)] at a
  have b : 1073741824 ^ i * (L1.getD i 0 + 1) ≤ 1073741824 ^ i * L2.getD i 0 := Nat.mul_le_mul_left _ h
  rw [Nat.mul_add, Nat.mul_one] at b
  omega
theorem drop_eq_step {L1 L2 : List Nat} {i : Nat} (hi1 : i < L1.length) (hi2 : i < L2.length) (hd : L1.drop (i + 1) = L2.drop (i + 1)) (h : L1.getD i 0 = L2.getD i 0) : L1.drop i = L2.drop i := by
  rw [List.drop_eq_getElem_cons hi1, List.drop_eq_getElem_cons hi2, hd]
  rw [List.getD_eq_getElem?_getD, List.getElem?_eq_getElem hi1, List.getD_eq_getElem?_getD, List.getElem?_eq_getElem hi2] at h
  have h2 : L1[i] = L2[i] := by simpa using h
  rw [h2]

end Go.Proofs.YtbkdaoicnobllabDoor
