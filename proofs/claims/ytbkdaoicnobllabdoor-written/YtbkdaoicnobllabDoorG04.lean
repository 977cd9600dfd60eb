import Derived.Test.YtbkdaoicnobllabDoorG03
import Derived.Test.YtbkdaoicnobllabDoorG01
import Derived.Test.YtbkdaoicnobllabDoorG02
import Derived.Test.YtbkdaoicnobllabDoorShelf

namespace Go.Proofs.YtbkdaoicnobllabDoor
open Go.RowKit

theorem NatPost.refl {w : World} {b : Nat} {v : Value} {L : List Nat} (h : NatAt w b v L) : NatPost w w b v (nv L) L.length := ⟨v, L, h, rfl, Nat.le_refl _, Turn.refl _ _, .inl rfl⟩
/-- One operation behind another. -/
theorem NatPost.chain {w w1 w2 : World} {b : Nat} {v v1 : Value} {V V2 len len2 : Nat} {L1 : List Nat} (_h : NatAt w1 b v1 L1) (ht : Turn (Foot b v) w w1) (hv : v1.ownBlock = v.ownBlock ∨ ∃ g, v1.ownBlock = some g ∧ w.heap.size ≤ g) (h2 : NatPost w1 w2 b v1 V len) (hV : V = V2) (hl : len ≤ len2) : NatPost w w2 b v V2 len2 :=
  (h2.after ht hv).widen hV hl

set_option maxRecDepth 100000 in
set_option maxHeartbeats 1000000 in
theorem mulFive_any (b p : Nat) (v : Value) (L : List Nat) (w : World) (h : NatAt w b v L) (hlen : L.length ≤ 40000) (hp : p ≤ 40000) :
    Calls Tryd.prog 48 #[.pointer (some ⟨b, 0, none⟩), .int .i64 p] w fun e w' => e = .returned (.tuple #[]) ∧ NatPost w w' b v (nv L * 5 ^ p) (L.length + p) := by
  have HH := hid (NatPost.refl h)
  clear h
  go_enter Tryd.func48, Tryd.ntmps48
  go_wp2
  go_loopw [1] (fun q wr => ∃ k : Nat, k ≤ p ∧ q = .int .i64 k ∧ NatPost w wr b v (nv L * 5 ^ (p - k)) (L.length + (p - k))) (fun q _ => (intOf q).toNat)
  case atStart => exact ⟨p, Nat.le_refl _, rfl, HH.out.widen (by simp) (by omega)⟩
  case round =>
    obtain ⟨k, hk, rfl, hpost⟩ := hrel
    by_cases hge : 12 ≤ k
    · obtain ⟨v1, L1, hN, hV, hl1, ht, hv⟩ := hpost
      have hx := mulAdd_any b 244140625 0 v1 L1 wr hN (by omega) (by omega) (by omega)
      rw [show ((244140625 : Nat) : Int) = 244140625 from rfl, show ((0 : Nat) : Int) = 0 from rfl] at hx
      have HS := hid (And.intro hN (And.intro hV (And.intro ht hv)))
      clear hN hV ht hv
      go_wp2_with fail
      refine hx.mono ?_
      rintro e w1 ⟨rfl, hp1⟩
      have hfin := hid (NatPost.chain (V2 := nv L * 5 ^ (p - (k - 12))) (len2 := L.length + (p - (k - 12))) HS.out.1 HS.out.2.2.1 HS.out.2.2.2 hp1 (by rw [HS.out.2.1, Nat.add_zero, show p - (k - 12) = p - k + 12 from by omega, Nat.pow_add, ← Nat.mul_assoc]) (by omega))
      clear hp1 hx
      go_wp2
      go_roundw
      case rel => exact ⟨k - 12, by omega, by go_num, hfin.out⟩
      case measure => simp [intOf]; omega
    · have HP := hid hpost
      clear hpost
      go_wp2
      go_loopw [1] (fun q wr => ∃ k : Nat, k ≤ p ∧ q = .int .i64 k ∧ NatPost w wr b v (nv L * 5 ^ (p - k)) (L.length + (p - k))) (fun q _ => (intOf q).toNat)
      case atStart => exact ⟨k, hk, rfl, HP.out⟩
      case round =>
        clear hge HP
        obtain ⟨k, hk, rfl, hpost⟩ := hrel
        by_cases hge : 0 < k
        · obtain ⟨v1, L1, hN, hV, hl1, ht, hv⟩ := hpost
          have hx := mulAdd_any b 5 0 v1 L1 wr hN (by omega) (by omega) (by omega)
          rw [show ((5 : Nat) : Int) = 5 from rfl, show ((0 : Nat) : Int) = 0 from rfl] at hx
          have HS := hid (And.intro hN (And.intro hV (And.intro ht hv)))
          clear hN hV ht hv
          go_wp2_with fail
          refine hx.mono ?_
          rintro e w1 ⟨rfl, hp1⟩
          have hfin := hid (NatPost.chain (V2 := nv L * 5 ^ (p - (k - 1))) (len2 := L.length + (p - (k - 1))) HS.out.1 HS.out.2.2.1 HS.out.2.2.2 hp1 (by rw [HS.out.2.1, Nat.add_zero, show p - (k - 1) = p - k + 1 from by omega, Nat.pow_succ, ← Nat.mul_assoc]) (by omega))
          clear hp1 hx
          go_wp2
          go_roundw
          case rel => exact ⟨k - 1, by omega, by go_num, hfin.out⟩
          case measure => simp [intOf]; omega
        · have hk0 : k = 0 := by omega
          subst hk0
          have HP := hid hpost
          clear hpost
          go_wp2
          go_end0
          exact ⟨rfl, HP.out⟩

theorem nv_zeros (c : Nat) (L : List Nat) : nv (List.replicate c 0 ++ L) = 1073741824 ^ c * nv L := by
  induction c with
  | zero => simp
  | succ c ih => rw [List.replicate_succ, List.cons_append, nv, ih, Nat.pow_succ]; grind

set_option maxRecDepth 100000 in
set_option maxHeartbeats 1000000 in
theorem shiftLimbs_zero (b : Nat) (c : Int) (w : World) (hc : c ≤ 0) :
    Calls Tryd.prog 57 #[.pointer (some ⟨b, 0, none⟩), .int .i64 c] w fun e w' => e = .returned (.tuple #[]) ∧ w' = w := by
  go_enter Tryd.func57, Tryd.ntmps57
  go_wp2
  exact bodyPost_ret (v := .tuple #[]) (by simp [results, Tryd.results57]) rfl ⟨rfl, rfl⟩

theorem shift_set (c i n : Nat) (L : List Nat) (hn : L.length = n) (hi : i < n) : (List.replicate c 0 ++ (L.take i ++ List.replicate (n - i) 0)).set (c + i) (L.getD i 0) = List.replicate c 0 ++ (L.take (i + 1) ++ List.replicate (n - (i + 1)) 0) := by
  obtain ⟨m, hm⟩ : ∃ m, n - i = m + 1 := ⟨n - i - 1, by omega⟩
  rw [List.set_append_right _ _ (by simp), List.length_replicate, Nat.add_sub_cancel_left, List.set_append_right _ _ (by simp; omega), List.length_take, Nat.min_eq_left (by omega), Nat.sub_self, hm, List.replicate_succ, List.set_cons_zero, take_succ_getD L i (by omega), show n - (i + 1) = m from by omega]
  simp

set_option maxRecDepth 100000 in
set_option maxHeartbeats 1000000 in
theorem shiftLimbs_pos (b g cap n c : Nat) (L : List Nat) (w : World) (h : NatAt w b (.slice (some ⟨g, 0, none⟩) n cap) L) (hn : L.length = n) (hlen : n ≤ 40000) (hcp : 0 < c) (hc2 : c ≤ 40000) (hn0 : 0 < n) :
    Calls Tryd.prog 57 #[.pointer (some ⟨b, 0, none⟩), .int .i64 c] w fun e w' => e = .returned (.tuple #[]) ∧ NatPost w w' b (.slice (some ⟨g, 0, none⟩) n cap) (nv L * 1073741824 ^ c) (n + c) := by
  have hcb := h.cell
  have hfb := h.frozen
  have HH := hid h
  have HN := hid hn
  obtain ⟨i0, hi, hz0, hz1, hz2⟩ := info_parts Tryd.info_int
  have hbl : b < w.heap.size := World.block_lt_of_cell? w _ hcb
  clear h hn
  go_enter Tryd.func57, Tryd.ntmps57
  go_wp2_with (at_make; refine wpList_make_full _ rfl (.tmp 16) (.tmp 16) 66 rfl 0 3 i0 (.int .i64 0) 1 Tryd.underlying66 hi hz0 hz1 .i64 .i64 _ _ (c + n) rfl rfl ?hL ?hC ?b2 ?b3 ?b4 ?_)
  case hL => show (c : Int) + n = _; omega
  case hC => show (c : Int) + n = _; omega
  case b2 => rw [hz2]; omega
  case b3 => unfold maxLen; omega
  case b4 => omega
  intro w1 hown0 hgrow
  have hown : Own w1 0 (.slice (some ⟨w.heap.size, 0, none⟩) (c + n) (c + n)) (List.replicate (c + n) 0) := by
    unfold Own; rw [List.length_replicate, ← ints_replicate, ← toList_madeCells_one, ← Nat.mul_one (c + n)]
    simpa using hown0
  have hb1 : Below w.heap.size w w1 := (Below.refl _ _).grown hgrow (Nat.le_refl _) (fun k hk => by cases hk)
  clear hown0 hgrow
  go_wp2
  go_loopw [20] (fun ii wr => ∃ i : Nat, ii = .int .i64 i ∧ i ≤ n ∧ Own wr 0 (.slice (some ⟨w.heap.size, 0, none⟩) (c + n) (c + n)) (List.replicate c 0 ++ (L.take i ++ List.replicate (n - i) 0)) ∧ Below w.heap.size w wr) (fun ii _ => n - (intOf ii).toNat)
  case atStart => exact ⟨0, rfl, Nat.zero_le _, by rw [List.take_zero, List.nil_append, List.replicate_append_replicate]; exact hown, hb1⟩
  case round =>
    clear hown hb1
    obtain ⟨i, rfl, hin, hown, hb⟩ := hrel
    have hsz := hb.size
    have hlenM : (List.replicate c 0 ++ (L.take i ++ List.replicate (n - i) 0)).length = c + n := by simp [HN.out]; omega
    by_cases hlt : i < n
    · obtain ⟨x, hx⟩ : ∃ x, x = L.getD i 0 := ⟨_, rfl⟩
      have cx : wr.cell? ⟨g, i, none⟩ = some (.int .i64 x) := by
        rw [keep_cell' hb (HH.out.own.cell HN.out i hlt), hx]
      have cy := hown.cell hlenM (c + i) (by omega)
      have fy := hown.frozen hlenM (c + i)
      have hown2 := hown.store hlenM (c + i) x
      rw [hx, shift_set c i n L HN.out hlt, ← hx] at hown2
      have HO2 := hid hown2
      have hb2 := hid (hb.setCell (p := ⟨w.heap.size, c + i, none⟩) (by show w.heap.size ≤ w.heap.size; omega) (.int .i64 (x : Nat)))
      have HX := hid hx
      have hgb : g < wr.heap.size := World.block_lt_of_cell? wr _ cx
      have hgw : ¬ g = w.heap.size := by have := World.block_lt_of_cell? w _ (HH.out.own.cell HN.out i hlt); simp at this; omega
      clear hx hown hown2 hb hlenM
      go_wp2
      go_roundw
      case rel => exact ⟨i + 1, by go_num, by omega, HO2.out, hb2.out⟩
      case measure => simp [intOf]; omega
    · have hin2 : i = n := by omega
      subst hin2
      have hcb1 := keep_cell' hb hcb
      have hfb1 : wr.frozen? ⟨b, 0, none⟩ = false := (hb.frozen (p := ⟨b, 0, none⟩) hbl).trans hfb
      rw [Nat.sub_self, List.replicate_zero, List.append_nil, take_eq_self HN.out] at hown
      have hst := hid (NatAt.mk_set (w := wr) hcb1 hfb1 hown (by simp [Value.ownBlock]; omega) (fun x hx => by
        rcases List.mem_append.1 hx with hx | hx
        · rw [List.eq_of_mem_replicate hx]; omega
        · exact HH.out.lim x hx) (fun _ => by
        rw [List.length_append, List.length_replicate, HN.out, List.getD_eq_getElem?_getD, List.getElem?_append_right (by simp; omega), List.length_replicate, show c + i - 1 - c = i - 1 from by omega, ← List.getD_eq_getElem?_getD, ← HN.out]
        exact HH.out.nrm (by rw [HN.out]; exact hn0)))
      have ht := hid (((Turn.refl (Foot b (.slice (some ⟨g, 0, none⟩) i cap)) w).below hb).setCell ⟨b, 0, none⟩ (.slice (some ⟨w.heap.size, 0, none⟩) (c + i) (c + i)) (.inl rfl))
      clear hown hb hlenM
      go_wp2
      go_end0
      exact ⟨rfl, _, _, hst.out, by rw [nv_zeros, Nat.mul_comm], by simp [HN.out]; omega, ht.out, .inr ⟨w.heap.size, rfl, Nat.le_refl _⟩⟩

end Go.Proofs.YtbkdaoicnobllabDoor

namespace Go.Proofs.YtbkdaoicnobllabDoor
open Go.RowKit

theorem nv_pos {L : List Nat} (h : 0 < L.length) (hn : L.getD (L.length - 1) 0 ≠ 0) : 0 < nv L := by
  have e : L.take (L.length - 1 + 1) = L := List.take_of_length_le (by omega)
  have := nv_take_succ L (L.length - 1) (by omega)
  rw [e] at this
  rw [this]
  exact Nat.lt_of_lt_of_le (Nat.mul_pos (Nat.pow_pos (by omega)) (Nat.pos_of_ne_zero hn)) (Nat.le_add_left _ _)
theorem NatAt.zero_iff {w : World} {b : Nat} {v : Value} {L : List Nat} (h : NatAt w b v L) : L.length = 0 ↔ nv L = 0 := by
  constructor
  · intro h0; rw [List.length_eq_zero_iff.1 h0]; rfl
  · intro h0
    apply Nat.eq_zero_of_not_pos; intro hp
    have := nv_pos hp (h.nrm hp); omega
theorem pow30 (a : Nat) : 1073741824 ^ a = 2 ^ (30 * a) := by rw [Nat.pow_mul]

set_option maxRecDepth 100000 in
set_option maxHeartbeats 1000000 in
theorem shift_any (b : Nat) (p : Int) (v : Value) (L : List Nat) (w : World) (h : NatAt w b v L) (hlen : L.length ≤ 30000) (hp : p ≤ 30000) :
    Calls Tryd.prog 46 #[.pointer (some ⟨b, 0, none⟩), .int .i64 p] w fun e w' => e = .returned (.tuple #[]) ∧ NatPost w w' b v (nv L * 2 ^ p.toNat) (L.length + 1 + p.toNat) := by
  obtain ⟨ao, cap, hv⟩ := h.own.row.isSlice
  by_cases hp0 : p ≤ 0
  · have HF := hid ((NatPost.refl h).widen (V2 := nv L * 2 ^ p.toNat) (len2 := L.length + 1 + p.toNat) (by rw [show p.toNat = 0 from by omega]; simp) (by omega))
    clear h hv
    go_enter Tryd.func46, Tryd.ntmps46
    go_wp2
    exact bodyPost_ret (v := .tuple #[]) (by simp [results, Tryd.results46]) rfl ⟨rfl, HF.out⟩
  · obtain ⟨q, hq⟩ := Int.eq_ofNat_of_zero_le (show 0 ≤ p by omega)
    subst hq
    rw [Int.toNat_natCast]
    have hd0 : decide ((q : Int) ≤ 0) = false := decide_eq_false hp0
    by_cases hL : L.length = 0
    · have hz := h.zero_iff.1 hL
      have HF := hid ((NatPost.refl h).widen (V2 := nv L * 2 ^ q) (len2 := L.length + 1 + q) (by rw [hz]; simp) (by omega))
      have hc := h.cell
      rw [hv, hL] at hc
      clear h hv hL hz hlen
      go_enter Tryd.func46, Tryd.ntmps46
      go_wp2
      exact bodyPost_ret (v := .tuple #[]) (by simp [results, Tryd.results46]) rfl ⟨rfl, HF.out⟩
    · have hc := h.cell
      rw [hv] at hc
      have hn0 : ((L.length : Int) == 0) = false := by rw [beq_eq_false_iff_ne]; omega
      have HH := hid h
      have hp1 : (0 : Int) < q := by omega
      clear h hp0
      go_enter Tryd.func46, Tryd.ntmps46
      go_wp2
      go_loop [5, 6] (fun ff ii => ∃ i F : Nat, ii = .int .i64 i ∧ (i : Int) ≤ (q : Int) % 30 ∧ ff = .int .i64 F ∧ F ≤ 536870912 ∧ Hid (F = 2 ^ i)) (fun _ ii => 30 - (intOf ii).toNat)
      case atStart => exact ⟨0, 1, rfl, by omega, rfl, by omega, rfl⟩
      case round =>
        obtain ⟨i, F, rfl, hi, rfl, hF, HF⟩ := hrel
        by_cases hlt : (i : Int) < (q : Int) % 30
        · have hF2 : F ≤ 268435456 := by
            rw [HF.out]; exact Nat.le_trans (Nat.pow_le_pow_right (by omega) (show i ≤ 28 by omega)) (by decide)
          go_wp2
          go_round
          case rel => exact ⟨i + 1, F * 2, by go_num, by omega, by go_num, by omega, by unfold Hid; rw [HF.out, Nat.pow_succ]⟩
          case measure => simp [intOf]; omega
        · have hiq : i = q % 30 := by omega
          have HIQ := hid hiq
          clear hiq
          go_wp2_with fail
          have hx := mulAdd_any b F 0 v L w HH.out (by omega) (by omega) (by omega)
          rw [show ((0 : Nat) : Int) = 0 from rfl] at hx
          refine hx.mono ?_
          rintro e w1 ⟨rfl, v1, L1, hN1, hV1, hl1, ht1, hv1⟩
          have hpos1 : 0 < L1.length := by
            apply Nat.pos_of_ne_zero; intro h0
            have h2 := hN1.zero_iff.1 h0
            rw [hV1] at h2
            have h3 := nv_pos (by omega) (HH.out.nrm (by omega))
            have h4 : 0 < F := by rw [HF.out]; exact Nat.pow_pos (by omega)
            have := Nat.mul_pos h3 h4; omega
          have HS := hid (And.intro hN1 (And.intro hV1 (And.intro ht1 hv1)))
          by_cases hq30 : q / 30 = 0
          · have hfin := hid (NatPost.chain (V2 := nv L * 2 ^ q) (len2 := L.length + 1 + q) HS.out.1 HS.out.2.2.1 HS.out.2.2.2 (NatPost.refl HS.out.1) (by rw [HS.out.2.1, HF.out, HIQ.out, Nat.add_zero, show q % 30 = q from by omega]) (by omega))
            clear hx hN1 hV1 ht1 hv1 hc
            go_wp2_with fail
            refine (shiftLimbs_zero b _ _ (by omega)).mono ?_
            rintro e w2 ⟨rfl, rfl⟩
            go_wp2
            go_end0
            exact ⟨rfl, hfin.out⟩
          · rcases hN1.own.form with ⟨h0, _⟩ | ⟨g1, cap1, hvv, _⟩
            · rw [h0] at hpos1; simp at hpos1
            · subst hvv
              have hsl := shiftLimbs_pos b g1 cap1 L1.length (q / 30) L1 w1 hN1 rfl (by omega) (by omega) (by omega) hpos1
              clear hx hN1 hV1 ht1 hv1 hc
              go_wp2_with fail
              rw [show (q : Int) / 30 = ((q / 30 : Nat) : Int) from by omega]
              refine hsl.mono ?_
              rintro e w2 ⟨rfl, hp2⟩
              have hfin := hid (NatPost.chain (V2 := nv L * 2 ^ q) (len2 := L.length + 1 + q) HS.out.1 HS.out.2.2.1 HS.out.2.2.2 hp2 (by
                rw [HS.out.2.1, HF.out, HIQ.out, Nat.add_zero, pow30, Nat.mul_assoc, ← Nat.pow_add]; congr 2; omega) (by omega))
              clear hp2 hsl
              go_wp2
              go_end0
              exact ⟨rfl, hfin.out⟩

end Go.Proofs.YtbkdaoicnobllabDoor

/- Plain mathematics: limbs as digits. -/
namespace Go.Proofs.YtbkdaoicnobllabDoor
open Go.RowKit

theorem nv_drop (L : List Nat) (i : Nat) (h : i < L.length) : nv (L.drop i) = L.getD i 0 + 1073741824 * nv (L.drop (i + 1)) := by
  rw [List.drop_eq_getElem_cons h, nv, List.getD_eq_getElem?_getD, List.getElem?_eq_getElem h]; rfl
/-- A limb's step of a division by a billion. -/
theorem bill_step (L M : List Nat) (i o : Nat) (hi : i < L.length) (hM : M.length = L.length) (h : nv (M.drop (i + 1)) * 1000000000 + o = nv (L.drop (i + 1))) :
    nv ((M.set i ((o * 1073741824 + L.getD i 0) / 1000000000)).drop i) * 1000000000 + (o * 1073741824 + L.getD i 0) % 1000000000 = nv (L.drop i) := by
  have e1 : (M.set i ((o * 1073741824 + L.getD i 0) / 1000000000)).drop (i + 1) = M.drop (i + 1) := by
    rw [List.drop_set]; simp
  rw [nv_drop _ i (by simp; omega), e1, getD_set M i i _ (by omega), if_pos rfl, nv_drop L i hi, ← h]
  generalize nv (M.drop (i + 1)) = A at *
  have h2 : (o * 1073741824 + L.getD i 0) % 1000000000 + 1000000000 * ((o * 1073741824 + L.getD i 0) / 1000000000) = o * 1073741824 + L.getD i 0 := Nat.mod_add_div _ _
  generalize (o * 1073741824 + L.getD i 0) % 1000000000 = r at *
  generalize (o * 1073741824 + L.getD i 0) / 1000000000 = q at *
  grind
theorem bill_lt (o x : Nat) (ho : o < 1000000000) (hx : x < 1073741824) : (o * 1073741824 + x) / 1000000000 < 1073741824 := by omega
theorem bill_end {L M : List Nat} {o : Nat} (ho : o < 1000000000) (h : nv M * 1000000000 + o = nv L) : nv M = nv L / 1000000000 ∧ o = nv L % 1000000000 := by omega

/-- A digit's step of a row that is turned, its noughts left out. -/
theorem le_take_succ (O : List Nat) (i : Nat) (h : i < O.length) : le (O.take (i + 1)) = le (O.take i) + O.getD i 0 * 10 ^ i := by
  rw [take_succ_getD O i h, le_append, List.length_take, Nat.min_eq_left (by omega)]
  simp only [le]; rw [Nat.mul_comm]; simp
/-- A row R so far: of the digits of O from i on. -/
def TurnSt (O R : List Nat) (i : Nat) : Prop := Digs R ∧ Headed R ∧ num R * 10 ^ i + le (O.take i) = le O
theorem TurnSt.start (O : List Nat) : TurnSt O [] O.length := ⟨Digs.nil, fun h => by simp at h, by rw [List.take_length, num_nil]; simp⟩
theorem TurnSt.put {O R : List Nat} {i : Nat} (hO : Digs O) (h : TurnSt O R (i + 1)) (hi : i < O.length) (h0 : 0 < O.getD i 0 ∨ 0 < R.length) : TurnSt O (R ++ [O.getD i 0]) i := by
  obtain ⟨h1, h2, h3⟩ := h
  refine ⟨h1.append (Digs.cons (hO.getD i) Digs.nil), fun hl => ?_, ?_⟩
  · cases R with
    | nil => simp at h0; simp; omega
    | cons a r => have := h2 (by simp); simpa using this
  · rw [num_snoc, ← h3, le_take_succ O i hi, Nat.pow_succ]; grind
theorem TurnSt.pass {O R : List Nat} {i : Nat} (h : TurnSt O R (i + 1)) (hi : i < O.length) (h0 : O.getD i 0 = 0) (hR : R = []) : TurnSt O R i := by
  obtain ⟨h1, h2, h3⟩ := h
  refine ⟨h1, h2, ?_⟩
  rw [← h3, le_take_succ O i hi, h0, hR, num_nil]; simp
theorem TurnSt.done {O R : List Nat} (h : TurnSt O R 0) : num R = le O := by
  have := h.2.2; simpa [le] using this
/-- Whether more is left. -/
theorem digits_more {O : List Nat} {N V n : Nat} (h : le O + N * 10 ^ O.length = V) (hV : V < 1073741824 ^ n) (hN : 0 < N) : O.length < 10 * n := by
  apply Nat.lt_of_not_le; intro hle
  have h1 : 10 ^ (10 * n) ≤ 10 ^ O.length := Nat.pow_le_pow_right (by omega) hle
  have h2 : 1 * 10 ^ O.length ≤ N * 10 ^ O.length := Nat.mul_le_mul_right _ hN
  have h3 : 1073741824 ^ n ≤ (10 ^ 10) ^ n := Nat.pow_le_pow_left (by omega) n
  rw [← Nat.pow_mul] at h3
  omega
theorem digits_step {O O' : List Nat} {N V : Nat} (h : le O + N * 10 ^ O.length = V) (hl : O'.length = O.length + 9) (h2 : le O' + 0 * 10 ^ O'.length = le O + N % 1000000000 * 10 ^ O.length) : le O' + N / 1000000000 * 10 ^ O'.length = V := by
  rw [← h, hl, Nat.pow_add, show (10 : Nat) ^ 9 = 1000000000 from by decide]
  have h3 : N % 1000000000 + 1000000000 * (N / 1000000000) = N := Nat.mod_add_div _ _
  generalize 10 ^ O.length = P at *
  generalize N % 1000000000 = r at *
  generalize N / 1000000000 = q at *
  have : le O' = le O + r * P := by omega
  rw [this, ← h3]; grind
/-- A limb's step of a number of one word. -/
theorem word_step (L : List Nat) (x V : Nat) (h : nv L + x * 1073741824 ^ L.length = V) : nv (L ++ [x % 1073741824]) + x / 1073741824 * 1073741824 ^ (L ++ [x % 1073741824]).length = V := by
  rw [nv_snoc, List.length_append, List.length_singleton, Nat.pow_succ, ← h]
  have h2 : x % 1073741824 + 1073741824 * (x / 1073741824) = x := Nat.mod_add_div _ _
  generalize x % 1073741824 = r at *
  generalize x / 1073741824 = q at *
  generalize 1073741824 ^ L.length = P at *
  rw [← h2]; grind
end Go.Proofs.YtbkdaoicnobllabDoor

namespace Go.Proofs.YtbkdaoicnobllabDoor
open Go.RowKit

theorem toNat_succ (j : Nat) : ((j : Int) + 1).toNat = j + 1 := by omega

set_option maxRecDepth 100000 in
set_option maxHeartbeats 1000000 in
theorem bill_some (b g cap n : Nat) (L : List Nat) (w : World) (hA : NatAt w b (.slice (some ⟨g, 0, none⟩) n cap) L) (hn : L.length = n) (hlen : n ≤ 90000) :
    Calls Tryd.prog 59 #[.pointer (some ⟨b, 0, none⟩)] w fun e w' => e = .returned (.int .i64 (nv L % 1000000000 : Nat)) ∧ NatPost w w' b (.slice (some ⟨g, 0, none⟩) n cap) (nv L / 1000000000) n := by
  have hgb : g ≠ b := fun e => hA.apart (by rw [e]; rfl)
  have hc := hA.cell
  have HN := hid hn
  have HA := hid hA
  clear hA hn
  go_enter Tryd.func59, Tryd.ntmps59
  go_wp2
  go_loopw [3, 4] (fun oo ii wr => ∃ (z : Int) (o : Nat) (M : List Nat), oo = .int .i64 o ∧ o < 1000000000 ∧ ii = .int .i64 z ∧ -1 ≤ z ∧ z < n ∧ Hid (M.length = n) ∧ Own wr 0 (.slice (some ⟨g, 0, none⟩) n cap) M ∧ Hid (∀ j, j < (z + 1).toNat → M.getD j 0 = L.getD j 0) ∧ Lim M ∧
      Hid (nv (M.drop (z + 1).toNat) * 1000000000 + o = nv (L.drop (z + 1).toNat)) ∧ Turn (fun k => k = g) w wr) (fun _ ii _ => (intOf ii + 1).toNat)
  case atStart =>
    refine ⟨(n : Int) - 1, 0, L, rfl, by omega, rfl, by omega, by omega, HN.out, HA.out.own, fun _ _ => rfl, HA.out.lim, ?_, Turn.refl _ _⟩
    unfold Hid; rw [show ((n : Int) - 1 + 1).toNat = L.length from by rw [HN.out]; omega, List.drop_length]; simp [nv]
  case round =>
    clear hc
    obtain ⟨z, o, M, rfl, ho, rfl, hz1, hz2, HM, hown, HR, hlim, HE, ht⟩ := hrel
    have hA2 := cell_of_turn ht HA.out.cell (by simp; omega)
    by_cases hz : 0 ≤ z
    · obtain ⟨j, rfl⟩ : ∃ j : Nat, z = j := ⟨z.toNat, by omega⟩
      have hlt : j < n := by omega
      rw [toNat_succ] at HR HE
      obtain ⟨x, hx⟩ : ∃ x, x = L.getD j 0 := ⟨_, rfl⟩
      have hx30 : x < 1073741824 := by rw [hx]; exact HA.out.lim.getD j
      have cx : wr.cell? ⟨g, j, none⟩ = some (.int .i64 x) := by rw [hown.cell HM.out j hlt, HR.out j (by omega), hx]
      have fx := hown.frozen HM.out j
      have hst := bill_step L M j o (by rw [HN.out]; exact hlt) (by rw [HM.out, HN.out]) HE.out
      rw [← hx] at hst
      have hy30 := bill_lt o x ho hx30
      obtain ⟨y, hy⟩ : ∃ y, y = (o * 1073741824 + x) / 1000000000 := ⟨_, rfl⟩
      obtain ⟨r, hr⟩ : ∃ r, r = (o * 1073741824 + x) % 1000000000 := ⟨_, rfl⟩
      rw [← hy] at hst hy30
      rw [← hr] at hst
      have HST := hid hst
      have hyi : ((o : Int) * 1073741824 + x) / 1000000000 = (y : Int) := by omega
      have hri : ((o : Int) * 1073741824 + x) % 1000000000 = (r : Int) := by omega
      have hr9 : r < 1000000000 := by omega
      have hown2 := hid (hown.store HM.out j y)
      have ht2 := hid (ht.setCell ⟨g, j, none⟩ (.int .i64 (y : Nat)) rfl)
      clear hx hst hy hr hown ht
      go_wp2
      go_roundw
      case rel =>
        refine ⟨(j : Int) - 1, r, M.set j y, by rw [hri], hr9, rfl, by omega, by omega, by unfold Hid; rw [List.length_set]; exact HM.out, hown2.out, fun k hk => ?_, hlim.set j y hy30, ?_, ht2.out⟩
        · rw [getD_set M j k y (by rw [HM.out]; exact hlt), if_neg (by omega)]; exact HR.out k (by omega)
        · unfold Hid; rw [show ((j : Int) - 1 + 1).toNat = j from by omega]; exact HST.out
      case measure => simp [intOf]
    · have hz0 : z = -1 := by omega
      subst hz0
      have hse := hid (bill_end ho (by have := HE.out; simpa using this : nv M * 1000000000 + o = nv L))
      have hf2 : wr.frozen? ⟨b, 0, none⟩ = false := by
        rw [World.frozen?_of_block (w := w) (ht.block b (World.block_lt_of_cell? w _ HA.out.cell) (by omega))]; exact HA.out.frozen
      have HO := hid hown
      clear hown
      go_wp2_with fail
      refine (trim_any b _ M wr hA2 hf2 HO.out HA.out.apart hlim (by rw [HM.out]; omega)).mono ?_
      rintro e w' ⟨rfl, hpost⟩
      have hfin := hid ((hpost.after (ht.mono (fun j _ hj => .inr (by rw [hj]; rfl))) (.inl rfl)).widen hse.out.1 (by rw [HM.out]; exact Nat.le_refl _ : M.length ≤ n))
      clear hpost hA2 hf2
      go_wp2
      go_ret
      exact ⟨ret_int (by rw [hse.out.2]), hfin.out⟩
end Go.Proofs.YtbkdaoicnobllabDoor

namespace Go.Proofs.YtbkdaoicnobllabDoor
open Go.RowKit

theorem below_turn {B : Nat} {w wr w1 : World} {S : Nat → Prop} (hb : Below B w wr) (ht : Turn S wr w1) (hs : ∀ k, S k → B ≤ k) (hB : B ≤ wr.heap.size) : Below B w w1 :=
  hb.trans ⟨ht.os, ht.tape, ht.output, ht.size, fun k hk => ht.block k (Nat.lt_of_lt_of_le hk hB) (fun h => by have := hs k h; omega)⟩
/-- A Nat in blocks from B on, with the number V. -/
def NewNat (B : Nat) (w : World) (b : Nat) (V len : Nat) : Prop := ∃ v L, NatAt w b v L ∧ nv L = V ∧ L.length ≤ len ∧ B ≤ b ∧ ∀ g, v.ownBlock = some g → B ≤ g
theorem NewNat.post {B : Nat} {w0 w w1 : World} {b : Nat} {v : Value} {V len : Nat} (hb : Below B w0 w) (hB : B ≤ w.heap.size) (hbb : B ≤ b) (hv : ∀ g, v.ownBlock = some g → B ≤ g) (hp : NatPost w w1 b v V len) : NewNat B w1 b V len ∧ Below B w0 w1 := by
  obtain ⟨v', L', h1, h2, h3, h4, h5⟩ := hp
  refine ⟨⟨v', L', h1, h2, h3, hbb, fun g hg => ?_⟩, below_turn hb h4 (fun k hk => (by
    rcases hk with rfl | hk
    · exact hbb
    · exact hv k hk)) hB⟩
  rcases h5 with h5 | ⟨g', h5, hg'⟩
  · exact hv g (by rw [← h5]; exact hg)
  · rw [h5] at hg; cases hg; omega

end Go.Proofs.YtbkdaoicnobllabDoor

namespace Go.Proofs.YtbkdaoicnobllabDoor
open Go.RowKit

/-- The length of a slice. -/
def lenOf : Value → Nat
  | .slice _ n _ => n
  | _ => 0
theorem Own.empty (w : World) : Own (w.alloc (.cells #[] 3)) w.heap.size (.slice (some ⟨w.heap.size, 0, none⟩) 0 0) [] :=
  ⟨rfl, .inr ⟨w.heap.size, 0, #[], rfl, Nat.le_refl _, by show (w.heap.push _)[w.heap.size]? = _; simp, Nat.le_refl _, Nat.zero_le _, rfl, rfl⟩⟩
set_option maxRecDepth 100000 in
set_option maxHeartbeats 1000000 in
theorem turned_some (b off cap n : Nat) (O : List Nat) (w : World) (hn : O.length = n) (_h1 : n ≤ cap) (_h2 : cap ≤ maxLen) (h3 : b < w.heap.size)
    (h4 : ∀ j, j < n → w.cell? ⟨b, off + j, none⟩ = some (.int .i64 (O.getD j 0 : Nat))) (hd : Digs O) (hl : n ≤ 100000) :
    Calls Tryd.prog 60 #[.slice (some ⟨b, off, none⟩) n cap] w fun r w' => ∃ v' : Value, r = .returned v' ∧ ∃ R : List Nat, Own w' w.heap.size v' R ∧ Digs R ∧ Headed R ∧ num R = le O ∧ R.length ≤ n ∧ Below w.heap.size w w' := by
  unfold maxLen at _h2
  have HN := hid hn
  have H4 := hid h4
  have HD := hid hd
  obtain ⟨i0, hi, hz0, hz1, hz2⟩ := info_parts Tryd.info_int
  clear hn h4 hd
  go_enter Tryd.func60, Tryd.ntmps60
  go_wp2
  go_loopw [3, 4] (fun l ii wr => ∃ (z : Int) (R : List Nat), ii = .int .i64 z ∧ -1 ≤ z ∧ z < n ∧ Own wr w.heap.size l R ∧ Hid (TurnSt O R (z + 1).toNat) ∧ (R.length : Int) ≤ n - 1 - z ∧ Below w.heap.size w wr) (fun _ ii _ => (intOf ii + 1).toNat)
  case atStart =>
    refine ⟨(n : Int) - 1, [], rfl, by omega, by omega, ?_, ?_, by simp, ?_⟩
    · exact Own.empty w
    · unfold Hid; rw [show ((n : Int) - 1 + 1).toNat = O.length from by rw [HN.out]; omega]; exact TurnSt.start O
    · first | exact Below.refl _ _ | exact (Below.refl _ _).alloc (Nat.le_refl _) _
  case round =>
    obtain ⟨z, R, rfl, hz, hzn, hown, HT, hRl, hb⟩ := hrel
    have hsz := hb.size
    by_cases hge : 0 ≤ z
    · obtain ⟨j, rfl⟩ : ∃ j : Nat, z = j := ⟨z.toNat, by omega⟩
      rw [toNat_succ] at HT
      obtain ⟨x, hx⟩ : ∃ x, x = O.getD j 0 := ⟨_, rfl⟩
      have hx9 : x ≤ 9 := by rw [hx]; exact HD.out.getD _
      have cx : wr.cell? ⟨b, off + j, none⟩ = some (.int .i64 x) := by
        rw [hx, hb.cell (p := ⟨b, off + j, none⟩) (by show b < _; omega)]; exact H4.out j (by omega)
      obtain ⟨ao, cp, hv⟩ := hown.row.isSlice
      subst hv
      obtain ⟨m, hm⟩ : ∃ m, m = R.length := ⟨_, rfl⟩
      have HRm : Hid (R.length = m) := hm.symm
      rw [← hm] at hown hRl ⊢
      have hown' : wr.ownsRow w.heap.size 3 1 (.slice ao m cp) m (ints R) := by have := hown; unfold Own at this; rwa [HRm.out] at this
      by_cases hpos : 0 < x
      · have HP := hid (hx ▸ TurnSt.put HD.out HT.out (by rw [HN.out]; omega) (.inl (by rw [← hx]; exact hpos)) : TurnSt O (R ++ [x]) j)
        have t1 : decide (0 < x) = true := by simp; omega
        clear hx hm hown HT
        go_wp2_with (at_builtin; refine wpList_append_own _ rfl (.tmp 23) (.tmp 28) 66 rfl w.heap.size 3 i0 (.int .i64 0) 1 8 Tryd.underlying66 hi hz0 hz1 hz2 rfl (by decide) _ _ _ rfl (hown'.alloc _) ⟨wr.heap.size, 0, none⟩ 1 1 [.int .i64 (x : Int)] rfl rfl ?c1 ?c2 ?c3 ?c4 ?c5 ?_)
        case c1 => exact cell_one_new _ _ _
        case c2 => intro u hu; simp at hu; subst hu; rfl
        case c3 => unfold maxLen; omega
        case c4 => omega
        case c5 => simp; omega
        intro v' w1 hown1 hgrow _
        have hb1 : Hid (Below w.heap.size w w1) := (hb.alloc (by omega) _).grown hgrow (by simp; omega) (fun k hk => (hown'.lt k hk).1)
        have hown2 : Hid (Own w1 w.heap.size v' (R ++ [x])) := Own.snoc hown1 HRm.out rfl
        clear hown' hgrow hown1 hb cx
        go_wp2
        go_roundw
        case rel => exact ⟨(j : Int) - 1, R ++ [x], rfl, by omega, by omega, hown2.out, by unfold Hid; rw [show ((j : Int) - 1 + 1).toNat = j from by omega]; exact HP.out, by rw [List.length_append, HRm.out, List.length_singleton]; omega, hb1.out⟩
        case measure => simp [intOf]
      · have hx0 : x = 0 := by omega
        by_cases hm0 : 0 < m
        · have HP := hid (hx ▸ TurnSt.put HD.out HT.out (by rw [HN.out]; omega) (.inr (by rw [HRm.out]; exact hm0)) : TurnSt O (R ++ [x]) j)
          have t1 : decide (0 < x) = false := by simp; omega
          have t2 : decide (0 < m) = true := by simp; omega
          clear hx hm hown HT hpos hx0
          go_wp2_with (at_builtin; refine wpList_append_own _ rfl (.tmp 23) (.tmp 28) 66 rfl w.heap.size 3 i0 (.int .i64 0) 1 8 Tryd.underlying66 hi hz0 hz1 hz2 rfl (by decide) _ _ _ rfl (hown'.alloc _) ⟨wr.heap.size, 0, none⟩ 1 1 [.int .i64 (x : Int)] rfl rfl ?c1 ?c2 ?c3 ?c4 ?c5 ?_)
          case c1 => exact cell_one_new _ _ _
          case c2 => intro u hu; simp at hu; subst hu; rfl
          case c3 => unfold maxLen; omega
          case c4 => omega
          case c5 => simp; omega
          intro v' w1 hown1 hgrow _
          have hb1 : Hid (Below w.heap.size w w1) := (hb.alloc (by omega) _).grown hgrow (by simp; omega) (fun k hk => (hown'.lt k hk).1)
          have hown2 : Hid (Own w1 w.heap.size v' (R ++ [x])) := Own.snoc hown1 HRm.out rfl
          clear hown' hgrow hown1 hb cx
          go_wp2
          go_roundw
          case rel => exact ⟨(j : Int) - 1, R ++ [x], rfl, by omega, by omega, hown2.out, by unfold Hid; rw [show ((j : Int) - 1 + 1).toNat = j from by omega]; exact HP.out, by rw [List.length_append, HRm.out, List.length_singleton]; omega, hb1.out⟩
          case measure => simp [intOf]
        · have hR : R = [] := List.length_eq_zero_iff.1 (by rw [HRm.out]; omega)
          have HP := hid (TurnSt.pass HT.out (by rw [HN.out]; omega) (by rw [← hx]; exact hx0) hR : TurnSt O R j)
          have t1 : decide (0 < x) = false := by simp; omega
          have t2 : decide (0 < m) = false := by simp; omega
          have HO := hid hown
          clear hx hm hown HT hpos hx0 hown' hR
          go_wp2
          go_roundw
          case rel => exact ⟨(j : Int) - 1, R, rfl, by omega, by omega, HO.out, by unfold Hid; rw [show ((j : Int) - 1 + 1).toNat = j from by omega]; exact HP.out, by rw [HRm.out]; omega, hb⟩
          case measure => simp [intOf]
    · have hz1' : z = -1 := by omega
      subst hz1'
      have HO := hid hown
      have HE := hid (show TurnSt O R 0 from HT.out)
      have HB := hid hb
      clear hown HT hb
      go_wp2
      go_ret
      exact ⟨_, rfl, R, HO.out, HE.out.1, HE.out.2.1, HE.out.done, by omega, HB.out⟩
end Go.Proofs.YtbkdaoicnobllabDoor

namespace Go.Proofs.YtbkdaoicnobllabDoor
open Go.RowKit

theorem nv_take_any (L : List Nat) (i : Nat) : nv (L.take (i + 1)) = nv (L.take i) + 1073741824 ^ i * L.getD i 0 := by
  by_cases h : i < L.length
  · exact nv_take_succ L i h
  · rw [List.take_of_length_le (by omega), List.take_of_length_le (by omega), List.getD_eq_getElem?_getD, List.getElem?_eq_none (by omega)]; simp
/-- A limb's step of a difference. -/
theorem sub_step (L1 L2 M : List Nat) (i o y o' : Nat) (hi : i < M.length) (h : nv (M.take i) + nv (L2.take i) = nv (L1.take i) + o * 1073741824 ^ i) (hy : y + L2.getD i 0 + o = L1.getD i 0 + o' * 1073741824) :
    nv ((M.set i y).take (i + 1)) + nv (L2.take (i + 1)) = nv (L1.take (i + 1)) + o' * 1073741824 ^ (i + 1) := by
  have e1 : (M.set i y).take i = M.take i := by rw [List.take_set]; exact List.set_eq_of_length_le (by rw [List.length_take]; omega)
  rw [nv_take_any, e1, getD_set M i i _ hi, if_pos rfl, nv_take_any, nv_take_any, Nat.pow_succ]
  generalize 1073741824 ^ i = P at *
  generalize L2.getD i 0 = a at *
  generalize L1.getD i 0 = c at *
  have h2 : P * y + P * a + P * o = P * c + o' * (P * 1073741824) := by
    have : P * (y + a + o) = P * (c + o' * 1073741824) := by rw [hy]
    grind
  have h3 : o * P = P * o := Nat.mul_comm _ _
  omega
theorem sub_end {L1 L2 M : List Nat} {o n : Nat} (hM : M.length = n) (h1 : L1.length = n) (h2 : L2.length ≤ n) (hl : Lim M) (hle : nv L2 ≤ nv L1) (h : nv (M.take n) + nv (L2.take n) = nv (L1.take n) + o * 1073741824 ^ n) : nv M = nv L1 - nv L2 := by
  rw [take_eq_self hM, take_eq_self h1, List.take_of_length_le h2] at h
  have h3 := nv_lt hl
  rw [hM] at h3
  cases o with
  | zero => omega
  | succ o => rw [Nat.succ_mul] at h; omega
theorem len_le_of_nv {L1 L2 : List Nat} (h1 : Lim L1) (h2 : 0 < L2.length → L2.getD (L2.length - 1) 0 ≠ 0) (hle : nv L2 ≤ nv L1) : L2.length ≤ L1.length := by
  apply Nat.le_of_not_lt; intro hlt
  have hp : 0 < L2.length := by omega
  have a := nv_lt h1
  have b : 1073741824 ^ (L2.length - 1) ≤ nv L2 := by
    have e : L2.take (L2.length - 1 + 1) = L2 := List.take_of_length_le (by omega)
    have := nv_take_any L2 (L2.length - 1)
    rw [e] at this
    rw [this]
    have h3 := h2 hp
    have : 1073741824 ^ (L2.length - 1) * 1 ≤ 1073741824 ^ (L2.length - 1) * L2.getD (L2.length - 1) 0 := Nat.mul_le_mul_left _ (by omega)
    omega
  have c : 1073741824 ^ L1.length ≤ 1073741824 ^ (L2.length - 1) := Nat.pow_le_pow_right (by omega) (by omega)
  omega
/-- Two Nats that share no block. -/
def Apart (b1 : Nat) (v1 : Value) (b2 : Nat) (v2 : Value) : Prop := ∀ k, Foot b1 v1 k → ¬ Foot b2 v2 k

end Go.Proofs.YtbkdaoicnobllabDoor

namespace Go.Proofs.YtbkdaoicnobllabDoor
open Go.RowKit

/-- Only draws. -/
structure Still (w w' : World) : Prop where
  drew : ∃ m, w' = w.drewN m
theorem Still.heap {w w' : World} (h : Still w w') : w'.heap = w.heap := by obtain ⟨m, rfl⟩ := h.drew; rfl
theorem Still.os {w w' : World} (h : Still w w') : w'.os = w.os := by obtain ⟨m, rfl⟩ := h.drew; rfl
theorem Still.tape {w w' : World} (h : Still w w') : w'.tape = w.tape := by obtain ⟨m, rfl⟩ := h.drew; rfl
theorem Still.output {w w' : World} (h : Still w w') : w'.output = w.output := by obtain ⟨m, rfl⟩ := h.drew; rfl
theorem Still.refl (w : World) : Still w w := ⟨0, rfl⟩
theorem Still.drewN {w w1 : World} (h : Still w w1) (n : Nat) : Still w (w1.drewN n) := by
  obtain ⟨m, rfl⟩ := h.drew
  exact ⟨_, World.drewN_drewN ..⟩
theorem Still.trans {w w1 w2 : World} (h : Still w w1) (k : Still w1 w2) : Still w w2 := by
  obtain ⟨m, rfl⟩ := k.drew
  exact h.drewN m
theorem Still.below {w w1 : World} (h : Still w w1) (B : Nat) : Below B w w1 := ⟨h.os, h.tape, h.output, by rw [h.heap]; exact Nat.le_refl _, fun k _ => by rw [h.heap]⟩
theorem Still.cell {w w1 : World} (h : Still w w1) (a : Addr) : w1.cell? a = w.cell? a := World.cell?_of_block (by rw [h.heap])
theorem Still.turn {w w1 : World} (h : Still w w1) (S : Nat → Prop) : Turn S w w1 := ⟨h.os, h.tape, h.output, by rw [h.heap]; exact Nat.le_refl _, fun k _ _ => by rw [h.heap]⟩
theorem Still.natAt {w w1 : World} (h : Still w w1) {b : Nat} {v : Value} {L : List Nat} (hn : NatAt w b v L) : NatAt w1 b v L := hn.turn (h.turn (fun _ => False)) (fun _ _ h => h)

theorem nv_len_lt {L1 L2 : List Nat} (h1 : Lim L1) (h2 : 0 < L2.length → L2.getD (L2.length - 1) 0 ≠ 0) (h : L1.length < L2.length) : nv L1 < nv L2 := by
  apply Nat.lt_of_not_le; intro hle
  have := len_le_of_nv h1 h2 hle; omega
theorem nv_split (L : List Nat) (i : Nat) (hi : i ≤ L.length) : nv L = nv (L.take i) + 1073741824 ^ i * nv (L.drop i) := by
  conv => lhs; rw [← List.take_append_drop i L]
  rw [nv_append, List.length_take, Nat.min_eq_left hi]
theorem nv_at_lt {L1 L2 : List Nat} {i : Nat} (hl1 : Lim L1) (hi1 : i < L1.length) (hi2 : i < L2.length) (hd : L1.drop (i + 1) = L2.drop (i + 1)) (h : L1.getD i 0 < L2.getD i 0) : nv L1 < nv L2 := by
  rw [nv_split L1 (i + 1) (by omega), nv_split L2 (i + 1) (by omega), hd, nv_take_any, nv_take_any]
  have a := nv_lt (hl1.take i)
  rw [List.length_take, Nat.min_eq_left (by omega)] at a
  have b : 1073741824 ^ i * (L1.getD i 0 + 1) ≤ 1073741824 ^ i * L2.getD i 0 := Nat.mul_le_mul_left _ h
  rw [Nat.mul_add, Nat.mul_one] at b
  omega
theorem drop_eq_step {L1 L2 : List Nat} {i : Nat} (hi1 : i < L1.length) (hi2 : i < L2.length) (hd : L1.drop (i + 1) = L2.drop (i + 1)) (h : L1.getD i 0 = L2.getD i 0) : L1.drop i = L2.drop i := by
  rw [List.drop_eq_getElem_cons hi1, List.drop_eq_getElem_cons hi2, hd]
  rw [List.getD_eq_getElem?_getD, List.getElem?_eq_getElem hi1, List.getD_eq_getElem?_getD, List.getElem?_eq_getElem hi2] at h
  have h2 : L1[i] = L2[i] := by simpa using h
  rw [h2]

end Go.Proofs.YtbkdaoicnobllabDoor

namespace Go.Proofs.YtbkdaoicnobllabDoor
open Go.RowKit

theorem Tryd.info_u8 : (Tryd.prog.info? 5).map (fun i => (i.zero, i.size, i.bytes)) = some (some (.int .u8 0), 1, 1) := by kernel_rfl
/-- Bytes as values. -/
def byts (T : List UInt8) : List Value := T.map fun b => Value.int .u8 (b.toNat : Nat)
theorem byts_append (a b : List UInt8) : byts (a ++ b) = byts a ++ byts b := by simp [byts]
theorem byts_length (a : List UInt8) : (byts a).length = a.length := by simp [byts]
/-- A row of bytes that the call owns. -/
def OwnB (w : World) (base : Nat) (v : Value) (T : List UInt8) : Prop := w.ownsRow base 5 1 v T.length (byts T)
theorem OwnB.empty (w : World) : OwnB (w.alloc (.cells #[] 5)) w.heap.size (.slice (some ⟨w.heap.size, 0, none⟩) 0 0) [] :=
  ⟨rfl, .inr ⟨w.heap.size, 0, #[], rfl, Nat.le_refl _, by show (w.heap.push _)[w.heap.size]? = _; simp, Nat.le_refl _, Nat.zero_le _, rfl, rfl⟩⟩
theorem OwnB.owns {w : World} {base : Nat} {v : Value} {T : List UInt8} (h : OwnB w base v T) {k : Nat} (hk : T.length = k) : w.ownsRow base 5 1 v k (byts T) := by subst hk; exact h
theorem OwnB.snoc {w : World} {base : Nat} {v : Value} {T : List UInt8} {k : Nat} {z : Int} {d : UInt8} (h : w.ownsRow base 5 1 v (k + 1) (byts T ++ [.int .u8 z])) (hT : T.length = k) (hz : z = (d.toNat : Nat)) : OwnB w base v (T ++ [d]) := by
  subst hz; unfold OwnB; rw [byts_append]; simp only [List.length_append, List.length_singleton]; rw [hT]; exact h
theorem OwnB.below {w w' : World} {base : Nat} {v : Value} {T : List UInt8} (h : OwnB w base v T) {B : Nat} (hb : Below B w w') (hB : w.heap.size ≤ B) : OwnB w' base v T := by
  refine ⟨h.1, ?_⟩
  rcases h.2 with h2 | ⟨g, cap, cur, hv, hg, hh, r⟩
  · exact .inl h2
  · exact .inr ⟨g, cap, cur, hv, hg, by rw [hb.block g (Nat.lt_of_lt_of_le (Array.getElem?_eq_some_iff.1 hh).1 hB)]; exact hh, r⟩
theorem OwnB.form {w : World} {base : Nat} {v : Value} {T : List UInt8} (h : OwnB w base v T) (hs : ∃ g n cp, v = .slice (some ⟨g, 0, none⟩) n cp) : ∃ g cap, v = .slice (some ⟨g, 0, none⟩) T.length cap ∧ base ≤ g ∧ T.length ≤ cap ∧ cap ≤ maxLen := by
  obtain ⟨g, n, cp, rfl⟩ := hs
  rcases h.2 with ⟨h2, _⟩ | ⟨g', cap, cur, hv, hb, hg, h1, h2, _⟩
  · cases h2
  · exact ⟨g', cap, hv, hb, h1, h2⟩
theorem OwnB.someS {w : World} {base : Nat} {v : Value} {T : List UInt8} (h : OwnB w base v T) (hl : 0 < T.length) : ∃ g n cp, v = .slice (some ⟨g, 0, none⟩) n cp := by
  rcases h.2 with ⟨_, h2⟩ | ⟨g', cap, cur, hv, _⟩
  · omega
  · exact ⟨g', _, cap, hv⟩
theorem byts_getElem? (T : List UInt8) (j : Nat) (h : j < T.length) : (byts T)[j]? = some (.int .u8 (T[j].toNat : Nat)) := by
  unfold byts; rw [List.getElem?_map, List.getElem?_eq_getElem h]; rfl
/-- A row of bytes as a string. -/
theorem OwnB.conv {w : World} {base g n cap : Nat} {T : List UInt8} (h : OwnB w base (.slice (some ⟨g, 0, none⟩) n cap) T) (hn : T.length = n) :
    (convert 72 9 (.slice (some ⟨g, 0, none⟩) n cap)).run Tryd.prog w = .ok (.string (str T)) w := by
  subst hn
  exact run_convert_bytes_back (P := Tryd.prog) w 72 9 5 ⟨g, 0, none⟩ cap T Tryd.underlying72 Tryd.underlying5 Tryd.underlying9 (fun j hj => by
    have h1 := World.ownsRow.cellAt h j (by omega)
    rw [byts_getElem? T j hj] at h1
    have e : (Addr.add ⟨g, 0, none⟩ j) = ⟨g, j, none⟩ := by unfold Addr.add; by_cases h0 : j = 0 <;> simp [h0]
    rw [e]; exact h1)
/-- The table of the library's. -/
def Tab (w : World) : Prop := Lib.TabIs Tryd.prog w "internal/strconv.uint64pow10" .u64 Lib.pow10Tab
theorem Tab.below {w w' : World} (h : Tab w) (hb : Below w.heap.size w w') : Tab w' := by
  unfold Tab Lib.TabIs World.var? at h ⊢
  rw [show Tryd.prog.globalNamed "internal/strconv.uint64pow10" = some 0 from by kernel_rfl] at h ⊢
  simp only [Option.bind_some] at h ⊢
  have hlt : 0 < w.heap.size := by
    rcases Nat.lt_or_ge 0 w.heap.size with h' | h'
    · exact h'
    · rw [Array.getElem?_eq_none h'] at h; cases h
  rw [hb.block _ hlt]; exact h
theorem grow_below (w : World) (k : Nat) (os : Array Obj) : Below w.heap.size w (Sort.grow (w.drewN k) os) :=
  ⟨rfl, rfl, rfl, by show w.heap.size ≤ (w.heap ++ os).size; simp, fun j hj => by show (w.heap ++ os)[j]? = _; rw [Array.getElem?_append_left hj]⟩
theorem itoa_any (n : Int) (h0 : -9223372036854775808 ≤ n) (h1 : n ≤ 9223372036854775807) (w : World) (ht : Tab w) : Calls Tryd.prog 41 #[.int .i64 n] w fun e w' => e = .returned (.string (str (Lib.itoa n))) ∧ Below w.heap.size w w' := by
  refine (Tryd.strconv_Itoa n h0 h1 w ht).mono ?_
  rintro e w' ⟨rfl, k, os, rfl⟩
  exact ⟨rfl, grow_below w k os⟩
theorem hexD_toNat (d : Nat) (h : d < 16) : (hexD d).toNat = if d < 10 then 48 + d else 87 + d := by
  unfold hexD
  split <;> simp <;> omega
set_option maxRecDepth 100000 in
set_option maxHeartbeats 1000000 in
theorem digitByte_any (d : Nat) (hd : d < 16) (w : World) : Calls Tryd.prog 40 #[.int .i64 d] w fun e w' => e = .returned (.int .u8 ((hexD d).toNat : Nat)) ∧ w' = w := by
  have HT := hid (hexD_toNat d hd)
  by_cases h : d < 10
  · rw [if_pos h] at HT
    go_enter Tryd.func40, Tryd.ntmps40
    go_wp2
    go_ret
    exact ⟨ret_int (by rw [HT.out]; simp), rfl⟩
  · rw [if_neg h] at HT
    go_enter Tryd.func40, Tryd.ntmps40
    go_wp2
    go_ret
    exact ⟨ret_int (by rw [HT.out]; simp; omega), rfl⟩
end Go.Proofs.YtbkdaoicnobllabDoor
