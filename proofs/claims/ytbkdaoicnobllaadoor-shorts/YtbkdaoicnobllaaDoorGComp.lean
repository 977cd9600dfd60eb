import Derived.Test.YtbkdaoicnobllaaDoorGDec
import Derived.Test.YtbkdaoicnobllaaDoorGPick
import Derived.Test.YtbkdaoicnobllaaDoorGExpT

namespace Go.Proofs.YtbkdaoicnobllaaDoor
open Go.RowKit

def ordI (a b : Int) : Int := if a < b then -1 else 1
set_option maxRecDepth 100000 in
set_option maxHeartbeats 1000000 in
theorem order2_any (a b : Int) (w : World) : Calls Tryd.prog 98 #[.int .i64 a, .int .i64 b] w fun r w' => r = .returned (.int .i64 (ordI a b)) ∧ w' = w := by
  by_cases h : a < b
  · have HO : Hid (ordI a b = -1) := by unfold Hid ordI; rw [if_pos h]
    go_enter Tryd.func98, Tryd.ntmps98
    go_wp2
    go_ret
    exact ⟨ret_int HO.out.symm, rfl⟩
  · have HO : Hid (ordI a b = 1) := by unfold Hid ordI; rw [if_neg h]
    go_enter Tryd.func98, Tryd.ntmps98
    go_wp2
    go_ret
    exact ⟨ret_int HO.out.symm, rfl⟩
set_option maxRecDepth 100000 in
set_option maxHeartbeats 1000000 in
theorem compareD_any (a b : Nat) (va vb : Value) (A B : List Nat) (ea eb : Int) (w : World) (ha : DecAt w a va A ea) (hb : DecAt w b vb B eb) :
    Calls Tryd.prog 92 #[.pointer (some ⟨a, 0, none⟩), .pointer (some ⟨b, 0, none⟩)] w fun r w' => r = .returned (.int .i64 (cmpN (val 20000 A ea) (val 20000 B eb))) ∧ Still w w' := by
  obtain ⟨ga, oa, ca, rfl, _, _, _, _⟩ := ha.form
  obtain ⟨gb, ob, cb, rfl, _, _, _, _⟩ := hb.form
  have a0 := ha.c0
  have b0 := hb.c0
  have la := ha.len
  have lb := hb.len
  have HA := hid ha
  have HB := hid hb
  obtain ⟨n, hn⟩ : ∃ n, n = A.length := ⟨_, rfl⟩
  obtain ⟨m, hm⟩ : ∃ m, m = B.length := ⟨_, rfl⟩
  obtain ⟨F, hF⟩ : ∃ F : Int, F = ea + A.length - 1 := ⟨_, rfl⟩
  obtain ⟨G, hG⟩ : ∃ G : Int, G = eb + B.length - 1 := ⟨_, rfl⟩
  have HAF : Hid (∀ w1, Still w w1 → Calls Tryd.prog 61 #[.pointer (some ⟨a, 0, none⟩)] w1 fun r w' => r = .returned (.int .i64 F) ∧ Still w1 w') := fun w1 hs => by
    rw [hF]; exact firstPower_any a _ A ea w1 (ha.below (hs.below _))
  have HBF : Hid (∀ w1, Still w w1 → Calls Tryd.prog 61 #[.pointer (some ⟨b, 0, none⟩)] w1 fun r w' => r = .returned (.int .i64 G) ∧ Still w1 w') := fun w1 hs => by
    rw [hG]; exact firstPower_any b _ B eb w1 (hb.below (hs.below _))
  have HK1 : Hid (-((20000 : Nat) : Int) ≤ ea) := by have := ha.elo; unfold Hid; omega
  have HK2 : Hid (-((20000 : Nat) : Int) ≤ eb) := by have := hb.elo; unfold Hid; omega
  rw [← hn] at a0 la
  rw [← hm] at b0 lb
  have HN := hid hn
  have HM := hid hm
  have HF := hid hF
  have HG := hid hG
  obtain ⟨C, hC⟩ : ∃ C : Int, C = cmpN (val 20000 A ea) (val 20000 B eb) := ⟨_, rfl⟩
  rw [← hC]
  have HC := hid hC
  clear ha hb hn hm hF hG hC
  by_cases hFG : F = G
  · have HEQ : Hid (ea + A.length = eb + B.length) := by have := HF.out; have := HG.out; unfold Hid; omega
    subst hFG
    go_enter Tryd.func92, Tryd.ntmps92
    go_wp2_with fail
    refine (HAF.out w (Still.refl w)).mono ?_
    rintro r w1 ⟨rfl, hs1⟩
    have HS1 := hid hs1
    clear hs1
    go_wp2_with fail
    refine (HBF.out w1 HS1.out).mono ?_
    rintro r w2 ⟨rfl, hs2⟩
    have HS2 : Hid (Still w w2) := HS1.out.trans hs2
    clear hs2 HS1
    go_wp2
    go_loopw [7] (fun ii wr => ∃ k : Nat, ii = .int .i64 k ∧ k ≤ max n m ∧ SameTo A B k ∧ Still w wr) (fun ii _ => max n m - (intOf ii).toNat)
    case atStart => exact ⟨0, rfl, Nat.zero_le _, SameTo.zero A B, HS2.out⟩
    case round =>
      obtain ⟨k, rfl, hk, hsame, hst⟩ := hrel
      have HSM := hid hsame
      have HST := hid hst
      have a0' := (hst.cell _).trans a0
      have b0' := (hst.cell _).trans b0
      clear hsame hst
      by_cases hlt : k < max n m
      · have HXA := hid (digitAt_any a _ A ea k wr (HA.out.below (HST.out.below _)))
        have HXB := hid (digitAt_any b _ B eb k wr (HB.out.below (HST.out.below _)))
        obtain ⟨x, hx⟩ : ∃ x : Int, x = (dAt A (k : Int) : Nat) := ⟨_, rfl⟩
        obtain ⟨y, hy⟩ : ∃ y : Int, y = (dAt B (k : Int) : Nat) := ⟨_, rfl⟩
        rw [← hx] at HXA
        rw [← hy] at HXB
        have ex : x = (A.getD k 0 : Nat) := by rw [hx]; unfold dAt; rw [if_neg (by omega), Int.toNat_natCast]
        have ey : y = (B.getD k 0 : Nat) := by rw [hy]; unfold dAt; rw [if_neg (by omega), Int.toNat_natCast]
        have HEX := hid ex
        have HEY := hid ey
        have hk0 : k ≤ 20000 := by omega
        clear hx hy ex ey
        by_cases hxy : x = y
        · have HSN : Hid (SameTo A B (k + 1)) := HSM.out.next (by have := HEX.out; have := HEY.out; omega)
          subst hxy
          rcases (by omega : k < n ∨ (¬ k < n ∧ k < m)) with hkn | ⟨hkn, hkm⟩
          all_goals
            go_wp2_with fail
            refine HXA.out.mono ?_
            rintro r w3 ⟨rfl, rfl⟩
            go_wp2_with fail
            refine HXB.out.mono ?_
            rintro r w4 ⟨rfl, rfl⟩
            go_wp2
            go_roundw
            case rel => exact ⟨k + 1, by go_num, by omega, HSN.out, HST.out⟩
            case measure => simp [intOf]; omega
        · have HRES : Hid (ordI x y = C) := by
            unfold Hid; rw [HC.out]; unfold ordI
            have e1 := HEX.out
            have e2 := HEY.out
            by_cases hlt2 : x < y
            · rw [if_pos hlt2, cmpN_lt (cmp_at HA.out.digs HB.out.digs HK1.out HK2.out HEQ.out HSM.out (by omega))]
            · rw [if_neg hlt2, cmpN_gt (cmp_at HB.out.digs HA.out.digs HK2.out HK1.out HEQ.out.symm HSM.out.symm (by omega))]
          rcases (by omega : k < n ∨ (¬ k < n ∧ k < m)) with hkn | ⟨hkn, hkm⟩
          all_goals
            go_wp2_with fail
            refine HXA.out.mono ?_
            rintro r w3 ⟨rfl, rfl⟩
            go_wp2_with fail
            refine HXB.out.mono ?_
            rintro r w4 ⟨rfl, rfl⟩
            go_wp2_with fail
            refine (order2_any x y _).mono ?_
            rintro r w5 ⟨rfl, rfl⟩
            go_wp2
            go_ret
            exact ⟨ret_int HRES.out, HST.out⟩
      · have HRES : Hid (0 = C) := by
          unfold Hid; rw [HC.out, cmpN_eq (cmp_all (n := k) HA.out.digs HB.out.digs HK1.out HK2.out HEQ.out (by rw [← HN.out, ← HM.out]; omega) HSM.out)]
        have h1 : ¬ k < n := by omega
        have h2 : ¬ k < m := by omega
        go_wp2
        go_ret
        exact ⟨ret_int HRES.out, HST.out⟩
  · have HRES : Hid (ordI F G = C) := by
      unfold Hid; rw [HC.out]; unfold ordI
      have e1 := HF.out
      have e2 := HG.out
      by_cases hlt : F < G
      · rw [if_pos hlt, cmpN_lt (cmp_top HA.out.digs HB.out.head HB.out.pos HK1.out HK2.out (by omega))]
      · rw [if_neg hlt, cmpN_gt (cmp_top HB.out.digs HA.out.head HA.out.pos HK2.out HK1.out (by omega))]
    go_enter Tryd.func92, Tryd.ntmps92
    go_wp2_with fail
    refine (HAF.out w (Still.refl w)).mono ?_
    rintro r w1 ⟨rfl, hs1⟩
    have HS1 := hid hs1
    clear hs1
    go_wp2_with fail
    refine (HBF.out w1 HS1.out).mono ?_
    rintro r w2 ⟨rfl, hs2⟩
    have HS2 : Hid (Still w w2) := HS1.out.trans hs2
    clear hs2 HS1
    go_wp2_with fail
    refine (order2_any F G _).mono ?_
    rintro r w3 ⟨rfl, rfl⟩
    go_wp2
    go_ret
    exact ⟨ret_int HRES.out, HS2.out⟩
end Go.Proofs.YtbkdaoicnobllaaDoor

namespace Go.Proofs.YtbkdaoicnobllaaDoor
open Go.RowKit

def TrimTo (R : List Nat) (c l : Nat) : Prop := ∀ j, c ≤ j → j < l → R.getD j 0 = 0
theorem TrimTo.next {R : List Nat} {d l : Nat} (h : TrimTo R (d + 1) l) (h0 : R.getD d 0 = 0) : TrimTo R d l := fun j h1 h2 => by
  rcases (by omega : j = d ∨ d + 1 ≤ j) with g | g
  · rw [g]; exact h0
  · exact h j g h2
theorem trim_val {R : List Nat} {c : Nat} {p : Int} (hd : Digs R) (hc : c ≤ R.length) (ht : TrimTo R c R.length) (K : Nat) (hK : -(K : Int) ≤ p) : val K (R.take c) (p + (R.length - c : Nat)) = val K R p := by
  have hz : num (R.drop c) = 0 := (num_zero_iff _).2 fun d hd => by
    obtain ⟨i, hi, rfl⟩ := List.mem_iff_getElem.1 hd
    rw [List.length_drop] at hi
    have := ht (c + i) (by omega) (by omega)
    rw [List.getD_eq_getElem?_getD, List.getElem?_eq_getElem (by omega)] at this
    simpa using this
  have h1 := num_take hd c hc
  have h2 := num_drop hd c hc
  rw [hz] at h2
  have h3 := Nat.div_add_mod (num R) (10 ^ (R.length - c))
  rw [← h2, ← h1, Nat.add_zero] at h3
  unfold val
  rw [← h3, show (p + ((R.length - c : Nat) : Int) + K).toNat = (R.length - c) + (p + K).toNat from by omega, Nat.pow_add, ← Nat.mul_assoc, Nat.mul_comm (10 ^ (R.length - c))]
theorem trim_norm {R : List Nat} {c : Nat} (hd : Digs R) (hh : Headed R) (hc : c ≤ R.length) (h0 : 0 < c) (hl : c = 1 ∨ R.getD (c - 1) 0 ≠ 0) : Norm (R.take c) := by
  refine ⟨hd.take c, fun h => ?_, fun h => ?_⟩
  · have := hh (by omega)
    simpa using this
  · have hlen : (R.take c).length = c := by rw [List.length_take]; omega
    have e : ∀ (h : (R.take c).length - 1 < (R.take c).length), (R.take c)[(R.take c).length - 1] = R.getD (c - 1) 0 := fun h => by
      rw [List.getElem_take, List.getD_eq_getElem?_getD, List.getElem?_eq_getElem (by omega)]
      simp [hlen]
    rw [e]
    rcases hl with hl | hl
    · subst hl
      have := hh (by omega)
      rw [List.getD_eq_getElem?_getD, List.getElem?_eq_getElem (by omega)]
      simpa using this
    · exact hl
/-- A decimal that a call hands back: of the number V K / 10^K, without noughts at its ends. -/
def NeighPost (w w' : World) (r : Ending) (p : Int) (V : Nat → Nat) : Prop :=
  ∃ b : Nat, r = .returned (.pointer (some ⟨b, 0, none⟩)) ∧ ∃ (v : Value) (D : List Nat) (e : Int), DecAt w' b v D e ∧ Norm D ∧ (p ≤ e ∧ e + (D.length : Int) ≤ 401) ∧ (∀ K : Nat, 2000 ≤ K → val K D e = V K) ∧ w.heap.size ≤ b ∧ Below w.heap.size w w'
set_option maxRecDepth 100000 in
set_option maxHeartbeats 1000000 in
theorem neighbour_any (b : Nat) (v : Value) (D : List Nat) (e p mode : Int) (w : World) (h : DecAt w b v D e) (he : -2000 ≤ e) (ht : e + D.length ≤ 400) (hp1 : e ≤ p) (hp2 : p ≤ e + D.length - 1) :
    Calls Tryd.prog 82 #[.pointer (some ⟨b, 0, none⟩), .int .i64 p, .int .i64 mode] w fun r w' => NeighPost w w' r p (fun K => rndN (awayB mode false) (val K D e) (10 ^ (p + K).toNat) * 10 ^ (p + K).toNat) := by
  have HRD := hid (drounded_any b v D e p mode false w h (by omega) (by omega) (by omega))
  have HD := hid (And.intro h.pos (And.intro he hp1))
  have hp3 : -2000 ≤ p := by omega
  have hp4 : p ≤ 400 := by omega
  have HLE : Hid (∀ R : List Nat, Rnd (awayB mode false) D e p R → 1 ≤ R.length ∧ (R.length : Int) + p ≤ 401) := fun R hr => by
    have a := hr.ge
    have c := hr.len
    omega
  clear h he ht hp1 hp2
  go_enter Tryd.func82, Tryd.ntmps82
  go_wp2_with fail
  refine HRD.out.mono ?_
  rintro r w1 ⟨v1, rfl, ⟨g, l, cp, rfl⟩, R, hrnd, ho, hb⟩
  obtain ⟨hl, hc1, hc2, hg⟩ := ho.sliceLen
  have HR := hid (And.intro hrnd (And.intro ho (And.intro hb hl)))
  have hll := HLE.out R hrnd
  rw [hl] at hll
  obtain ⟨hl1, hl2⟩ := hll
  clear HRD hrnd ho hb hl hg HLE
  go_wp2
  go_loopw [1, 7] (fun pp dd wr => ∃ c : Nat, 0 < c ∧ c ≤ l ∧ pp = .int .i64 (p + (l - c : Nat)) ∧ dd = .slice (some ⟨g, 0, none⟩) c cp ∧ TrimTo R c l ∧ Still w1 wr) (fun _ dd _ => lenOf dd)
  case atStart => exact ⟨l, by omega, Nat.le_refl _, by simp, rfl, fun j h1 h2 => by omega, Still.refl w1⟩
  case round =>
    obtain ⟨c, h0, hcl, rfl, rfl, htr, hst⟩ := hrel
    obtain ⟨q, hq⟩ : ∃ q : Int, q = p + (l - c : Nat) := ⟨_, rfl⟩
    rw [← hq]
    have HQ := hid hq
    have hq1 : -2000 ≤ q := by omega
    have hq2 : q ≤ 2000 := by omega
    obtain ⟨d, rfl⟩ : ∃ d, c = d + 1 := ⟨c - 1, by omega⟩
    obtain ⟨x, hx⟩ : ∃ x, x = R.getD d 0 := ⟨_, rfl⟩
    have cx : wr.cell? ⟨g, d, none⟩ = some (.int .i64 x) := by
      rw [hst.cell, hx]; exact HR.out.2.1.cell HR.out.2.2.2 d (by omega)
    have HX := hid hx
    have HT := hid htr
    have HS := hid hst
    clear hx htr hst hq
    have HFIN : Hid (x ≠ 0 ∨ d = 0 → NeighPost w (wr.alloc (.cells #[.slice (some ⟨g, 0, none⟩) (d + 1) cp, .int .i64 q] 101)) (.returned (.pointer (some ⟨wr.heap.size, 0, none⟩))) p (fun K => rndN (awayB mode false) (val K D e) (10 ^ (p + K).toNat) * 10 ^ (p + K).toNat)) := fun hfin => by
      obtain ⟨hrnd, ho, hb, hl⟩ := HR.out
      have hbw : Below w.heap.size w wr := hb.trans (HS.out.below _)
      have how : Own wr 0 (.slice (some ⟨g, 0, none⟩) (d + 1) cp) (R.take (d + 1)) := ((ho.mono (Nat.zero_le _)).below (HS.out.below w1.heap.size) (Nat.le_refl _)).cutTo hl (d + 1) hcl
      have hlen : (R.take (d + 1)).length = d + 1 := by rw [List.length_take]; omega
      have hnorm : Norm (R.take (d + 1)) := trim_norm hrnd.digs hrnd.headed (by omega) (by omega) (by
        rcases hfin with hf | hf
        · right; rw [Nat.add_sub_cancel, ← HX.out]; exact hf
        · left; omega)
      have hqq : q = p + ((R.length - (d + 1) : Nat) : Int) := by rw [hl]; exact HQ.out
      refine ⟨wr.heap.size, rfl, .slice (some ⟨g, 0, none⟩) (d + 1) cp, R.take (d + 1), q, ⟨by simp [go_sem], by simp [go_sem], how.row.below ((Below.refl _ _).alloc (Nat.le_refl _) _) (Nat.le_refl _), hnorm.digs, hnorm.headed, by omega, by omega, by omega, by omega⟩, hnorm, (by rw [hlen]; omega), fun K hK => ?_, hbw.size, hbw.alloc hbw.size _⟩
      rw [hqq, trim_val hrnd.digs (by omega) (by rw [hl]; exact HT.out) K (by omega)]
      unfold val
      rw [hrnd.nval K (by have := HD.out.2.1; omega) (by omega)]
      rfl
    by_cases hd0 : d = 0
    · have HF2 := hid (HFIN.out (.inr hd0))
      subst hd0
      clear HFIN cx
      go_wp2
      go_ret
      exact HF2.out
    · by_cases hx0 : x = 0
      · have hb0 : ((x : Int) == 0) = true := by simp [hx0]
        have HN : Hid (TrimTo R d l) := HT.out.next (by rw [← HX.out]; exact hx0)
        have HQ2 : Hid (q + 1 = p + (l - d : Nat)) := by unfold Hid; rw [HQ.out]; omega
        clear hx0 HFIN
        go_wp2
        all_goals go_roundw
        all_goals first
          | (case rel => exact ⟨d, by omega, by omega, congrArg (Value.int .i64) HQ2.out, rfl, HN.out, HS.out⟩)
          | skip
        all_goals simp [lenOf]
      · have HF2 := hid (HFIN.out (.inl hx0))
        have hb0 : ((x : Int) == 0) = false := by rw [beq_eq_false_iff_ne]; omega
        clear hx0 HFIN
        go_wp2
        go_ret
        exact HF2.out
end Go.Proofs.YtbkdaoicnobllaaDoor
