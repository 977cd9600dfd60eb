import Derived.Test.YtbkdaoicnobllaaTFrac
import Derived.Deep.DeepCutAuto
import Derived.Deep.RegionWith
import Derived.Deep.DrawnRows

namespace Go.Proofs.Ytbkdaoicnobllaa
open Go.RowKit
attribute [local go_sem ↓] Go.wp_at_zero Go.wp_at_succ

/-- How what is left compares with half of the last bit's worth. -/
def restOf (V U : Nat) : Int := if V = 0 then 0 else if V < U then 1 else if V = U then 2 else 3
theorem FracAt.moved {S : Nat → Prop} {w w1 : World} {p bo bu V U V' U' : Nat} {pw : Int} {l l' : Nat} (h : FracAt S w p bo bu V U pw l) (ht : TwoN (fun k => S k ∨ k = p) w1 bo bu V' U' l' l') (hk : Kept (fun k => S k ∨ k = p) w w1) : FracAt S w1 p bo bu V' U' pw l' :=
  ⟨hk.cell h.c0 (.inr rfl), hk.cell h.c1 (.inr rfl), hk.cell h.c2 (.inr rfl), by
    rw [World.frozen?_of_block (w := w) (hk.block p (h.two.keep p (.inr rfl)) (fun hn => hn (.inr rfl)))]; exact h.fz, h.out, ht⟩
theorem FracAt.widen {S : Nat → Prop} {w : World} {p bo bu V U : Nat} {pw : Int} {l l' : Nat} (h : FracAt S w p bo bu V U pw l) (hl : l ≤ l') : FracAt S w p bo bu V U pw l' := ⟨h.c0, h.c1, h.c2, h.fz, h.out, h.two.widen hl hl⟩
theorem Kept.less {S : Nat → Prop} {w w1 : World} {p : Nat} (h : Kept (fun k => S k ∨ k = p) w w1) : Kept S w w1 := h.mono (fun _ hk => .inl hk)
theorem TwoN.still {S : Nat → Prop} {w w1 : World} {bo bu V U l1 l2 : Nat} (h : TwoN S w bo bu V U l1 l2) (hs : Still w w1) : TwoN S w1 bo bu V U l1 l2 := by
  obtain ⟨vo, Lo, vu, Lu, h1, h2⟩ := h
  exact ⟨vo, Lo, vu, Lu, h1.still hs, h2⟩
theorem FracAt.still {S : Nat → Prop} {w w1 : World} {p bo bu V U : Nat} {pw : Int} {l : Nat} (h : FracAt S w p bo bu V U pw l) (hs : Still w w1) : FracAt S w1 p bo bu V U pw l := h.moved (h.two.still hs) (hs.turn _)
theorem TwoN.turn {S T : Nat → Prop} {w w1 : World} {bo bu V U l1 l2 : Nat} (h : TwoN S w bo bu V U l1 l2) (ht : Turn T w w1) (hs : ∀ k, T k → S k) : TwoN S w1 bo bu V U l1 l2 := by
  obtain ⟨vo, Lo, vu, Lu, h1, h2⟩ := h
  exact ⟨vo, Lo, vu, Lu, ⟨h1.over.turn ht (fun k a b => h1.so k a (hs k b)), h1.under.turn ht (fun k a b => h1.su k a (hs k b)), h1.apart, fun k hk => Nat.lt_of_lt_of_le (h1.keep k hk) ht.size, h1.so, h1.su⟩, h2⟩
theorem FracAt.setPower {S : Nat → Prop} {w : World} {p bo bu V U : Nat} {pw : Int} {l : Nat} (h : FracAt S w p bo bu V U pw l) (q : Int) : FracAt S (w.setCell ⟨p, 2, none⟩ (.int .i64 q)) p bo bu V U q l ∧ Kept S w (w.setCell ⟨p, 2, none⟩ (.int .i64 q)) := by
  refine ⟨⟨?_, ?_, ?_, ?_, h.out, ?_⟩, (Turn.refl _ _).setCell _ _ h.out⟩
  · rw [World.cell?_setCell_other _ _ _ _ (by simp)]; exact h.c0
  · rw [World.cell?_setCell_other _ _ _ _ (by simp)]; exact h.c1
  · exact World.cell?_setCell_same' _ _ _ (by rw [h.c2]; rfl)
  · rw [show (w.setCell ⟨p, 2, none⟩ (.int .i64 q)).frozen? ⟨p, 2, none⟩ = w.frozen? ⟨p, 2, none⟩ from by simp [go_sem]]; exact h.fz
  · exact h.two.turn ((Turn.refl (fun k => k = p) w).setCell _ _ rfl) (fun k hk => .inr hk)
theorem take_step {V U V1 q i b : Nat} (h : V * 2 ^ i = 2 * U * q + V1 ∧ V1 < 2 * U ∧ q < 2 ^ i) (hb : b * U ≤ V1) (hb1 : b ≤ 1) (hb2 : V1 - b * U < U) : V * 2 ^ (i + 1) = 2 * U * (q * 2 + b) + (V1 - b * U) * 2 ^ 1 ∧ (V1 - b * U) * 2 ^ 1 < 2 * U ∧ q * 2 + b < 2 ^ (i + 1) := by
  obtain ⟨h1, h2, h3⟩ := h
  rw [Nat.pow_succ 2 i, ← Nat.mul_assoc, h1]
  refine ⟨?_, by omega, by omega⟩
  obtain ⟨r, hr⟩ : ∃ r, V1 = b * U + r := ⟨V1 - b * U, by omega⟩
  rw [hr, Nat.add_sub_cancel_left]
  grind
theorem take_done {V U V1 q c : Nat} (h : V * 2 ^ c = 2 * U * q + V1 ∧ V1 < 2 * U ∧ q < 2 ^ c) : V * 2 ^ c / (2 * U) = q ∧ V * 2 ^ c % (2 * U) = V1 := by
  obtain ⟨h1, h2, _⟩ := h
  rw [h1]
  constructor
  · rw [Nat.mul_add_div (by omega), Nat.div_eq_of_lt h2, Nat.add_zero]
  · rw [Nat.mul_add_mod, Nat.mod_eq_of_lt h2]
theorem compareQ {S : Nat → Prop} {w : World} {bo bu V U l1 l2 : Nat} (h : TwoN S w bo bu V U l1 l2) (hl : l1 ≤ 90000) (hl2 : l2 ≤ 90000) (n : Nat) :
    Calls Try.prog 90 #[.pointer (some ⟨bo, 0, none⟩), .pointer (some ⟨bu, 0, none⟩)] (w.drewN n) fun e w' => e = .returned (.int .i64 (cmpN V U)) ∧ ∃ m, w' = (w.drewN n).drewN m := by
  obtain ⟨vo, Lo, vu, Lu, h1, rfl, rfl, h4, h5⟩ := h.still ((Still.refl w).drewN n)
  refine (compare_any bo bu vo vu Lo Lu _ h1.over h1.under (by omega) (by omega)).mono ?_
  rintro e w1 ⟨he, hs⟩
  exact ⟨he, hs.drew⟩

set_option maxRecDepth 100000 in
set_option maxHeartbeats 1000000 in
theorem rest_any (S : Nat → Prop) (p bo bu V U l : Nat) (pw : Int) (w : World) (h : FracAt S w p bo bu V U pw l) (hl : l ≤ 90000) :
    Calls Try.prog 92 #[.pointer (some ⟨p, 0, none⟩)] w fun e w' => e = .returned (.int .i64 (restOf V U)) ∧ ∃ m, w' = w.drewN m := by
  have HX := hid (zeroO h.two)
  have HY := hid (compareQ h.two hl hl)
  have HH := hid h
  have c0 := h.c0
  have c1 := h.c1
  clear h
  go_enter Try.func92, Try.ntmps92
  go_wp2_with fail
  refine HX.out.mono ?_
  rintro e w1 ⟨rfl, rfl⟩
  clear HX
  by_cases hz : V = 0
  · have hr : Hid (restOf V U = 0) := by unfold Hid restOf; rw [if_pos hz]
    rw [decide_eq_true hz]
    clear hz HY
    go_wp2
    go_ret
    exact ⟨by rw [hr.out]; rfl, 0, rfl⟩
  · rw [decide_eq_false hz]
    go_wp2_with fail
    go_quiet ((go_at_call 90; exact Calls.quiet_of (HY.out _)))
    clear HY c0 c1 HH
    obtain ⟨w2, hw2⟩ : ∃ w2, w2 = w1.drewN nq := ⟨_, rfl⟩
    have HF : Hid (∃ m, w2 = w1.drewN m) := ⟨nq, hw2⟩
    rw [← hw2]
    clear hw2
    by_cases h1 : V < U
    · have hr : Hid (restOf V U = 1) := by unfold Hid restOf; rw [if_neg hz, if_pos h1]
      rw [cmpN_lt h1]
      clear hz h1
      go_wp2
      go_ret
      exact ⟨by rw [hr.out]; rfl, HF.out⟩
    · by_cases h3 : V = U
      · have hr : Hid (restOf V U = 2) := by unfold Hid restOf; rw [if_neg hz, if_neg h1, if_pos h3]
        rw [cmpN_eq h3]
        clear hz h1 h3
        go_wp2
        go_ret
        exact ⟨by rw [hr.out]; rfl, HF.out⟩
      · have hr : Hid (restOf V U = 3) := by unfold Hid restOf; rw [if_neg hz, if_neg h1, if_neg h3]
        rw [cmpN_gt (by omega)]
        clear hz h1 h3
        go_wp2
        go_ret
        exact ⟨by rw [hr.out]; rfl, HF.out⟩

set_option maxRecDepth 100000 in
set_option maxHeartbeats 1000000 in
theorem power_any (S : Nat → Prop) (p bo bu V U l : Nat) (pw : Int) (w : World) (h : FracAt S w p bo bu V U pw l) :
    Calls Try.prog 68 #[.pointer (some ⟨p, 0, none⟩)] w fun e w' => e = .returned (.int .i64 pw) ∧ w' = w := by
  have c2 := h.c2
  clear h
  go_enter Try.func68, Try.ntmps68
  go_wp2
  go_ret
  exact ⟨rfl, rfl⟩

set_option maxRecDepth 100000 in
set_option maxHeartbeats 1000000 in
theorem take_any (S : Nat → Prop) (p bo bu V U c : Nat) (pw : Int) (w : World) (h : FracAt S w p bo bu V U pw 8000) (hc : c ≤ 60) (hVU : V < 2 * U) (hp1 : -110000000 ≤ pw) (hp2 : pw ≤ 110000000) :
    Calls Try.prog 85 #[.pointer (some ⟨p, 0, none⟩), .int .i64 c] w fun e w' => e = .returned (.tuple #[.int .i64 ((V * 2 ^ c / (2 * U) : Nat)), .int .i64 (restOf (V * 2 ^ c % (2 * U)) U)]) ∧ Kept S w w' := by
  have HP : Hid (V * 2 ^ 0 = 2 * U * 0 + V ∧ V < 2 * U ∧ 0 < 2 ^ 0) := ⟨by omega, hVU, by omega⟩
  have HH := hid h
  clear h hVU
  go_enter Try.func85, Try.ntmps85
  go_wp2
  go_loopw [6, 7] (fun bb ii wr => ∃ i q V1 : Nat, bb = .int .i64 q ∧ ii = .int .i64 i ∧ i ≤ c ∧ Hid (V * 2 ^ i = 2 * U * q + V1 ∧ V1 < 2 * U ∧ q < 2 ^ i) ∧ Hid (FracAt S wr p bo bu V1 U (pw - i) (8000 + 2 * i)) ∧ Hid (Kept S w wr)) (fun _ ii _ => c - (intOf ii).toNat)
  case atStart => exact ⟨0, 0, V, rfl, rfl, Nat.zero_le _, HP.out, by simpa [Hid] using HH.out, Kept.refl _ _⟩
  case round =>
    clear HH HP
    obtain ⟨i, q, V1, rfl, rfl, hi, HE, HF, HK⟩ := hrel
    have hq : (q : Int) ≤ 1152921504606846976 := by
      have h1 := HE.out.2.2
      have h2 : 2 ^ i ≤ 2 ^ 60 := Nat.pow_le_pow_right (by omega) (by omega)
      omega
    have c0 := HF.out.c0
    have c1 := HF.out.c1
    by_cases hlt : i < c
    · have HQ := hid (compareQ HF.out.two (by omega) (by omega))
      go_wp2_with fail
      go_quiet ((go_at_call 90; exact Calls.quiet_of (HQ.out _)))
      have HF2 := hid (HF.out.still ((Still.refl wr).drewN nq))
      have HK2 := hid (HK.out.trans (show Kept S wr (wr.drewN nq) from ((Still.refl wr).drewN nq).turn _))
      clear HF HK HQ c0 c1
      generalize wr.drewN nq = w2 at *
      have c0 := HF2.out.c0
      have c1 := HF2.out.c1
      by_cases hge : U ≤ V1
      · have hcc : ∃ cc : Int, cmpN V1 U = cc ∧ 0 ≤ cc := by
          refine ⟨_, rfl, ?_⟩
          unfold cmpN; rw [if_neg (by omega)]; split <;> omega
        obtain ⟨cc, hcc, hc0⟩ := hcc
        rw [hcc]
        have HGE := hid hge
        clear hcc hge
        go_wp2_with fail
        go_cut [35] (fun s wx => s = .tuple #[] ∧ Hid (FracAt S wx p bo bu (V1 - U) U (pw - i) (8000 + 2 * i)) ∧ Hid (Kept S w wx))
        case first =>
          have HS : Hid (∀ wx, Still w2 wx → Calls Try.prog 91 #[.pointer (some ⟨bo, 0, none⟩), .pointer (some ⟨bu, 0, none⟩)] wx fun e w' => e = .returned (.tuple #[]) ∧ Hid (FracAt S w' p bo bu (V1 - U) U (pw - i) (8000 + 2 * i)) ∧ Hid (Kept S w w')) := by
            intro wx hx
            have hf := HF2.out.still hx
            refine (subO hf.two (by omega) (by have := HE.out.2.1; omega) HGE.out).mono ?_
            rintro e w' ⟨he, h1, h2⟩
            exact ⟨he, hf.moved h1 h2, HK2.out.trans ((show Kept S w2 wx from hx.turn _).trans h2.less)⟩
          go_region_with (go_at_call 91; refine (HS.out _ ⟨_, rfl⟩).mono ?_; rintro r w3 ⟨rfl, h3⟩)
          all_goals (go_wp2_with fail; go_meet)
          all_goals exact ⟨rfl, h3⟩
        case rest =>
          obtain ⟨rfl, HF3, HK3⟩ := hcut
          clear c0 c1 HF2 HK2
          have c0 := HF3.out.c0
          have c2 := HF3.out.c2
          have HX := hid (shiftO HF3.out.two 1 (by omega) (by omega))
          go_wp2_with fail
          refine HX.out.mono ?_
          rintro e w4 ⟨rfl, h4, k4⟩
          have HF4 := hid (HF3.out.moved (h4.widen (l3 := 8000 + 2 * (i + 1)) (l4 := 8000 + 2 * (i + 1)) (by omega) (by omega)) k4)
          have HK4 := hid (HK3.out.trans k4.less)
          clear h4 k4 HX HF3 HK3 c0 c2
          have c2 := HF4.out.c2
          have fz := HF4.out.fz
          go_wp2
          go_roundw
          case rel =>
            obtain ⟨s1, s2⟩ := HF4.out.setPower (pw - i - 1)
            rw [show pw - (i : Int) - 1 = pw - ((i + 1 : Nat) : Int) from by omega] at *
            exact ⟨i + 1, q * 2 + 1, _, by go_num, by go_num, by omega, by have := take_step (b := 1) HE.out (by have := HGE.out; omega) (by omega) (by have := HE.out.2.1; have := HGE.out; omega); simp only [Nat.one_mul] at this; exact this, s1, HK4.out.trans s2⟩
          case measure => simp [intOf]; omega
      · have HLT := hid (show V1 < U by omega)
        rw [cmpN_lt (by omega)]
        clear hge
        have HF3 := HF2
        have HK3 := HK2
        have c2 := HF3.out.c2
        have HX := hid (shiftO HF3.out.two 1 (by omega) (by omega))
        clear c1
        go_wp2_with fail
        refine HX.out.mono ?_
        rintro e w4 ⟨rfl, h4, k4⟩
        have HF4 := hid (HF3.out.moved (h4.widen (l3 := 8000 + 2 * (i + 1)) (l4 := 8000 + 2 * (i + 1)) (by omega) (by omega)) k4)
        have HK4 := hid (HK3.out.trans k4.less)
        clear h4 k4 HX HF3 HK3 c0 c2
        have c2 := HF4.out.c2
        have fz := HF4.out.fz
        go_wp2
        go_roundw
        case rel =>
          obtain ⟨s1, s2⟩ := HF4.out.setPower (pw - i - 1)
          rw [show pw - (i : Int) - 1 = pw - ((i + 1 : Nat) : Int) from by omega] at *
          exact ⟨i + 1, q * 2 + 0, _, by go_num, by go_num, by omega, by have := take_step (b := 0) HE.out (by omega) (by omega) (by have := HLT.out; omega); simp only [Nat.zero_mul, Nat.sub_zero] at this; exact this, s1, HK4.out.trans s2⟩
        case measure => simp [intOf]; omega
    · have hic : i = c := by omega
      subst hic
      have HQ := hid (rest_any S p bo bu V1 U _ _ _ HF.out (by omega))
      have HR := hid (take_done HE.out)
      clear HE HF c0 c1
      go_wp2_with fail
      refine HQ.out.mono ?_
      rintro e w2 ⟨rfl, hm⟩
      have HK2 := hid (HK.out.trans (show Kept S wr w2 from (Still.mk hm).turn _))
      clear HQ HK hm
      go_wp2
      go_ret2
      exact ⟨by rw [HR.out.1, HR.out.2]; rfl, HK2.out⟩

set_option maxRecDepth 100000 in
set_option maxHeartbeats 1000000 in
theorem take_neg (p : Nat) (c : Int) (w : World) (hc : c < 0) :
    Calls Try.prog 85 #[.pointer (some ⟨p, 0, none⟩), .int .i64 c] w fun e w' => e = .returned (.tuple #[.int .i64 0, .int .i64 1]) ∧ w' = w := by
  go_enter Try.func85, Try.ntmps85
  go_wp2
  go_ret2
  exact ⟨rfl, rfl⟩
end Go.Proofs.Ytbkdaoicnobllaa
