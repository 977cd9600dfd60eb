import Derived.Test.YtbkdaoicnobllabGreatDoorG13
import Derived.Deep.DeepCutAuto
import Derived.Deep.RegionWith
import Derived.Deep.DrawnRows
import Derived.Test.YtbkdaoicnobllabGreatDoorG12

namespace Go.Proofs.YtbkdaoicnobllabGreatDoor
open Go.RowKit
attribute [local go_sem ↓] Go.wp_at_zero Go.wp_at_succ

/-- How what is left compares with half of the last bit's worth. -/
def restOf (V U : Nat) : Int := if V = 0 then 0 else if V < U then 1 else if V = U then 2 else 3
theorem FracAt.moved {S : Nat → Prop} {w w1 : World} {p bo bu V U V' U' : Nat} {pw : Int} {l l' : Nat} (h : FracAt S w p bo bu V U pw l) (ht : TwoN (fun k => S k ∨ k = p) w1 bo bu V' U' l' l') (hk : Kept (fun k => S k ∨ k = p) w w1) : FracAt S w1 p bo bu V' U' pw l' :=
  ⟨hk.cell h.c0 (.inr rfl), hk.cell h.c1 (.inr rfl), hk.cell h.c2 (.inr rfl), by
    rw [World.frozen?_of_block (w := w) (hk.block p (h.two.keep p (.inr rfl)) (fun hn => hn (.inr rfl)))]; exact h.fz, h.out, ht⟩
theorem FracAt.widen {S : Nat → Prop} {w : World} {p bo bu V U : Nat} {pw : Int} {l l' : Nat} (h : FracAt S w p bo bu V U pw l) (hl : l ≤ l') : FracAt S w p bo bu V U pw l' := ⟨h.c0, h.c1, h.c2, h.fz, h.out, h.two.widen hl hl⟩
theorem Kept.less {S : Nat → Prop} {w w1 : World} {p : Nat} (h : Kept (fun k => S k ∨ k = p) w w1) : Kept S w w1 := h.mono (fun _ hk => .inl hk)
theorem TwoN.still {S : Nat → Prop} {w w1 : World} {bo bu V U l1 l2 : Nat} (h : TwoN S w bo bu V U l1 l2) (hs : Still w w1) : TwoN S w1 bo bu V U l1 l2 := by
  obtain ⟨vo, Lo, vu, Lu, h1, h2⟩ := h
  exact ⟨vo, Lo, vu, Lu, h1.still hs, h2⟩
theorem FracAt.still {S : Nat → Prop} {w w1 : World} {p bo bu V U : Nat} {pw : Int} {l : Nat} (h : FracAt S w p bo bu V U pw l) (hs : Still w w1) : FracAt S w1 p bo bu V U pw l := h.moved (h.two.still hs) (hs.turn _)
theorem TwoN.turn {S T : Nat → Prop} {w w1 : World} {bo bu V U l1 l2 : Nat} (h : TwoN S w bo bu V U l1 l2) (ht : Turn T w w1) (hs : ∀ k, T k → S k) : TwoN S w1 bo bu V U l1 l2 := by
  obtain ⟨vo, Lo, vu, Lu, h1, h2⟩ := h
  exact ⟨vo, Lo, vu, Lu, ⟨h1.over.turn ht (fun k a b => h1.so k a (hs k b)), h1.under.turn ht (fun k a b => h1.su k a (hs k b)), h1.apart, fun k hk => Nat.lt_of_lt_of_le (h1.keep k hk) ht.size, h1.so, h1.su⟩, h2⟩
theorem FracAt.setPower {S : Nat → Prop} {w : World} {p bo bu V U : Nat} {pw : Int} {l : Nat} (h : FracAt S w p bo bu V U pw l) (q : Int) : FracAt S (w.setCell ⟨p, 2, none⟩ (.int .i64 q)) p bo bu V U q l ∧ Kept S w (w.setCell ⟨p, 2, none⟩ (.int .i64 q)) := by
  refine ⟨⟨?_, ?_, ?_, ?_, h.out, ?_⟩, (Turn.refl _ _).setCell _ _ h.out⟩
  · rw [World.cell?_setCell_other _ _ _ _ (by simp)]; exact h.c0
  · rw [World.cell?_setCell_other _ _ _ _ (by simp)]; exact h.c1
  · exact World.cell?_setCell_same' _ _ _ (by rw [h.c2]; rfl)
  · rw [show (w.setCell ⟨p, 2, none⟩ (.int .i64 q)).frozen? ⟨p, 2, none⟩ = w.frozen? ⟨p, 2, none⟩ from by simp [go_sem]]; exact h.fz
  · exact h.two.turn ((Turn.refl (fun k => k = p) w).setCell _ _ rfl) (fun k hk => .inr hk)
theorem take_step {V U V1 q i b : Nat} (h : V * 2 ^ i = 2 * U * q + V1 ∧ V1 < 2 * U ∧ q < 2 ^ i) (hb : b * U ≤ V1) (hb1 : b ≤ 1) (hb2 : V1 - b * U < U) : V * 2 ^ (i + 1) = 2 * U * (q * 2 + b) + (V1 - b * U) * 2 ^ 1 ∧ (V1 - b * U) * 2 ^ 1 < 2 * U ∧ q * 2 + b < 2 ^ (i + 1) := by
  obtain ⟨h1, h2, h3⟩ := h
  rw [Nat.pow_succ 2 i, ← Nat.mul_assoc, h1]
  refine ⟨?_, by omega, by omega⟩
  obtain ⟨r, hr⟩ : ∃ r, V1 = b * U + r := ⟨V1 - b * U, by omega⟩
  rw [hr, Nat.add_sub_cancel_left]
  grind
theorem take_done {V U V1 q c : Nat} (h : V * 2 ^ c = 2 * U * q + V1 ∧ V1 < 2 * U ∧ q < 2 ^ c) : V * 2 ^ c / (2 * U) = q ∧ V * 2 ^ c % (2 * U) = V1 := by
  obtain ⟨h1, h2, _⟩ := h
  rw [h1]
  constructor
  · rw [Nat.mul_add_div (by omega), Nat.div_eq_of_lt h2, Nat.add_zero]
  · rw [Nat.mul_add_mod, Nat.mod_eq_of_lt h2]
theorem compareQ {S : Nat → Prop} {w : World} {bo bu V U l1 l2 : Nat} (h : TwoN S w bo bu V U l1 l2) (hl : l1 ≤ 90000) (hl2 : l2 ≤ 90000) (n : Nat) :
    Calls Tryz.prog 133 #[.pointer (some ⟨bo, 0, none⟩), .pointer (some ⟨bu, 0, none⟩)] (w.drewN n) fun e w' => e = .returned (.int .i64 (cmpN V U)) ∧ ∃ m, w' = (w.drewN n).drewN m := by
  obtain ⟨vo, Lo, vu, Lu, h1, rfl, rfl, h4, h5⟩ := h.still ((Still.refl w).drewN n)
  refine (compare_any bo bu vo vu Lo Lu _ h1.over h1.under (by omega) (by omega)).mono ?_
  rintro e w1 ⟨he, hs⟩
  exact ⟨he, hs.drew⟩

set_option maxRecDepth 100000 in
set_option maxHeartbeats 1000000 in
theorem rest_any (S : Nat → Prop) (p bo bu V U l : Nat) (pw : Int) (w : World) (h : FracAt S w p bo bu V U pw l) (hl : l ≤ 90000) :
    Calls Tryz.prog 135 #[.pointer (some ⟨p, 0, none⟩)] w fun e w' => e = .returned (.int .i64 (restOf V U)) ∧ ∃ m, w' = w.drewN m := by
  have HX := hid (zeroO h.two)
  have HY := hid (compareQ h.two hl hl)
  have HH := hid h
  have c0 := h.c0
  have c1 := h.c1
  clear h
  go_enter Tryz.func135, Tryz.ntmps135
  go_wp2_with fail
  refine HX.out.mono ?_
  rintro e w1 ⟨rfl, rfl⟩
  clear HX
  by_cases hz : V = 0
  · have hr : Hid (restOf V U = 0) := by unfold Hid restOf; rw [if_pos hz]
    rw [decide_eq_true hz]
    clear hz HY
    go_wp2
    go_ret
    exact ⟨by rw [hr.out]; rfl, 0, rfl⟩
  · rw [decide_eq_false hz]
    go_wp2_with fail
    go_quiet ((go_at_call 133; exact Calls.quiet_of (HY.out _)))
    clear HY c0 c1 HH
    obtain ⟨w2, hw2⟩ : ∃ w2, w2 = w1.drewN nq := ⟨_, rfl⟩
    have HF : Hid (∃ m, w2 = w1.drewN m) := ⟨nq, hw2⟩
    rw [← hw2]
    clear hw2
    by_cases h1 : V < U
    · have hr : Hid (restOf V U = 1) := by unfold Hid restOf; rw [if_neg hz, if_pos h1]
      rw [cmpN_lt h1]
      clear hz h1
      go_wp2
      go_ret
      exact ⟨by rw [hr.out]; rfl, HF.out⟩
    · by_cases h3 : V = U
      · have hr : Hid (restOf V U = 2) := by unfold Hid restOf; rw [if_neg hz, if_neg h1, if_pos h3]
        rw [cmpN_eq h3]
        clear hz h1 h3
        go_wp2
        go_ret
        exact ⟨by rw [hr.out]; rfl, HF.out⟩
      · have hr : Hid (restOf V U = 3) := by unfold Hid restOf; rw [if_neg hz, if_neg h1, if_neg h3]
        rw [cmpN_gt (by omega)]
        clear hz h1 h3
        go_wp2
        go_ret
        exact ⟨by rw [hr.out]; rfl, HF.out⟩

set_option maxRecDepth 100000 in
set_option maxHeartbeats 1000000 in
theorem power_any (S : Nat → Prop) (p bo bu V U l : Nat) (pw : Int) (w : World) (h : FracAt S w p bo bu V U pw l) :
    Calls Tryz.prog 66 #[.pointer (some ⟨p, 0, none⟩)] w fun e w' => e = .returned (.int .i64 pw) ∧ w' = w := by
  have c2 := h.c2
  clear h
  go_enter Tryz.func66, Tryz.ntmps66
  go_wp2
  go_ret
  exact ⟨rfl, rfl⟩

set_option maxRecDepth 100000 in
set_option maxHeartbeats 1000000 in
theorem take_any (S : Nat → Prop) (p bo bu V U c : Nat) (pw : Int) (w : World) (h : FracAt S w p bo bu V U pw 8000) (hc : c ≤ 60) (hVU : V < 2 * U) (hp1 : -110000000 ≤ pw) (hp2 : pw ≤ 110000000) :
    Calls Tryz.prog 110 #[.pointer (some ⟨p, 0, none⟩), .int .i64 c] w fun e w' => e = .returned (.tuple #[.int .i64 ((V * 2 ^ c / (2 * U) : Nat)), .int .i64 (restOf (V * 2 ^ c % (2 * U)) U)]) ∧ Kept S w w' := by
  have HP : Hid (V * 2 ^ 0 = 2 * U * 0 + V ∧ V < 2 * U ∧ 0 < 2 ^ 0) := ⟨by omega, hVU, by omega⟩
  have HH := hid h
  clear h hVU
  go_enter Tryz.func110, Tryz.ntmps110
  go_wp2
  go_loopw [6, 7] (fun bb ii wr => ∃ i q V1 : Nat, bb = .int .i64 q ∧ ii = .int .i64 i ∧ i ≤ c ∧ Hid (V * 2 ^ i = 2 * U * q + V1 ∧ V1 < 2 * U ∧ q < 2 ^ i) ∧ Hid (FracAt S wr p bo bu V1 U (pw - i) (8000 + 2 * i)) ∧ Hid (Kept S w wr)) (fun _ ii _ => c - (intOf ii).toNat)
  case atStart => exact ⟨0, 0, V, rfl, rfl, Nat.zero_le _, HP.out, by simpa [Hid] using HH.out, Kept.refl _ _⟩
  case round =>
    clear HH HP
    obtain ⟨i, q, V1, rfl, rfl, hi, HE, HF, HK⟩ := hrel
    have hq : (q : Int) ≤ 1152921504606846976 := by
      have h1 := HE.out.2.2
      have h2 : 2 ^ i ≤ 2 ^ 60 := Nat.pow_le_pow_right (by omega) (by omega)
      omega
    have c0 := HF.out.c0
    have c1 := HF.out.c1
    by_cases hlt : i < c
    · have HQ := hid (compareQ HF.out.two (by omega) (by omega))
      go_wp2_with fail
      go_quiet ((go_at_call 133; exact Calls.quiet_of (HQ.out _)))
      have HF2 := hid (HF.out.still ((Still.refl wr).drewN nq))
      have HK2 := hid (HK.out.trans (show Kept S wr (wr.drewN nq) from ((Still.refl wr).drewN nq).turn _))
      clear HF HK HQ c0 c1
      generalize wr.drewN nq = w2 at *
      have c0 := HF2.out.c0
      have c1 := HF2.out.c1
      by_cases hge : U ≤ V1
      · have hcc : ∃ cc : Int, cmpN V1 U = cc ∧ 0 ≤ cc := by
          refine ⟨_, rfl, ?_⟩
          unfold cmpN; rw [if_neg (by omega)]; split <;> omega
        obtain ⟨cc, hcc, hc0⟩ := hcc
        rw [hcc]
        have HGE := hid hge
        clear hcc hge
        go_wp2_with fail
        go_cut [35] (fun s wx => s = .tuple #[] ∧ Hid (FracAt S wx p bo bu (V1 - U) U (pw - i) (8000 + 2 * i)) ∧ Hid (Kept S w wx))
        case first =>
          have HS : Hid (∀ wx, Still w2 wx → Calls Tryz.prog 134 #[.pointer (some ⟨bo, 0, none⟩), .pointer (some ⟨bu, 0, none⟩)] wx fun e w' => e = .returned (.tuple #[]) ∧ Hid (FracAt S w' p bo bu (V1 - U) U (pw - i) (8000 + 2 * i)) ∧ Hid (Kept S w w')) := by
            intro wx hx
            have hf := HF2.out.still hx
            refine (subO hf.two (by omega) (by have := HE.out.2.1; omega) HGE.out).mono ?_
            rintro e w' ⟨he, h1, h2⟩
            exact ⟨he, hf.moved h1 h2, HK2.out.trans ((show Kept S w2 wx from hx.turn _).trans h2.less)⟩
          go_region_with (go_at_call 134; refine (HS.out _ ⟨_, rfl⟩).mono ?_; rintro r w3 ⟨rfl, h3⟩)
          all_goals (go_wp2_with fail; go_meet)
          all_goals exact ⟨rfl, h3⟩
        case rest =>
          obtain ⟨rfl, HF3, HK3⟩ := hcut
          clear c0 c1 HF2 HK2
          have c0 := HF3.out.c0
          have c2 := HF3.out.c2
          have HX := hid (shiftO HF3.out.two 1 (by omega) (by omega))
          go_wp2_with fail
          refine HX.out.mono ?_
          rintro e w4 ⟨rfl, h4, k4⟩
          have HF4 := hid (HF3.out.moved (h4.widen (l3 := 8000 + 2 * (i + 1)) (l4 := 8000 + 2 * (i + 1)) (by omega) (by omega)) k4)
          have HK4 := hid (HK3.out.trans k4.less)
          clear h4 k4 HX HF3 HK3 c0 c2
          have c2 := HF4.out.c2
          have fz := HF4.out.fz
          go_wp2
          go_roundw
          case rel =>
            obtain ⟨s1, s2⟩ := HF4.out.setPower (pw - i - 1)
            rw [show pw - (i : Int) - 1 = pw - ((i + 1 : Nat) : Int) from by omega] at *
            exact ⟨i + 1, q * 2 + 1, _, by go_num, by go_num, by omega, by have := take_step (b := 1) HE.out (by have := HGE.out; omega) (by omega) (by have := HE.out.2.1; have := HGE.out; omega); simp only [Nat.one_mul] at this; exact this, s1, HK4.out.trans s2⟩
          case measure => simp [intOf]; omega
      · have HLT := hid (show V1 < U by omega)
        rw [cmpN_lt (by omega)]
        clear hge
        have HF3 := HF2
        have HK3 := HK2
        have c2 := HF3.out.c2
        have HX := hid (shiftO HF3.out.two 1 (by omega) (by omega))
        clear c1
        go_wp2_with fail
        refine HX.out.mono ?_
        rintro e w4 ⟨rfl, h4, k4⟩
        have HF4 := hid (HF3.out.moved (h4.widen (l3 := 8000 + 2 * (i + 1)) (l4 := 8000 + 2 * (i + 1)) (by omega) (by omega)) k4)
        have HK4 := hid (HK3.out.trans k4.less)
        clear h4 k4 HX HF3 HK3 c0 c2
        have c2 := HF4.out.c2
        have fz := HF4.out.fz
        go_wp2
        go_roundw
        case rel =>
          obtain ⟨s1, s2⟩ := HF4.out.setPower (pw - i - 1)
          rw [show pw - (i : Int) - 1 = pw - ((i + 1 : Nat) : Int) from by omega] at *
          exact ⟨i + 1, q * 2 + 0, _, by go_num, by go_num, by omega, by have := take_step (b := 0) HE.out (by omega) (by omega) (by have := HLT.out; omega); simp only [Nat.zero_mul, Nat.sub_zero] at this; exact this, s1, HK4.out.trans s2⟩
        case measure => simp [intOf]; omega
    · have hic : i = c := by omega
      subst hic
      have HQ := hid (rest_any S p bo bu V1 U _ _ _ HF.out (by omega))
      have HR := hid (take_done HE.out)
      clear HE HF c0 c1
      go_wp2_with fail
      refine HQ.out.mono ?_
      rintro e w2 ⟨rfl, hm⟩
      have HK2 := hid (HK.out.trans (show Kept S wr w2 from (Still.mk hm).turn _))
      clear HQ HK hm
      go_wp2
      go_ret2
      exact ⟨by rw [HR.out.1, HR.out.2]; rfl, HK2.out⟩

set_option maxRecDepth 100000 in
set_option maxHeartbeats 1000000 in
theorem take_neg (p : Nat) (c : Int) (w : World) (hc : c < 0) :
    Calls Tryz.prog 110 #[.pointer (some ⟨p, 0, none⟩), .int .i64 c] w fun e w' => e = .returned (.tuple #[.int .i64 0, .int .i64 1]) ∧ w' = w := by
  go_enter Tryz.func110, Tryz.ntmps110
  go_wp2
  go_ret2
  exact ⟨rfl, rfl⟩
end Go.Proofs.YtbkdaoicnobllabGreatDoor

namespace Go.Proofs.YtbkdaoicnobllabGreatDoor
open Go.RowKit

/-- A Layout's value. -/
def layV (F B N I G : Int) : Value := .agg #[.int .i64 F, .int .i64 B, .int .i64 N, .int .i64 I, .int .i64 G]
def layOf (f : Int) : Value := if f = 0 then layV 10 15 1024 31744 32768 else if f = 1 then layV 23 127 8388608 2139095040 2147483648 else layV 52 1023 4503599627370496 9218868437227405312 (-9223372036854775808)

set_option maxRecDepth 100000 in
set_option maxHeartbeats 1000000 in
theorem patOf_any (f : Int) (h0 : 0 ≤ f) (h2 : f ≤ 2) (w : World) :
    Calls Tryz.prog 27 #[.int .i64 f] w fun e w' => e = .returned (layOf f) ∧ Below w.heap.size w w' := by
  go_enter Tryz.func27, Tryz.ntmps27
  rcases (by omega : f = 0 ∨ f = 1 ∨ f = 2) with rfl | rfl | rfl
  · go_wp2
    refine bodyPost_ret (v := .agg #[.int .i64 (10), .int .i64 (15), .int .i64 (1024), .int .i64 (31744), .int .i64 (32768)]) (by simp [results, Tryz.results27, go_sem]) rfl ⟨?_, (Below.refl _ _).alloc (Nat.le_refl _) _⟩
    rfl
  · go_wp2
    refine bodyPost_ret (v := .agg #[.int .i64 (23), .int .i64 (127), .int .i64 (8388608), .int .i64 (2139095040), .int .i64 (2147483648)]) (by simp [results, Tryz.results27, go_sem]) rfl ⟨?_, (Below.refl _ _).alloc (Nat.le_refl _) _⟩
    rfl
  · go_wp2
    refine bodyPost_ret (v := .agg #[.int .i64 (52), .int .i64 (1023), .int .i64 (4503599627370496), .int .i64 (9218868437227405312), .int .i64 (-9223372036854775808)]) (by simp [results, Tryz.results27, go_sem]) rfl ⟨?_, (Below.refl _ _).alloc (Nat.le_refl _) _⟩
    rfl
set_option maxRecDepth 100000 in
set_option maxHeartbeats 1000000 in
theorem leastPower_any (F B N I G : Int) (hB1 : 0 ≤ B) (hB2 : B ≤ 1023) (w : World) :
    Calls Tryz.prog 90 #[layV F B N I G] w fun e w' => e = .returned (.int .i64 (1 - B)) ∧ Below w.heap.size w w' := by
  unfold layV
  go_enter Tryz.func90, Tryz.ntmps90
  go_wp2
  go_ret
  exact ⟨rfl, (Below.refl _ _).alloc (Nat.le_refl _) _⟩
set_option maxRecDepth 100000 in
set_option maxHeartbeats 1000000 in
theorem patNaN_any (f : Int) (h0 : 0 ≤ f) (h2 : f ≤ 2) (w : World) :
    Calls Tryz.prog 40 #[layOf f] w fun e w' => e = .returned (.int .i64 (nanP f)) ∧ Below w.heap.size w w' := by
  rcases (by omega : f = 0 ∨ f = 1 ∨ f = 2) with rfl | rfl | rfl
  · simp only [layOf, layV]
    go_enter Tryz.func40, Tryz.ntmps40
    go_wp2
    go_ret
    exact ⟨rfl, (Below.refl _ _).alloc (Nat.le_refl _) _⟩
  · simp only [layOf, layV]
    go_enter Tryz.func40, Tryz.ntmps40
    go_wp2
    go_ret
    exact ⟨rfl, (Below.refl _ _).alloc (Nat.le_refl _) _⟩
  · simp only [layOf, layV]
    go_enter Tryz.func40, Tryz.ntmps40
    go_wp2
    go_ret
    exact ⟨rfl, (Below.refl _ _).alloc (Nat.le_refl _) _⟩
set_option maxRecDepth 100000 in
set_option maxHeartbeats 1000000 in
theorem patSigned_any (f a : Int) (neg : Bool) (h0 : 0 ≤ f) (h2 : f ≤ 2) (ha0 : 0 ≤ a) (ha : a ≤ 9218868437227405312) (w : World) :
    Calls Tryz.prog 41 #[layOf f, .int .i64 a, .bool neg] w fun e w' => e = .returned (.int .i64 (signedV f neg a)) ∧ Below w.heap.size w w' := by
  cases neg
  · rcases (by omega : f = 0 ∨ f = 1 ∨ f = 2) with rfl | rfl | rfl
    · simp only [layOf, layV]
      go_enter Tryz.func41, Tryz.ntmps41
      go_wp2
      go_ret
      exact ⟨rfl, (Below.refl _ _).alloc (Nat.le_refl _) _⟩
    · simp only [layOf, layV]
      go_enter Tryz.func41, Tryz.ntmps41
      go_wp2
      go_ret
      exact ⟨rfl, (Below.refl _ _).alloc (Nat.le_refl _) _⟩
    · simp only [layOf, layV]
      go_enter Tryz.func41, Tryz.ntmps41
      go_wp2
      go_ret
      exact ⟨rfl, (Below.refl _ _).alloc (Nat.le_refl _) _⟩
  · rcases (by omega : f = 0 ∨ f = 1 ∨ f = 2) with rfl | rfl | rfl
    · simp only [layOf, layV]
      go_enter Tryz.func41, Tryz.ntmps41
      go_wp2
      go_ret
      exact ⟨rfl, (Below.refl _ _).alloc (Nat.le_refl _) _⟩
    · simp only [layOf, layV]
      go_enter Tryz.func41, Tryz.ntmps41
      go_wp2
      go_ret
      exact ⟨rfl, (Below.refl _ _).alloc (Nat.le_refl _) _⟩
    · simp only [layOf, layV]
      go_enter Tryz.func41, Tryz.ntmps41
      go_wp2
      go_ret
      exact ⟨rfl, (Below.refl _ _).alloc (Nat.le_refl _) _⟩
set_option maxRecDepth 100000 in
set_option maxHeartbeats 1000000 in
theorem toUpper_any (mode rest : Int) (neg odd : Bool) (h1 : 0 < rest) (h2 : rest ≤ 3) (w : World) :
    Calls Tryz.prog 68 #[.int .i64 mode, .bool neg, .bool odd, .int .i64 rest] w fun e w' => e = .returned (.bool (awayB mode neg rest odd)) ∧ w' = w := by
  rcases (by omega : rest = 1 ∨ rest = 2 ∨ rest = 3) with rfl | rfl | rfl
  · by_cases m0 : mode = 0
    · subst m0
      go_enter Tryz.func68, Tryz.ntmps68
      go_wp2
      all_goals (go_ret; exact ⟨by simp [awayB], rfl⟩)
    · by_cases m1 : mode = 1
      · subst m1
        go_enter Tryz.func68, Tryz.ntmps68
        go_wp2
        all_goals (go_ret; exact ⟨by simp [awayB], rfl⟩)
      · by_cases m3 : mode = 3
        · subst m3
          go_enter Tryz.func68, Tryz.ntmps68
          go_wp2
          all_goals (go_ret; exact ⟨by simp [awayB], rfl⟩)
        · by_cases m4 : mode = 4
          · subst m4
            go_enter Tryz.func68, Tryz.ntmps68
            go_wp2
            all_goals (go_ret; exact ⟨by simp [awayB], rfl⟩)
          · go_enter Tryz.func68, Tryz.ntmps68
            go_wp2
            go_ret
            exact ⟨by simp [awayB, m0, m1, m3, m4], rfl⟩
  · by_cases m0 : mode = 0
    · subst m0
      go_enter Tryz.func68, Tryz.ntmps68
      go_wp2
      all_goals (go_ret; exact ⟨by simp [awayB], rfl⟩)
    · by_cases m1 : mode = 1
      · subst m1
        go_enter Tryz.func68, Tryz.ntmps68
        go_wp2
        all_goals (go_ret; exact ⟨by simp [awayB], rfl⟩)
      · by_cases m3 : mode = 3
        · subst m3
          go_enter Tryz.func68, Tryz.ntmps68
          go_wp2
          all_goals (go_ret; exact ⟨by simp [awayB], rfl⟩)
        · by_cases m4 : mode = 4
          · subst m4
            go_enter Tryz.func68, Tryz.ntmps68
            go_wp2
            all_goals (go_ret; exact ⟨by simp [awayB], rfl⟩)
          · go_enter Tryz.func68, Tryz.ntmps68
            go_wp2
            go_ret
            exact ⟨by simp [awayB, m0, m1, m3, m4], rfl⟩
  · by_cases m0 : mode = 0
    · subst m0
      go_enter Tryz.func68, Tryz.ntmps68
      go_wp2
      all_goals (go_ret; exact ⟨by simp [awayB], rfl⟩)
    · by_cases m1 : mode = 1
      · subst m1
        go_enter Tryz.func68, Tryz.ntmps68
        go_wp2
        all_goals (go_ret; exact ⟨by simp [awayB], rfl⟩)
      · by_cases m3 : mode = 3
        · subst m3
          go_enter Tryz.func68, Tryz.ntmps68
          go_wp2
          all_goals (go_ret; exact ⟨by simp [awayB], rfl⟩)
        · by_cases m4 : mode = 4
          · subst m4
            go_enter Tryz.func68, Tryz.ntmps68
            go_wp2
            all_goals (go_ret; exact ⟨by simp [awayB], rfl⟩)
          · go_enter Tryz.func68, Tryz.ntmps68
            go_wp2
            go_ret
            exact ⟨by simp [awayB, m0, m1, m3, m4], rfl⟩
end Go.Proofs.YtbkdaoicnobllabGreatDoor

namespace Go.Proofs.YtbkdaoicnobllabGreatDoor
open Go.RowKit

theorem TwoN.below {S : Nat → Prop} {w w1 : World} {bo bu V U l1 l2 : Nat} (h : TwoN S w bo bu V U l1 l2) (hb : Below w.heap.size w w1) : TwoN S w1 bo bu V U l1 l2 := by
  obtain ⟨vo, Lo, vu, Lu, h1, h2⟩ := h
  have ht : Turn (fun k => w.heap.size ≤ k) w w1 := ⟨hb.os, hb.tape, hb.output, hb.size, fun k hk _ => hb.block k hk⟩
  exact ⟨vo, Lo, vu, Lu, ⟨h1.over.turn ht (fun k hk hn => by have := h1.over.foot_lt k hk; omega), h1.under.turn ht (fun k hk hn => by have := h1.under.foot_lt k hk; omega), h1.apart, fun k hk => Nat.lt_of_lt_of_le (h1.keep k hk) hb.size, h1.so, h1.su⟩, h2⟩
theorem FracAt.below {S : Nat → Prop} {w w1 : World} {p bo bu V U : Nat} {pw : Int} {l : Nat} (h : FracAt S w p bo bu V U pw l) (hb : Below w.heap.size w w1) : FracAt S w1 p bo bu V U pw l :=
  h.moved (h.two.below hb) (Below.kept hb h.two.keep)
theorem TwoN.set {S T : Nat → Prop} {w : World} {bo bu V U l1 l2 : Nat} (h : TwoN S w bo bu V U l1 l2) (hs : ∀ k, T k → S k) : TwoN T w bo bu V U l1 l2 := by
  obtain ⟨vo, Lo, vu, Lu, h1, h2⟩ := h
  exact ⟨vo, Lo, vu, Lu, ⟨h1.over, h1.under, h1.apart, fun k hk => h1.keep k (hs k hk), fun k hk ht => h1.so k hk (hs k ht), fun k hk ht => h1.su k hk (hs k ht)⟩, h2⟩
theorem FracAt.alloc {S : Nat → Prop} {w : World} {p bo bu V U : Nat} {pw : Int} {l : Nat} (h : FracAt S w p bo bu V U pw l) (o : Obj) : FracAt (fun k => S k ∨ k = w.heap.size) (w.alloc o) p bo bu V U pw l := by
  have hb : Below w.heap.size w (w.alloc o) := (Below.refl _ _).alloc (Nat.le_refl _) _
  have h1 := h.below hb
  have hp := h.two.keep p (.inr rfl)
  refine ⟨h1.c0, h1.c1, h1.c2, h1.fz, fun hs => ?_, (h.two.alloc o).set (fun k hk => ?_)⟩
  · rcases hs with hs | hs
    · exact h.out hs
    · omega
  · rcases hk with (hk | hk) | hk
    · exact .inl (.inl hk)
    · exact .inr hk
    · exact .inl (.inr hk)
/-- The lower neighbour's amount, and the rest. -/
def lowPair (F : Nat) (B N I : Int) (V U : Nat) (pw : Int) : Int × Int :=
  if B < pw then (I - 1, 3)
  else if pw < 1 - B then
    if (F : Int) + 1 - (1 - B - pw) < 0 then (0, 1) else (((V * 2 ^ ((F : Int) + 1 - (1 - B - pw)).toNat / (2 * U) : Nat) : Int), restOf (V * 2 ^ ((F : Int) + 1 - (1 - B - pw)).toNat % (2 * U)) U)
  else (((V * 2 ^ (F + 1) / (2 * U) : Nat) : Int) + (pw - (1 - B)) * N, restOf (V * 2 ^ (F + 1) % (2 * U)) U)
theorem take_lt {V U c : Nat} (h : V < 2 * U) : V * 2 ^ c / (2 * U) < 2 ^ c := by
  rw [Nat.div_lt_iff_lt_mul (by omega), Nat.mul_comm (2 ^ c)]
  exact Nat.mul_lt_mul_of_pos_right h (Nat.pow_pos (by omega))

set_option maxRecDepth 100000 in
set_option maxHeartbeats 1000000 in
theorem lower0 (S : Nat → Prop) (p bo bu V U : Nat) (pw : Int) (w : World) (h : FracAt S w p bo bu V U pw 8000) (hVU : V < 2 * U) (hp1 : -110000000 ≤ pw) (hp2 : pw ≤ 110000000) :
    Calls Tryz.prog 67 #[.pointer (some ⟨p, 0, none⟩), layV 10 15 1024 31744 (32768)] w fun e w' => e = .returned (.tuple #[.int .i64 (lowPair 10 15 1024 31744 V U pw).1, .int .i64 (lowPair 10 15 1024 31744 V U pw).2]) ∧ Kept S w w' := by
  obtain ⟨w1, hw1⟩ : ∃ w1, w1 = w.alloc (.cells #[.int .i64 10, .int .i64 15, .int .i64 1024, .int .i64 31744, .int .i64 (32768)] 63) := ⟨_, rfl⟩
  have HF1 : Hid (FracAt (fun k => S k ∨ k = w.heap.size) w1 p bo bu V U pw 8000) := by rw [hw1]; exact h.alloc _
  have HK1 : Hid (Kept S w w1) := by rw [hw1]; exact Below.kept ((Below.refl _ _).alloc (Nat.le_refl _) _) (fun k hs => h.two.keep k (.inl hs))
  have HV := hid hVU
  have l0 : w1.cell? ⟨w.heap.size, 0, none⟩ = some (.int .i64 10) := by rw [hw1]; simp [go_sem]
  have l1 : w1.cell? ⟨w.heap.size, 1, none⟩ = some (.int .i64 15) := by rw [hw1]; simp [go_sem]
  have l2 : w1.cell? ⟨w.heap.size, 2, none⟩ = some (.int .i64 1024) := by rw [hw1]; simp [go_sem]
  have l3 : w1.cell? ⟨w.heap.size, 3, none⟩ = some (.int .i64 31744) := by rw [hw1]; simp [go_sem]
  have l4 : w1.cell? ⟨w.heap.size, 4, none⟩ = some (.int .i64 (32768)) := by rw [hw1]; simp [go_sem]
  have HX := hid (power_any _ p bo bu V U 8000 pw w1 HF1.out)
  have HW := hid hw1
  clear h hVU hw1
  unfold layV
  go_enter Tryz.func67, Tryz.ntmps67
  go_wp2_with fail
  rw [← HW.out]
  refine HX.out.mono ?_
  rintro e w2 ⟨rfl, rfl⟩
  have HX2 := hid (leastPower_any 10 15 1024 31744 (32768) (by omega) (by omega) w2)
  unfold layV at HX2
  clear HX HW
  go_wp2_with fail
  refine HX2.out.mono ?_
  rintro e w3 ⟨rfl, hb3⟩
  have HF3 := hid (HF1.out.below hb3)
  have HK3 := hid (HK1.out.trans (Below.kept hb3 (fun k hs => HF1.out.two.keep k (.inl (.inl hs)))))
  have m0 := keep_cell' hb3 l0
  have m1 := keep_cell' hb3 l1
  have m2 := keep_cell' hb3 l2
  have m3 := keep_cell' hb3 l3
  clear HX2 HF1 HK1 l0 l1 l2 l3 l4 hb3
  by_cases hA : 15 < pw
  · have hl : Hid (lowPair 10 15 1024 31744 V U pw = (31744 - 1, 3)) := by unfold Hid lowPair; rw [if_pos hA]
    go_wp2
    go_ret2
    exact ⟨by rw [hl.out]; rfl, HK3.out⟩
  · by_cases hB : pw < 1 - 15
    · by_cases hC : (10 : Int) + 1 - (1 - 15 - pw) < 0
      · have hl : Hid (lowPair 10 15 1024 31744 V U pw = (0, 1)) := by unfold Hid lowPair; rw [if_neg hA, if_pos hB]; exact if_pos hC
        have HX3 := hid (take_neg p (11 - (-14 - pw)) w3 (by omega))
        go_wp2_with fail
        refine HX3.out.mono ?_
        rintro e w4 ⟨rfl, rfl⟩
        clear HX3
        go_wp2
        go_ret2
        exact ⟨by rw [hl.out]; rfl, HK3.out⟩
      · obtain ⟨c, hc⟩ : ∃ c : Nat, 11 - (-14 - pw) = (c : Int) := ⟨(11 - (-14 - pw)).toNat, by omega⟩
        have hl : Hid (lowPair 10 15 1024 31744 V U pw = (((V * 2 ^ c / (2 * U) : Nat) : Int), restOf (V * 2 ^ c % (2 * U)) U)) := by
          unfold Hid lowPair
          rw [if_neg hA, if_pos hB, if_neg (show ¬ (((10 : Nat) : Int) + 1 - (1 - 15 - pw) < 0) from hC), show (((10 : Nat) : Int) + 1 - (1 - 15 - pw)).toNat = c from by omega]
        have HX3 := hid (take_any _ p bo bu V U c pw w3 HF3.out (by omega) HV.out hp1 hp2)
        have HC := hid hc
        clear hc hC
        go_wp2_with fail
        rw [HC.out]
        refine HX3.out.mono ?_
        rintro e w4 ⟨rfl, hk4⟩
        have HK4 := hid (HK3.out.trans (hk4.mono (fun k hs => .inl hs)))
        clear HX3 hk4
        go_wp2
        go_ret2
        exact ⟨by rw [hl.out]; rfl, HK4.out⟩
    · have HX3 := hid (take_any _ p bo bu V U 11 pw w3 HF3.out (by omega) HV.out hp1 hp2)
      have hq := take_lt (c := 11) HV.out
      have HL : Hid (lowPair 10 15 1024 31744 V U pw = (((V * 2 ^ 11 / (2 * U) : Nat) : Int) + (pw - -14) * 1024, restOf (V * 2 ^ 11 % (2 * U)) U)) := by unfold Hid lowPair; rw [if_neg hA, if_neg hB]; rfl
      go_wp2_with fail
      refine HX3.out.mono ?_
      rintro e w4 ⟨rfl, hk4⟩
      have n2 := hk4.cell m2 (.inr rfl)
      have HK4 := hid (HK3.out.trans (hk4.mono (fun k hs => .inl hs)))
      obtain ⟨q, hqq⟩ : ∃ q, q = V * 2 ^ 11 / (2 * U) := ⟨_, rfl⟩
      rw [← hqq] at hq HL ⊢
      have hq2 : (q : Int) ≤ 2048 := by omega
      clear HX3 hk4 hqq hq
      go_wp2
      go_ret2
      exact ⟨by rw [HL.out]; rfl, HK4.out⟩

set_option maxRecDepth 100000 in
set_option maxHeartbeats 1000000 in
theorem lower1 (S : Nat → Prop) (p bo bu V U : Nat) (pw : Int) (w : World) (h : FracAt S w p bo bu V U pw 8000) (hVU : V < 2 * U) (hp1 : -110000000 ≤ pw) (hp2 : pw ≤ 110000000) :
    Calls Tryz.prog 67 #[.pointer (some ⟨p, 0, none⟩), layV 23 127 8388608 2139095040 (2147483648)] w fun e w' => e = .returned (.tuple #[.int .i64 (lowPair 23 127 8388608 2139095040 V U pw).1, .int .i64 (lowPair 23 127 8388608 2139095040 V U pw).2]) ∧ Kept S w w' := by
  obtain ⟨w1, hw1⟩ : ∃ w1, w1 = w.alloc (.cells #[.int .i64 23, .int .i64 127, .int .i64 8388608, .int .i64 2139095040, .int .i64 (2147483648)] 63) := ⟨_, rfl⟩
  have HF1 : Hid (FracAt (fun k => S k ∨ k = w.heap.size) w1 p bo bu V U pw 8000) := by rw [hw1]; exact h.alloc _
  have HK1 : Hid (Kept S w w1) := by rw [hw1]; exact Below.kept ((Below.refl _ _).alloc (Nat.le_refl _) _) (fun k hs => h.two.keep k (.inl hs))
  have HV := hid hVU
  have l0 : w1.cell? ⟨w.heap.size, 0, none⟩ = some (.int .i64 23) := by rw [hw1]; simp [go_sem]
  have l1 : w1.cell? ⟨w.heap.size, 1, none⟩ = some (.int .i64 127) := by rw [hw1]; simp [go_sem]
  have l2 : w1.cell? ⟨w.heap.size, 2, none⟩ = some (.int .i64 8388608) := by rw [hw1]; simp [go_sem]
  have l3 : w1.cell? ⟨w.heap.size, 3, none⟩ = some (.int .i64 2139095040) := by rw [hw1]; simp [go_sem]
  have l4 : w1.cell? ⟨w.heap.size, 4, none⟩ = some (.int .i64 (2147483648)) := by rw [hw1]; simp [go_sem]
  have HX := hid (power_any _ p bo bu V U 8000 pw w1 HF1.out)
  have HW := hid hw1
  clear h hVU hw1
  unfold layV
  go_enter Tryz.func67, Tryz.ntmps67
  go_wp2_with fail
  rw [← HW.out]
  refine HX.out.mono ?_
  rintro e w2 ⟨rfl, rfl⟩
  have HX2 := hid (leastPower_any 23 127 8388608 2139095040 (2147483648) (by omega) (by omega) w2)
  unfold layV at HX2
  clear HX HW
  go_wp2_with fail
  refine HX2.out.mono ?_
  rintro e w3 ⟨rfl, hb3⟩
  have HF3 := hid (HF1.out.below hb3)
  have HK3 := hid (HK1.out.trans (Below.kept hb3 (fun k hs => HF1.out.two.keep k (.inl (.inl hs)))))
  have m0 := keep_cell' hb3 l0
  have m1 := keep_cell' hb3 l1
  have m2 := keep_cell' hb3 l2
  have m3 := keep_cell' hb3 l3
  clear HX2 HF1 HK1 l0 l1 l2 l3 l4 hb3
  by_cases hA : 127 < pw
  · have hl : Hid (lowPair 23 127 8388608 2139095040 V U pw = (2139095040 - 1, 3)) := by unfold Hid lowPair; rw [if_pos hA]
    go_wp2
    go_ret2
    exact ⟨by rw [hl.out]; rfl, HK3.out⟩
  · by_cases hB : pw < 1 - 127
    · by_cases hC : (23 : Int) + 1 - (1 - 127 - pw) < 0
      · have hl : Hid (lowPair 23 127 8388608 2139095040 V U pw = (0, 1)) := by unfold Hid lowPair; rw [if_neg hA, if_pos hB]; exact if_pos hC
        have HX3 := hid (take_neg p (24 - (-126 - pw)) w3 (by omega))
        go_wp2_with fail
        refine HX3.out.mono ?_
        rintro e w4 ⟨rfl, rfl⟩
        clear HX3
        go_wp2
        go_ret2
        exact ⟨by rw [hl.out]; rfl, HK3.out⟩
      · obtain ⟨c, hc⟩ : ∃ c : Nat, 24 - (-126 - pw) = (c : Int) := ⟨(24 - (-126 - pw)).toNat, by omega⟩
        have hl : Hid (lowPair 23 127 8388608 2139095040 V U pw = (((V * 2 ^ c / (2 * U) : Nat) : Int), restOf (V * 2 ^ c % (2 * U)) U)) := by
          unfold Hid lowPair
          rw [if_neg hA, if_pos hB, if_neg (show ¬ (((23 : Nat) : Int) + 1 - (1 - 127 - pw) < 0) from hC), show (((23 : Nat) : Int) + 1 - (1 - 127 - pw)).toNat = c from by omega]
        have HX3 := hid (take_any _ p bo bu V U c pw w3 HF3.out (by omega) HV.out hp1 hp2)
        have HC := hid hc
        clear hc hC
        go_wp2_with fail
        rw [HC.out]
        refine HX3.out.mono ?_
        rintro e w4 ⟨rfl, hk4⟩
        have HK4 := hid (HK3.out.trans (hk4.mono (fun k hs => .inl hs)))
        clear HX3 hk4
        go_wp2
        go_ret2
        exact ⟨by rw [hl.out]; rfl, HK4.out⟩
    · have HX3 := hid (take_any _ p bo bu V U 24 pw w3 HF3.out (by omega) HV.out hp1 hp2)
      have hq := take_lt (c := 24) HV.out
      have HL : Hid (lowPair 23 127 8388608 2139095040 V U pw = (((V * 2 ^ 24 / (2 * U) : Nat) : Int) + (pw - -126) * 8388608, restOf (V * 2 ^ 24 % (2 * U)) U)) := by unfold Hid lowPair; rw [if_neg hA, if_neg hB]; rfl
      go_wp2_with fail
      refine HX3.out.mono ?_
      rintro e w4 ⟨rfl, hk4⟩
      have n2 := hk4.cell m2 (.inr rfl)
      have HK4 := hid (HK3.out.trans (hk4.mono (fun k hs => .inl hs)))
      obtain ⟨q, hqq⟩ : ∃ q, q = V * 2 ^ 24 / (2 * U) := ⟨_, rfl⟩
      rw [← hqq] at hq HL ⊢
      have hq2 : (q : Int) ≤ 16777216 := by omega
      clear HX3 hk4 hqq hq
      go_wp2
      go_ret2
      exact ⟨by rw [HL.out]; rfl, HK4.out⟩

set_option maxRecDepth 100000 in
set_option maxHeartbeats 1000000 in
theorem lower2 (S : Nat → Prop) (p bo bu V U : Nat) (pw : Int) (w : World) (h : FracAt S w p bo bu V U pw 8000) (hVU : V < 2 * U) (hp1 : -110000000 ≤ pw) (hp2 : pw ≤ 110000000) :
    Calls Tryz.prog 67 #[.pointer (some ⟨p, 0, none⟩), layV 52 1023 4503599627370496 9218868437227405312 (-9223372036854775808)] w fun e w' => e = .returned (.tuple #[.int .i64 (lowPair 52 1023 4503599627370496 9218868437227405312 V U pw).1, .int .i64 (lowPair 52 1023 4503599627370496 9218868437227405312 V U pw).2]) ∧ Kept S w w' := by
  obtain ⟨w1, hw1⟩ : ∃ w1, w1 = w.alloc (.cells #[.int .i64 52, .int .i64 1023, .int .i64 4503599627370496, .int .i64 9218868437227405312, .int .i64 (-9223372036854775808)] 63) := ⟨_, rfl⟩
  have HF1 : Hid (FracAt (fun k => S k ∨ k = w.heap.size) w1 p bo bu V U pw 8000) := by rw [hw1]; exact h.alloc _
  have HK1 : Hid (Kept S w w1) := by rw [hw1]; exact Below.kept ((Below.refl _ _).alloc (Nat.le_refl _) _) (fun k hs => h.two.keep k (.inl hs))
  have HV := hid hVU
  have l0 : w1.cell? ⟨w.heap.size, 0, none⟩ = some (.int .i64 52) := by rw [hw1]; simp [go_sem]
  have l1 : w1.cell? ⟨w.heap.size, 1, none⟩ = some (.int .i64 1023) := by rw [hw1]; simp [go_sem]
  have l2 : w1.cell? ⟨w.heap.size, 2, none⟩ = some (.int .i64 4503599627370496) := by rw [hw1]; simp [go_sem]
  have l3 : w1.cell? ⟨w.heap.size, 3, none⟩ = some (.int .i64 9218868437227405312) := by rw [hw1]; simp [go_sem]
  have l4 : w1.cell? ⟨w.heap.size, 4, none⟩ = some (.int .i64 (-9223372036854775808)) := by rw [hw1]; simp [go_sem]
  have HX := hid (power_any _ p bo bu V U 8000 pw w1 HF1.out)
  have HW := hid hw1
  clear h hVU hw1
  unfold layV
  go_enter Tryz.func67, Tryz.ntmps67
  go_wp2_with fail
  rw [← HW.out]
  refine HX.out.mono ?_
  rintro e w2 ⟨rfl, rfl⟩
  have HX2 := hid (leastPower_any 52 1023 4503599627370496 9218868437227405312 (-9223372036854775808) (by omega) (by omega) w2)
  unfold layV at HX2
  clear HX HW
  go_wp2_with fail
  refine HX2.out.mono ?_
  rintro e w3 ⟨rfl, hb3⟩
  have HF3 := hid (HF1.out.below hb3)
  have HK3 := hid (HK1.out.trans (Below.kept hb3 (fun k hs => HF1.out.two.keep k (.inl (.inl hs)))))
  have m0 := keep_cell' hb3 l0
  have m1 := keep_cell' hb3 l1
  have m2 := keep_cell' hb3 l2
  have m3 := keep_cell' hb3 l3
  clear HX2 HF1 HK1 l0 l1 l2 l3 l4 hb3
  by_cases hA : 1023 < pw
  · have hl : Hid (lowPair 52 1023 4503599627370496 9218868437227405312 V U pw = (9218868437227405312 - 1, 3)) := by unfold Hid lowPair; rw [if_pos hA]
    go_wp2
    go_ret2
    exact ⟨by rw [hl.out]; rfl, HK3.out⟩
  · by_cases hB : pw < 1 - 1023
    · by_cases hC : (52 : Int) + 1 - (1 - 1023 - pw) < 0
      · have hl : Hid (lowPair 52 1023 4503599627370496 9218868437227405312 V U pw = (0, 1)) := by unfold Hid lowPair; rw [if_neg hA, if_pos hB]; exact if_pos hC
        have HX3 := hid (take_neg p (53 - (-1022 - pw)) w3 (by omega))
        go_wp2_with fail
        refine HX3.out.mono ?_
        rintro e w4 ⟨rfl, rfl⟩
        clear HX3
        go_wp2
        go_ret2
        exact ⟨by rw [hl.out]; rfl, HK3.out⟩
      · obtain ⟨c, hc⟩ : ∃ c : Nat, 53 - (-1022 - pw) = (c : Int) := ⟨(53 - (-1022 - pw)).toNat, by omega⟩
        have hl : Hid (lowPair 52 1023 4503599627370496 9218868437227405312 V U pw = (((V * 2 ^ c / (2 * U) : Nat) : Int), restOf (V * 2 ^ c % (2 * U)) U)) := by
          unfold Hid lowPair
          rw [if_neg hA, if_pos hB, if_neg (show ¬ (((52 : Nat) : Int) + 1 - (1 - 1023 - pw) < 0) from hC), show (((52 : Nat) : Int) + 1 - (1 - 1023 - pw)).toNat = c from by omega]
        have HX3 := hid (take_any _ p bo bu V U c pw w3 HF3.out (by omega) HV.out hp1 hp2)
        have HC := hid hc
        clear hc hC
        go_wp2_with fail
        rw [HC.out]
        refine HX3.out.mono ?_
        rintro e w4 ⟨rfl, hk4⟩
        have HK4 := hid (HK3.out.trans (hk4.mono (fun k hs => .inl hs)))
        clear HX3 hk4
        go_wp2
        go_ret2
        exact ⟨by rw [hl.out]; rfl, HK4.out⟩
    · have HX3 := hid (take_any _ p bo bu V U 53 pw w3 HF3.out (by omega) HV.out hp1 hp2)
      have hq := take_lt (c := 53) HV.out
      have HL : Hid (lowPair 52 1023 4503599627370496 9218868437227405312 V U pw = (((V * 2 ^ 53 / (2 * U) : Nat) : Int) + (pw - -1022) * 4503599627370496, restOf (V * 2 ^ 53 % (2 * U)) U)) := by unfold Hid lowPair; rw [if_neg hA, if_neg hB]; rfl
      go_wp2_with fail
      refine HX3.out.mono ?_
      rintro e w4 ⟨rfl, hk4⟩
      have n2 := hk4.cell m2 (.inr rfl)
      have HK4 := hid (HK3.out.trans (hk4.mono (fun k hs => .inl hs)))
      obtain ⟨q, hqq⟩ : ∃ q, q = V * 2 ^ 53 / (2 * U) := ⟨_, rfl⟩
      rw [← hqq] at hq HL ⊢
      have hq2 : (q : Int) ≤ 9007199254740992 := by omega
      clear HX3 hk4 hqq hq
      go_wp2
      go_ret2
      exact ⟨by rw [HL.out]; rfl, HK4.out⟩

end Go.Proofs.YtbkdaoicnobllabGreatDoor
