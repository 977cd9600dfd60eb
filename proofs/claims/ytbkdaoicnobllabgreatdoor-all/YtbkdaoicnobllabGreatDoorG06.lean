import Derived.Test.YtbkdaoicnobllabGreatDoorG05
import Derived.Deep.DeepCutAuto
import Derived.Deep.RegionWith
import Derived.Deep.DrawnRows
import Derived.Test.YtbkdaoicnobllabGreatDoorG00
import Init
import Derived.Test.YtbkdaoicnobllabGreatDoorG04
import Derived.Lib.Strings

namespace Go.Proofs.YtbkdaoicnobllabGreatDoor
set_option maxRecDepth 100000
set_option maxHeartbeats 1000000
open Go.RowKit
attribute [local go_sem ↓] Go.wp_at_zero Go.wp_at_succ

def restOf (V U : Nat) : Int := if V = 0 then 0 else if V < U then 1 else if V = U then 2 else 3
theorem FracAt.moved {S : Nat → Prop} {w w1 : World} {p bo bu V U V' U' : Nat} {pw : Int} {l l' : Nat} (h : FracAt S w p bo bu V U pw l) (ht : TwoN (fun k => S k ∨ k = p) w1 bo bu V' U' l' l') (hk : Kept (fun k => S k ∨ k = p) w w1) : FracAt S w1 p bo bu V' U' pw l' :=
 ⟨hk.cell h.c0 (.inr rfl), hk.cell h.c1 (.inr rfl), hk.cell h.c2 (.inr rfl), by
  rw [World.frozen?_of_block (w := w) (hk.block p (h.two.keep p (.inr rfl)) (fun hn => hn (.inr rfl)))]; exact h.fz, h.out, ht⟩
theorem FracAt.widen {S : Nat → Prop} {w : World} {p bo bu V U : Nat} {pw : Int} {l l' : Nat} (h : FracAt S w p bo bu V U pw l) (hl : l ≤ l') : FracAt S w p bo bu V U pw l' := ⟨h.c0, h.c1, h.c2, h.fz, h.out, h.two.widen hl hl⟩
theorem Kept.less {S : Nat → Prop} {w w1 : World} {p : Nat} (h : Kept (fun k => S k ∨ k = p) w w1) : Kept S w w1 := h.mono (fun _ hk => .inl hk)
theorem TwoN.still {S : Nat → Prop} {w w1 : World} {bo bu V U l1 l2 : Nat} (h : TwoN S w bo bu V U l1 l2) (hs : Still w w1) : TwoN S w1 bo bu V U l1 l2 := by
 obtain ⟨vo, Lo, vu, Lu, h1, h2⟩ := h
 exact ⟨vo, Lo, vu, Lu, h1.still hs, h2⟩
theorem FracAt.still {S : Nat → Prop} {w w1 : World} {p bo bu V U : Nat} {pw : Int} {l : Nat} (h : FracAt S w p bo bu V U pw l) (hs : Still w w1) : FracAt S w1 p bo bu V U pw l := h.moved (h.two.still hs) (hs.turn _)
theorem TwoN.turn {S T : Nat → Prop} {w w1 : World} {bo bu V U l1 l2 : Nat} (h : TwoN S w bo bu V U l1 l2) (ht : Turn T w w1) (hs : ∀ k, T k → S k) : TwoN S w1 bo bu V U l1 l2 := by
 obtain ⟨vo, Lo, vu, Lu, h1, h2⟩ := h
 exact ⟨vo, Lo, vu, Lu, ⟨h1.over.turn ht (fun k a b => h1.so k a (hs k b)), h1.under.turn ht (fun k a b => h1.su k a (hs k b)), h1.apart, fun k hk => Nat.lt_of_lt_of_le (h1.keep k hk) ht.size, h1.so, h1.su⟩, h2⟩
theorem FracAt.setPower {S : Nat → Prop} {w : World} {p bo bu V U : Nat} {pw : Int} {l : Nat} (h : FracAt S w p bo bu V U pw l) (q : Int) : FracAt S (w.setCell ⟨p, 2, none⟩ (.int .i64 q)) p bo bu V U q l ∧ Kept S w (w.setCell ⟨p, 2, none⟩ (.int .i64 q)) := by
 refine ⟨⟨?_, ?_, ?_, ?_, h.out, ?_⟩, (Turn.refl _ _).setCell _ _ h.out⟩
 ·rw [World.cell?_setCell_other _ _ _ _ (by simp)]; exact h.c0
 ·rw [World.cell?_setCell_other _ _ _ _ (by simp)]; exact h.c1
 ·exact World.cell?_setCell_same' _ _ _ (by rw [h.c2]; rfl)
 ·rw [show (w.setCell ⟨p, 2, none⟩ (.int .i64 q)).frozen? ⟨p, 2, none⟩ = w.frozen? ⟨p, 2, none⟩ from by simp [go_sem]]; exact h.fz
 ·exact h.two.turn ((Turn.refl (fun k => k = p) w).setCell _ _ rfl) (fun k hk => .inr hk)
theorem take_step {V U V1 q i b : Nat} (h : V * 2 ^ i = 2 * U * q + V1 ∧ V1 < 2 * U ∧ q < 2 ^ i) (hb : b * U ≤ V1) (hb1 : b ≤ 1) (hb2 : V1 - b * U < U) : V * 2 ^ (i + 1) = 2 * U * (q * 2 + b) + (V1 - b * U) * 2 ^ 1 ∧ (V1 - b * U) * 2 ^ 1 < 2 * U ∧ q * 2 + b < 2 ^ (i + 1) := by
 obtain ⟨h1, h2, h3⟩ := h
 rw [Nat.pow_succ 2 i, ← Nat.mul_assoc, h1]
 refine ⟨?_, by omega, by omega⟩
 obtain ⟨r, hr⟩ : ∃ r, V1 = b * U + r := ⟨V1 - b * U, by omega⟩
 rw [hr, Nat.add_sub_cancel_left]
 grind
theorem take_done {V U V1 q c : Nat} (h : V * 2 ^ c = 2 * U * q + V1 ∧ V1 < 2 * U ∧ q < 2 ^ c) : V * 2 ^ c / (2 * U) = q ∧ V * 2 ^ c % (2 * U) = V1 := by
 obtain ⟨h1, h2, _⟩ := h
 rw [h1]
 constructor
 ·rw [Nat.mul_add_div (by omega), Nat.div_eq_of_lt h2, Nat.add_zero]
 ·rw [Nat.mul_add_mod, Nat.mod_eq_of_lt h2]
theorem compareQ {S : Nat → Prop} {w : World} {bo bu V U l1 l2 : Nat} (h : TwoN S w bo bu V U l1 l2) (hl : l1 ≤ 90000) (hl2 : l2 ≤ 90000) (n : Nat) :
  Calls Tryz.prog 133 #[.pointer (some ⟨bo, 0, none⟩), .pointer (some ⟨bu, 0, none⟩)] (w.drewN n) fun e w' => e = .returned (.int .i64 (cmpN V U)) ∧ ∃ m, w' = (w.drewN n).drewN m := by
 obtain ⟨vo, Lo, vu, Lu, h1, rfl, rfl, h4, h5⟩ := h.still ((Still.refl w).drewN n)
 refine (compare_any bo bu vo vu Lo Lu _ h1.over h1.under (by omega) (by omega)).mono ?_
 rintro e w1 ⟨he, hs⟩
 exact ⟨he, hs.drew⟩

theorem rest_any (S : Nat → Prop) (p bo bu V U l : Nat) (pw : Int) (w : World) (h : FracAt S w p bo bu V U pw l) (hl : l ≤ 90000) :
  Calls Tryz.prog 135 #[.pointer (some ⟨p, 0, none⟩)] w fun e w' => e = .returned (.int .i64 (restOf V U)) ∧ ∃ m, w' = w.drewN m := by
 have HX := hid (zeroO h.two)
 have HY := hid (compareQ h.two hl hl)
 have HH := hid h
 have c0 := h.c0
 have c1 := h.c1
 clear h
 go_enter Tryz.func135, Tryz.ntmps135
 go_wp2_with fail
 refine HX.out.mono ?_
 rintro e w1 ⟨rfl, rfl⟩
 clear HX
 by_cases hz : V = 0
 ·have hr : Hid (restOf V U = 0) := by unfold Hid restOf; rw [if_pos hz]
  rw [decide_eq_true hz]
  clear hz HY
  go_wp2
  go_ret
  exact ⟨by rw [hr.out]; rfl, 0, rfl⟩
 ·rw [decide_eq_false hz]
  go_wp2_with fail
  go_quiet ((go_at_call 133; exact Calls.quiet_of (HY.out _)))
  clear HY c0 c1 HH
  obtain ⟨w2, hw2⟩ : ∃ w2, w2 = w1.drewN nq := ⟨_, rfl⟩
  have HF : Hid (∃ m, w2 = w1.drewN m) := ⟨nq, hw2⟩
  rw [← hw2]
  clear hw2
  by_cases h1 : V < U
  ·have hr : Hid (restOf V U = 1) := by unfold Hid restOf; rw [if_neg hz, if_pos h1]
   rw [cmpN_lt h1]
   clear hz h1
   go_wp2
   go_ret
   exact ⟨by rw [hr.out]; rfl, HF.out⟩
  ·by_cases h3 : V = U
   ·have hr : Hid (restOf V U = 2) := by unfold Hid restOf; rw [if_neg hz, if_neg h1, if_pos h3]
    rw [cmpN_eq h3]
    clear hz h1 h3
    go_wp2
    go_ret
    exact ⟨by rw [hr.out]; rfl, HF.out⟩
   ·have hr : Hid (restOf V U = 3) := by unfold Hid restOf; rw [if_neg hz, if_neg h1, if_neg h3]
    rw [cmpN_gt (by omega)]
    clear hz h1 h3
    go_wp2
    go_ret
    exact ⟨by rw [hr.out]; rfl, HF.out⟩

theorem power_any (S : Nat → Prop) (p bo bu V U l : Nat) (pw : Int) (w : World) (h : FracAt S w p bo bu V U pw l) :
  Calls Tryz.prog 66 #[.pointer (some ⟨p, 0, none⟩)] w fun e w' => e = .returned (.int .i64 pw) ∧ w' = w := by
 have c2 := h.c2
 clear h
 go_enter Tryz.func66, Tryz.ntmps66
 go_wp2
 go_ret
 exact ⟨rfl, rfl⟩

theorem take_any (S : Nat → Prop) (p bo bu V U c : Nat) (pw : Int) (w : World) (h : FracAt S w p bo bu V U pw 8000) (hc : c ≤ 60) (hVU : V < 2 * U) (hp1 : -110000000 ≤ pw) (hp2 : pw ≤ 110000000) :
  Calls Tryz.prog 110 #[.pointer (some ⟨p, 0, none⟩), .int .i64 c] w fun e w' => e = .returned (.tuple #[.int .i64 ((V * 2 ^ c / (2 * U) : Nat)), .int .i64 (restOf (V * 2 ^ c % (2 * U)) U)]) ∧ Kept S w w' := by
 have HP : Hid (V * 2 ^ 0 = 2 * U * 0 + V ∧ V < 2 * U ∧ 0 < 2 ^ 0) := ⟨by omega, hVU, by omega⟩
 have HH := hid h
 clear h hVU
 go_enter Tryz.func110, Tryz.ntmps110
 go_wp2
 go_loopw [6, 7] (fun bb ii wr => ∃ i q V1 : Nat, bb = .int .i64 q ∧ ii = .int .i64 i ∧ i ≤ c ∧ Hid (V * 2 ^ i = 2 * U * q + V1 ∧ V1 < 2 * U ∧ q < 2 ^ i) ∧ Hid (FracAt S wr p bo bu V1 U (pw - i) (8000 + 2 * i)) ∧ Hid (Kept S w wr)) (fun _ ii _ => c - (intOf ii).toNat)
 case atStart => exact ⟨0, 0, V, rfl, rfl, Nat.zero_le _, HP.out, by simpa [Hid] using HH.out, Kept.refl _ _⟩
 case round =>
  clear HH HP
  obtain ⟨i, q, V1, rfl, rfl, hi, HE, HF, HK⟩ := hrel
  have hq : (q : Int) ≤ 1152921504606846976 := by
   have h1 := HE.out.2.2
   have h2 : 2 ^ i ≤ 2 ^ 60 := Nat.pow_le_pow_right (by omega) (by omega)
   omega
  have c0 := HF.out.c0
  have c1 := HF.out.c1
  by_cases hlt : i < c
  ·have HQ := hid (compareQ HF.out.two (by omega) (by omega))
   go_wp2_with fail
   go_quiet ((go_at_call 133; exact Calls.quiet_of (HQ.out _)))
   have HF2 := hid (HF.out.still ((Still.refl wr).drewN nq))
   have HK2 := hid (HK.out.trans (show Kept S wr (wr.drewN nq) from ((Still.refl wr).drewN nq).turn _))
   clear HF HK HQ c0 c1
   generalize wr.drewN nq = w2 at *
   have c0 := HF2.out.c0
   have c1 := HF2.out.c1
   by_cases hge : U ≤ V1
   ·have hcc : ∃ cc : Int, cmpN V1 U = cc ∧ 0 ≤ cc := by
     refine ⟨_, rfl, ?_⟩
     unfold cmpN; rw [if_neg (by omega)]; split <;> omega
    obtain ⟨cc, hcc, hc0⟩ := hcc
    rw [hcc]
    have HGE := hid hge
    clear hcc hge
    go_wp2_with fail
    go_cut [35] (fun s wx => s = .tuple #[] ∧ Hid (FracAt S wx p bo bu (V1 - U) U (pw - i) (8000 + 2 * i)) ∧ Hid (Kept S w wx))
    case first =>
     have HS : Hid (∀ wx, Still w2 wx → Calls Tryz.prog 134 #[.pointer (some ⟨bo, 0, none⟩), .pointer (some ⟨bu, 0, none⟩)] wx fun e w' => e = .returned (.tuple #[]) ∧ Hid (FracAt S w' p bo bu (V1 - U) U (pw - i) (8000 + 2 * i)) ∧ Hid (Kept S w w')) := by
      intro wx hx
      have hf := HF2.out.still hx
      refine (subO hf.two (by omega) (by have := HE.out.2.1; omega) HGE.out).mono ?_
      rintro e w' ⟨he, h1, h2⟩
      exact ⟨he, hf.moved h1 h2, HK2.out.trans ((show Kept S w2 wx from hx.turn _).trans h2.less)⟩
     go_region_with (go_at_call 134; refine (HS.out _ ⟨_, rfl⟩).mono ?_; rintro r w3 ⟨rfl, h3⟩)
     all_goals (go_wp2_with fail; go_meet)
     all_goals exact ⟨rfl, h3⟩
    case rest =>
     obtain ⟨rfl, HF3, HK3⟩ := hcut
     clear c0 c1 HF2 HK2
     have c0 := HF3.out.c0
     have c2 := HF3.out.c2
     have HX := hid (shiftO HF3.out.two 1 (by omega) (by omega))
     go_wp2_with fail
     refine HX.out.mono ?_
     rintro e w4 ⟨rfl, h4, k4⟩
     have HF4 := hid (HF3.out.moved (h4.widen (l3 := 8000 + 2 * (i + 1)) (l4 := 8000 + 2 * (i + 1)) (by omega) (by omega)) k4)
     have HK4 := hid (HK3.out.trans k4.less)
     clear h4 k4 HX HF3 HK3 c0 c2
     have c2 := HF4.out.c2
     have fz := HF4.out.fz
     go_wp2
     go_roundw
     case rel =>
      obtain ⟨s1, s2⟩ := HF4.out.setPower (pw - i - 1)
      rw [show pw - (i : Int) - 1 = pw - ((i + 1 : Nat) : Int) from by omega] at *
      exact ⟨i + 1, q * 2 + 1, _, by go_num, by go_num, by omega, by have := take_step (b := 1) HE.out (by have := HGE.out; omega) (by omega) (by have := HE.out.2.1; have := HGE.out; omega); simp only [Nat.one_mul] at this; exact this, s1, HK4.out.trans s2⟩
     case measure => simp [intOf]; omega
   ·have HLT := hid (show V1 < U by omega)
    rw [cmpN_lt (by omega)]
    clear hge
    have HF3 := HF2
    have HK3 := HK2
    have c2 := HF3.out.c2
    have HX := hid (shiftO HF3.out.two 1 (by omega) (by omega))
    clear c1
    go_wp2_with fail
    refine HX.out.mono ?_
    rintro e w4 ⟨rfl, h4, k4⟩
    have HF4 := hid (HF3.out.moved (h4.widen (l3 := 8000 + 2 * (i + 1)) (l4 := 8000 + 2 * (i + 1)) (by omega) (by omega)) k4)
    have HK4 := hid (HK3.out.trans k4.less)
    clear h4 k4 HX HF3 HK3 c0 c2
    have c2 := HF4.out.c2
    have fz := HF4.out.fz
    go_wp2
    go_roundw
    case rel =>
     obtain ⟨s1, s2⟩ := HF4.out.setPower (pw - i - 1)
     rw [show pw - (i : Int) - 1 = pw - ((i + 1 : Nat) : Int) from by omega] at *
     exact ⟨i + 1, q * 2 + 0, _, by go_num, by go_num, by omega, by have := take_step (b := 0) HE.out (by omega) (by omega) (by have := HLT.out; omega); simp only [Nat.zero_mul, Nat.sub_zero] at this; exact this, s1, HK4.out.trans s2⟩
    case measure => simp [intOf]; omega
  ·have hic : i = c := by omega
   subst hic
   have HQ := hid (rest_any S p bo bu V1 U _ _ _ HF.out (by omega))
   have HR := hid (take_done HE.out)
   clear HE HF c0 c1
   go_wp2_with fail
   refine HQ.out.mono ?_
   rintro e w2 ⟨rfl, hm⟩
   have HK2 := hid (HK.out.trans (show Kept S wr w2 from (Still.mk hm).turn _))
   clear HQ HK hm
   go_wp2
   go_ret2
   exact ⟨by rw [HR.out.1, HR.out.2]; rfl, HK2.out⟩

theorem take_neg (p : Nat) (c : Int) (w : World) (hc : c < 0) :
  Calls Tryz.prog 110 #[.pointer (some ⟨p, 0, none⟩), .int .i64 c] w fun e w' => e = .returned (.tuple #[.int .i64 0, .int .i64 1]) ∧ w' = w := by
 go_enter Tryz.func110, Tryz.ntmps110
 go_wp2
 go_ret2
 exact ⟨rfl, rfl⟩
end Go.Proofs.YtbkdaoicnobllabGreatDoor

namespace Go.Proofs.YtbkdaoicnobllabGreatDoor

def heldV (K : Nat) (L : List Nat) (e : Int) : Nat :=
 if L.length = 0 then 0 else if 390 < e + L.length - 1 then 10 ^ (390 + (K : Int)).toNat else if e + L.length - 1 < -390 then 10 ^ (-390 + (K : Int)).toNat else val K L e
def num16 (L : List Nat) : Nat := L.foldl (fun a d => a * 16 + d) 0
theorem num16_snoc (L : List Nat) (d : Nat) : num16 (L ++ [d]) = num16 L * 16 + d := by simp [num16]
theorem num16_lt (L : List Nat) (h : ∀ d, d ∈ L → d ≤ 15) : num16 L < 16 ^ L.length := by
 have : ∀ n (L : List Nat), L.length = n → (∀ d, d ∈ L → d ≤ 15) → num16 L < 16 ^ L.length := by
  intro n; induction n with
  | zero => intro L hL _; rw [List.length_eq_zero_iff.1 hL]; simp [num16]
  | succ n ih =>
   intro L hL hd
   have hne : L ≠ [] := by intro h0; rw [h0] at hL; simp at hL
   have e1 := List.dropLast_concat_getLast hne
   rw [← e1, num16_snoc, List.length_append, List.length_singleton, Nat.pow_succ]
   have h1 := ih L.dropLast (by simp; omega) (fun d hm => hd d (List.dropLast_subset _ hm))
   have h2 := hd _ (List.getLast_mem hne)
   omega
 exact this L.length L rfl h
def some16 (L : List Nat) : Bool := L.any (fun d => decide (0 < d))
def sixV (K : Nat) (D : List Nat) (e : Int) : Nat :=
 if D.length = 0 then 0 else if 1200 < 4 * (D.length : Int) + e then 10 ^ (390 + (K : Int)).toNat else if 4 * (D.length : Int) + e < -1200 then 10 ^ (-390 + (K : Int)).toNat
 else if some16 (D.drop 300) = true then (num16 (D.take 300) * 2 + 1) * two K (e + 4 * ((D.length - min D.length 300 : Nat) : Int) - 1)
 else num16 (D.take 300) * two K (e + 4 * ((D.length - min D.length 300 : Nat) : Int))
end Go.Proofs.YtbkdaoicnobllabGreatDoor

namespace Go.Proofs.YtbkdaoicnobllabGreatDoor

def chs (s : ByteArray) : List Nat := s.data.toList.map UInt8.toNat
theorem chs_length (s : ByteArray) : (chs s).length = s.size := by simp [chs]
theorem chs_get (s : ByteArray) (k : Nat) (h : k < s.size) : (chs s).getD k 0 = (s[k]).toNat := by
 unfold chs
 rw [List.getD_eq_getElem?_getD, List.getElem?_map, List.getElem?_eq_getElem (by simpa using h)]; rfl
theorem chs_lt (s : ByteArray) : ∀ c, c ∈ chs s → c < 256 := by
 intro c hc; simp [chs] at hc; obtain ⟨a, _, rfl⟩ := hc; exact a.toNat_lt

def isDig (c : Nat) : Bool := decide (48 ≤ c) && decide (c ≤ 57)
def expStep (v c : Nat) : Nat := if isDig c = true ∧ v < 20000 then 10 * v + (c - 48) else v
def expNum (l : List Nat) : Nat := l.foldl expStep 0
def expVal (l : List Nat) : Int := if 45 ∈ l then -(expNum l : Int) else expNum l
def expOf (l : List Nat) (letter : Nat) : Int := match l.dropWhile (fun c => c != letter) with
 | [] => 0
 | _ :: r => expVal r
theorem expStep_le (v c : Nat) (h : v ≤ 200000) : expStep v c ≤ 200000 := by
 unfold expStep isDig; split
 ·rename_i h2; simp at h2; omega
 ·exact h
theorem expNum_le (l : List Nat) : expNum l ≤ 200000 := by
 unfold expNum
 have : ∀ (l : List Nat) (v : Nat), v ≤ 200000 → l.foldl expStep v ≤ 200000 := by
  intro l; induction l with
  | nil => intro v h; exact h
  | cons c r ih => intro v h; exact ih _ (expStep_le v c h)
 exact this l 0 (by omega)
theorem expVal_bd (l : List Nat) : -200000 ≤ expVal l ∧ expVal l ≤ 200000 := by
 have := expNum_le l; unfold expVal; split <;> omega
theorem expOf_bd (l : List Nat) (c : Nat) : -200000 ≤ expOf l c ∧ expOf l c ≤ 200000 := by
 unfold expOf; split
 ·omega
 ·exact expVal_bd _
theorem expNum_snoc (l : List Nat) (c : Nat) : expNum (l ++ [c]) = expStep (expNum l) c := by simp [expNum]
theorem expOf_none (l : List Nat) (letter : Nat) (h : ∀ j, j < l.length → l.getD j 0 ≠ letter) : expOf l letter = 0 := by
 unfold expOf
 have : l.dropWhile (fun c => c != letter) = [] := by
  induction l with
  | nil => rfl
  | cons c r ih =>
   have h0 := h 0 (by simp)
   simp at h0
   rw [List.dropWhile_cons_of_pos (by simpa using h0)]
   exact ih (fun j hj => by have := h (j + 1) (by simp; omega); simpa using this)
 rw [this]
theorem expOf_at (l : List Nat) (letter i : Nat) (hi : i < l.length) (h : ∀ j, j < i → l.getD j 0 ≠ letter) (he : l.getD i 0 = letter) : expOf l letter = expVal (l.drop (i + 1)) := by
 induction l generalizing i with
 | nil => simp at hi
 | cons c r ih =>
  cases i with
  | zero =>
   simp at he
   unfold expOf; simp [he]
  | succ i =>
   have h0 := h 0 (by omega)
   simp at h0
   have := ih i (by simpa using hi) (fun j hj => by have := h (j + 1) (by omega); simpa using this) (by simpa using he)
   rw [List.drop_succ_cons, ← this]
   unfold expOf
   rw [List.dropWhile_cons_of_pos (by simpa using h0)]

def cut (l : List Nat) (a j : Nat) : List Nat := (l.take j).drop a
theorem cut_snoc (l : List Nat) (a j : Nat) (ha : a ≤ j) (hj : j < l.length) : cut l a (j + 1) = cut l a j ++ [l.getD j 0] := by
 unfold cut
 rw [List.take_succ_eq_append_getElem hj, List.drop_append_of_le_length (by simp; omega), List.getD_eq_getElem?_getD, List.getElem?_eq_getElem hj]; rfl
theorem cut_self (l : List Nat) (a : Nat) : cut l a a = [] := by unfold cut; apply List.drop_eq_nil_of_le; simp; omega
theorem cut_all (l : List Nat) (a j : Nat) (h : l.length ≤ j) : cut l a j = l.drop a := by unfold cut; rw [List.take_of_length_le h]
def hasMinus (l : List Nat) : Bool := decide (45 ∈ l)
theorem hasMinus_snoc (l : List Nat) (c : Nat) : hasMinus (l ++ [c]) = (hasMinus l || c == 45) := by
 unfold hasMinus; rw [Bool.eq_iff_iff]; simp; constructor
 ·intro h; rcases h with h | h
  ·exact .inl h
  ·exact .inr h.symm
 ·intro h; rcases h with h | h
  ·exact .inl h
  ·exact .inr h.symm
theorem expVal_eq (l : List Nat) : expVal l = if hasMinus l = true then -(expNum l : Int) else expNum l := by unfold expVal hasMinus; simp

def decStep (st : List Nat × Nat × Bool) (c : Nat) : List Nat × Nat × Bool :=
 if c = 46 then (st.1, st.2.1, true) else (st.1 ++ [c - 48], if st.2.2 = true then st.2.1 + 1 else st.2.1, st.2.2)
def decScan (l : List Nat) : List Nat × Nat × Bool := l.foldl decStep ([], 0, false)
theorem decScan_snoc (l : List Nat) (c : Nat) : decScan (l ++ [c]) = decStep (decScan l) c := by simp [decScan]
theorem decScan_inv (l : List Nat) : (decScan l).1.length ≤ l.length ∧ (decScan l).2.1 ≤ l.length := by
 have : ∀ (l : List Nat) (st : List Nat × Nat × Bool), (l.foldl decStep st).1.length ≤ st.1.length + l.length ∧ (l.foldl decStep st).2.1 ≤ st.2.1 + l.length := by
  intro l; induction l with
  | nil => intro st; simp
  | cons c r ih =>
   intro st
   have h := ih (decStep st c)
   rw [List.foldl_cons, List.length_cons]
   have h2 : (decStep st c).1.length ≤ st.1.length + 1 ∧ (decStep st c).2.1 ≤ st.2.1 + 1 := by
    unfold decStep; split
    ·simp
    ·simp; split <;> omega
   omega
 have h := this l ([], 0, false)
 simpa [decScan] using h
theorem decScan_digs (l : List Nat) (h : ∀ c, c ∈ l → c = 46 ∨ isDig c = true) : ∀ d, d ∈ (decScan l).1 → d ≤ 9 := by
 have : ∀ (l : List Nat) (st : List Nat × Nat × Bool), (∀ c, c ∈ l → c = 46 ∨ isDig c = true) → (∀ d, d ∈ st.1 → d ≤ 9) → ∀ d, d ∈ (l.foldl decStep st).1 → d ≤ 9 := by
  intro l; induction l with
  | nil => intro st _ h2; exact h2
  | cons c r ih =>
   intro st h1 h2
   refine ih _ (fun x hx => h1 x (List.mem_cons_of_mem _ hx)) ?_
   have hc := h1 c List.mem_cons_self
   unfold decStep; split
   ·exact h2
   ·intro d hd
    simp at hd
    rcases hd with hd | hd
    ·exact h2 d hd
    ·rcases hc with hc | hc
     ·omega
     ·simp [isDig] at hc; omega
 exact this l ([], 0, false) h (fun d hd => by simp at hd)
def ahead (l : List Nat) (letter : Nat) : List Nat := l.takeWhile (fun c => c != letter)
theorem ahead_take (l : List Nat) (letter k : Nat) (hk : k ≤ l.length) (h : ∀ j, j < k → l.getD j 0 ≠ letter) (he : k < l.length → l.getD k 0 = letter) : ahead l letter = l.take k := by
 unfold ahead
 induction l generalizing k with
 | nil => simp
 | cons c r ih =>
  cases k with
  | zero =>
   have := he (by simp)
   simp at this
   simp [this]
  | succ k =>
   have h0 := h 0 (by omega)
   simp at h0
   rw [List.takeWhile_cons_of_pos (by simpa using h0), List.take_succ_cons, ih k (by simpa using hk) (fun j hj => by have := h (j + 1) (by omega); simpa using this) (fun hh => by have := he (by simpa using hh); simpa using this)]
theorem take_snoc_getD (l : List Nat) (k : Nat) (h : k < l.length) : l.take (k + 1) = l.take k ++ [l.getD k 0] := by
 rw [List.take_succ_eq_append_getElem h, List.getD_eq_getElem?_getD, List.getElem?_eq_getElem h]; rfl

theorem mem_ahead (l : List Nat) (letter k : Nat) (hk : k < l.length) (h : ∀ j, j < k → l.getD j 0 ≠ letter) (hn : l.getD k 0 ≠ letter) (c : Nat) (hc : c = l.getD k 0) : c ∈ ahead l letter := by
 unfold ahead
 induction l generalizing k with
 | nil => simp at hk
 | cons x r ih =>
  cases k with
  | zero =>
   simp at hn hc
   rw [List.takeWhile_cons_of_pos (by simpa using hn), hc]; exact List.mem_cons_self
  | succ k =>
   have h0 := h 0 (by omega)
   simp at h0
   rw [List.takeWhile_cons_of_pos (by simpa using h0)]
   exact List.mem_cons_of_mem _ (ih k (by simpa using hk) (fun j hj => by have := h (j + 1) (by omega); simpa using this) (by simpa using hn) (by simpa using hc))

def isHexc (c : Nat) : Bool := isDig c || (decide (97 ≤ c) && decide (c ≤ 102))
def hexv (c : Nat) : Nat := if c ≤ 57 then c - 48 else c - 87
def hexStep (st : List Nat × Nat × Bool) (c : Nat) : List Nat × Nat × Bool :=
 if c = 46 then (st.1, st.2.1, true) else (if 0 < st.1.length ∨ 0 < hexv c then st.1 ++ [hexv c] else st.1, if st.2.2 = true then st.2.1 + 1 else st.2.1, st.2.2)
def hexScan (l : List Nat) : List Nat × Nat × Bool := l.foldl hexStep ([], 0, false)
theorem hexScan_snoc (l : List Nat) (c : Nat) : hexScan (l ++ [c]) = hexStep (hexScan l) c := by simp [hexScan]
theorem hexScan_vals (l : List Nat) (h : ∀ c, c ∈ l → c = 46 ∨ isHexc c = true) : ∀ d, d ∈ (hexScan l).1 → d ≤ 15 := by
 have : ∀ (l : List Nat) (st : List Nat × Nat × Bool), (∀ c, c ∈ l → c = 46 ∨ isHexc c = true) → (∀ d, d ∈ st.1 → d ≤ 15) → ∀ d, d ∈ (l.foldl hexStep st).1 → d ≤ 15 := by
  intro l; induction l with
  | nil => intro st _ h2; exact h2
  | cons c r ih =>
   intro st h1 h2
   refine ih _ (fun x hx => h1 x (List.mem_cons_of_mem _ hx)) ?_
   have hc := h1 c List.mem_cons_self
   unfold hexStep; split
   ·exact h2
   ·intro d hd
    simp only at hd
    split at hd
    ·simp at hd
     rcases hd with hd | hd
     ·exact h2 d hd
     ·rcases hc with hc | hc
      ·omega
      ·unfold hexv at hd; simp [isHexc, isDig] at hc; split at hd <;> omega
    ·exact h2 d hd
 exact this l ([], 0, false) h (fun d hd => by simp at hd)

end Go.Proofs.YtbkdaoicnobllabGreatDoor

namespace Go.Proofs.YtbkdaoicnobllabGreatDoor

def sgn (c : Nat) : Bool := c == 43 || c == 45
def nhS (s c : Nat) (d h sg : Bool) : Nat := match s with
 | 10 => if h = true then 11 else 28
 | 11 => if h = true then 11 else if c = 46 then 12 else if c = 112 then 13 else 28
 | 12 => if h = true then 12 else if c = 112 then 13 else 28
 | 13 => if d = true then 15 else if sg = true then 14 else 28
 | 14 => if d = true then 15 else 28
 | 15 => if d = true then 15 else 28
 | 16 => if c = 110 then 17 else 28
 | 17 => if c = 102 then 18 else 28
 | 18 => if c = 105 then 19 else 28
 | 19 => if c = 110 then 20 else 28
 | 20 => if c = 105 then 21 else 28
 | 21 => if c = 116 then 22 else 28
 | 22 => if c = 121 then 23 else 28
 | 25 => if c = 97 then 26 else 28
 | 26 => if c = 110 then 27 else 28
 | _ => 28
def beginS (c : Nat) : Nat := if c = 48 then 2 else if isDig c = true then 3 else if c = 46 then 5 else if c = 105 then 16 else if c = 110 then 25 else 28
def nextS (s c : Nat) : Nat := match s with
 | 0 => if sgn c = true then 1 else beginS c
 | 1 => beginS c
 | 2 => if c = 120 then 10 else if isDig c = true then 3 else if c = 46 then 4 else if c = 101 then 7 else 28
 | 3 => if isDig c = true then 3 else if c = 46 then 4 else if c = 101 then 7 else 28
 | 4 => if isDig c = true then 6 else if c = 101 then 7 else 28
 | 5 => if isDig c = true then 6 else 28
 | 6 => if isDig c = true then 6 else if c = 101 then 7 else 28
 | 7 => if isDig c = true then 9 else if sgn c = true then 8 else 28
 | 8 => if isDig c = true then 9 else 28
 | 9 => if isDig c = true then 9 else 28
 | s => nhS s c (isDig c) (isHexc c) (sgn c)
theorem nhS_le (s c : Nat) (d h sg : Bool) : nhS s c d h sg ≤ 28 := by
 unfold nhS; repeat' split
 all_goals omega
theorem nextS_le (s c : Nat) : nextS s c ≤ 28 := by
 unfold nextS beginS; repeat' split
 all_goals first | omega | exact nhS_le _ _ _ _ _

end Go.Proofs.YtbkdaoicnobllabGreatDoor

namespace Go.Proofs.YtbkdaoicnobllabGreatDoor

def endsB (s : Nat) : Bool := s == 2 || s == 3 || s == 4 || s == 6 || s == 9 || s == 15 || s == 18 || s == 23 || s == 27
def stAt (l : List Nat) (k : Nat) : Nat := (l.take k).foldl nextS 0
theorem stAt_le (l : List Nat) (k : Nat) : stAt l k ≤ 28 := by
 unfold stAt
 have : ∀ (l : List Nat) (s : Nat), s ≤ 28 → l.foldl nextS s ≤ 28 := by
  intro l; induction l with
  | nil => intro s h; exact h
  | cons c r ih => intro s _; exact ih _ (nextS_le s c)
 exact this _ 0 (by omega)
theorem stAt_succ (l : List Nat) (k : Nat) (h : k < l.length) : stAt l (k + 1) = nextS (stAt l k) (l.getD k 0) := by
 unfold stAt; rw [take_snoc_getD l k h, List.foldl_append]; rfl
def ReadSpec (l : List Nat) (s at' : Nat) (ok : Bool) : Prop :=
 (∃ k, k < l.length ∧ (∀ j, j ≤ k → stAt l j ≠ 28) ∧ stAt l (k + 1) = 28 ∧ s = 28 ∧ at' = k ∧ ok = false) ∨
 ((∀ j, j ≤ l.length → stAt l j ≠ 28) ∧ s = stAt l l.length ∧ at' = l.length ∧ ok = endsB s)
theorem nextS_big (s c : Nat) (h : 10 ≤ s) : nextS s c = nhS s c (isDig c) (isHexc c) (sgn c) := by
 obtain ⟨k, rfl⟩ : ∃ k, s = k + 10 := ⟨s - 10, by omega⟩
 rfl
end Go.Proofs.YtbkdaoicnobllabGreatDoor

namespace Go.Proofs.YtbkdaoicnobllabGreatDoor

def body (l : List Nat) : List Nat := match l with
 | [] => []
 | c :: r => if sgn c = true then r else c :: r
theorem body_snoc (p : List Nat) (c : Nat) (h : p ≠ []) : body (p ++ [c]) = body p ++ [c] := by
 cases p with
 | nil => exact absurd rfl h
 | cons x r => simp only [List.cons_append, body]; split <;> simp
def DecOk (l : List Nat) : Prop := ∀ c, c ∈ l → c = 46 ∨ isDig c = true
def HexOk (l : List Nat) : Prop := ∀ c, c ∈ l → c = 46 ∨ isHexc c = true
theorem DecOk.snoc {l : List Nat} {c : Nat} (h : DecOk l) (hc : c = 46 ∨ isDig c = true) : DecOk (l ++ [c]) := by
 intro x hx; rcases List.mem_append.1 hx with hx | hx
 ·exact h x hx
 ·rw [List.mem_singleton.1 hx]; exact hc
theorem HexOk.snoc {l : List Nat} {c : Nat} (h : HexOk l) (hc : c = 46 ∨ isHexc c = true) : HexOk (l ++ [c]) := by
 intro x hx; rcases List.mem_append.1 hx with hx | hx
 ·exact h x hx
 ·rw [List.mem_singleton.1 hx]; exact hc
def Inv (s : Nat) (p : List Nat) : Prop :=
 if s = 0 then p = []
 else if s = 1 then ∃ c, p = [c] ∧ sgn c = true
 else if s = 2 then p ≠ [] ∧ body p = [48]
 else if s ≤ 6 then p ≠ [] ∧ DecOk (body p)
 else if s ≤ 9 then p ≠ [] ∧ ∃ a b, body p = a ++ 101 :: b ∧ DecOk a
 else if s = 10 then p ≠ [] ∧ body p = [48, 120]
 else if s ≤ 12 then p ≠ [] ∧ ∃ a, body p = 48 :: 120 :: a ∧ HexOk a
 else if s ≤ 15 then p ≠ [] ∧ ∃ a b, body p = 48 :: 120 :: (a ++ 112 :: b) ∧ HexOk a
 else p ≠ []
theorem snoc_ne (p : List Nat) (c : Nat) : p ++ [c] ≠ [] := by simp
theorem inv_begin (p : List Nat) (c : Nat) (hb : body (p ++ [c]) = [c]) : Inv (beginS c) (p ++ [c]) := by
 unfold beginS
 by_cases h1 : c = 48
 ·rw [if_pos h1]; exact ⟨snoc_ne p c, by rw [hb, h1]⟩
 ·rw [if_neg h1]
  by_cases h2 : isDig c = true
  ·rw [if_pos h2]; exact ⟨snoc_ne p c, by rw [hb]; intro x hx; rw [List.mem_singleton.1 hx]; exact .inr h2⟩
  ·rw [if_neg h2]
   by_cases h3 : c = 46
   ·rw [if_pos h3]; exact ⟨snoc_ne p c, by rw [hb]; intro x hx; rw [List.mem_singleton.1 hx]; exact .inl h3⟩
   ·rw [if_neg h3]
    by_cases h4 : c = 105
    ·rw [if_pos h4]; exact snoc_ne p c
    ·rw [if_neg h4]
     by_cases h5 : c = 110
     ·rw [if_pos h5]; exact snoc_ne p c
     ·rw [if_neg h5]; exact snoc_ne p c
theorem inv_dec {p : List Nat} {c : Nat} (hp : p ≠ []) (h : DecOk (body p)) (hc : c = 46 ∨ isDig c = true) : p ++ [c] ≠ [] ∧ DecOk (body (p ++ [c])) := ⟨snoc_ne p c, by rw [body_snoc p c hp]; exact h.snoc hc⟩
theorem inv_e {p : List Nat} {c : Nat} (hp : p ≠ []) (h : DecOk (body p)) (hc : c = 101) : p ++ [c] ≠ [] ∧ ∃ a b, body (p ++ [c]) = a ++ 101 :: b ∧ DecOk a := ⟨snoc_ne p c, body p, [], by rw [body_snoc p c hp, hc], h⟩
theorem inv_exp {p : List Nat} {c : Nat} (hp : p ≠ []) (h : ∃ a b, body p = a ++ 101 :: b ∧ DecOk a) : p ++ [c] ≠ [] ∧ ∃ a b, body (p ++ [c]) = a ++ 101 :: b ∧ DecOk a := by
 obtain ⟨a, b, h1, h2⟩ := h
 exact ⟨snoc_ne p c, a, b ++ [c], by rw [body_snoc p c hp, h1]; simp, h2⟩
theorem inv_hex {p : List Nat} {c : Nat} (hp : p ≠ []) (h : ∃ a, body p = 48 :: 120 :: a ∧ HexOk a) (hc : c = 46 ∨ isHexc c = true) : p ++ [c] ≠ [] ∧ ∃ a, body (p ++ [c]) = 48 :: 120 :: a ∧ HexOk a := by
 obtain ⟨a, h1, h2⟩ := h
 exact ⟨snoc_ne p c, a ++ [c], by rw [body_snoc p c hp, h1]; simp, h2.snoc hc⟩
theorem inv_p {p : List Nat} {c : Nat} (hp : p ≠ []) (h : ∃ a, body p = 48 :: 120 :: a ∧ HexOk a) (hc : c = 112) : p ++ [c] ≠ [] ∧ ∃ a b, body (p ++ [c]) = 48 :: 120 :: (a ++ 112 :: b) ∧ HexOk a := by
 obtain ⟨a, h1, h2⟩ := h
 exact ⟨snoc_ne p c, a, [], by rw [body_snoc p c hp, h1, hc]; simp, h2⟩
theorem inv_pow {p : List Nat} {c : Nat} (hp : p ≠ []) (h : ∃ a b, body p = 48 :: 120 :: (a ++ 112 :: b) ∧ HexOk a) : p ++ [c] ≠ [] ∧ ∃ a b, body (p ++ [c]) = 48 :: 120 :: (a ++ 112 :: b) ∧ HexOk a := by
 obtain ⟨a, b, h1, h2⟩ := h
 exact ⟨snoc_ne p c, a, b ++ [c], by rw [body_snoc p c hp, h1]; simp, h2⟩
theorem dec48 : DecOk [48] := fun x hx => by rw [List.mem_singleton.1 hx]; exact .inr rfl
theorem nhS_high (s c : Nat) (d h sg : Bool) (hs : 16 ≤ s) : 16 ≤ nhS s c d h sg := by
 unfold nhS; split <;> (try (split <;> omega)) <;> (try omega)
theorem inv_high {s : Nat} {p : List Nat} (hs : 16 ≤ s) (hp : p ≠ []) : Inv s p := by
 unfold Inv; rw [if_neg (by omega), if_neg (by omega), if_neg (by omega), if_neg (by omega), if_neg (by omega), if_neg (by omega), if_neg (by omega), if_neg (by omega)]; exact hp

theorem inv_step (s c : Nat) (p : List Nat) (h : Inv s p) : Inv (nextS s c) (p ++ [c]) := by
 by_cases hs : 16 ≤ s
 ·have hp : p ++ [c] ≠ [] := snoc_ne p c
  rw [nextS_big s c (by omega)]
  exact inv_high (nhS_high s c _ _ _ hs) hp
 ·have hc : s = 0 ∨ s = 1 ∨ s = 2 ∨ s = 3 ∨ s = 4 ∨ s = 5 ∨ s = 6 ∨ s = 7 ∨ s = 8 ∨ s = 9 ∨ s = 10 ∨ s = 11 ∨ s = 12 ∨ s = 13 ∨ s = 14 ∨ s = 15 := by omega
  have hdead : Inv 28 (p ++ [c]) := snoc_ne p c
  rcases hc with rfl | rfl | rfl | rfl | rfl | rfl | rfl | rfl | rfl | rfl | rfl | rfl | rfl | rfl | rfl | rfl
  ·have hp : p = [] := h
   subst hp
   show Inv (if sgn c = true then 1 else beginS c) _
   by_cases h1 : sgn c = true
   ·rw [if_pos h1]; exact ⟨c, rfl, h1⟩
   ·rw [if_neg h1]; exact inv_begin [] c (by simp [body, h1])
  ·obtain ⟨c0, hp, h0⟩ : ∃ c0, p = [c0] ∧ sgn c0 = true := h
   subst hp
   exact inv_begin [c0] c (by simp [body, h0])
  ·obtain ⟨hp, hb⟩ : p ≠ [] ∧ body p = [48] := h
   have hd : DecOk (body p) := by rw [hb]; exact dec48
   show Inv (if c = 120 then 10 else if isDig c = true then 3 else if c = 46 then 4 else if c = 101 then 7 else 28) _
   by_cases h1 : c = 120
   ·rw [if_pos h1]; exact ⟨snoc_ne p c, by rw [body_snoc p c hp, hb, h1]; rfl⟩
   ·rw [if_neg h1]
    by_cases h2 : isDig c = true
    ·rw [if_pos h2]; exact inv_dec hp hd (.inr h2)
    ·rw [if_neg h2]
     by_cases h3 : c = 46
     ·rw [if_pos h3]; exact inv_dec hp hd (.inl h3)
     ·rw [if_neg h3]
      by_cases h4 : c = 101
      ·rw [if_pos h4]; exact inv_e hp hd h4
      ·rw [if_neg h4]; exact hdead
  ·obtain ⟨hp, hd⟩ : p ≠ [] ∧ DecOk (body p) := h
   show Inv (if isDig c = true then 3 else if c = 46 then 4 else if c = 101 then 7 else 28) _
   by_cases h2 : isDig c = true
   ·rw [if_pos h2]; exact inv_dec hp hd (.inr h2)
   ·rw [if_neg h2]
    by_cases h3 : c = 46
    ·rw [if_pos h3]; exact inv_dec hp hd (.inl h3)
    ·rw [if_neg h3]
     by_cases h4 : c = 101
     ·rw [if_pos h4]; exact inv_e hp hd h4
     ·rw [if_neg h4]; exact hdead
  ·obtain ⟨hp, hd⟩ : p ≠ [] ∧ DecOk (body p) := h
   show Inv (if isDig c = true then 6 else if c = 101 then 7 else 28) _
   by_cases h2 : isDig c = true
   ·rw [if_pos h2]; exact inv_dec hp hd (.inr h2)
   ·rw [if_neg h2]
    by_cases h4 : c = 101
    ·rw [if_pos h4]; exact inv_e hp hd h4
    ·rw [if_neg h4]; exact hdead
  ·obtain ⟨hp, hd⟩ : p ≠ [] ∧ DecOk (body p) := h
   show Inv (if isDig c = true then 6 else 28) _
   by_cases h2 : isDig c = true
   ·rw [if_pos h2]; exact inv_dec hp hd (.inr h2)
   ·rw [if_neg h2]; exact hdead
  ·obtain ⟨hp, hd⟩ : p ≠ [] ∧ DecOk (body p) := h
   show Inv (if isDig c = true then 6 else if c = 101 then 7 else 28) _
   by_cases h2 : isDig c = true
   ·rw [if_pos h2]; exact inv_dec hp hd (.inr h2)
   ·rw [if_neg h2]
    by_cases h4 : c = 101
    ·rw [if_pos h4]; exact inv_e hp hd h4
    ·rw [if_neg h4]; exact hdead
  ·obtain ⟨hp, hd⟩ : p ≠ [] ∧ ∃ a b, body p = a ++ 101 :: b ∧ DecOk a := h
   show Inv (if isDig c = true then 9 else if sgn c = true then 8 else 28) _
   by_cases h2 : isDig c = true
   ·rw [if_pos h2]; exact inv_exp hp hd
   ·rw [if_neg h2]
    by_cases h4 : sgn c = true
    ·rw [if_pos h4]; exact inv_exp hp hd
    ·rw [if_neg h4]; exact hdead
  ·obtain ⟨hp, hd⟩ : p ≠ [] ∧ ∃ a b, body p = a ++ 101 :: b ∧ DecOk a := h
   show Inv (if isDig c = true then 9 else 28) _
   by_cases h2 : isDig c = true
   ·rw [if_pos h2]; exact inv_exp hp hd
   ·rw [if_neg h2]; exact hdead
  ·obtain ⟨hp, hd⟩ : p ≠ [] ∧ ∃ a b, body p = a ++ 101 :: b ∧ DecOk a := h
   show Inv (if isDig c = true then 9 else 28) _
   by_cases h2 : isDig c = true
   ·rw [if_pos h2]; exact inv_exp hp hd
   ·rw [if_neg h2]; exact hdead
  ·obtain ⟨hp, hb⟩ : p ≠ [] ∧ body p = [48, 120] := h
   show Inv (if isHexc c = true then 11 else 28) _
   by_cases h2 : isHexc c = true
   ·rw [if_pos h2]; exact inv_hex hp ⟨[], hb, fun x hx => by simp at hx⟩ (.inr h2)
   ·rw [if_neg h2]; exact hdead
  ·obtain ⟨hp, hd⟩ : p ≠ [] ∧ ∃ a, body p = 48 :: 120 :: a ∧ HexOk a := h
   show Inv (if isHexc c = true then 11 else if c = 46 then 12 else if c = 112 then 13 else 28) _
   by_cases h2 : isHexc c = true
   ·rw [if_pos h2]; exact inv_hex hp hd (.inr h2)
   ·rw [if_neg h2]
    by_cases h3 : c = 46
    ·rw [if_pos h3]; exact inv_hex hp hd (.inl h3)
    ·rw [if_neg h3]
     by_cases h4 : c = 112
     ·rw [if_pos h4]; exact inv_p hp hd h4
     ·rw [if_neg h4]; exact hdead
  ·obtain ⟨hp, hd⟩ : p ≠ [] ∧ ∃ a, body p = 48 :: 120 :: a ∧ HexOk a := h
   show Inv (if isHexc c = true then 12 else if c = 112 then 13 else 28) _
   by_cases h2 : isHexc c = true
   ·rw [if_pos h2]; exact inv_hex hp hd (.inr h2)
   ·rw [if_neg h2]
    by_cases h4 : c = 112
    ·rw [if_pos h4]; exact inv_p hp hd h4
    ·rw [if_neg h4]; exact hdead
  ·obtain ⟨hp, hd⟩ : p ≠ [] ∧ ∃ a b, body p = 48 :: 120 :: (a ++ 112 :: b) ∧ HexOk a := h
   show Inv (if isDig c = true then 15 else if sgn c = true then 14 else 28) _
   by_cases h2 : isDig c = true
   ·rw [if_pos h2]; exact inv_pow hp hd
   ·rw [if_neg h2]
    by_cases h4 : sgn c = true
    ·rw [if_pos h4]; exact inv_pow hp hd
    ·rw [if_neg h4]; exact hdead
  ·obtain ⟨hp, hd⟩ : p ≠ [] ∧ ∃ a b, body p = 48 :: 120 :: (a ++ 112 :: b) ∧ HexOk a := h
   show Inv (if isDig c = true then 15 else 28) _
   by_cases h2 : isDig c = true
   ·rw [if_pos h2]; exact inv_pow hp hd
   ·rw [if_neg h2]; exact hdead
  ·obtain ⟨hp, hd⟩ : p ≠ [] ∧ ∃ a b, body p = 48 :: 120 :: (a ++ 112 :: b) ∧ HexOk a := h
   show Inv (if isDig c = true then 15 else 28) _
   by_cases h2 : isDig c = true
   ·rw [if_pos h2]; exact inv_pow hp hd
   ·rw [if_neg h2]; exact hdead

theorem inv_at (l : List Nat) (k : Nat) (h : k ≤ l.length) : Inv (stAt l k) (l.take k) := by
 induction k with
 | zero => rfl
 | succ k ih => rw [stAt_succ l k (by omega), take_snoc_getD l k (by omega)]; exact inv_step _ _ _ (ih (by omega))

end Go.Proofs.YtbkdaoicnobllabGreatDoor

namespace Go.Proofs.YtbkdaoicnobllabGreatDoor
open Go.RowKit

theorem or_nat (a i : Nat) (ha : a < 2 ^ i) (hi : i ≤ 63) : ((BitVec.ofInt 64 (a : Int)) ||| (BitVec.ofInt 64 ((2 ^ i : Nat) : Int))).toNat = a + 2 ^ i := by
 have hp : 2 ^ i ≤ 2 ^ 63 := Nat.pow_le_pow_right (by omega) hi
 have h1 : (BitVec.ofInt 64 (a : Int)).toNat = a := by
  rw [BitVec.ofInt_natCast, BitVec.toNat_ofNat]; exact Nat.mod_eq_of_lt (by omega)
 have h2 : (BitVec.ofInt 64 ((2 ^ i : Nat) : Int)).toNat = 2 ^ i := by
  rw [BitVec.ofInt_natCast, BitVec.toNat_ofNat]; exact Nat.mod_eq_of_lt (by omega)
 have h3 := Nat.two_pow_add_eq_or_of_lt ha 1
 rw [Nat.mul_one] at h3
 rw [BitVec.toNat_or, h1, h2, Nat.or_comm, ← h3]; omega
theorem or_half (a : Nat) (h : a < 32768) : bits .or .i64 (a : Int) 32768 = (a : Int) + 32768 := by
 have := or_nat a 15 (by omega) (by omega)
 rw [show (32768 : Int) = ((2 ^ 15 : Nat) : Int) from by decide]
 unfold bits
 show IntKind.i64.wrap ((BitVec.ofInt 64 (a : Int) ||| BitVec.ofInt 64 ((2 ^ 15 : Nat) : Int)).toNat : Int) = _
 rw [this, IntKind.wrap_i64]; omega
theorem or_single (a : Nat) (h : a < 2147483648) : bits .or .i64 (a : Int) 2147483648 = (a : Int) + 2147483648 := by
 have := or_nat a 31 (by omega) (by omega)
 rw [show (2147483648 : Int) = ((2 ^ 31 : Nat) : Int) from by decide]
 unfold bits
 show IntKind.i64.wrap ((BitVec.ofInt 64 (a : Int) ||| BitVec.ofInt 64 ((2 ^ 31 : Nat) : Int)).toNat : Int) = _
 rw [this, IntKind.wrap_i64]; omega
theorem ofInt_min : BitVec.ofInt 64 (-9223372036854775808) = BitVec.ofInt 64 ((2 ^ 63 : Nat) : Int) := by decide
theorem or_double (a : Nat) (h : a < 9223372036854775808) : bits .or .i64 (a : Int) (-9223372036854775808) = (a : Int) + -9223372036854775808 := by
 have := or_nat a 63 (by omega) (by omega)
 unfold bits
 show IntKind.i64.wrap ((BitVec.ofInt 64 (a : Int) ||| BitVec.ofInt 64 (-9223372036854775808)).toNat : Int) = _
 rw [ofInt_min, this, IntKind.wrap_i64]; omega

def sgnP (f : Int) : Int := if f = 0 then 32768 else if f = 1 then 2147483648 else -9223372036854775808
def nanP (f : Int) : Int := if f = 0 then 32256 else if f = 1 then 2143289344 else 9221120237041090560
def signedV (f : Int) (neg : Bool) (r : Int) : Int := if neg = true then r + sgnP f else r
theorem chs_drop (s : ByteArray) : chs (s.extract 1 s.size) = (chs s).drop 1 := by
 unfold chs; rw [Lib.extract_data, List.take_of_length_le (by simp), List.map_drop]
theorem mem_takeWhile_stop {q : Nat → Bool} {x : Nat} {b : List Nat} (hx : q x = false) : ∀ (a : List Nat) (c : Nat), c ∈ (a ++ x :: b).takeWhile q → c ∈ a := by
 intro a; induction a with
 | nil => intro c hc; simp [hx] at hc
 | cons y r ih =>
  intro c hc
  rw [List.cons_append] at hc
  by_cases hy : q y = true
  ·rw [List.takeWhile_cons_of_pos hy] at hc
   rcases List.mem_cons.1 hc with h | h
   ·rw [h]; exact List.mem_cons_self
   ·exact List.mem_cons_of_mem _ (ih c h)
  ·rw [List.takeWhile_cons_of_neg hy] at hc; cases hc
theorem dec_ok (l : List Nat) (st : Nat) (h : st = stAt l l.length) (hs : st = 2 ∨ st = 3 ∨ st = 4 ∨ st = 6 ∨ st = 9) : ∀ c, c ∈ ahead (body l) 101 → c = 46 ∨ isDig c = true := by
 have hi := inv_at l l.length (Nat.le_refl _)
 rw [List.take_length, ← h] at hi
 have sub : ∀ c, c ∈ ahead (body l) 101 → c ∈ body l := fun c hc => List.takeWhile_subset _ hc
 rcases hs with rfl | rfl | rfl | rfl | rfl
 ·obtain ⟨_, hb⟩ : l ≠ [] ∧ body l = [48] := hi
  intro c hc
  have := sub c hc
  rw [hb] at this
  exact dec48 c this
 ·obtain ⟨_, hd⟩ : l ≠ [] ∧ DecOk (body l) := hi
  exact fun c hc => hd c (sub c hc)
 ·obtain ⟨_, hd⟩ : l ≠ [] ∧ DecOk (body l) := hi
  exact fun c hc => hd c (sub c hc)
 ·obtain ⟨_, hd⟩ : l ≠ [] ∧ DecOk (body l) := hi
  exact fun c hc => hd c (sub c hc)
 ·obtain ⟨_, a, b, h1, h2⟩ : l ≠ [] ∧ ∃ a b, body l = a ++ 101 :: b ∧ DecOk a := hi
  intro c hc
  unfold ahead at hc
  rw [h1] at hc
  exact h2 c (mem_takeWhile_stop (by rfl) a c hc)
theorem hex_ok (l : List Nat) (st : Nat) (h : st = stAt l l.length) (hs : st = 15) : 2 ≤ (body l).length ∧ ∀ c, c ∈ ahead ((body l).drop 2) 112 → c = 46 ∨ isHexc c = true := by
 have hi := inv_at l l.length (Nat.le_refl _)
 rw [List.take_length, ← h, hs] at hi
 obtain ⟨_, a, b, h1, h2⟩ : l ≠ [] ∧ ∃ a b, body l = 48 :: 120 :: (a ++ 112 :: b) ∧ HexOk a := hi
 refine ⟨by rw [h1]; simp, fun c hc => ?_⟩
 unfold ahead at hc
 rw [h1] at hc
 exact h2 c (mem_takeWhile_stop (by rfl) a c hc)
theorem ok_ne (l : List Nat) (h : endsB (stAt l l.length) = true) : l ≠ [] := by
 intro h0; subst h0; simp [stAt, endsB] at h

theorem body_sign (s : ByteArray) (h : 0 < s.size) (hs : sgn ((chs s).getD 0 0) = true) : (chs s).drop 1 = body (chs s) := by
 have hl := chs_length s
 cases hc : chs s with
 | nil => rw [hc] at hl; simp at hl; omega
 | cons c r => rw [hc] at hs; simp at hs; simp [body, hs]
theorem body_none (s : ByteArray) (_h : 0 < s.size) (hs : sgn ((chs s).getD 0 0) = false) : chs s = body (chs s) := by
 have hl := chs_length s
 cases hc : chs s with
 | nil => rfl
 | cons c r => rw [hc] at hs; simp at hs; simp [body, hs]

def NumSpec (K : Nat) (l : List Nat) (f mode : Int) (st : Nat) (bts fl : Int) : Prop :=
 (st = 27 ∧ bts = nanP f ∧ fl = 0) ∨
 ((st = 18 ∨ st = 23) ∧ bts = signedV f (decide (l.getD 0 0 = 45)) (infN f) ∧ fl = 0) ∨
 (st = 15 ∧ ∃ r : Int, RoundSpec K f mode (decide (l.getD 0 0 = 45)) (sixV K (hexScan (ahead ((body l).drop 2) 112)).1 (expOf (body l) 112 - 4 * (hexScan (ahead ((body l).drop 2) 112)).2.1)) r fl ∧ bts = signedV f (decide (l.getD 0 0 = 45)) r) ∨
 ((st = 2 ∨ st = 3 ∨ st = 4 ∨ st = 6 ∨ st = 9) ∧ ∃ (r : Int) (L : List Nat) (e : Int), Norm L ∧ (L = [] → e = 0) ∧ (L ≠ [] → expOf (body l) 101 - (decScan (ahead (body l) 101)).2.1 ≤ e) ∧
  (∀ K2 : Nat, -(K2 : Int) ≤ expOf (body l) 101 - (decScan (ahead (body l) 101)).2.1 → val K2 L e = val K2 (decScan (ahead (body l) 101)).1 (expOf (body l) 101 - (decScan (ahead (body l) 101)).2.1)) ∧
  RoundSpec K f mode (decide (l.getD 0 0 = 45)) (heldV K L e) r fl ∧ bts = signedV f (decide (l.getD 0 0 = 45)) r)
def ParseSpec (K : Nat) (l : List Nat) (f mode : Int) (bts fl at' err : Int) : Prop :=
 (¬ (0 ≤ f ∧ f ≤ 2 ∧ 0 ≤ mode ∧ mode ≤ 4) ∧ bts = 0 ∧ fl = 0 ∧ at' = 0 ∧ err = 1) ∨
 ((0 ≤ f ∧ f ≤ 2 ∧ 0 ≤ mode ∧ mode ≤ 4) ∧ 900 < l.length ∧ bts = 0 ∧ fl = 0 ∧ at' = 0 ∧ err = 2) ∨
 ((0 ≤ f ∧ f ≤ 2 ∧ 0 ≤ mode ∧ mode ≤ 4) ∧ l.length ≤ 900 ∧ ∃ (st a : Nat) (ok : Bool), ReadSpec l st a ok ∧
  ((ok = false ∧ bts = 0 ∧ fl = 0 ∧ at' = a ∧ err = 3) ∨ (ok = true ∧ at' = 0 ∧ err = 0 ∧ NumSpec K l f mode st bts fl)))

theorem round_bd {K : Nat} {f mode : Int} {neg : Bool} {X : Nat} {r fl : Int} (h : RoundSpec K f mode neg X r fl) : 0 ≤ r ∧ r ≤ infN f := by
 have hi := infN_le f
 rcases h with ⟨_, h, _⟩ | ⟨_, _, _, h⟩ | ⟨_, _, a, ha, _, _, ⟨_, h, _⟩ | ⟨_, h, _⟩⟩
 ·omega
 ·rw [h]; split <;> omega
 ·omega
 ·rw [h]; split <;> omega

end Go.Proofs.YtbkdaoicnobllabGreatDoor
