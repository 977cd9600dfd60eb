import Derived.Test.YtbkdaoicnobllabGreatDoorG12
import Derived.Test.YtbkdaoicnobllabGreatDoorProg
import Derived.Test.YtbkdaoicnobllabGreatDoorG00
import Derived.WalkSpells
import Derived.WalkLawsBesides
import Derived.WalkKit

namespace Go.Proofs.YtbkdaoicnobllabGreatDoor
set_option maxRecDepth 100000
set_option maxHeartbeats 1000000
open Go.RowKit

theorem digitsM_any (b : Nat) (v : Value) (D : List Nat) (e : Int) (w : World) (h : DecAt w b v D e) :
  Calls Tryz.prog 93 #[.pointer (some ⟨b, 0, none⟩)] w fun r w' => ∃ v' : Value, r = .returned v' ∧ SomeS v' ∧ Own w' w.heap.size v' D ∧ Below w.heap.size w w' := by
 obtain ⟨g, off, cap, rfl, _, _, _, _⟩ := h.form
 have c0 := h.c0
 have hl := h.len
 have HX := hid (first_any b _ D e (D.length : Int) w h (by omega))
 rw [Int.toNat_natCast, firstL_take D _ (Nat.le_refl _), List.take_length] at HX
 obtain ⟨n, hn⟩ : ∃ n, n = D.length := ⟨_, rfl⟩
 rw [← hn] at c0 hl HX
 clear h hn
 go_enter Tryz.func93, Tryz.ntmps93
 go_wp2_with fail
 refine HX.out.mono ?_
 rintro r w1 ⟨v', rfl, hs, ho, hb⟩
 have HF := hid (And.intro hs (And.intro ho hb))
 clear hs ho hb HX
 go_wp2
 go_ret
 exact ⟨_, rfl, HF.out.1, HF.out.2.1, HF.out.2.2⟩
theorem with_short {f : Int} {a : Nat} {pw : Int} {D : List Nat} {e p : Int} {X : Nat} (h0 : 0 < a) (hp : pw + 2 = fE f + xA (fQ f) a) (hk : -(3000 : Int) ≤ pw)
  (h : WithAt (lowS (fQ f) a) (4 * mA (fQ f) a) (4 * mA (fQ f) a + 2) pw (decide (a % 2 = 0)) D e p X) : ShortAt f a D e p X := by
 have e1 := span_hold f a pw h0 hp hk
 have e2 := span_num f a pw hp hk
 have hv := h.val
 have hy := h.yes
 have hn := h.no
 rw [e2] at hv
 rw [e1, e2] at hy
 refine ⟨h.digs, h.headed, h.pos, by have := h.lo'; omega, hv, h.le, hy, fun q a1 a2 => ?_⟩
 have := hn q a1 a2
 rw [e1, e2] at this
 exact this
theorem short_fix (L : List Nat) (g : Int) (hl : L ≠ []) : fixW L L.length (-g) = shortT true L g := by
 unfold fixW shortT highN
 rw [if_pos rfl, if_neg hl, Int.neg_neg, show ((L.length : Int) - -g - 1).toNat = (max (g + L.length - 1) 0).toNat from by omega, show (-g).toNat = (-(min g 0)).toNat from by omega]
theorem short_exp (L : List Nat) (g : Int) (hl : L ≠ []) : expB L L.length ++ (101 :: Lib.itoa (g + L.length - 1)) = shortT false L g := by
 have h0 := List.length_pos_iff.2 hl
 unfold shortT
 rw [if_neg (by decide)]
 have := expB_rows L (g + L.length - 1) (L.length - 1) (by omega)
 rw [show L.length - 1 + 1 = L.length from by omega, show g + (L.length : Int) - 1 - L.length + 1 = g from by omega] at this
 rw [this]
theorem fixW_text2 (R : List Nat) (n : Nat) (pr : Int) (hn : n ≤ 1500) (h1 : -1000 ≤ pr) (h2 : pr ≤ 1500) : (fixW R n pr).length ≤ 5000 := by
 unfold fixW
 have := fixT_length R (-pr) ((n : Int) - pr - 1).toNat pr.toNat
 omega
theorem lowS_bounds (q a : Nat) (h : 0 < a) (hq : 1 ≤ q) : 0 < lowS q a ∧ lowS q a < 4 * mA q a := by
 have := mA_pos q a h
 unfold lowS
 have hp : 2 * 1 ≤ 2 ^ q := by
  obtain ⟨r, rfl⟩ : ∃ r, q = r + 1 := ⟨q - 1, by omega⟩
  rw [Nat.pow_succ]; have : 0 < 2 ^ r := Nat.pow_pos (by omega)
  omega
 split <;> omega
theorem shortText_any (f : Int) (hf : 0 ≤ f ∧ f ≤ 2) (a : Nat) (ha : (a : Int) < infN f) (vb : Int) (pl : Bool) (hv : vb = 0 ∧ pl = false ∨ vb = 1 ∧ pl = true) (w : World) (ht : Tab w) :
  Calls Tryz.prog 54 #[.int .i64 a, layOf f, .int .i64 vb] w fun r w' => TextPost w w' r (ShortQ pl f a) := by
 have HTAB := hid ht
 have HV := hid hv
 clear ht hv
 have HSP := hid (fun h1 w => span_any f hf a h1 ha w)
 obtain ⟨F, B, N, I, G, hl, hI, hN, hE, f1, f2, b1, b2, n1, n2, i2, i3⟩ := lay_num hf
 obtain ⟨p1, p2, p3, p4, p5⟩ := num_bd hf ha
 rw [hl] at HSP ⊢
 have HB : Hid (Below w.heap.size w (w.alloc (.cells #[.int .i64 F, .int .i64 B, .int .i64 N, .int .i64 I, .int .i64 G] 63))) := (Below.refl _ _).alloc (Nat.le_refl _) _
 by_cases h0 : a = 0
 ·subst h0
  clear hN hE hl HSP
  unfold layV
  go_enter Tryz.func54, Tryz.ntmps54
  go_wp2
  go_ret
  exact ⟨[48], rfl, .inl ⟨rfl, rfl⟩, by simp, HB.out⟩
 ·have h1 : 0 < a := by omega
  have hlb := lowS_bounds (fQ f) a h1 (by unfold fQ; split <;> (try split) <;> omega)
  obtain ⟨A, hA⟩ : ∃ A : Int, A = (a : Int) := ⟨_, rfl⟩
  obtain ⟨pw, hpw⟩ : ∃ pw : Int, pw = fE f + (xA (fQ f) a : Nat) - 2 := ⟨_, rfl⟩
  have HWI : Hid (∀ w : World, Calls Tryz.prog 92 #[.agg #[.int .i64 (lowS (fQ f) a : Nat), .int .i64 (4 * mA (fQ f) a : Nat), .int .i64 (4 * mA (fQ f) a + 2 : Nat), .int .i64 pw, .bool (decide (a % 2 = 0))]] w fun r w' => WithPost w w' r (lowS (fQ f) a) (4 * mA (fQ f) a) (4 * mA (fQ f) a + 2) pw (decide (a % 2 = 0))) := fun w =>
   within_any _ _ _ _ _ _ pw _ w rfl rfl rfl hlb.1 hlb.2 (by omega) (by omega) (by omega) (by omega)
  have HSP := hid (HSP.out h1)
  unfold SpanPost at HSP
  rw [← hpw, ← hA] at HSP
  have HWS : Hid (∀ (D : List Nat) (e p : Int) (X : Nat), WithAt (lowS (fQ f) a) (4 * mA (fQ f) a) (4 * mA (fQ f) a + 2) pw (decide (a % 2 = 0)) D e p X → ShortAt f a D e p X) := fun D e p X h =>
   with_short (f := f) (pw := pw) h1 (by omega) (by omega) h
  have hA0 : (A == 0) = false := by rw [beq_eq_false_iff_ne]; omega
  have hA1 : ¬ A = 0 := by omega
  have H1 := hid h1
  obtain ⟨x0, hx0⟩ : ∃ x : Int, x = (lowS (fQ f) a : Nat) := ⟨_, rfl⟩
  obtain ⟨x1, hx1⟩ : ∃ x : Int, x = (4 * mA (fQ f) a : Nat) := ⟨_, rfl⟩
  obtain ⟨x2, hx2⟩ : ∃ x : Int, x = (4 * mA (fQ f) a + 2 : Nat) := ⟨_, rfl⟩
  obtain ⟨cl, hcl⟩ : ∃ c : Bool, c = decide (a % 2 = 0) := ⟨_, rfl⟩
  rw [← hx0, ← hx1, ← hx2, ← hcl] at HSP HWI
  rw [← hcl] at HWS
  rw [← hA]
  clear hx0 hx1 hx2 hcl hpw hA hlb ha h0 h1 hl hI hN hE p1 p2 p3 p4 p5
  unfold layV at *
  go_enter Tryz.func54, Tryz.ntmps54
  go_wp2_with fail
  generalize (w.alloc (.cells #[.int .i64 F, .int .i64 B, .int .i64 N, .int .i64 I, .int .i64 G] 63)) = W at *
  refine (HSP.out W).mono ?_
  rintro r w1 ⟨rfl, hb1⟩
  have HB1 : Hid (Below w.heap.size w w1) := HB.out.trans (hb1.mono HB.out.size)
  clear hb1 HSP HB
  go_wp2_with fail
  have HB2 : Hid (Below w.heap.size w (w1.alloc (.cells #[.int .i64 x0, .int .i64 x1, .int .i64 x2, .int .i64 pw, .bool cl] 125))) := HB1.out.alloc HB1.out.size _
  generalize w1.alloc (.cells #[.int .i64 x0, .int .i64 x1, .int .i64 x2, .int .i64 pw, .bool cl] 125) = W2 at *
  refine (HWI.out W2).mono ?_
  rintro r w3 ⟨b, rfl, v, D', e', hdec, hnorm, ⟨hg1, hg2⟩, ⟨D, e, p, hwa⟩, hb3⟩
  have HB3 : Hid (Below w.heap.size w w3) := HB2.out.trans (hb3.mono HB2.out.size)
  have HNE : Hid (D' ≠ []) := List.length_pos_iff.1 hdec.pos
  have HQ : Hid (ShortQ pl f a (shortT pl D' e')) := .inr ⟨H1.out, D, e, p, _, D', e', HWS.out D e p _ hwa, hnorm, HNE.out, by omega, rfl, rfl⟩
  have HNORM := hid hnorm
  have HDEC := hid hdec
  have hpos := hdec.pos
  clear hdec hnorm hwa hb3 HWI HWS HB1 HB2
  go_wp2_with fail
  refine (digitsM_any b v D' e' w3 HDEC.out).mono ?_
  rintro r w4 ⟨v4, rfl, ⟨g2, n2, cp2, rfl⟩, ho, hb4⟩
  have HO := hid ho
  have hn := ho.sliceLen.1
  have HN := hid hn
  have HB4 : Hid (Below w.heap.size w w4) := HB3.out.trans (hb4.mono HB3.out.size)
  have HDEC4 : Hid (DecAt w4 b v D' e') := HDEC.out.below hb4
  rw [hn] at hg2 hpos
  rcases HV.out with ⟨rfl, rfl⟩ | ⟨rfl, rfl⟩
  ·obtain ⟨T, hT0⟩ : ∃ T : Int, T = e' + n2 - 1 := ⟨_, rfl⟩
   have HT := hid hT0
   have hT1 : -2000 ≤ T := by omega
   have hT2 : T ≤ 2000 := by omega
   clear hT0 ho hb4 hn HDEC HB3
   go_wp2_with fail
   have HFP : Hid (Calls Tryz.prog 96 #[.pointer (some ⟨b, 0, none⟩)] w4 fun r w' => r = .returned (.int .i64 T) ∧ Still w4 w') := by
    unfold Hid; rw [HT.out, ← HN.out]; exact firstPower_any b v D' e' w4 HDEC4.out
   refine HFP.out.mono ?_
   rintro r w5 ⟨rfl, hs5⟩
   have HB5 : Hid (Below w.heap.size w w5) := HB4.out.trans (hs5.below _)
   have HWX := hid (wexp_cut g2 n2 cp2 n2 D' T _ w5 (HTAB.out.below HB5.out) (HO.out.below (hs5.below w4.heap.size) (Nat.le_refl _)) (Nat.le_refl _) (by omega) (by omega) HNORM.out.digs (by omega) (by omega))
   rw [show D'.take n2 = D' from List.take_of_length_le (by rw [HN.out]; exact Nat.le_refl _)] at HWX
   clear hs5 HFP
   go_wp2_with fail
   refine HWX.out.mono ?_
   rintro r w6 ⟨rfl, hb6⟩
   have HB6 : Hid (Below w.heap.size w w6) := HB5.out.trans (hb6.mono HB5.out.size)
   have HTX : Hid (expB D' n2 ++ (101 :: Lib.itoa T) = shortT false D' e') := by unfold Hid; rw [HT.out, ← HN.out]; exact short_exp D' e' HNE.out
   have HLEN : Hid ((expB D' n2 ++ (101 :: Lib.itoa T)).length ≤ 5000) := expB_text _ _ _ (by omega) (by omega) (by omega)
   clear hb6 HWX
   go_wp2
   go_ret
   exact ⟨_, rfl, by rw [HTX.out]; exact HQ.out, HLEN.out, HB6.out⟩
  ·obtain ⟨N', hN⟩ : ∃ N : Int, -e' = N := ⟨_, rfl⟩
   clear ho hb4 hn HDEC HB3
   go_wp2_with fail
   refine (lastPower_any b v D' e' w4 HDEC4.out).mono ?_
   rintro r w5 ⟨rfl, rfl⟩
   have HWX := hid (wfix_own g2 n2 cp2 D' N' _ w5 HO.out (by omega) HNORM.out.digs (by omega) (by omega))
   go_wp2_with fail
   refine HWX.out.mono ?_
   rintro r w6 ⟨rfl, hb6⟩
   have HB6 : Hid (Below w.heap.size w w6) := HB4.out.trans (hb6.mono HB4.out.size)
   have HTX : Hid (fixW D' n2 N' = shortT true D' e') := by unfold Hid; rw [← HN.out, ← hN]; exact short_fix D' e' HNE.out
   have HLEN : Hid ((fixW D' n2 N').length ≤ 5000) := fixW_text2 _ _ _ (by omega) (by omega) (by omega)
   clear hb6 HWX hN
   go_wp2
   go_ret
   exact ⟨_, rfl, by rw [HTX.out]; exact HQ.out, HLEN.out, HB6.out⟩
end Go.Proofs.YtbkdaoicnobllabGreatDoor

namespace Go.Proofs.YtbkdaoicnobllabGreatDoor
open Go.RowKit

theorem zero_any (v : Value) (L : List Nat) (e : Int) (w : World) (hr : Row w v L) :
  Calls Tryz.prog 78 #[.agg #[v, .int .i64 e]] w fun r w' => r = .returned (.bool (decide (L.length = 0))) ∧ Below w.heap.size w w' := by
 rcases hr with ⟨rfl, rfl⟩ | ⟨b, off, cap, rfl, h1, h2, h3, h4⟩
 ·go_enter Tryz.func78, Tryz.ntmps78
  go_wp2
  go_ret
  exact ⟨by rfl, (Below.refl _ _).alloc (Nat.le_refl _) _⟩
 ·clear h4
  go_enter Tryz.func78, Tryz.ntmps78
  go_wp2
  go_ret
  exact ⟨congrArg (fun b => Ending.returned (Value.bool b)) (by rw [Bool.eq_iff_iff]; simp), (Below.refl _ _).alloc (Nat.le_refl _) _⟩

theorem zero_yes (v : Value) (L : List Nat) (e : Int) (w : World) (hr : Row w v L) (h : L.length = 0) :
  Calls Tryz.prog 78 #[.agg #[v, .int .i64 e]] w fun r w' => r = .returned (.bool true) ∧ Below w.heap.size w w' := by
 have := zero_any v L e w hr
 rwa [show decide (L.length = 0) = true from by simpa using h] at this
theorem zero_no (v : Value) (L : List Nat) (e : Int) (w : World) (hr : Row w v L) (h : ¬ L.length = 0) :
  Calls Tryz.prog 78 #[.agg #[v, .int .i64 e]] w fun r w' => r = .returned (.bool false) ∧ Below w.heap.size w w' := by
 have := zero_any v L e w hr
 rwa [show decide (L.length = 0) = false from by simpa using h] at this

theorem top_any (v : Value) (L : List Nat) (e : Int) (w : World) (hr : Row w v L) (hl : L.length ≤ 1000000) (he : -1000000 ≤ e ∧ e ≤ 1000000) :
  Calls Tryz.prog 84 #[.agg #[v, .int .i64 e]] w fun r w' => r = .returned (.int .i64 (e + L.length - 1)) ∧ Below w.heap.size w w' := by
 rcases hr with ⟨rfl, rfl⟩ | ⟨b, off, cap, rfl, h1, h2, h3, h4⟩
 ·go_enter Tryz.func84, Tryz.ntmps84
  go_wp2
  go_ret
  exact ⟨ret_int (by simp), (Below.refl _ _).alloc (Nat.le_refl _) _⟩
 ·clear h4
  go_enter Tryz.func84, Tryz.ntmps84
  go_wp2
  go_ret
  exact ⟨ret_int (by simp), (Below.refl _ _).alloc (Nat.le_refl _) _⟩

theorem at_any (v : Value) (L : List Nat) (e p : Int) (w : World) (hr : Row w v L) (hl : L.length ≤ 1000000) (he : -1000000 ≤ e ∧ e ≤ 1000000) (hp : -1000000 ≤ p ∧ p ≤ 1000000) :
  Calls Tryz.prog 116 #[.agg #[v, .int .i64 e], .int .i64 p] w fun r w' => r = .returned (.int .i64 (dig L e p : Nat)) ∧ Below w.heap.size w w' := by
 rcases hr with ⟨rfl, rfl⟩ | ⟨b, off, cap, rfl, h1, h2, h3, h4⟩
 ·have H0 : Hid (dig [] e p = 0) := by unfold Hid dig; split <;> simp
  go_enter Tryz.func116, Tryz.ntmps116
  go_wp2
  all_goals go_ret
  all_goals exact ⟨ret_int (by rw [H0.out]; rfl), (Below.refl _ _).alloc (Nat.le_refl _) _⟩
 ·by_cases hlo : p < e
  ·have H0 : Hid (dig L e p = 0) := dig_lo L hlo
   clear h4
   go_enter Tryz.func116, Tryz.ntmps116
   go_wp2
   all_goals go_ret
   all_goals exact ⟨ret_int (by rw [H0.out]; rfl), (Below.refl _ _).alloc (Nat.le_refl _) _⟩
  ·by_cases hhi : e + L.length ≤ p
   ·have H0 : Hid (dig L e p = 0) := dig_hi L hhi
    clear h4
    go_enter Tryz.func116, Tryz.ntmps116
    go_wp2
    all_goals go_ret
    all_goals exact ⟨ret_int (by rw [H0.out]; rfl), (Below.refl _ _).alloc (Nat.le_refl _) _⟩
   ·obtain ⟨j, hj⟩ : ∃ j : Nat, (j : Int) = L.length - 1 - (p - e) := ⟨(L.length - 1 - (p - e)).toNat, by omega⟩
    have h0 := dig_mid L (by omega) (by omega) j hj
    have h5 := h4 j (by omega)
    have h6 : (L.length : Int) - 1 - (p - e) = j := hj.symm
    have H0 : Hid (dig L e p = L.getD j 0) := h0
    clear h4 hj h0
    go_enter Tryz.func116, Tryz.ntmps116
    go_wp2
    all_goals go_ret
    all_goals exact ⟨ret_int (by rw [H0.out]; simp), (Below.refl _ _).alloc (Nat.le_refl _) _⟩

end Go.Proofs.YtbkdaoicnobllabGreatDoor

namespace Go.Proofs.YtbkdaoicnobllabGreatDoor
set_option maxRecDepth 100000
set_option maxHeartbeats 400000
open Go.RowKit

theorem made_nil (e : Int) (w : World) :
  Calls Tryz.prog 83 #[.slice none 0 0, .int .i64 e] w fun r w' => r = .returned (.agg #[.slice none 0 0, .int .i64 0]) ∧ Below w.heap.size w w' := by
 go_enter Tryz.func83, Tryz.ntmps83
 go_wp2
 go_loop [5] (fun a => a = .int .i64 0) (fun _ => 0)
 case atStart => rfl
 case round =>
  subst hrel
  go_wp2
  go_loop [6, 1] (fun z x => z = .int .i64 0 ∧ x = .int .i64 e) (fun _ _ => 0)
  case atStart => exact ⟨rfl, rfl⟩
  case round =>
   obtain ⟨rfl, rfl⟩ := hrel
   go_wp2
   exact bodyPost_ret (v := .agg #[.slice none 0 0, .int .i64 0]) (by simp [results, Tryz.results83, go_sem]) rfl ⟨rfl, ((Below.refl _ _).alloc (Nat.le_refl _) _)⟩

theorem made_some (b off cap : Nat) (L : List Nat) (e : Int) (w : World) (h1 : L.length ≤ cap) (_h2 : cap ≤ maxLen) (h3 : b < w.heap.size)
    (h4 : ∀ j, j < L.length → w.cell? ⟨b, off + j, none⟩ = some (.int .i64 (L.getD j 0 : Nat))) (hl : L.length ≤ 1000000) (he : -1000000 ≤ e ∧ e ≤ 1000000) :
    Calls Tryz.prog 83 #[.slice (some ⟨b, off, none⟩) L.length cap, .int .i64 e] w fun r w' => Below w.heap.size w w' ∧
      ((r = .returned (.agg #[.slice none 0 0, .int .i64 0]) ∧ ∀ j, j < L.length → L.getD j 0 = 0) ∨
       ∃ a z : Nat, a < z ∧ z ≤ L.length ∧ (∀ j, j < a → L.getD j 0 = 0) ∧ (∀ j, z ≤ j → j < L.length → L.getD j 0 = 0) ∧ L.getD a 0 ≠ 0 ∧ L.getD (z - 1) 0 ≠ 0 ∧
         r = .returned (.agg #[.slice (some ⟨b, off + a, none⟩) (z - a) (cap - a), .int .i64 (e + (L.length - z))])) := by
  unfold maxLen at _h2
  obtain ⟨n, hn⟩ : ∃ n, n = L.length := ⟨_, rfl⟩
  rw [← hn] at h1 h4 hl ⊢
  have HN : Hid (n = L.length) := hn
  clear hn
  have H4 : Hid (∀ j, j < n → w.cell? ⟨b, off + j, none⟩ = some (.int .i64 (L.getD j 0 : Nat))) := h4
  clear h4
  go_enter Tryz.func83, Tryz.ntmps83
  go_wp2
  go_loop [5] (fun a => ∃ k : Nat, k ≤ n ∧ a = .int .i64 k ∧ Hid (∀ j, j < k → L.getD j 0 = 0)) (fun a => n - (intOf a).toNat)
  case atStart => exact ⟨0, Nat.zero_le _, rfl, fun j hj => absurd hj (Nat.not_lt_zero _)⟩
  case round =>
    obtain ⟨k, hk, rfl, H5⟩ := hrel
    by_cases hgo : k < n ∧ L.getD k 0 = 0
    · obtain ⟨hlt, hz⟩ := hgo
      have hc := H4.out k hlt
      rw [hz] at hc
      have H6 : Hid (L.getD k 0 = 0) := hz
      clear hz
      go_wp2
      go_round
      case rel => exact ⟨k + 1, by omega, by go_num, fun j hj => if h : j = k then h ▸ H6.out else H5.out j (by omega)⟩
      case measure => simp [intOf]; omega
    · have H7 : Hid (¬ (k < n ∧ L.getD k 0 = 0)) := hgo
      clear hgo
      obtain ⟨x, hx⟩ : ∃ x, x = L.getD k 0 := ⟨_, rfl⟩
      have hc : k < n → w.cell? ⟨b, off + k, none⟩ = some (.int .i64 (x : Nat)) := fun h => by rw [hx]; exact H4.out k h
      have hx0 : k < n → ((x : Int) == 0) = false := fun h => by
        have := H7.out; rw [beq_eq_false_iff_ne]; intro h0; exact this ⟨h, by omega⟩
      have HX : Hid (x = L.getD k 0) := hx
      clear hx
      by_cases hlt : k < n
      all_goals
        try (have hc := hc hlt)
        try (have hx0 := hx0 hlt)
        go_wp2
        go_loop [6, 1] (fun z x => ∃ m : Nat, k ≤ m ∧ m ≤ n ∧ z = .int .i64 m ∧ x = .int .i64 (e + (n - m)) ∧ Hid (∀ j, m ≤ j → j < n → L.getD j 0 = 0)) (fun z _ => (intOf z).toNat)
        case atStart => exact ⟨n, by omega, Nat.le_refl _, rfl, by simp, fun j h1 h2 => by omega⟩
        case round =>
          obtain ⟨m, hm1, hm2, rfl, rfl, H8⟩ := hrel
          by_cases hgo : k < m ∧ L.getD (m - 1) 0 = 0
          · obtain ⟨hkm, hz⟩ := hgo
            have hc2 := H4.out (m - 1) (by omega)
            rw [hz] at hc2
            have H9 : Hid (L.getD (m - 1) 0 = 0) := hz
            clear hz
            go_wp2
            go_round
            case rel => exact ⟨m - 1, by omega, by omega, by go_num, by go_num, fun j h1 h2 => if h : j = m - 1 then h ▸ H9.out else H8.out j (by omega) h2⟩
            case measure => simp [intOf]; omega
          · have H9 : Hid (¬ (k < m ∧ L.getD (m - 1) 0 = 0)) := hgo
            clear hgo
            obtain ⟨y, hy⟩ : ∃ y, y = L.getD (m - 1) 0 := ⟨_, rfl⟩
            have hcy : k < m → w.cell? ⟨b, off + (m - 1), none⟩ = some (.int .i64 (y : Nat)) := fun h => by rw [hy]; exact H4.out (m - 1) (by omega)
            have hy0 : k < m → ((y : Int) == 0) = false := fun h => by
              have := H9.out; rw [beq_eq_false_iff_ne]; intro h0; exact this ⟨h, by omega⟩
            have HY : Hid (y = L.getD (m - 1) 0) := hy
            clear hy
            by_cases hkm : k < m
            · have hcy := hcy hkm
              have hy0 := hy0 hkm
              go_wp2
              all_goals exact bodyPost_ret (v := .agg #[.slice (some ⟨b, off + k, none⟩) (m - k) (cap - k), .int .i64 (e + (n - m))]) (by simp [results, Tryz.results83, go_sem]) rfl ⟨((Below.refl _ _).alloc (Nat.le_refl _) _), .inr ⟨k, m, hkm, hm2, H5.out, H8.out, fun h0 => H7.out ⟨by omega, h0⟩, fun h0 => H9.out ⟨hkm, h0⟩, rfl⟩⟩
            · go_wp2
              exact bodyPost_ret (v := .agg #[.slice none 0 0, .int .i64 0]) (by simp [results, Tryz.results83, go_sem]) rfl ⟨((Below.refl _ _).alloc (Nat.le_refl _) _), .inl ⟨rfl, fun j hj => if h : j < k then H5.out j h else H8.out j (by omega) hj⟩⟩

theorem made_any (v : Value) (L : List Nat) (e : Int) (w : World) (hr : Row w v L) (hd : Digs L) (hl : L.length ≤ 1000000) (he : -1000000 ≤ e ∧ e ≤ 1000000) :
  Calls Tryz.prog 83 #[v, .int .i64 e] w fun r w' => Below w.heap.size w w' ∧
   ∃ v' L' e', r = .returned (.agg #[v', .int .i64 e']) ∧ Out w' v' L' e' L.length e (e + L.length) (fun g => v.ownBlock = some g) (fun K => val K L e) := by
 rcases hr with ⟨rfl, rfl⟩ | ⟨b, off, cap, rfl, h1, h2, h3, h4⟩
 ·refine (made_nil e w).mono ?_
  rintro r w' ⟨rfl, hb⟩
  exact ⟨hb, _, [], 0, rfl, Row.nil _, fun g hg => hg, norm_nil, Nat.le_refl _, fun _ => rfl, fun h => absurd rfl h, fun K hK => by simp [val_nil]⟩
 ·refine (made_some b off cap L e w h1 h2 h3 h4 hl he).mono ?_
  rintro r w' ⟨hb, ⟨rfl, hz⟩ | ⟨a, z, haz, hz, ha0, hz0, ha, hzl, rfl⟩⟩
  ·exact ⟨hb, _, [], 0, rfl, Row.nil _, fun g hg => by simp [Value.ownBlock] at hg, norm_nil, Nat.zero_le _, fun _ => rfl, fun h => absurd rfl h, fun K hK => by simp [val, num_all_zero L hz, num_nil]⟩
  ·have hlen : ((L.take z).drop a).length = z - a := by simp; omega
   refine ⟨hb, _, (L.take z).drop a, _, rfl, .inr ⟨b, off + a, cap - a, by rw [hlen], by omega, by omega, by have := hb.size; omega, fun j hj => ?_⟩, fun g hg => hg, made_norm L a z haz hz hd ha hzl, by omega, fun h => ?_, fun _ => by omega, fun K hK => made_val L a z haz hz ha0 hz0 K e hK⟩
   ·rw [made_getD L a z j (by omega), (hb.cell (p := ⟨b, off + a + j, none⟩) (by exact h3)), Nat.add_assoc]; exact h4 (a + j) (by omega)
   ·rw [h] at hlen; simp at hlen; omega

end Go.Proofs.YtbkdaoicnobllabGreatDoor

namespace Go.Proofs.YtbkdaoicnobllabGreatDoor
open Go.RowKit
theorem dec_results {fn : Func} {p : Tmp} (h : fn.results = #[.cell p 95]) (tmps : Array Value) (w : World) (B : Nat) (x y : Value) (hp : tmps.getD p undef = .pointer (some ⟨B, 0, none⟩))
  (c0 : w.cell? ⟨B, 0, none⟩ = some x) (c1 : w.cell? ⟨B, 1, none⟩ = some y) : (results fn tmps).run Tryz.prog w = .ok (.agg #[x, y]) w := by
 have hp' : tmps[p]?.getD undef = .pointer (some ⟨B, 0, none⟩) := by rw [← Array.getD_eq_getD_getElem?]; exact hp
 simp [results, h, hp', go_sem, c0, c1]

theorem box4 {w w' : World} {x1 y1 x2 y2 : Value} {t1 t2 : TypeId} (hb : Below (w.heap.size + 2) ((w.alloc (.cells #[x1, y1] t1)).alloc (.cells #[x2, y2] t2)) w') :
  w'.cell? ⟨w.heap.size, 0, none⟩ = some x1 ∧ w'.cell? ⟨w.heap.size, 1, none⟩ = some y1 ∧ w'.cell? ⟨w.heap.size + 1, 0, none⟩ = some x2 ∧ w'.cell? ⟨w.heap.size + 1, 1, none⟩ = some y2 ∧
  w'.frozen? ⟨w.heap.size, 0, none⟩ = false ∧ w'.frozen? ⟨w.heap.size, 1, none⟩ = false ∧ w'.frozen? ⟨w.heap.size + 1, 0, none⟩ = false ∧ w'.frozen? ⟨w.heap.size + 1, 1, none⟩ = false ∧ w.heap.size + 2 ≤ w'.heap.size := by
 refine ⟨?_, ?_, ?_, ?_, ?_, ?_, ?_, ?_, ?_⟩
 ·exact (hb.cell (p := ⟨w.heap.size, 0, none⟩) (by simp)).trans (by simp [go_sem])
 ·exact (hb.cell (p := ⟨w.heap.size, 1, none⟩) (by simp)).trans (by simp [go_sem])
 ·exact (hb.cell (p := ⟨w.heap.size + 1, 0, none⟩) (by simp)).trans (by simp [go_sem])
 ·exact (hb.cell (p := ⟨w.heap.size + 1, 1, none⟩) (by simp)).trans (by simp [go_sem])
 ·exact (hb.frozen (p := ⟨w.heap.size, 0, none⟩) (by simp)).trans (by simp [go_sem])
 ·exact (hb.frozen (p := ⟨w.heap.size, 1, none⟩) (by simp)).trans (by simp [go_sem])
 ·exact (hb.frozen (p := ⟨w.heap.size + 1, 0, none⟩) (by simp)).trans (by simp [go_sem])
 ·exact (hb.frozen (p := ⟨w.heap.size + 1, 1, none⟩) (by simp)).trans (by simp [go_sem])
 ·have := hb.size; simpa using this
theorem box4_up {w w' : World} {o1 o2 : Obj} (hb : Below (w.heap.size + 2) ((w.alloc o1).alloc o2) w') : Below w.heap.size w w' := box4_below.trans (hb.mono (by omega))
theorem box4_start {w w' : World} {o1 o2 : Obj} (hb : Below ((w.alloc o1).alloc o2).heap.size ((w.alloc o1).alloc o2) w') : Below (w.heap.size + 2) ((w.alloc o1).alloc o2) w' := hb.mono (by simp)
theorem below_next {B : Nat} {w w1 w2 : World} (h : Below B w w1) (h2 : Below w1.heap.size w1 w2) (hB : B ≤ w1.heap.size) : Below B w w2 := h.trans (h2.mono hB)

theorem box6 {w w' : World} {x1 y1 x2 y2 x3 y3 : Value} {t1 t2 t3 : TypeId} (hb : Below (w.heap.size + 3) (((w.alloc (.cells #[x1, y1] t1)).alloc (.cells #[x2, y2] t2)).alloc (.cells #[x3, y3] t3)) w') :
  w'.cell? ⟨w.heap.size, 0, none⟩ = some x1 ∧ w'.cell? ⟨w.heap.size, 1, none⟩ = some y1 ∧ w'.cell? ⟨w.heap.size + 1, 0, none⟩ = some x2 ∧ w'.cell? ⟨w.heap.size + 1, 1, none⟩ = some y2 ∧
  w'.cell? ⟨w.heap.size + 1 + 1, 0, none⟩ = some x3 ∧ w'.cell? ⟨w.heap.size + 1 + 1, 1, none⟩ = some y3 ∧
  w'.frozen? ⟨w.heap.size + 1 + 1, 0, none⟩ = false ∧ w'.frozen? ⟨w.heap.size + 1 + 1, 1, none⟩ = false ∧ w.heap.size + 3 ≤ w'.heap.size := by
 have h1 : ((w.alloc (.cells #[x1, y1] t1)).alloc (.cells #[x2, y2] t2)).heap.size = w.heap.size + 2 := by simp
 have hb2 : Below (w.heap.size + 2) ((w.alloc (.cells #[x1, y1] t1)).alloc (.cells #[x2, y2] t2)) w' := ((Below.refl _ _).alloc (by omega) _).trans (hb.mono (by omega))
 obtain ⟨a, b, c, d, _⟩ := box4 hb2
 refine ⟨a, b, c, d, ?_, ?_, ?_, ?_, ?_⟩
 ·exact (hb.cell (p := ⟨w.heap.size + 1 + 1, 0, none⟩) (by simp)).trans (by rw [show w.heap.size + 1 + 1 = ((w.alloc (.cells #[x1, y1] t1)).alloc (.cells #[x2, y2] t2)).heap.size from by omega]; exact World.cell?_alloc_new _ _ _ _)
 ·exact (hb.cell (p := ⟨w.heap.size + 1 + 1, 1, none⟩) (by simp)).trans (by rw [show w.heap.size + 1 + 1 = ((w.alloc (.cells #[x1, y1] t1)).alloc (.cells #[x2, y2] t2)).heap.size from by omega]; exact World.cell?_alloc_new _ _ _ _)
 ·exact (hb.frozen (p := ⟨w.heap.size + 1 + 1, 0, none⟩) (by simp)).trans (by rw [show w.heap.size + 1 + 1 = ((w.alloc (.cells #[x1, y1] t1)).alloc (.cells #[x2, y2] t2)).heap.size from by omega]; simp [go_sem])
 ·exact (hb.frozen (p := ⟨w.heap.size + 1 + 1, 1, none⟩) (by simp)).trans (by rw [show w.heap.size + 1 + 1 = ((w.alloc (.cells #[x1, y1] t1)).alloc (.cells #[x2, y2] t2)).heap.size from by omega]; simp [go_sem])
 ·have := hb.size; simpa using this
theorem box6_below {w : World} {o1 o2 o3 : Obj} : Below w.heap.size w (((w.alloc o1).alloc o2).alloc o3) := box4_below.alloc (by simp; omega) _
theorem box6_up {w w' : World} {o1 o2 o3 : Obj} (hb : Below (w.heap.size + 3) (((w.alloc o1).alloc o2).alloc o3) w') : Below w.heap.size w w' := box6_below.trans (hb.mono (by omega))
theorem box6_start {w w' : World} {o1 o2 o3 : Obj} (hb : Below (((w.alloc o1).alloc o2).alloc o3).heap.size (((w.alloc o1).alloc o2).alloc o3) w') : Below (w.heap.size + 3) (((w.alloc o1).alloc o2).alloc o3) w' := hb.mono (by simp)
end Go.Proofs.YtbkdaoicnobllabGreatDoor

namespace Go.Proofs.YtbkdaoicnobllabGreatDoor
set_option maxRecDepth 100000
set_option maxHeartbeats 1000000
open Go.RowKit

theorem times_some (b off cap n : Nat) (L : List Nat) (e : Int) (w : World) (h1 : L.length ≤ cap) (_h2 : cap ≤ maxLen) (h3 : b < w.heap.size)
  (h4 : ∀ j, j < L.length → w.cell? ⟨b, off + j, none⟩ = some (.int .i64 (L.getD j 0 : Nat))) (hd : Digs L) (hl : L.length ≤ 900000) (he : -900000 ≤ e ∧ e ≤ 900000) (hn : n ≤ 36028797018963968) :
  Calls Tryz.prog 73 #[.agg #[.slice (some ⟨b, off, none⟩) L.length cap, .int .i64 e], .int .i64 n] w fun r w' => Below w.heap.size w w' ∧
   ∃ v' L' e', r = .returned (.agg #[v', .int .i64 e']) ∧ Out w' v' L' e' (L.length + 17) e (e + L.length + 17) (fun g => w.heap.size + 2 ≤ g) (fun K => val K L e * n) := by
 unfold maxLen at _h2
 obtain ⟨m, hm⟩ : ∃ m, m = L.length := ⟨_, rfl⟩
 rw [← hm] at h1 h4 hl ⊢
 have HM : Hid (m = L.length) := hm
 clear hm
 have H4 : Hid (∀ j, j < m → w.cell? ⟨b, off + j, none⟩ = some (.int .i64 (L.getD j 0 : Nat))) := h4
 have HD : Hid (Digs L) := hd
 clear h4 hd
 obtain ⟨i0, hi, hz0, hz1, hz2⟩ := info_parts Tryz.info_int
 go_enter Tryz.func73, Tryz.ntmps73
 go_wp2
 go_loopw [5, 6, 7] (fun o c i wr => ∃ k c' : Nat, ∃ O : List Nat, k ≤ m ∧ i = .int .i64 ((m : Int) - 1 - k) ∧ c = .int .i64 c' ∧ c' ≤ n ∧ O.length = k ∧ Digs O ∧ Own wr (w.heap.size + 2) o O ∧
   Hid (le O + c' * 10 ^ k = le (L.reverse.take k) * n) ∧ Below (w.heap.size + 2) ((w.alloc (.cells #[.slice (some ⟨b, off, none⟩) m cap, .int .i64 e] 95)).alloc (.cells #[.slice none 0 0, .int .i64 0] 95)) wr)
  (fun _ _ i _ => (intOf i + 1).toNat)
 case atStart => exact ⟨0, 0, [], by omega, by go_num, rfl, by omega, rfl, Digs.nil, Own.nil _ _, by simp [Hid, le], Below.refl _ _⟩
 case round =>
  obtain ⟨k, c, O, hk, rfl, rfl, hc, hO, hdO, hown, HL, hb⟩ := hrel
  have hsz := hb.size
  simp at hsz
  have ca : wr.cell? ⟨w.heap.size, 0, none⟩ = some (.slice (some ⟨b, off, none⟩) m cap) := (hb.cell (p := ⟨w.heap.size, 0, none⟩) (by simp)).trans (by simp [go_sem])
  have cb : wr.cell? ⟨w.heap.size, 1, none⟩ = some (.int .i64 e) := (hb.cell (p := ⟨w.heap.size, 1, none⟩) (by simp)).trans (by simp [go_sem])
  by_cases hlt : k < m
  ·obtain ⟨x, hx⟩ : ∃ x, x = L.getD (m - 1 - k) 0 := ⟨_, rfl⟩
   have hx9 : x ≤ 9 := by rw [hx]; exact HD.out.getD _
   have hcx : wr.cell? ⟨b, off + (m - 1 - k), none⟩ = some (.int .i64 x) := by
    rw [hx, hb.cell (p := ⟨b, off + (m - 1 - k), none⟩) (by show b < _; omega)]; simp [go_sem, h3]; exact H4.out _ (by omega)
   have hp1 : (0 : Int) ≤ (x : Int) * n := Int.mul_nonneg (by omega) (by omega)
   have hp2 : (x : Int) * n ≤ 9 * n := Int.mul_le_mul_of_nonneg_right (by omega) (by omega)
   have HX : Hid (x = L.getD (m - 1 - k) 0) := hx
   clear hx
   have hown' : wr.ownsRow (w.heap.size + 2) 3 1 u5 k (ints O) := by have := hown; unfold Own at this; rwa [hO] at this
   clear hown
   go_wp2_with (at_builtin; refine wpList_append_own _ rfl (.tmp 28) (.tmp 31) 69 rfl (w.heap.size + 2) 3 i0 (.int .i64 0) 1 8 Tryz.underlying69 hi hz0 hz1 hz2 rfl (by decide) _ _ _ rfl (hown'.alloc _) ⟨wr.heap.size, 0, none⟩ 1 1 [.int .i64 (((x : Int) * n + c) % 10)] rfl rfl ?c1 ?c2 ?c3 ?c4 ?c5 ?_)
   case c1 => exact cell_one_new _ _ _
   case c2 => intro u hu; simp at hu; subst hu; rfl
   case c3 => unfold maxLen; omega
   case c4 => omega
   case c5 => simp; omega
   intro v' w1 hown1 hgrow _
   have hb1 : Below (w.heap.size + 2) ((w.alloc (.cells #[.slice (some ⟨b, off, none⟩) m cap, .int .i64 e] 95)).alloc (.cells #[.slice none 0 0, .int .i64 0] 95)) w1 :=
    (hb.alloc (by omega) _).grown hgrow (by simp; omega) (fun k hk => (hown'.lt k hk).1)
   clear hown' hgrow ca cb hcx hb
   go_wp2
   go_roundw
   case rel =>
    have hxr : L.reverse.getD k 0 = x := by
     rw [HX.out, List.getD_eq_getElem?_getD, List.getElem?_reverse (by have := HM.out; omega), List.getD_eq_getElem?_getD, ← HM.out]
    have hst := times_step L.reverse O k n c (by rw [List.length_reverse, ← HM.out]; exact hlt) hO HL.out
    rw [hxr] at hst
    have hq : ((x : Int) * n + c) / 10 = ((x * n + c) / 10 : Nat) := by simp
    have hr : ((x : Int) * n + c) % 10 = ((x * n + c) % 10 : Nat) := by simp
    have hp3 : x * n ≤ 9 * n := Nat.mul_le_mul_right _ hx9
    exact ⟨k + 1, (x * n + c) / 10, O ++ [(x * n + c) % 10], by omega, by go_num, by rw [hq], by omega, by simp [hO], hdO.append (Digs.cons (by omega) Digs.nil), Own.snoc hown1 hO hr, hst, hb1⟩
   case measure => simp [intOf]; omega
  ·have hkm : k = m := by omega
   have HL2 : Hid (le O + c * 10 ^ m = num L * n) := by
    have := HL.out
    rw [hkm, List.take_of_length_le (by rw [List.length_reverse, ← HM.out]; exact Nat.le_refl _)] at this; exact this
   have hOm : O.length = m := by omega
   have hc17 : c < 10 ^ 17 := by omega
   clear HL hO hk
   subst hkm
   clear hlt
   go_wp2
   go_loopw [5, 6] (fun o c' wx => ∃ t c : Nat, ∃ O : List Nat, t ≤ 17 ∧ c' = .int .i64 c ∧ Hid (c < 10 ^ (17 - t)) ∧ c ≤ 36028797018963968 ∧ Hid (O.length = k + t) ∧ Digs O ∧ Own wx (w.heap.size + 2) o O ∧
    Hid (le O + c * 10 ^ O.length = num L * n) ∧ Below (w.heap.size + 2) ((w.alloc (.cells #[.slice (some ⟨b, off, none⟩) k cap, .int .i64 e] 95)).alloc (.cells #[.slice none 0 0, .int .i64 0] 95)) wx)
    (fun _ c _ => (intOf c).toNat)
   case atStart => exact ⟨0, c, O, by omega, rfl, hc17, by omega, hOm, hdO, hown, by rw [hOm]; exact HL2, hb⟩
   case round =>
    clear ca cb hown hb hdO hOm HL2 hc17 hc hsz
    obtain ⟨t, c, O, ht, rfl, HC, hc, HO, hdO, hown, HL, hb⟩ := hrel
    have hsz := hb.size
    simp at hsz
    by_cases hpos : 0 < c
    ·have hst := carry_lt c t HC.out hpos
     have ht1 : t < 17 := hst.1
     have HST : Hid (c / 10 < 10 ^ (17 - (t + 1))) := hst.2
     have hown' : wr.ownsRow (w.heap.size + 2) 3 1 u5 (k + t) (ints O) := by have := hown; unfold Own at this; rwa [HO.out] at this
     clear hown hst
     go_wp2_with (at_builtin; refine wpList_append_own _ rfl (.tmp 37) (.tmp 40) 69 rfl (w.heap.size + 2) 3 i0 (.int .i64 0) 1 8 Tryz.underlying69 hi hz0 hz1 hz2 rfl (by decide) _ _ _ rfl (hown'.alloc _) ⟨wr.heap.size, 0, none⟩ 1 1 [.int .i64 ((c : Int) % 10)] rfl rfl ?c1 ?c2 ?c3 ?c4 ?c5 ?_)
     case c1 => exact cell_one_new _ _ _
     case c2 => intro u hu; simp at hu; subst hu; rfl
     case c3 => unfold maxLen; omega
     case c4 => omega
     case c5 => simp; omega
     intro v' w1 hown1 hgrow _
     have hb1 : Below (w.heap.size + 2) ((w.alloc (.cells #[.slice (some ⟨b, off, none⟩) k cap, .int .i64 e] 95)).alloc (.cells #[.slice none 0 0, .int .i64 0] 95)) w1 :=
      (hb.alloc (by omega) _).grown hgrow (by simp; omega) (fun k hk => (hown'.lt k hk).1)
     clear hown' hgrow hb
     go_wp2
     go_roundw
     case rel => exact ⟨t + 1, c / 10, O ++ [c % 10], by omega, by go_num, HST, by omega, by simp [HO.out, Hid]; omega, hdO.append (Digs.cons (by omega) Digs.nil), Own.snoc hown1 HO.out (by simp), carry_step O c _ HL.out, hb1⟩
     case measure => simp [intOf]; omega
    ·have hc0 : c = 0 := by omega
     subst hc0
     have ca : wr.cell? ⟨w.heap.size, 0, none⟩ = some (.slice (some ⟨b, off, none⟩) k cap) := (hb.cell (p := ⟨w.heap.size, 0, none⟩) (by simp)).trans (by simp [go_sem])
     have cb : wr.cell? ⟨w.heap.size, 1, none⟩ = some (.int .i64 e) := (hb.cell (p := ⟨w.heap.size, 1, none⟩) (by simp)).trans (by simp [go_sem])
     have HV : Hid (le O = num L * n) := by have := HL.out; simpa [Hid] using this
     clear HC HL hpos
     rcases hown.form with ⟨hOn, hv⟩ | ⟨g, cap', hv, hg1, hg2, hg3, hg4⟩
     ·have HV0 : Hid (num L * n = 0) := by have := HV.out; rw [hOn] at this; exact this.symm
      subst hv
      clear hown HO hOn hdO HV
      go_wp2
      go_loopw [9] (fun i wx => i = .int .i64 0 ∧ wx = wr) (fun _ _ => 0)
      case atStart => exact ⟨rfl, rfl⟩
      case round =>
       obtain ⟨rfl, rfl⟩ := hrel
       go_wp2_with fail
       refine (made_nil e wr).mono ?_
       rintro r w1 ⟨rfl, hbm⟩
       have hbw : Below (w.heap.size + 2) ((w.alloc (.cells #[.slice (some ⟨b, off, none⟩) k cap, .int .i64 e] 95)).alloc (.cells #[.slice none 0 0, .int .i64 0] 95)) w1 := hb.trans (hbm.mono (by omega))
       have f0 : w1.frozen? ⟨w.heap.size + 1, 0, none⟩ = false := (hbw.frozen (p := ⟨w.heap.size + 1, 0, none⟩) (by simp)).trans (by simp [go_sem])
       have f1 : w1.frozen? ⟨w.heap.size + 1, 1, none⟩ = false := (hbw.frozen (p := ⟨w.heap.size + 1, 1, none⟩) (by simp)).trans (by simp [go_sem])
       have c0 : w1.cell? ⟨w.heap.size + 1, 0, none⟩ = some (.slice none 0 0) := (hbw.cell (p := ⟨w.heap.size + 1, 0, none⟩) (by simp)).trans (by simp [go_sem])
       have c1 : w1.cell? ⟨w.heap.size + 1, 1, none⟩ = some (.int .i64 0) := (hbw.cell (p := ⟨w.heap.size + 1, 1, none⟩) (by simp)).trans (by simp [go_sem])
       clear hb ca cb hbm
       have HB : Hid (Below (w.heap.size + 2) ((w.alloc (.cells #[.slice (some ⟨b, off, none⟩) k cap, .int .i64 e] 95)).alloc (.cells #[.slice none 0 0, .int .i64 0] 95)) w1) := hbw
       clear hbw
       go_wp2
       refine bodyPost_ret (v := .agg #[.slice none 0 0, .int .i64 0]) (dec_results rfl _ _ (w.heap.size + 1) _ _ rfl (two_cells c0 c1).1 (two_cells c0 c1).2) rfl ⟨?_, _, [], 0, rfl, ?_⟩
       ·exact ((((Below.refl w.heap.size w).alloc (Nat.le_refl _) _).alloc (by simp) _).trans (HB.out.mono (by omega))).setCell (by show w.heap.size ≤ w.heap.size + 1; omega) _ |>.setCell (by show w.heap.size ≤ w.heap.size + 1; omega) _
       ·exact ⟨Row.nil _, fun g hg => by simp [Value.ownBlock] at hg, norm_nil, Nat.zero_le _, fun _ => rfl, fun h => absurd rfl h, fun K hK => by rw [val_nil, val_mul_zero HV0.out]⟩
     ·obtain ⟨q, hq⟩ : ∃ q, q = O.length := ⟨_, rfl⟩
      rw [← hq] at hv hg3
      have HQ : Hid (q = O.length) := hq
      have hq2 : q ≤ k + 17 := by have := HO.out; omega
      unfold maxLen at hg4
      clear hq
      subst hv
      go_wp2
      go_loopw [9] (fun i wx => ∃ j : Nat, ∃ M : List Nat, i = .int .i64 j ∧ j ≤ q / 2 ∧ Hid (Turned O M j) ∧ Own wx (w.heap.size + 2) (.slice (some ⟨g, 0, none⟩) q cap') M ∧
       Below (w.heap.size + 2) ((w.alloc (.cells #[.slice (some ⟨b, off, none⟩) k cap, .int .i64 e] 95)).alloc (.cells #[.slice none 0 0, .int .i64 0] 95)) wx) (fun i _ => q - (intOf i).toNat)
      case atStart => exact ⟨0, O, rfl, Nat.zero_le _, Turned.start O, hown, hb⟩
      case round =>
       clear ca cb hown hb hsz hg2
       obtain ⟨j, M, rfl, hj, HT, hown, hb⟩ := hrel
       have hMq : M.length = q := by rw [HT.out.1, HQ.out]
       have HMQ : Hid (M.length = q) := hMq
       clear hMq
       by_cases hlt : j < q / 2
       ·obtain ⟨x, hx⟩ : ∃ x, x = M.getD j 0 := ⟨_, rfl⟩
        obtain ⟨y, hy⟩ : ∃ y, y = M.getD (q - 1 - j) 0 := ⟨_, rfl⟩
        have cx : wr.cell? ⟨g, j, none⟩ = some (.int .i64 x) := by rw [hx]; exact hown.cell HMQ.out j (by omega)
        have cy : wr.cell? ⟨g, q - 1 - j, none⟩ = some (.int .i64 y) := by rw [hy]; exact hown.cell HMQ.out _ (by omega)
        have fx : wr.frozen? ⟨g, j, none⟩ = false := hown.frozen HMQ.out j
        have fy : wr.frozen? ⟨g, q - 1 - j, none⟩ = false := hown.frozen HMQ.out _
        have HX : Hid (x = M.getD j 0) := hx
        have HY : Hid (y = M.getD (q - 1 - j) 0) := hy
        have hown2 := (hown.store HMQ.out j y).store (by rw [List.length_set]; exact HMQ.out) (q - 1 - j) x
        have hb2 := (hb.setCell (p := ⟨g, j, none⟩) (by exact hg1) (.int .i64 (y : Nat))).setCell (p := ⟨g, q - 1 - j, none⟩) (by exact hg1) (.int .i64 (x : Nat))
        have HS : Hid (Turned O ((M.set j y).set (q - 1 - j) x) (j + 1)) := by
         have := HT.out.step (by rw [← HQ.out]; exact hlt)
         rw [← HQ.out] at this; rw [HX.out, HY.out]; exact this
        have HO2 : Hid (Own ((wr.setCell ⟨g, j, none⟩ (.int .i64 (y : Nat))).setCell ⟨g, q - 1 - j, none⟩ (.int .i64 (x : Nat))) (w.heap.size + 2) (.slice (some ⟨g, 0, none⟩) q cap') ((M.set j y).set (q - 1 - j) x)) := hown2
        clear hx hy hown hb hown2
        go_wp2
        go_roundw
        case rel => exact ⟨j + 1, _, by go_num, by omega, HS, HO2.out, hb2⟩
        case measure => simp [intOf]; omega
       ·have ca : wr.cell? ⟨w.heap.size, 0, none⟩ = some (.slice (some ⟨b, off, none⟩) k cap) := (hb.cell (p := ⟨w.heap.size, 0, none⟩) (by simp)).trans (by simp [go_sem])
        have cb : wr.cell? ⟨w.heap.size, 1, none⟩ = some (.int .i64 e) := (hb.cell (p := ⟨w.heap.size, 1, none⟩) (by simp)).trans (by simp [go_sem])
        have HR : Hid (M = O.reverse) := HT.out.done (by rw [← HQ.out]; omega) (by rw [← HQ.out]; omega)
        have hlen : M.length ≤ 1000000 := by rw [HMQ.out]; omega
        go_wp2_with fail
        refine (made_any _ M e wr hown.row (by rw [HR.out]; exact hdO.reverse) hlen (by omega)).mono ?_
        rintro r w1 ⟨hbm, v', L', e', rfl, hout⟩
        have hbw : Below (w.heap.size + 2) ((w.alloc (.cells #[.slice (some ⟨b, off, none⟩) k cap, .int .i64 e] 95)).alloc (.cells #[.slice none 0 0, .int .i64 0] 95)) w1 := hb.trans (hbm.mono (by have := hb.size; simp at this; omega))
        have f0 : w1.frozen? ⟨w.heap.size + 1, 0, none⟩ = false := (hbw.frozen (p := ⟨w.heap.size + 1, 0, none⟩) (by simp)).trans (by simp [go_sem])
        have f1 : w1.frozen? ⟨w.heap.size + 1, 1, none⟩ = false := (hbw.frozen (p := ⟨w.heap.size + 1, 1, none⟩) (by simp)).trans (by simp [go_sem])
        have c0 : w1.cell? ⟨w.heap.size + 1, 0, none⟩ = some (.slice none 0 0) := (hbw.cell (p := ⟨w.heap.size + 1, 0, none⟩) (by simp)).trans (by simp [go_sem])
        have c1 : w1.cell? ⟨w.heap.size + 1, 1, none⟩ = some (.int .i64 0) := (hbw.cell (p := ⟨w.heap.size + 1, 1, none⟩) (by simp)).trans (by simp [go_sem])
        obtain ⟨ao, cp, hv⟩ := hout.row.isSlice
        clear hown hb ca cb hbm
        have HB : Hid (Below (w.heap.size + 2) ((w.alloc (.cells #[.slice (some ⟨b, off, none⟩) k cap, .int .i64 e] 95)).alloc (.cells #[.slice none 0 0, .int .i64 0] 95)) w1) := hbw
        clear hbw
        rw [hv] at hout
        subst hv
        go_wp2
        refine bodyPost_ret (v := .agg #[.slice ao L'.length cp, .int .i64 e']) (dec_results rfl _ _ (w.heap.size + 1) _ _ rfl (two_cells c0 c1).1 (two_cells c0 c1).2) rfl ⟨?_, _, L', e', rfl, ?_⟩
        ·exact ((((Below.refl w.heap.size w).alloc (Nat.le_refl _) _).alloc (by simp) _).trans (HB.out.mono (by omega))).setCell (by show w.heap.size ≤ w.heap.size + 1; omega) _ |>.setCell (by show w.heap.size ≤ w.heap.size + 1; omega) _
        ·have h9 : Out w1 (.slice ao L'.length cp) L' e' (k + 17) e (e + k + 17) (fun g => w.heap.size + 2 ≤ g) (fun K => val K L e * n) := by
          refine hout.mono (by rw [HMQ.out]; omega) (Int.le_refl _) (by rw [HMQ.out]; omega) (fun g' hg' => ?_) (fun K hK => ?_)
          ·simp [Value.ownBlock] at hg'; omega
          ·exact val_times HR.out HV.out K e
         exact (h9.setCell _ _ (by simp)).setCell _ _ (by simp)

theorem times_nil (n : Nat) (e : Int) (w : World) :
  Calls Tryz.prog 73 #[.agg #[.slice none 0 0, .int .i64 e], .int .i64 n] w fun r w' => Below w.heap.size w w' ∧ r = .returned (.agg #[.slice none 0 0, .int .i64 0]) := by
 go_enter Tryz.func73, Tryz.ntmps73
 go_wp2
 go_loop [5, 6, 7] (fun o c i => o = .slice none 0 0 ∧ c = .int .i64 0 ∧ i = .int .i64 (-1)) (fun _ _ _ => 0)
 case atStart => exact ⟨rfl, rfl, rfl⟩
 case round =>
  obtain ⟨rfl, rfl, rfl⟩ := hrel
  go_wp2
  go_loop [5, 6] (fun o c => o = .slice none 0 0 ∧ c = .int .i64 0) (fun _ _ => 0)
  case atStart => exact ⟨rfl, rfl⟩
  case round =>
   obtain ⟨rfl, rfl⟩ := hrel
   go_wp2
   go_loop [9] (fun i => i = .int .i64 0) (fun _ => 0)
   case atStart => rfl
   case round =>
    subst hrel
    go_wp2_with fail
    refine (made_nil e _).mono ?_
    rintro r w1 ⟨rfl, hbw⟩
    have f0 : w1.frozen? ⟨w.heap.size + 1, 0, none⟩ = false := (hbw.frozen (p := ⟨w.heap.size + 1, 0, none⟩) (by simp)).trans (by simp [go_sem])
    have f1 : w1.frozen? ⟨w.heap.size + 1, 1, none⟩ = false := (hbw.frozen (p := ⟨w.heap.size + 1, 1, none⟩) (by simp)).trans (by simp [go_sem])
    have c0 : w1.cell? ⟨w.heap.size + 1, 0, none⟩ = some (.slice none 0 0) := (hbw.cell (p := ⟨w.heap.size + 1, 0, none⟩) (by simp)).trans (by simp [go_sem])
    have c1 : w1.cell? ⟨w.heap.size + 1, 1, none⟩ = some (.int .i64 0) := (hbw.cell (p := ⟨w.heap.size + 1, 1, none⟩) (by simp)).trans (by simp [go_sem])
    have hbw' := hbw.mono (B' := w.heap.size) (by simp; omega)
    clear hbw
    go_wp2
    refine bodyPost_ret (v := .agg #[.slice none 0 0, .int .i64 0]) (dec_results rfl _ _ (w.heap.size + 1) _ _ rfl (two_cells c0 c1).1 (two_cells c0 c1).2) rfl ⟨?_, rfl⟩
    exact ((((Below.refl w.heap.size w).alloc (Nat.le_refl _) _).alloc (by simp) _).trans hbw').setCell (by show w.heap.size ≤ w.heap.size + 1; omega) _ |>.setCell (by show w.heap.size ≤ w.heap.size + 1; omega) _

theorem times_any (v : Value) (L : List Nat) (e : Int) (n : Nat) (w : World) (hr : Row w v L) (hd : Digs L) (hl : L.length ≤ 900000) (he : -900000 ≤ e ∧ e ≤ 900000) (hn : n ≤ 36028797018963968) :
  Calls Tryz.prog 73 #[.agg #[v, .int .i64 e], .int .i64 n] w fun r w' => Below w.heap.size w w' ∧
   ∃ v' L' e', r = .returned (.agg #[v', .int .i64 e']) ∧ Out w' v' L' e' (L.length + 17) e (e + L.length + 17) (fun g => w.heap.size ≤ g) (fun K => val K L e * n) := by
 rcases hr with ⟨rfl, rfl⟩ | ⟨b, off, cap, rfl, h1, h2, h3, h4⟩
 ·refine (times_nil n e w).mono ?_
  rintro r w' ⟨hb, rfl⟩
  exact ⟨hb, _, [], 0, rfl, Row.nil _, fun g hg => by simp [Value.ownBlock] at hg, norm_nil, Nat.zero_le _, fun _ => rfl, fun h => absurd rfl h, fun K hK => by simp [val_nil]⟩
 ·refine (times_some b off cap n L e w h1 h2 h3 h4 hd hl he hn).mono ?_
  rintro r w' ⟨hb, v', L', e', rfl, ho⟩
  exact ⟨hb, v', L', e', rfl, ho.mono (Nat.le_refl _) (Int.le_refl _) (Int.le_refl _) (fun g hg => by omega) (fun _ _ => rfl)⟩

end Go.Proofs.YtbkdaoicnobllabGreatDoor

namespace Go.Proofs.YtbkdaoicnobllabGreatDoor
open Go.RowKit

theorem least_any (a b : Int) (w : World) : Calls Tryz.prog 114 #[.int .i64 a, .int .i64 b] w fun e w' => e = .returned (.int .i64 (min a b)) ∧ w' = w := by
 by_cases h : a < b
 ·go_enter Tryz.func114, Tryz.ntmps114
  go_wp2
  go_ret
  exact ⟨by rw [Int.min_eq_left (by omega)]; rfl, rfl⟩
 ·go_enter Tryz.func114, Tryz.ntmps114
  go_wp2
  go_ret
  exact ⟨by rw [Int.min_eq_right (by omega)]; rfl, rfl⟩

theorem most_any (a b : Int) (w : World) : Calls Tryz.prog 115 #[.int .i64 a, .int .i64 b] w fun e w' => e = .returned (.int .i64 (max a b)) ∧ w' = w := by
 by_cases h : a > b
 ·go_enter Tryz.func115, Tryz.ntmps115
  go_wp2
  go_ret
  exact ⟨by rw [Int.max_eq_left (by omega)]; rfl, rfl⟩
 ·go_enter Tryz.func115, Tryz.ntmps115
  go_wp2
  go_ret
  exact ⟨by rw [Int.max_eq_right (by omega)]; rfl, rfl⟩

theorem isDigit_any (c : Int) (w : World) : Calls Tryz.prog 111 #[.int .u8 c] w fun e w' => e = .returned (.bool (decide (48 ≤ c) && decide (c ≤ 57))) ∧ w' = w := by
 by_cases h : 48 ≤ c
 ·go_enter Tryz.func111, Tryz.ntmps111
  go_wp2
  go_ret
  exact ⟨by simp [h], rfl⟩
 ·go_enter Tryz.func111, Tryz.ntmps111
  go_wp2
  go_ret
  exact ⟨by simp; omega, rfl⟩

end Go.Proofs.YtbkdaoicnobllabGreatDoor
