import Derived.Test.YtbkdaoicnobllabGreatDoorG25
import Derived.Test.YtbkdaoicnobllabGreatDoorG26
import Derived.Test.YtbkdaoicnobllabGreatDoorG31

namespace Go.Proofs.YtbkdaoicnobllabGreatDoor
open Go.RowKit

theorem sign_pat {f : Int} (hf : 0 ≤ f ∧ f ≤ 2) {a : Nat} (h1 : (a : Int) < infN f) (neg : Bool) : hasB f (signedV f neg a) = true ∧ negI f (signedV f neg a) = neg ∧ amtI f (signedV f neg a) = a ∧ -9223372036854775808 ≤ signedV f neg a ∧ signedV f neg a ≤ 9223372036854775807 := by
  rcases (by omega : f = 0 ∨ f = 1 ∨ f = 2) with rfl | rfl | rfl
  · have h1 : (a : Int) < 31744 := h1
    cases neg <;> simp [hasB, negI, amtI, sgnF, signedV, sgnP] <;> omega
  · have h1 : (a : Int) < 2139095040 := h1
    cases neg <;> simp [hasB, negI, amtI, sgnF, signedV, sgnP] <;> omega
  · have h1 : (a : Int) < 9218868437227405312 := h1
    cases neg <;> simp [hasB, negI, amtI, sgnF, signedV, sgnP] <;> omega
/-- A text and what is known of it. -/
def StrPost (w w' : World) (r : Ending) (Q : List UInt8 → Prop) : Prop := ∃ U : List UInt8, r = .returned (.string (str U)) ∧ Q U ∧ U.length ≤ 5001 ∧ Below w.heap.size w w'
theorem out_fin {f : Int} (hf : 0 ≤ f ∧ f ≤ 2) {a : Nat} (h1 : (a : Int) < infN f) {neg : Bool} {w w' : World} {r : Ending} {Q R : List UInt8 → Prop} (h : OutPost f (signedV f neg a) w w' r Q) (hq : ∀ T, Q T → R (minusT neg T)) : StrPost w w' r R := by
  obtain ⟨p1, p2, p3, _⟩ := sign_pat hf h1 neg
  obtain ⟨T, rfl, g1, g2, g3⟩ := h
  have e : outT f (signedV f neg a) T = minusT neg T := by
    unfold outT minusT; rw [p2, p3, if_neg (by omega), if_pos h1]
  refine ⟨minusT neg T, by rw [e], hq T (g1 (by rw [p3]; exact h1)), ?_, g3⟩
  unfold minusT; rw [List.length_append]; split <;> simp <;> omega
/-- Read as the pattern. -/
def ReadsAs (cv : Value) (f x : Int) (U : List UInt8) : Prop := ∀ w : World, Calls Tryz.prog 17 #[cv, .string (str U), .int .i64 f, .int .i64 x] w fun e w' => e = .returned (.bool true) ∧ Below w.heap.size w w'
theorem reads_as (cv : Value) (f x : Int) (U : List UInt8) (h : ∀ b g at' err : Int, PParse (str U) f 0 b g at' err → b = x ∧ err = 0) : ReadsAs cv f x U := fun w => by
  refine (reads_any cv (str U) f x w).mono ?_
  rintro e w' ⟨b, g, at', err, hp, rfl, hb⟩
  obtain ⟨q1, q2⟩ := h b g at' err hp
  exact ⟨by rw [show decide (b = x ∧ err = 0) = true from by simp only [decide_eq_true_eq]; exact ⟨q1, q2⟩], hb⟩
/-- What is known of the numbers of 'back'. -/
structure BackK (cv : Value) (f x I N : Int) : Prop where
  h1 : ∀ w : World, Tab w → Calls Tryz.prog 13 #[cv, .int .i64 x, .int .i64 f, .int .i64 0, .int .i64 (-1)] w fun r w' => StrPost w w' r (ReadsAs cv f x)
  h2 : ∀ w : World, Tab w → Calls Tryz.prog 13 #[cv, .int .i64 x, .int .i64 f, .int .i64 1, .int .i64 (-1)] w fun r w' => StrPost w w' r (fun U => U.length ≤ 900 → ReadsAs cv f x U)
  h3 : ∀ w : World, Tab w → Calls Tryz.prog 13 #[cv, .int .i64 x, .int .i64 f, .int .i64 2, .int .i64 16] w fun r w' => StrPost w w' r (ReadsAs cv f x)
  h4 : ∀ w : World, Tab w → Calls Tryz.prog 13 #[cv, .int .i64 x, .int .i64 f, .int .i64 4, .int .i64 (-1)] w fun r w' => StrPost w w' r (fun U => ∀ m : Int, 0 ≤ m ∧ m ≤ 4 → ∀ w : World, Calls Tryz.prog 18 #[cv, .string (str U), .int .i64 f, .int .i64 m, .int .i64 x, .int .i64 0] w fun e w' => e = .returned (.bool true) ∧ Below w.heap.size w w')
  h5 : ∀ w : World, Tab w → Calls Tryz.prog 13 #[cv, .int .i64 I, .int .i64 f, .int .i64 0, .int .i64 (-1)] w fun r w' => r = .returned (.string (str [105, 110, 102])) ∧ Below w.heap.size w w'
  h6 : ∀ w : World, Tab w → Calls Tryz.prog 13 #[cv, .int .i64 (I + 1), .int .i64 f, .int .i64 0, .int .i64 (-1)] w fun r w' => r = .returned (.string (str [110, 97, 110])) ∧ Below w.heap.size w w'
  h7 : ReadsAs cv f I [105, 110, 102]
  h8 : ReadsAs cv f N [110, 97, 110]
theorem psh_all (cv : Value) (x f : Int) (hf : 0 ≤ f ∧ f ≤ 2) (h1 : -9223372036854775808 ≤ x) (h2 : x ≤ 9223372036854775807) (w : World) (ht : Tab w) : Calls Tryz.prog 21 #[cv, .int .i64 x, .int .i64 f, .int .i64 0, .int .i64 (-1), .int .i64 0] w fun r w' => FmtPost f x 0 (-1) 0 w w' r (ShortQ false f (amtI f x).toNat) := by
  rcases (by omega : f = 0 ∨ f = 1 ∨ f = 2) with rfl | rfl | rfl
  · exact pShF0 cv x (-1) 0 h1 h2 w ht
  · exact pShF1 cv x (-1) 0 h1 h2 w ht
  · exact pShF2 cv x (-1) 0 h1 h2 w ht
theorem ppl_all (cv : Value) (x f : Int) (hf : 0 ≤ f ∧ f ≤ 2) (h1 : -9223372036854775808 ≤ x) (h2 : x ≤ 9223372036854775807) (w : World) (ht : Tab w) : Calls Tryz.prog 21 #[cv, .int .i64 x, .int .i64 f, .int .i64 1, .int .i64 (-1), .int .i64 0] w fun r w' => FmtPost f x 1 (-1) 0 w w' r (ShortQ true f (amtI f x).toNat) := by
  rcases (by omega : f = 0 ∨ f = 1 ∨ f = 2) with rfl | rfl | rfl
  · exact pPlF0 cv x (-1) 0 h1 h2 w ht
  · exact pPlF1 cv x (-1) 0 h1 h2 w ht
  · exact pPlF2 cv x (-1) 0 h1 h2 w ht
theorem phex_all (cv : Value) (x f : Int) (hf : 0 ≤ f ∧ f ≤ 2) (h1 : -9223372036854775808 ≤ x) (h2 : x ≤ 9223372036854775807) (w : World) (ht : Tab w) : Calls Tryz.prog 21 #[cv, .int .i64 x, .int .i64 f, .int .i64 4, .int .i64 (-1), .int .i64 0] w fun r w' => FmtPost f x 4 (-1) 0 w w' r (HexQ f (amtI f x).toNat) := by
  rcases (by omega : f = 0 ∨ f = 1 ∨ f = 2) with rfl | rfl | rfl
  · exact phexF0 cv x (-1) 0 h1 h2 w ht
  · exact phexF1 cv x (-1) 0 h1 h2 w ht
  · exact phexF2 cv x (-1) 0 h1 h2 w ht
theorem pexp_all (cv : Value) (x f n : Int) (hf : 0 ≤ f ∧ f ≤ 2) (h1 : -9223372036854775808 ≤ x) (h2 : x ≤ 9223372036854775807) (w : World) (ht : Tab w) : Calls Tryz.prog 21 #[cv, .int .i64 x, .int .i64 f, .int .i64 2, .int .i64 n, .int .i64 0] w fun r w' => FmtPost f x 2 n 0 w w' r (ExpQ (awayB 0 (negI f x)) (valA 3000 f (amtI f x).toNat) n.toNat) := by
  rcases (by omega : f = 0 ∨ f = 1 ∨ f = 2) with rfl | rfl | rfl
  · exact pExpF0 cv x n 0 h1 h2 w ht
  · exact pExpF1 cv x n 0 h1 h2 w ht
  · exact pExpF2 cv x n 0 h1 h2 w ht
theorem inf_pat {f : Int} (hf : 0 ≤ f ∧ f ≤ 2) : hasB f (infN f) = true ∧ (∀ T, outT f (infN f) T = [105, 110, 102]) ∧ hasB f ((infN f : Int) + 1) = true ∧ (∀ T, outT f ((infN f : Int) + 1) T = [110, 97, 110]) := by
  rcases (by omega : f = 0 ∨ f = 1 ∨ f = 2) with rfl | rfl | rfl
  · exact ⟨by decide, fun _ => rfl, by decide, fun _ => rfl⟩
  · exact ⟨by decide, fun _ => rfl, by decide, fun _ => rfl⟩
  · exact ⟨by decide, fun _ => rfl, by decide, fun _ => rfl⟩
theorem back_k (cv : Value) (f : Int) (a : Nat) (neg : Bool) (hf : 0 ≤ f ∧ f ≤ 2) (h1 : (a : Int) < infN f) : BackK cv f (signedV f neg a) (infN f) (nanP f) := by
  obtain ⟨p1, p2, p3, p4, p5⟩ := sign_pat hf h1 neg
  have hi := infN_i64 hf
  have hi0 : (0 : Int) ≤ infN f := Int.natCast_nonneg _
  obtain ⟨i1, i2, i3, i4⟩ := inf_pat hf
  have ea : (amtI f (signedV f neg a)).toNat = a := by rw [p3]; rfl
  refine ⟨fun w hw => ?_, fun w hw => ?_, fun w hw => ?_, fun w hw => ?_, fun w hw => ?_, fun w hw => ?_, ?_, ?_⟩
  · refine (prints_out cv _ f 0 (-1) _ w ⟨p1, rfl⟩ (psh_all cv _ f hf p4 p5 w hw)).mono fun r w' h => ?_
    rw [ea] at h
    refine out_fin hf h1 h fun T hT => ?_
    obtain ⟨g1, g2⟩ := short_good hf h1 hT
    exact reads_as cv f _ _ fun b g at' err hp => g1.back hf h1 (by unfold minusT; rw [List.length_append]; split <;> simp <;> omega) hp
  · refine (prints_out cv _ f 1 (-1) _ w ⟨p1, rfl⟩ (ppl_all cv _ f hf p4 p5 w hw)).mono fun r w' h => ?_
    rw [ea] at h
    refine out_fin hf h1 h fun T hT hl => ?_
    have hl2 : T.length ≤ 900 := by unfold minusT at hl; rw [List.length_append] at hl; omega
    exact reads_as cv f _ _ fun b g at' err hp => (plain_good hf h1 hT hl2).back hf h1 hl hp
  · refine (prints_out cv _ f 2 16 _ w ⟨p1, rfl⟩ (pexp_all cv _ f 16 hf p4 p5 w hw)).mono fun r w' h => ?_
    rw [ea, p2] at h
    refine out_fin hf h1 h fun T hT => ?_
    obtain ⟨g1, g2⟩ := exp_good hf h1 hT
    exact reads_as cv f _ _ fun b g at' err hp => g1.back hf h1 (by unfold minusT; rw [List.length_append]; split <;> simp <;> omega) hp
  · refine (prints_out cv _ f 4 (-1) _ w ⟨p1, rfl⟩ (phex_all cv _ f hf p4 p5 w hw)).mono fun r w' h => ?_
    rw [ea] at h
    refine out_fin hf h1 h fun T hT m hm w => ?_
    refine (says_any cv _ f m _ 0 w).mono ?_
    rintro e w' ⟨b, g, at', err, hp, rfl, hb⟩
    obtain ⟨q1, q2, q3, q4⟩ := hex_back hf h1 hm hT hp
    exact ⟨by rw [show decide (b = signedV f neg a ∧ g = 0 ∧ at' = 0 ∧ err = 0) = true from by simp only [decide_eq_true_eq]; exact ⟨q1, q2, q3, q4⟩], hb⟩
  · refine (prints_out cv _ f 0 (-1) _ w ⟨i1, rfl⟩ (psh_all cv _ f hf (by omega) (by omega) w hw)).mono fun r w' h => ?_
    obtain ⟨T, rfl, _, _, hb⟩ := h
    exact ⟨by rw [i2], hb⟩
  · refine (prints_out cv _ f 0 (-1) _ w ⟨i3, rfl⟩ (psh_all cv _ f hf (by omega) (by omega) w hw)).mono fun r w' h => ?_
    obtain ⟨T, rfl, _, _, hb⟩ := h
    exact ⟨by rw [i4], hb⟩
  · exact reads_as cv f _ _ fun b g at' err hp => inf_back hf hp
  · exact reads_as cv f _ _ fun b g at' err hp => nan_back hf hp
end Go.Proofs.YtbkdaoicnobllabGreatDoor

namespace Go.Proofs.YtbkdaoicnobllabGreatDoor
open Go.RowKit

set_option maxRecDepth 100000 in
set_option maxHeartbeats 8000000 in
theorem back_pos (cv : Value) (x b : Int) (hx : -9223372036854775808 ≤ x ∧ x ≤ 9223372036854775807) (hb : -9223372036854775808 ≤ b ∧ b ≤ 9223372036854775807) (w : World) (ht : Tab w) :
    Calls Tryz.prog 8 #[cv, .int .i64 x, .int .i64 b, .bool false] w fun r w' => r = .returned (.bool true) ∧ Below w.heap.size w w' := by
  have HX := hid (form_any b hb w)
  have h3 : pickV b 3 < 3 := Nat.mod_lt _ (by omega)
  obtain ⟨f, hf0⟩ : ∃ f : Int, f = ((pickV b 3 : Nat) : Int) := ⟨_, rfl⟩
  have hf : 0 ≤ f ∧ f ≤ 2 := by omega
  rw [← hf0] at HX
  clear hf0 h3 hb
  have HV := hid (finite_any f x hf hx w)
  have hvb := finV_bd hf x
  obtain ⟨V, hV⟩ : ∃ V : Int, V = finV f x := ⟨_, rfl⟩
  rw [← hV] at HV hvb
  clear hV hx
  have HT := hid ht
  clear ht
  obtain ⟨a, ha⟩ : ∃ a : Nat, V = (a : Int) := ⟨V.toNat, by omega⟩
  obtain ⟨X, hX⟩ : ∃ X : Int, X = signedV f false V := ⟨_, rfl⟩
  obtain ⟨I, hI⟩ : ∃ I : Int, I = (infN f : Int) := ⟨_, rfl⟩
  obtain ⟨N, hN⟩ : ∃ N : Int, N = nanP f := ⟨_, rfl⟩
  have HH : Hid (BackK cv f X I N) := by
    unfold Hid
    rw [hX, hI, hN, ha]
    exact back_k cv f a false hf (by rw [← ha]; exact hvb.2)
  rw [← hI] at hvb
  have hs : fW f = 16 ∧ (fQ f : Int) = 10 ∧ I = 31744 ∧ N = 32256 ∧ Hid (V = X) ∨ fW f = 32 ∧ (fQ f : Int) = 23 ∧ I = 2139095040 ∧ N = 2143289344 ∧ Hid (V = X) ∨ fW f = 64 ∧ (fQ f : Int) = 52 ∧ I = 9218868437227405312 ∧ N = 9221120237041090560 ∧ Hid (V = X) := by
    rw [hI, hN, hX]
    rcases (by omega : f = 0 ∨ f = 1 ∨ f = 2) with rfl | rfl | rfl
    · exact .inl ⟨rfl, rfl, rfl, rfl, rfl⟩
    · exact .inr (.inl ⟨rfl, rfl, rfl, rfl, rfl⟩)
    · exact .inr (.inr ⟨rfl, rfl, rfl, rfl, rfl⟩)
  clear hI hN hX hf ha
  obtain ⟨fw, hfw⟩ : ∃ fw, fw = fW f := ⟨_, rfl⟩
  obtain ⟨fq, hfq⟩ : ∃ fq, fq = (fQ f : Int) := ⟨_, rfl⟩
  rw [← hfw, ← hfq] at HX HV hs
  clear hfw hfq hvb
  have HW1 : Hid (wrap64 9223372036854775808 = -9223372036854775808) := by unfold Hid wrap64; decide
  have hw2 : wrap64 (wrap64 9223372036854775808 - 4503599627370496) = 9218868437227405312 := by unfold wrap64; decide
  have HW2 : Hid (wrap64 (-9223372036854775808 - 4503599627370496) = 9218868437227405312) := by unfold Hid wrap64; decide
  go_enter Tryz.func8, Tryz.ntmps8
  go_wp2_with fail
  refine HX.out.mono ?_
  rintro r w ⟨rfl, rfl⟩
  clear HX
  go_wp2_with fail
  refine HV.out.mono ?_
  rintro r w0 ⟨rfl, hb0⟩
  have HB0 := hid hb0
  clear HV hb0
  rcases hs with ⟨rfl, rfl, rfl, rfl, HO⟩ | ⟨rfl, rfl, rfl, rfl, HO⟩ | ⟨rfl, rfl, rfl, rfl, HO⟩
  all_goals
  (have ho := HO.out
   clear HO
   have ho2 := ho.symm
   clear ho
   subst ho2
   go_wp2_with fail
   refine (HH.out.h1 w0 (HT.out.below HB0.out)).mono ?_
   rintro r w1 ⟨U1, rfl, hU1, hl1, hb1⟩
   have HU1 := hid hU1
   have HB1 : Hid (Below w.heap.size w w1) := HB0.out.trans (hb1.mono HB0.out.size)
   clear hU1 hb1 HB0 hl1
   go_wp2_with fail
   refine (HH.out.h2 w1 (HT.out.below HB1.out)).mono ?_
   rintro r w2 ⟨U2, rfl, hU2, hl2, hb2⟩
   have HU2 := hid hU2
   have HB2 : Hid (Below w.heap.size w w2) := HB1.out.trans (hb2.mono HB1.out.size)
   clear hU2 hb2 HB1
   go_wp2_with fail
   refine (HH.out.h3 w2 (HT.out.below HB2.out)).mono ?_
   rintro r w3 ⟨U3, rfl, hU3, hl3, hb3⟩
   have HU3 := hid hU3
   have HB3 : Hid (Below w.heap.size w w3) := HB2.out.trans (hb3.mono HB2.out.size)
   clear hU3 hb3 HB2 hl3
   go_wp2_with fail
   refine (HH.out.h4 w3 (HT.out.below HB3.out)).mono ?_
   rintro r w4 ⟨U4, rfl, hU4, hl4, hb4⟩
   have HU4 := hid hU4
   have HB4 : Hid (Below w.heap.size w w4) := HB3.out.trans (hb4.mono HB3.out.size)
   clear hU4 hb4 HB3 hl4
   go_wp2_with fail
   refine (HU1.out w4).mono ?_
   rintro r w5 ⟨rfl, hb5⟩
   have HB5 : Hid (Below w.heap.size w w5) := HB4.out.trans (hb5.mono HB4.out.size)
   clear HU1 hb5 HB4
   have HSZ := hid (str_size U2)
   obtain ⟨s2, hs2⟩ : ∃ s2, s2 = str U2 := ⟨_, rfl⟩
   have HU2s : Hid (s2.size ≤ 900 → ∀ w : World, Calls Tryz.prog 17 #[cv, .string s2, .int .i64 f, .int .i64 X] w fun e w' => e = .returned (.bool true) ∧ Below w.heap.size w w') := by
     unfold Hid; rw [hs2]; intro h; exact HU2.out (by rw [← HSZ.out]; exact h)
   rw [← hs2]
   clear hs2 HU2 HSZ hl2
   obtain ⟨z, hz⟩ : ∃ z : Int, z = (s2.size : Int) := ⟨_, rfl⟩
   by_cases h9 : z ≤ 900
   · have t9 : decide (((s2.size : Nat) : Int) ≤ 900) = true := by rw [← hz]; simpa using h9
     have HU2a := hid (HU2s.out (by omega))
     clear HU2s h9 hz z
     go_wp2_with fail
     refine (HU2a.out w5).mono ?_
     rintro r w6 ⟨rfl, hb6⟩
     have HB6 : Hid (Below w.heap.size w w6) := HB5.out.trans (hb6.mono HB5.out.size)
     clear HU2a hb6 HB5
     go_wp2_with fail
     refine (HU3.out w6).mono ?_
     rintro r w7 ⟨rfl, hb7⟩
     have HB7 : Hid (Below w.heap.size w w7) := HB6.out.trans (hb7.mono HB6.out.size)
     clear HU3 hb7 HB6 t9
     go_wp2
     go_loopw [20] (fun mm wr => ∃ (j : Nat), mm = .int .i64 j ∧ j ≤ 5 ∧ Hid (Below w.heap.size w wr)) (fun mm _ => 5 - (intOf mm).toNat)
     case atStart => exact ⟨0, rfl, by omega, HB7.out⟩
     case round =>
       obtain ⟨j, rfl, hj, HB⟩ := hrel
       by_cases h5 : j < 5
       · have t1 : decide ((j : Int) ≤ 4) = true := by simp; omega
         have HR1 := hid (HU4.out j (by omega))
         clear HU4 HH
         go_wp2_with fail
         refine (HR1.out wr).mono ?_
         rintro r w8 ⟨rfl, hb8⟩
         have HB8 : Hid (Below w.heap.size w w8) := HB.out.trans (hb8.mono HB.out.size)
         clear HR1 hb8 HB
         go_wp2
         go_round
         case rel => exact ⟨j + 1, by go_num, by omega, HB8.out⟩
         case measure => simp [intOf]; omega
       · have t1 : decide ((j : Int) ≤ 4) = false := by simp; omega
         clear HU4 h5
         have e1 : ((str [105, 110, 102]).toList == [105, 110, 102]) = true := by rw [str_toList]; decide
         have e2 : ((str [110, 97, 110]).toList == [110, 97, 110]) = true := by rw [str_toList]; decide
         go_wp2_with fail
         try go_quiet (fail)
         try rw [HW1.out]
         try rw [HW2.out]
         go_wp2_with fail
         obtain ⟨wd, hwd⟩ : ∃ wd, wd = wr.drewN nq := ⟨_, rfl⟩
         have HBd : Hid (Below w.heap.size w wd) := by unfold Hid; rw [hwd]; exact HB.out.trans ((((Still.refl _).drewN _).below _).mono HB.out.size)
         rw [← hwd]
         clear hwd HB
         refine (HH.out.h5 wd (HT.out.below HBd.out)).mono ?_
         rintro r w9 ⟨rfl, hb9⟩
         have HB9 : Hid (Below w.heap.size w w9) := HBd.out.trans (hb9.mono HBd.out.size)
         clear hb9 HBd
         go_wp2_with fail
         refine (HH.out.h6 w9 (HT.out.below HB9.out)).mono ?_
         rintro r wA ⟨rfl, hbA⟩
         have HBA : Hid (Below w.heap.size w wA) := HB9.out.trans (hbA.mono HB9.out.size)
         clear hbA HB9
         go_wp2_with fail
         refine (HH.out.h7 wA).mono ?_
         rintro r wB ⟨rfl, hbB⟩
         have HBB : Hid (Below w.heap.size w wB) := HBA.out.trans (hbB.mono HBA.out.size)
         clear hbB HBA
         go_wp2_with fail
         refine (HH.out.h8 wB).mono ?_
         rintro r wC ⟨rfl, hbC⟩
         have HBC : Hid (Below w.heap.size w wC) := HBB.out.trans (hbC.mono HBB.out.size)
         clear hbC HBB HH
         go_wp2
         all_goals (go_ret; exact ⟨rfl, HBC.out⟩)
   · have t9 : decide (((s2.size : Nat) : Int) ≤ 900) = false := by rw [← hz]; simpa using h9
     clear HU2s h9 hz z
     go_wp2_with fail
     refine (HU3.out w5).mono ?_
     rintro r w7 ⟨rfl, hb7⟩
     have HB7 : Hid (Below w.heap.size w w7) := HB5.out.trans (hb7.mono HB5.out.size)
     clear HU3 hb7 HB5 t9
     go_wp2
     go_loopw [20] (fun mm wr => ∃ (j : Nat), mm = .int .i64 j ∧ j ≤ 5 ∧ Hid (Below w.heap.size w wr)) (fun mm _ => 5 - (intOf mm).toNat)
     case atStart => exact ⟨0, rfl, by omega, HB7.out⟩
     case round =>
       obtain ⟨j, rfl, hj, HB⟩ := hrel
       by_cases h5 : j < 5
       · have t1 : decide ((j : Int) ≤ 4) = true := by simp; omega
         have HR1 := hid (HU4.out j (by omega))
         clear HU4 HH
         go_wp2_with fail
         refine (HR1.out wr).mono ?_
         rintro r w8 ⟨rfl, hb8⟩
         have HB8 : Hid (Below w.heap.size w w8) := HB.out.trans (hb8.mono HB.out.size)
         clear HR1 hb8 HB
         go_wp2
         go_round
         case rel => exact ⟨j + 1, by go_num, by omega, HB8.out⟩
         case measure => simp [intOf]; omega
       · have t1 : decide ((j : Int) ≤ 4) = false := by simp; omega
         clear HU4 h5
         have e1 : ((str [105, 110, 102]).toList == [105, 110, 102]) = true := by rw [str_toList]; decide
         have e2 : ((str [110, 97, 110]).toList == [110, 97, 110]) = true := by rw [str_toList]; decide
         go_wp2_with fail
         try go_quiet (fail)
         try rw [HW1.out]
         try rw [HW2.out]
         go_wp2_with fail
         obtain ⟨wd, hwd⟩ : ∃ wd, wd = wr.drewN nq := ⟨_, rfl⟩
         have HBd : Hid (Below w.heap.size w wd) := by unfold Hid; rw [hwd]; exact HB.out.trans ((((Still.refl _).drewN _).below _).mono HB.out.size)
         rw [← hwd]
         clear hwd HB
         refine (HH.out.h5 wd (HT.out.below HBd.out)).mono ?_
         rintro r w9 ⟨rfl, hb9⟩
         have HB9 : Hid (Below w.heap.size w w9) := HBd.out.trans (hb9.mono HBd.out.size)
         clear hb9 HBd
         go_wp2_with fail
         refine (HH.out.h6 w9 (HT.out.below HB9.out)).mono ?_
         rintro r wA ⟨rfl, hbA⟩
         have HBA : Hid (Below w.heap.size w wA) := HB9.out.trans (hbA.mono HB9.out.size)
         clear hbA HB9
         go_wp2_with fail
         refine (HH.out.h7 wA).mono ?_
         rintro r wB ⟨rfl, hbB⟩
         have HBB : Hid (Below w.heap.size w wB) := HBA.out.trans (hbB.mono HBA.out.size)
         clear hbB HBA
         go_wp2_with fail
         refine (HH.out.h8 wB).mono ?_
         rintro r wC ⟨rfl, hbC⟩
         have HBC : Hid (Below w.heap.size w wC) := HBB.out.trans (hbC.mono HBB.out.size)
         clear hbC HBB HH
         go_wp2
         all_goals (go_ret; exact ⟨rfl, HBC.out⟩))
set_option maxRecDepth 100000 in
set_option maxHeartbeats 8000000 in
theorem back_neg (cv : Value) (x b : Int) (hx : -9223372036854775808 ≤ x ∧ x ≤ 9223372036854775807) (hb : -9223372036854775808 ≤ b ∧ b ≤ 9223372036854775807) (w : World) (ht : Tab w) :
    Calls Tryz.prog 8 #[cv, .int .i64 x, .int .i64 b, .bool true] w fun r w' => r = .returned (.bool true) ∧ Below w.heap.size w w' := by
  have HX := hid (form_any b hb w)
  have h3 : pickV b 3 < 3 := Nat.mod_lt _ (by omega)
  obtain ⟨f, hf0⟩ : ∃ f : Int, f = ((pickV b 3 : Nat) : Int) := ⟨_, rfl⟩
  have hf : 0 ≤ f ∧ f ≤ 2 := by omega
  rw [← hf0] at HX
  clear hf0 h3 hb
  have HV := hid (finite_any f x hf hx w)
  have hvb := finV_bd hf x
  obtain ⟨V, hV⟩ : ∃ V : Int, V = finV f x := ⟨_, rfl⟩
  rw [← hV] at HV hvb
  clear hV hx
  have HT := hid ht
  clear ht
  obtain ⟨a, ha⟩ : ∃ a : Nat, V = (a : Int) := ⟨V.toNat, by omega⟩
  obtain ⟨X, hX⟩ : ∃ X : Int, X = signedV f true V := ⟨_, rfl⟩
  obtain ⟨I, hI⟩ : ∃ I : Int, I = (infN f : Int) := ⟨_, rfl⟩
  obtain ⟨N, hN⟩ : ∃ N : Int, N = nanP f := ⟨_, rfl⟩
  have HH : Hid (BackK cv f X I N) := by
    unfold Hid
    rw [hX, hI, hN, ha]
    exact back_k cv f a true hf (by rw [← ha]; exact hvb.2)
  rw [← hI] at hvb
  have hs1 : fW f = 16 ∧ (fQ f : Int) = 10 ∧ I = 31744 ∧ N = 32256 ∧ X = V + 32768 ∨ fW f = 32 ∧ (fQ f : Int) = 23 ∧ I = 2139095040 ∧ N = 2143289344 ∧ X = V + 2147483648 ∨ fW f = 64 ∧ (fQ f : Int) = 52 ∧ I = 9218868437227405312 ∧ N = 9221120237041090560 ∧ X = V + -9223372036854775808 := by
    rw [hI, hN, hX]
    rcases (by omega : f = 0 ∨ f = 1 ∨ f = 2) with rfl | rfl | rfl
    · exact .inl ⟨rfl, rfl, rfl, rfl, rfl⟩
    · exact .inr (.inl ⟨rfl, rfl, rfl, rfl, rfl⟩)
    · exact .inr (.inr ⟨rfl, rfl, rfl, rfl, rfl⟩)
  have hs : fW f = 16 ∧ (fQ f : Int) = 10 ∧ I = 31744 ∧ N = 32256 ∧ Hid (bits .or .i64 V 32768 = X) ∨ fW f = 32 ∧ (fQ f : Int) = 23 ∧ I = 2139095040 ∧ N = 2143289344 ∧ Hid (bits .or .i64 V 2147483648 = X) ∨ fW f = 64 ∧ (fQ f : Int) = 52 ∧ I = 9218868437227405312 ∧ N = 9221120237041090560 ∧ Hid (bits .or .i64 V (wrap64 9223372036854775808) = X) := by
    rcases hs1 with ⟨h1, h2, h3, h4, h5⟩ | ⟨h1, h2, h3, h4, h5⟩ | ⟨h1, h2, h3, h4, h5⟩
    · exact .inl ⟨h1, h2, h3, h4, by unfold Hid; rw [h5, ha]; exact or_half a (by omega)⟩
    · exact .inr (.inl ⟨h1, h2, h3, h4, by unfold Hid; rw [h5, ha]; exact or_single a (by omega)⟩)
    · exact .inr (.inr ⟨h1, h2, h3, h4, by unfold Hid; rw [h5, ha, show wrap64 9223372036854775808 = -9223372036854775808 from by unfold wrap64; decide]; exact or_double a (by omega)⟩)
  clear hI hN hX hf ha hs1
  obtain ⟨fw, hfw⟩ : ∃ fw, fw = fW f := ⟨_, rfl⟩
  obtain ⟨fq, hfq⟩ : ∃ fq, fq = (fQ f : Int) := ⟨_, rfl⟩
  rw [← hfw, ← hfq] at HX HV hs
  clear hfw hfq hvb
  have HW1 : Hid (wrap64 9223372036854775808 = -9223372036854775808) := by unfold Hid wrap64; decide
  have hw2 : wrap64 (wrap64 9223372036854775808 - 4503599627370496) = 9218868437227405312 := by unfold wrap64; decide
  have HW2 : Hid (wrap64 (-9223372036854775808 - 4503599627370496) = 9218868437227405312) := by unfold Hid wrap64; decide
  go_enter Tryz.func8, Tryz.ntmps8
  go_wp2_with fail
  refine HX.out.mono ?_
  rintro r w ⟨rfl, rfl⟩
  clear HX
  go_wp2_with fail
  refine HV.out.mono ?_
  rintro r w0 ⟨rfl, hb0⟩
  have HB0 := hid hb0
  clear HV hb0
  rcases hs with ⟨rfl, rfl, rfl, rfl, HO⟩ | ⟨rfl, rfl, rfl, rfl, HO⟩ | ⟨rfl, rfl, rfl, rfl, HO⟩
  all_goals
  (have ho := HO.out
   clear HO
   go_wp2_with fail
   try clear ho
   refine (HH.out.h1 w0 (HT.out.below HB0.out)).mono ?_
   rintro r w1 ⟨U1, rfl, hU1, hl1, hb1⟩
   have HU1 := hid hU1
   have HB1 : Hid (Below w.heap.size w w1) := HB0.out.trans (hb1.mono HB0.out.size)
   clear hU1 hb1 HB0 hl1
   go_wp2_with fail
   refine (HH.out.h2 w1 (HT.out.below HB1.out)).mono ?_
   rintro r w2 ⟨U2, rfl, hU2, hl2, hb2⟩
   have HU2 := hid hU2
   have HB2 : Hid (Below w.heap.size w w2) := HB1.out.trans (hb2.mono HB1.out.size)
   clear hU2 hb2 HB1
   go_wp2_with fail
   refine (HH.out.h3 w2 (HT.out.below HB2.out)).mono ?_
   rintro r w3 ⟨U3, rfl, hU3, hl3, hb3⟩
   have HU3 := hid hU3
   have HB3 : Hid (Below w.heap.size w w3) := HB2.out.trans (hb3.mono HB2.out.size)
   clear hU3 hb3 HB2 hl3
   go_wp2_with fail
   refine (HH.out.h4 w3 (HT.out.below HB3.out)).mono ?_
   rintro r w4 ⟨U4, rfl, hU4, hl4, hb4⟩
   have HU4 := hid hU4
   have HB4 : Hid (Below w.heap.size w w4) := HB3.out.trans (hb4.mono HB3.out.size)
   clear hU4 hb4 HB3 hl4
   go_wp2_with fail
   refine (HU1.out w4).mono ?_
   rintro r w5 ⟨rfl, hb5⟩
   have HB5 : Hid (Below w.heap.size w w5) := HB4.out.trans (hb5.mono HB4.out.size)
   clear HU1 hb5 HB4
   have HSZ := hid (str_size U2)
   obtain ⟨s2, hs2⟩ : ∃ s2, s2 = str U2 := ⟨_, rfl⟩
   have HU2s : Hid (s2.size ≤ 900 → ∀ w : World, Calls Tryz.prog 17 #[cv, .string s2, .int .i64 f, .int .i64 X] w fun e w' => e = .returned (.bool true) ∧ Below w.heap.size w w') := by
     unfold Hid; rw [hs2]; intro h; exact HU2.out (by rw [← HSZ.out]; exact h)
   rw [← hs2]
   clear hs2 HU2 HSZ hl2
   obtain ⟨z, hz⟩ : ∃ z : Int, z = (s2.size : Int) := ⟨_, rfl⟩
   by_cases h9 : z ≤ 900
   · have t9 : decide (((s2.size : Nat) : Int) ≤ 900) = true := by rw [← hz]; simpa using h9
     have HU2a := hid (HU2s.out (by omega))
     clear HU2s h9 hz z
     go_wp2_with fail
     refine (HU2a.out w5).mono ?_
     rintro r w6 ⟨rfl, hb6⟩
     have HB6 : Hid (Below w.heap.size w w6) := HB5.out.trans (hb6.mono HB5.out.size)
     clear HU2a hb6 HB5
     go_wp2_with fail
     refine (HU3.out w6).mono ?_
     rintro r w7 ⟨rfl, hb7⟩
     have HB7 : Hid (Below w.heap.size w w7) := HB6.out.trans (hb7.mono HB6.out.size)
     clear HU3 hb7 HB6 t9
     go_wp2
     go_loopw [20] (fun mm wr => ∃ (j : Nat), mm = .int .i64 j ∧ j ≤ 5 ∧ Hid (Below w.heap.size w wr)) (fun mm _ => 5 - (intOf mm).toNat)
     case atStart => exact ⟨0, rfl, by omega, HB7.out⟩
     case round =>
       obtain ⟨j, rfl, hj, HB⟩ := hrel
       by_cases h5 : j < 5
       · have t1 : decide ((j : Int) ≤ 4) = true := by simp; omega
         have HR1 := hid (HU4.out j (by omega))
         clear HU4 HH
         go_wp2_with fail
         refine (HR1.out wr).mono ?_
         rintro r w8 ⟨rfl, hb8⟩
         have HB8 : Hid (Below w.heap.size w w8) := HB.out.trans (hb8.mono HB.out.size)
         clear HR1 hb8 HB
         go_wp2
         go_round
         case rel => exact ⟨j + 1, by go_num, by omega, HB8.out⟩
         case measure => simp [intOf]; omega
       · have t1 : decide ((j : Int) ≤ 4) = false := by simp; omega
         clear HU4 h5
         have e1 : ((str [105, 110, 102]).toList == [105, 110, 102]) = true := by rw [str_toList]; decide
         have e2 : ((str [110, 97, 110]).toList == [110, 97, 110]) = true := by rw [str_toList]; decide
         go_wp2_with fail
         try go_quiet (fail)
         try rw [HW1.out]
         try rw [HW2.out]
         go_wp2_with fail
         obtain ⟨wd, hwd⟩ : ∃ wd, wd = wr.drewN nq := ⟨_, rfl⟩
         have HBd : Hid (Below w.heap.size w wd) := by unfold Hid; rw [hwd]; exact HB.out.trans ((((Still.refl _).drewN _).below _).mono HB.out.size)
         rw [← hwd]
         clear hwd HB
         refine (HH.out.h5 wd (HT.out.below HBd.out)).mono ?_
         rintro r w9 ⟨rfl, hb9⟩
         have HB9 : Hid (Below w.heap.size w w9) := HBd.out.trans (hb9.mono HBd.out.size)
         clear hb9 HBd
         go_wp2_with fail
         refine (HH.out.h6 w9 (HT.out.below HB9.out)).mono ?_
         rintro r wA ⟨rfl, hbA⟩
         have HBA : Hid (Below w.heap.size w wA) := HB9.out.trans (hbA.mono HB9.out.size)
         clear hbA HB9
         go_wp2_with fail
         refine (HH.out.h7 wA).mono ?_
         rintro r wB ⟨rfl, hbB⟩
         have HBB : Hid (Below w.heap.size w wB) := HBA.out.trans (hbB.mono HBA.out.size)
         clear hbB HBA
         go_wp2_with fail
         refine (HH.out.h8 wB).mono ?_
         rintro r wC ⟨rfl, hbC⟩
         have HBC : Hid (Below w.heap.size w wC) := HBB.out.trans (hbC.mono HBB.out.size)
         clear hbC HBB HH
         go_wp2
         all_goals (go_ret; exact ⟨rfl, HBC.out⟩)
   · have t9 : decide (((s2.size : Nat) : Int) ≤ 900) = false := by rw [← hz]; simpa using h9
     clear HU2s h9 hz z
     go_wp2_with fail
     refine (HU3.out w5).mono ?_
     rintro r w7 ⟨rfl, hb7⟩
     have HB7 : Hid (Below w.heap.size w w7) := HB5.out.trans (hb7.mono HB5.out.size)
     clear HU3 hb7 HB5 t9
     go_wp2
     go_loopw [20] (fun mm wr => ∃ (j : Nat), mm = .int .i64 j ∧ j ≤ 5 ∧ Hid (Below w.heap.size w wr)) (fun mm _ => 5 - (intOf mm).toNat)
     case atStart => exact ⟨0, rfl, by omega, HB7.out⟩
     case round =>
       obtain ⟨j, rfl, hj, HB⟩ := hrel
       by_cases h5 : j < 5
       · have t1 : decide ((j : Int) ≤ 4) = true := by simp; omega
         have HR1 := hid (HU4.out j (by omega))
         clear HU4 HH
         go_wp2_with fail
         refine (HR1.out wr).mono ?_
         rintro r w8 ⟨rfl, hb8⟩
         have HB8 : Hid (Below w.heap.size w w8) := HB.out.trans (hb8.mono HB.out.size)
         clear HR1 hb8 HB
         go_wp2
         go_round
         case rel => exact ⟨j + 1, by go_num, by omega, HB8.out⟩
         case measure => simp [intOf]; omega
       · have t1 : decide ((j : Int) ≤ 4) = false := by simp; omega
         clear HU4 h5
         have e1 : ((str [105, 110, 102]).toList == [105, 110, 102]) = true := by rw [str_toList]; decide
         have e2 : ((str [110, 97, 110]).toList == [110, 97, 110]) = true := by rw [str_toList]; decide
         go_wp2_with fail
         try go_quiet (fail)
         try rw [HW1.out]
         try rw [HW2.out]
         go_wp2_with fail
         obtain ⟨wd, hwd⟩ : ∃ wd, wd = wr.drewN nq := ⟨_, rfl⟩
         have HBd : Hid (Below w.heap.size w wd) := by unfold Hid; rw [hwd]; exact HB.out.trans ((((Still.refl _).drewN _).below _).mono HB.out.size)
         rw [← hwd]
         clear hwd HB
         refine (HH.out.h5 wd (HT.out.below HBd.out)).mono ?_
         rintro r w9 ⟨rfl, hb9⟩
         have HB9 : Hid (Below w.heap.size w w9) := HBd.out.trans (hb9.mono HBd.out.size)
         clear hb9 HBd
         go_wp2_with fail
         refine (HH.out.h6 w9 (HT.out.below HB9.out)).mono ?_
         rintro r wA ⟨rfl, hbA⟩
         have HBA : Hid (Below w.heap.size w wA) := HB9.out.trans (hbA.mono HB9.out.size)
         clear hbA HB9
         go_wp2_with fail
         refine (HH.out.h7 wA).mono ?_
         rintro r wB ⟨rfl, hbB⟩
         have HBB : Hid (Below w.heap.size w wB) := HBA.out.trans (hbB.mono HBA.out.size)
         clear hbB HBA
         go_wp2_with fail
         refine (HH.out.h8 wB).mono ?_
         rintro r wC ⟨rfl, hbC⟩
         have HBC : Hid (Below w.heap.size w wC) := HBB.out.trans (hbC.mono HBB.out.size)
         clear hbC HBB HH
         go_wp2
         all_goals (go_ret; exact ⟨rfl, HBC.out⟩))
theorem back_any (cv : Value) (x b : Int) (neg : Bool) (hx : -9223372036854775808 ≤ x ∧ x ≤ 9223372036854775807) (hb : -9223372036854775808 ≤ b ∧ b ≤ 9223372036854775807) (w : World) (ht : Tab w) :
    Calls Tryz.prog 8 #[cv, .int .i64 x, .int .i64 b, .bool neg] w fun r w' => r = .returned (.bool true) ∧ Below w.heap.size w w' := by
  cases neg
  · exact back_pos cv x b hx hb w ht
  · exact back_neg cv x b hx hb w ht
set_option maxRecDepth 100000 in
set_option maxHeartbeats 1000000 in
theorem back_law (x b : Int) (neg : Bool) (hx : -9223372036854775808 ≤ x ∧ x ≤ 9223372036854775807) (hb : -9223372036854775808 ≤ b ∧ b ≤ 9223372036854775807) (w : World) (ht : Tab w) :
    Calls Tryz.prog 4 #[.int .i64 x, .int .i64 b, .bool neg] w fun r w' => r = .returned (.bool true) ∧ Below w.heap.size w w' := by
  have HX := hid (fun (cv : Value) (w : World) (hw : Tab w) => back_any cv x b neg hx hb w hw)
  have HT := hid ht
  clear hx hb ht
  go_enter Tryz.func4, Tryz.ntmps4
  go_wp2_with fail
  refine (pnew_any w).mono ?_
  rintro r w1 ⟨v, rfl, hb1⟩
  have HB1 := hid hb1
  clear hb1
  go_wp2_with fail
  refine (HX.out v w1 (HT.out.below HB1.out)).mono ?_
  rintro r w2 ⟨rfl, hb2⟩
  have HB2 : Hid (Below w.heap.size w w2) := HB1.out.trans (hb2.mono HB1.out.size)
  clear hb2 HX
  go_wp2
  go_ret
  exact ⟨rfl, HB2.out⟩
end Go.Proofs.YtbkdaoicnobllabGreatDoor
