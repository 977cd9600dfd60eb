import Derived.Test.YtbkdaoicnobllaaDoorGRise
import Derived.Test.YtbkdaoicnobllaaDoorGKParts
import Derived.Test.YtbkdaoicnobllaaDoorGDigLaw

namespace Go.Proofs.YtbkdaoicnobllaaDoor
open Go.RowKit

set_option maxRecDepth 100000 in
set_option maxHeartbeats 1000000 in
theorem above_any (S T : List UInt8) (h : Above S T) (w : World) : Calls Tryd.prog 16 #[.string (str S), .string (str T)] w fun r w' => r = .returned (.bool true) ∧ w' = w := by
  obtain ⟨a, e, b, f, h1, h2, h3⟩ := h
  have HX := hid (parts_any S a e h1)
  have HY := hid (parts_any T b f h2)
  clear h1 h2
  go_enter Tryd.func16, Tryd.ntmps16
  go_wp2_with fail
  refine (HX.out _).mono ?_
  rintro r w' ⟨rfl, rfl⟩
  go_wp2_with fail
  refine (HY.out _).mono ?_
  rintro r w' ⟨rfl, rfl⟩
  clear HX HY
  rcases h3 with h3 | ⟨rfl, h3⟩
  · have t1 : decide (f < e) = true := by simpa using h3
    clear h3
    go_wp2
    all_goals (go_ret; exact ⟨rfl, rfl⟩)
  · have t1 : decide (e < e) = false := by simp
    have t2 : (e == e) = true := by simp
    have t3 : Op.bytesLess (str a).toList (str b).toList = false := by rw [str_toList, str_toList]; exact h3
    clear h3
    go_wp2
    all_goals (go_ret; exact ⟨rfl, rfl⟩)
theorem allow_exp {verb n mode : Int} (hv : verb = 2 ∨ verb = 3) (hn : 0 ≤ n ∧ n ≤ 800) (hm : 0 ≤ mode ∧ mode ≤ 4) : allowB verb n mode = true := by
  unfold allowB
  rw [if_neg (by omega), if_pos hv]; simp; omega
theorem kexp_any (cv : Value) (f v n mode : Int) (hf : 0 ≤ f ∧ f ≤ 2) (h0 : 0 ≤ v) (h1 : v < infN f) (hn : 0 ≤ n ∧ n ≤ 800) (hm : 0 ≤ mode ∧ mode ≤ 4) (w : World) (ht : Tab w) :
    Calls Tryd.prog 11 #[cv, .int .i64 v, .int .i64 f, .int .i64 2, .int .i64 n, .int .i64 mode] w fun r w' => GoodPost w w' r (ExpQ (awayB mode false) (valA 3000 f v.toNat) n.toNat) := by
  have hi := infN_i64 hf
  obtain ⟨p1, p2, p3⟩ := fin_pat hf h0 h1
  have ha := allow_exp (verb := 2) (.inl rfl) hn hm
  rcases (by omega : f = 0 ∨ f = 1 ∨ f = 2) with rfl | rfl | rfl
  · refine (pExpF0 cv v n mode (by omega) (by omega) w ht).mono fun r w' h => ?_
    rw [p2, p3] at h
    exact fmt_good hf h0 h1 ha h
  · refine (pExpF1 cv v n mode (by omega) (by omega) w ht).mono fun r w' h => ?_
    rw [p2, p3] at h
    exact fmt_good hf h0 h1 ha h
  · refine (pExpF2 cv v n mode (by omega) (by omega) w ht).mono fun r w' h => ?_
    rw [p2, p3] at h
    exact fmt_good hf h0 h1 ha h
theorem kfix_any (cv : Value) (f v n mode : Int) (hf : 0 ≤ f ∧ f ≤ 2) (h0 : 0 ≤ v) (h1 : v < infN f) (hn : 0 ≤ n ∧ n ≤ 800) (hm : 0 ≤ mode ∧ mode ≤ 4) (w : World) (ht : Tab w) :
    Calls Tryd.prog 11 #[cv, .int .i64 v, .int .i64 f, .int .i64 3, .int .i64 n, .int .i64 mode] w fun r w' => GoodPost w w' r (FixQ (awayB mode false) (valA 3000 f v.toNat) n.toNat) := by
  have hi := infN_i64 hf
  obtain ⟨p1, p2, p3⟩ := fin_pat hf h0 h1
  have ha := allow_exp (verb := 3) (.inr rfl) hn hm
  rcases (by omega : f = 0 ∨ f = 1 ∨ f = 2) with rfl | rfl | rfl
  · refine (pFixF0 cv v n mode (by omega) (by omega) w ht).mono fun r w' h => ?_
    rw [p2, p3] at h
    exact fmt_good hf h0 h1 ha h
  · refine (pFixF1 cv v n mode (by omega) (by omega) w ht).mono fun r w' h => ?_
    rw [p2, p3] at h
    exact fmt_good hf h0 h1 ha h
  · refine (pFixF2 cv v n mode (by omega) (by omega) w ht).mono fun r w' h => ?_
    rw [p2, p3] at h
    exact fmt_good hf h0 h1 ha h
/-- The text ahead. -/
def LastAt (f : Int) (a n j : Nat) (v : Value) : Prop := (j = 0 ∧ v = .string (str [])) ∨ ∃ S m, v = .string (str S) ∧ ((j = 1 ∧ m = (4 : Int)) ∨ (j = 2 ∧ m = 0) ∨ (j = 3 ∧ m = 1) ∨ (j = 4 ∧ m = 3)) ∧ ExpQ (awayB m false) (valA 3000 f a) n S ∧ S.length ≤ 5000
set_option maxRecDepth 100000 in
set_option maxHeartbeats 4000000 in
theorem rise_any (cv : Value) (x b c : Int) (hx : -9223372036854775808 ≤ x ∧ x ≤ 9223372036854775807) (hb : -9223372036854775808 ≤ b ∧ b ≤ 9223372036854775807) (hc : -9223372036854775808 ≤ c ∧ c ≤ 9223372036854775807) (w : World) (ht : Tab w) :
    Calls Tryd.prog 10 #[cv, .int .i64 x, .int .i64 b, .int .i64 c] w fun r w' => r = .returned (.bool true) ∧ Below w.heap.size w w' := by
  have HX := hid (form_any b hb w)
  have h3 : pickV b 3 < 3 := Nat.mod_lt _ (by omega)
  obtain ⟨f, hf0⟩ : ∃ f : Int, f = ((pickV b 3 : Nat) : Int) := ⟨_, rfl⟩
  have hf : 0 ≤ f ∧ f ≤ 2 := by omega
  rw [← hf0] at HX
  clear hf0 h3 hb
  have HV := hid (finite_any f x hf hx w)
  have hvb := finV_bd hf x
  obtain ⟨V, hV⟩ : ∃ V : Int, V = finV f x := ⟨_, rfl⟩
  rw [← hV] at HV hvb
  clear hV hx
  have HP := hid (pick_any c 20 (by omega) (by omega) hc)
  obtain ⟨n, hn0⟩ : ∃ n : Nat, n = pickV c 20 := ⟨_, rfl⟩
  have hn : n < 20 := by rw [hn0]; exact Nat.mod_lt _ (by omega)
  rw [← hn0] at HP
  clear hn0 hc
  obtain ⟨I, hI⟩ : ∃ I : Int, I = (infN f : Int) := ⟨_, rfl⟩
  have HI : Hid (I = (infN f : Int)) := hI
  have hI2 : I ≤ 9218868437227405312 := by rw [hI]; exact infN_i64 hf
  have HT := hid ht
  clear ht
  obtain ⟨N, hN⟩ : ∃ N : Int, N = (n : Int) := ⟨_, rfl⟩
  rw [← hN] at HP
  rw [← hI] at hvb
  obtain ⟨a, ha⟩ : ∃ a : Nat, V = (a : Int) := ⟨V.toNat, by omega⟩
  have HE : Hid (V < I → ∀ m : Int, 0 ≤ m ∧ m ≤ 4 → ∀ w : World, Tab w → Calls Tryd.prog 11 #[cv, .int .i64 V, .int .i64 f, .int .i64 2, .int .i64 N, .int .i64 m] w fun r w' => GoodPost w w' r (ExpQ (awayB m false) (valA 3000 f a) n)) := fun hl m hm w hw => by
    have := kexp_any cv f V N m hf (by omega) (by rw [← HI.out]; exact hl) (by omega) hm w hw
    rw [show V.toNat = a from by omega, show N.toNat = n from by omega] at this; exact this
  have HEE : Hid (V + 1 < I → ∀ m : Int, 0 ≤ m ∧ m ≤ 4 → ∀ w : World, Tab w → Calls Tryd.prog 11 #[cv, .int .i64 (V + 1), .int .i64 f, .int .i64 2, .int .i64 N, .int .i64 m] w fun r w' => GoodPost w w' r (ExpQ (awayB m false) (valA 3000 f (a + 1)) n)) := fun hl m hm w hw => by
    have := kexp_any cv f (V + 1) N m hf (by omega) (by rw [← HI.out]; exact hl) (by omega) hm w hw
    rw [show (V + 1).toNat = a + 1 from by omega, show N.toNat = n from by omega] at this; exact this
  have HR : Hid (0 < V → V + 1 < I → ∀ m : Int, m = 4 ∨ m = 0 ∨ m = 1 ∨ m = 3 → ∀ S T, ExpQ (awayB m false) (valA 3000 f a) n S → ExpQ (awayB m false) (valA 3000 f (a + 1)) n T → Above T S) := fun h0 hl m hm S T hS hT =>
    rise_one hf (by omega) (by rw [← HI.out]; omega) (by omega) hm hS hT
  have HM : Hid (0 < V → V + 1 < I → ∀ m m' : Int, (m = 4 ∧ m' = 0) ∨ (m = 0 ∧ m' = 1) ∨ (m = 1 ∧ m' = 3) → ∀ S T, ExpQ (awayB m false) (valA 3000 f a) n S → ExpQ (awayB m' false) (valA 3000 f a) n T → Above T S) := fun h0 hl m m' hm S T hS hT =>
    rise_mode hf (by omega) (by rw [← HI.out]; omega) (by omega) hm hS hT
  have hs1 : fW f = 16 ∧ (fQ f : Int) = 10 ∧ I = 31744 ∨ fW f = 32 ∧ (fQ f : Int) = 23 ∧ I = 2139095040 ∨ fW f = 64 ∧ (fQ f : Int) = 52 ∧ I = 9218868437227405312 := by
    rw [hI]
    rcases (by omega : f = 0 ∨ f = 1 ∨ f = 2) with rfl | rfl | rfl
    · exact .inl ⟨rfl, rfl, rfl⟩
    · exact .inr (.inl ⟨rfl, rfl, rfl⟩)
    · exact .inr (.inr ⟨rfl, rfl, rfl⟩)
  have HW1 : Hid (wrap64 9223372036854775808 = -9223372036854775808) := by unfold Hid wrap64; decide
  have HW2 : Hid (wrap64 (-9223372036854775808 - 4503599627370496) = 9218868437227405312) := by unfold Hid wrap64; decide
  have hw2 : wrap64 (wrap64 9223372036854775808 - 4503599627370496) = 9218868437227405312 := by unfold wrap64; decide
  have hN0 : 0 ≤ N ∧ N ≤ 19 := by omega
  clear hI ha hN hn
  obtain ⟨fw, hfw⟩ : ∃ fw, fw = fW f := ⟨_, rfl⟩
  obtain ⟨fq, hfq⟩ : ∃ fq, fq = (fQ f : Int) := ⟨_, rfl⟩
  rw [← hfw, ← hfq] at HX HV hs1
  clear hfw hfq
  go_enter Tryd.func10, Tryd.ntmps10
  go_wp2_with fail
  refine HX.out.mono ?_
  rintro r w ⟨rfl, rfl⟩
  clear HX
  go_wp2_with fail
  refine HV.out.mono ?_
  rintro r w0 ⟨rfl, hb0⟩
  have HB0 := hid hb0
  clear HV hb0
  go_wp2_with fail
  refine (HP.out _).mono ?_
  rintro r w' ⟨rfl, rfl⟩
  clear HP
  by_cases h0 : V = 0
  · have t1 : (V == 0) = true := by simpa using h0
    clear h0 HE HEE HR HM
    rcases hs1 with ⟨rfl, rfl, rfl⟩ | ⟨rfl, rfl, rfl⟩ | ⟨rfl, rfl, rfl⟩
    all_goals (go_wp2_with fail; try go_quiet (fail); go_wp2; all_goals (go_ret; exact ⟨rfl, by first | exact HB0.out | exact HB0.out.trans ((((Still.refl _).drewN _).below _).mono HB0.out.size)⟩))
  have t1 : (V == 0) = false := by simpa using h0
  by_cases hl : V + 1 = I
  · have t2 : (V + 1 == I) = true := by simpa using hl
    clear h0 hl HE HEE HR HM
    rcases hs1 with ⟨rfl, rfl, rfl⟩ | ⟨rfl, rfl, rfl⟩ | ⟨rfl, rfl, rfl⟩
    all_goals (go_wp2_with fail; try go_quiet (fail); go_wp2; all_goals (go_ret; exact ⟨rfl, by first | exact HB0.out | exact HB0.out.trans ((((Still.refl _).drewN _).below _).mono HB0.out.size)⟩))
  have t2 : (V + 1 == I) = false := by simpa using hl
  have HEa := hid (HE.out (by omega))
  have HEEa := hid (HEE.out (by omega))
  have HRa := hid (HR.out (by omega) (by omega))
  have HMa := hid (HM.out (by omega) (by omega))
  clear HE HEE HR HM
  have hvv : 0 ≤ V ∧ V ≤ 9218868437227405312 := by omega
  clear hvb h0 hl HI
  rcases hs1 with ⟨rfl, rfl, rfl⟩ | ⟨rfl, rfl, rfl⟩ | ⟨rfl, rfl, rfl⟩
  all_goals
  (go_wp2_with fail
   try go_quiet (fail)
   go_wp2
   try rw [HW1.out]
   try rw [HW2.out]
   clear HW1 HW2 hw2
   go_loopw [13, 14] (fun lv kk wr => ∃ (j : Nat) (lst : Value), lst = lv ∧ kk = .int .i64 j ∧ j ≤ 4 ∧ Hid (LastAt f a n j lst) ∧ Hid (Below w.heap.size w wr)) (fun _ kk _ => 4 - (intOf kk).toNat)
   case atStart => exact ⟨0, _, rfl, rfl, by omega, .inl ⟨rfl, rfl⟩, by first | exact HB0.out | exact HB0.out.trans ((((Still.refl _).drewN _).below _).mono HB0.out.size)⟩
   case round =>
    obtain ⟨j, lst, rfl, rfl, hj, HL, HB⟩ := hrel
    rcases (by omega : j = 0 ∨ j = 1 ∨ j = 2 ∨ j = 3 ∨ j = 4) with rfl | rfl | rfl | rfl | rfl
    · have HE1 : Hid (∀ w : World, Tab w → Calls Tryd.prog 11 #[cv, .int .i64 V, .int .i64 f, .int .i64 2, .int .i64 N, .int .i64 4] w fun r w' => GoodPost w w' r (ExpQ (awayB 4 false) (valA 3000 f a) n)) := fun w hw => HEa.out 4 (by omega) w hw
      have HE2 : Hid (∀ w : World, Tab w → Calls Tryd.prog 11 #[cv, .int .i64 (V + 1), .int .i64 f, .int .i64 2, .int .i64 N, .int .i64 4] w fun r w' => GoodPost w w' r (ExpQ (awayB 4 false) (valA 3000 f (a + 1)) n)) := fun w hw => HEEa.out 4 (by omega) w hw
      have HR1 : Hid (∀ S T, ExpQ (awayB 4 false) (valA 3000 f a) n S → ExpQ (awayB 4 false) (valA 3000 f (a + 1)) n T → Above T S) := fun S T x y => HRa.out 4 (by omega) S T x y
      clear HL HEa HEEa HRa HMa
      go_wp2_with fail
      obtain ⟨wa, hwa⟩ : ∃ wa, wa = wr.alloc (.cells #[.int .i64 4, .int .i64 0, .int .i64 1, .int .i64 3] 3) := ⟨_, rfl⟩
      have HBA : Hid (Below w.heap.size w wa) := by unfold Hid; rw [hwa]; exact HB.out.trans (((Below.refl _ _).alloc (Nat.le_refl _) _).mono HB.out.size)
      rw [← hwa]
      clear hwa
      refine (HE1.out wa (HT.out.below HBA.out)).mono ?_
      rintro r w1 ⟨S, rfl, hS, hSl, hb1⟩
      have HS := hid hS
      have HB1 : Hid (Below w.heap.size w w1) := HBA.out.trans (hb1.mono HBA.out.size)
      have hS0 := exp_some hS
      have tS : (str S).toList.isEmpty = false := by rw [str_toList]; simpa using hS0
      clear hS hb1 HE1 HBA
      go_wp2_with fail
      refine (HE2.out w1 (HT.out.below HB1.out)).mono ?_
      rintro r w2 ⟨T, rfl, hT, hTl, hb2⟩
      have HB2 : Hid (Below w.heap.size w w2) := HB1.out.trans (hb2.mono HB1.out.size)
      have HA1 := hid (above_any T S (HR1.out S T HS.out hT))
      clear hT hb2 HE2 HB1 HR1
      go_wp2_with fail
      refine (HA1.out _).mono ?_
      rintro r w' ⟨rfl, rfl⟩
      clear HA1
      have HN : Hid (LastAt f a n 1 (.string (str S))) := .inr ⟨S, 4, rfl, by omega, HS.out, hSl⟩
      clear HS hS0
      go_wp2
      go_round
      case rel => exact ⟨1, _, rfl, rfl, by omega, HN.out, HB2.out⟩
      case measure => simp [intOf]
    · have HE1 : Hid (∀ w : World, Tab w → Calls Tryd.prog 11 #[cv, .int .i64 V, .int .i64 f, .int .i64 2, .int .i64 N, .int .i64 0] w fun r w' => GoodPost w w' r (ExpQ (awayB 0 false) (valA 3000 f a) n)) := fun w hw => HEa.out 0 (by omega) w hw
      have HE2 : Hid (∀ w : World, Tab w → Calls Tryd.prog 11 #[cv, .int .i64 (V + 1), .int .i64 f, .int .i64 2, .int .i64 N, .int .i64 0] w fun r w' => GoodPost w w' r (ExpQ (awayB 0 false) (valA 3000 f (a + 1)) n)) := fun w hw => HEEa.out 0 (by omega) w hw
      have HR1 : Hid (∀ S T, ExpQ (awayB 0 false) (valA 3000 f a) n S → ExpQ (awayB 0 false) (valA 3000 f (a + 1)) n T → Above T S) := fun S T x y => HRa.out 0 (by omega) S T x y
      obtain ⟨S0, hl0, hq0, hlen0⟩ : ∃ S0, lst = .string (str S0) ∧ ExpQ (awayB 4 false) (valA 3000 f a) n S0 ∧ S0.length ≤ 5000 := by
        rcases HL.out with ⟨h, _⟩ | ⟨S0, m, e1, e2, e3, e4⟩
        · omega
        · obtain rfl : m = 4 := by omega
          exact ⟨S0, e1, e3, e4⟩
      subst hl0
      have HR2 : Hid (∀ S, ExpQ (awayB 0 false) (valA 3000 f a) n S → Above S S0) := fun S x => HMa.out 4 0 (by omega) S0 S hq0 x
      clear hq0 hlen0
      clear HL HEa HEEa HRa HMa
      go_wp2_with fail
      obtain ⟨wa, hwa⟩ : ∃ wa, wa = wr.alloc (.cells #[.int .i64 4, .int .i64 0, .int .i64 1, .int .i64 3] 3) := ⟨_, rfl⟩
      have HBA : Hid (Below w.heap.size w wa) := by unfold Hid; rw [hwa]; exact HB.out.trans (((Below.refl _ _).alloc (Nat.le_refl _) _).mono HB.out.size)
      rw [← hwa]
      clear hwa
      refine (HE1.out wa (HT.out.below HBA.out)).mono ?_
      rintro r w1 ⟨S, rfl, hS, hSl, hb1⟩
      have HS := hid hS
      have HB1 : Hid (Below w.heap.size w w1) := HBA.out.trans (hb1.mono HBA.out.size)
      have hS0 := exp_some hS
      have tS : (str S).toList.isEmpty = false := by rw [str_toList]; simpa using hS0
      clear hS hb1 HE1 HBA
      go_wp2_with fail
      refine (HE2.out w1 (HT.out.below HB1.out)).mono ?_
      rintro r w2 ⟨T, rfl, hT, hTl, hb2⟩
      have HB2 : Hid (Below w.heap.size w w2) := HB1.out.trans (hb2.mono HB1.out.size)
      have HA1 := hid (above_any T S (HR1.out S T HS.out hT))
      clear hT hb2 HE2 HB1 HR1
      go_wp2_with fail
      refine (HA1.out _).mono ?_
      rintro r w' ⟨rfl, rfl⟩
      clear HA1
      have HA2 := hid (above_any S S0 (HR2.out S HS.out))
      clear HR2
      go_wp2_with fail
      refine (HA2.out _).mono ?_
      rintro r w' ⟨rfl, rfl⟩
      clear HA2
      have HN : Hid (LastAt f a n 2 (.string (str S))) := .inr ⟨S, 0, rfl, by omega, HS.out, hSl⟩
      clear HS hS0
      go_wp2
      go_round
      case rel => exact ⟨2, _, rfl, rfl, by omega, HN.out, HB2.out⟩
      case measure => simp [intOf]
    · have HE1 : Hid (∀ w : World, Tab w → Calls Tryd.prog 11 #[cv, .int .i64 V, .int .i64 f, .int .i64 2, .int .i64 N, .int .i64 1] w fun r w' => GoodPost w w' r (ExpQ (awayB 1 false) (valA 3000 f a) n)) := fun w hw => HEa.out 1 (by omega) w hw
      have HE2 : Hid (∀ w : World, Tab w → Calls Tryd.prog 11 #[cv, .int .i64 (V + 1), .int .i64 f, .int .i64 2, .int .i64 N, .int .i64 1] w fun r w' => GoodPost w w' r (ExpQ (awayB 1 false) (valA 3000 f (a + 1)) n)) := fun w hw => HEEa.out 1 (by omega) w hw
      have HR1 : Hid (∀ S T, ExpQ (awayB 1 false) (valA 3000 f a) n S → ExpQ (awayB 1 false) (valA 3000 f (a + 1)) n T → Above T S) := fun S T x y => HRa.out 1 (by omega) S T x y
      obtain ⟨S0, hl0, hq0, hlen0⟩ : ∃ S0, lst = .string (str S0) ∧ ExpQ (awayB 0 false) (valA 3000 f a) n S0 ∧ S0.length ≤ 5000 := by
        rcases HL.out with ⟨h, _⟩ | ⟨S0, m, e1, e2, e3, e4⟩
        · omega
        · obtain rfl : m = 0 := by omega
          exact ⟨S0, e1, e3, e4⟩
      subst hl0
      have HR2 : Hid (∀ S, ExpQ (awayB 1 false) (valA 3000 f a) n S → Above S S0) := fun S x => HMa.out 0 1 (by omega) S0 S hq0 x
      clear hq0 hlen0
      clear HL HEa HEEa HRa HMa
      go_wp2_with fail
      obtain ⟨wa, hwa⟩ : ∃ wa, wa = wr.alloc (.cells #[.int .i64 4, .int .i64 0, .int .i64 1, .int .i64 3] 3) := ⟨_, rfl⟩
      have HBA : Hid (Below w.heap.size w wa) := by unfold Hid; rw [hwa]; exact HB.out.trans (((Below.refl _ _).alloc (Nat.le_refl _) _).mono HB.out.size)
      rw [← hwa]
      clear hwa
      refine (HE1.out wa (HT.out.below HBA.out)).mono ?_
      rintro r w1 ⟨S, rfl, hS, hSl, hb1⟩
      have HS := hid hS
      have HB1 : Hid (Below w.heap.size w w1) := HBA.out.trans (hb1.mono HBA.out.size)
      have hS0 := exp_some hS
      have tS : (str S).toList.isEmpty = false := by rw [str_toList]; simpa using hS0
      clear hS hb1 HE1 HBA
      go_wp2_with fail
      refine (HE2.out w1 (HT.out.below HB1.out)).mono ?_
      rintro r w2 ⟨T, rfl, hT, hTl, hb2⟩
      have HB2 : Hid (Below w.heap.size w w2) := HB1.out.trans (hb2.mono HB1.out.size)
      have HA1 := hid (above_any T S (HR1.out S T HS.out hT))
      clear hT hb2 HE2 HB1 HR1
      go_wp2_with fail
      refine (HA1.out _).mono ?_
      rintro r w' ⟨rfl, rfl⟩
      clear HA1
      have HA2 := hid (above_any S S0 (HR2.out S HS.out))
      clear HR2
      go_wp2_with fail
      refine (HA2.out _).mono ?_
      rintro r w' ⟨rfl, rfl⟩
      clear HA2
      have HN : Hid (LastAt f a n 3 (.string (str S))) := .inr ⟨S, 1, rfl, by omega, HS.out, hSl⟩
      clear HS hS0
      go_wp2
      go_round
      case rel => exact ⟨3, _, rfl, rfl, by omega, HN.out, HB2.out⟩
      case measure => simp [intOf]
    · have HE1 : Hid (∀ w : World, Tab w → Calls Tryd.prog 11 #[cv, .int .i64 V, .int .i64 f, .int .i64 2, .int .i64 N, .int .i64 3] w fun r w' => GoodPost w w' r (ExpQ (awayB 3 false) (valA 3000 f a) n)) := fun w hw => HEa.out 3 (by omega) w hw
      have HE2 : Hid (∀ w : World, Tab w → Calls Tryd.prog 11 #[cv, .int .i64 (V + 1), .int .i64 f, .int .i64 2, .int .i64 N, .int .i64 3] w fun r w' => GoodPost w w' r (ExpQ (awayB 3 false) (valA 3000 f (a + 1)) n)) := fun w hw => HEEa.out 3 (by omega) w hw
      have HR1 : Hid (∀ S T, ExpQ (awayB 3 false) (valA 3000 f a) n S → ExpQ (awayB 3 false) (valA 3000 f (a + 1)) n T → Above T S) := fun S T x y => HRa.out 3 (by omega) S T x y
      obtain ⟨S0, hl0, hq0, hlen0⟩ : ∃ S0, lst = .string (str S0) ∧ ExpQ (awayB 1 false) (valA 3000 f a) n S0 ∧ S0.length ≤ 5000 := by
        rcases HL.out with ⟨h, _⟩ | ⟨S0, m, e1, e2, e3, e4⟩
        · omega
        · obtain rfl : m = 1 := by omega
          exact ⟨S0, e1, e3, e4⟩
      subst hl0
      have HR2 : Hid (∀ S, ExpQ (awayB 3 false) (valA 3000 f a) n S → Above S S0) := fun S x => HMa.out 1 3 (by omega) S0 S hq0 x
      clear hq0 hlen0
      clear HL HEa HEEa HRa HMa
      go_wp2_with fail
      obtain ⟨wa, hwa⟩ : ∃ wa, wa = wr.alloc (.cells #[.int .i64 4, .int .i64 0, .int .i64 1, .int .i64 3] 3) := ⟨_, rfl⟩
      have HBA : Hid (Below w.heap.size w wa) := by unfold Hid; rw [hwa]; exact HB.out.trans (((Below.refl _ _).alloc (Nat.le_refl _) _).mono HB.out.size)
      rw [← hwa]
      clear hwa
      refine (HE1.out wa (HT.out.below HBA.out)).mono ?_
      rintro r w1 ⟨S, rfl, hS, hSl, hb1⟩
      have HS := hid hS
      have HB1 : Hid (Below w.heap.size w w1) := HBA.out.trans (hb1.mono HBA.out.size)
      have hS0 := exp_some hS
      have tS : (str S).toList.isEmpty = false := by rw [str_toList]; simpa using hS0
      clear hS hb1 HE1 HBA
      go_wp2_with fail
      refine (HE2.out w1 (HT.out.below HB1.out)).mono ?_
      rintro r w2 ⟨T, rfl, hT, hTl, hb2⟩
      have HB2 : Hid (Below w.heap.size w w2) := HB1.out.trans (hb2.mono HB1.out.size)
      have HA1 := hid (above_any T S (HR1.out S T HS.out hT))
      clear hT hb2 HE2 HB1 HR1
      go_wp2_with fail
      refine (HA1.out _).mono ?_
      rintro r w' ⟨rfl, rfl⟩
      clear HA1
      have HA2 := hid (above_any S S0 (HR2.out S HS.out))
      clear HR2
      go_wp2_with fail
      refine (HA2.out _).mono ?_
      rintro r w' ⟨rfl, rfl⟩
      clear HA2
      have HN : Hid (LastAt f a n 4 (.string (str S))) := .inr ⟨S, 3, rfl, by omega, HS.out, hSl⟩
      clear HS hS0
      go_wp2
      go_round
      case rel => exact ⟨4, _, rfl, rfl, by omega, HN.out, HB2.out⟩
      case measure => simp [intOf]
    · clear HL HEa HEEa HRa HMa
      go_wp2
      all_goals (go_ret; exact ⟨rfl, HB.out⟩))
set_option maxRecDepth 100000 in
set_option maxHeartbeats 1000000 in
theorem rise_law (x b c : Int) (hx : -9223372036854775808 ≤ x ∧ x ≤ 9223372036854775807) (hb : -9223372036854775808 ≤ b ∧ b ≤ 9223372036854775807) (hc : -9223372036854775808 ≤ c ∧ c ≤ 9223372036854775807) (w : World) (ht : Tab w) :
    Calls Tryd.prog 5 #[.int .i64 x, .int .i64 b, .int .i64 c] w fun r w' => r = .returned (.bool true) ∧ Below w.heap.size w w' := by
  have HX := hid (fun (cv : Value) (w : World) (hw : Tab w) => rise_any cv x b c hx hb hc w hw)
  have HT := hid ht
  clear hx hb hc ht
  go_enter Tryd.func5, Tryd.ntmps5
  go_wp2_with fail
  refine (pnew_any w).mono ?_
  rintro r w1 ⟨v, rfl, hb1⟩
  have HB1 := hid hb1
  clear hb1
  go_wp2_with fail
  refine (HX.out v w1 (HT.out.below HB1.out)).mono ?_
  rintro r w2 ⟨rfl, hb2⟩
  have HB2 : Hid (Below w.heap.size w w2) := HB1.out.trans (hb2.mono HB1.out.size)
  clear hb2 HX
  go_wp2
  go_ret
  exact ⟨rfl, HB2.out⟩
end Go.Proofs.YtbkdaoicnobllaaDoor
