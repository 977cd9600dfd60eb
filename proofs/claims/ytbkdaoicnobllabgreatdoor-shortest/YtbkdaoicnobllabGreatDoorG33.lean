import Derived.Test.YtbkdaoicnobllabGreatDoorG27
import Derived.Test.YtbkdaoicnobllabGreatDoorG32

namespace Go.Proofs.YtbkdaoicnobllabGreatDoor
open Go.RowKit

theorem kprints_short (cv : Value) (f v : Int) (a : Nat) (hf : 0 ≤ f ∧ f ≤ 2) (ha : v = (a : Int)) (h1 : v < infN f) (w : World) (ht : Tab w) :
    Calls Tryz.prog 13 #[cv, .int .i64 v, .int .i64 f, .int .i64 0, .int .i64 (-1)] w fun r w' => TextPost w w' r (ShortQ false f a) := by
  have hi := infN_i64 hf
  obtain ⟨p1, p2, p3⟩ := fin_pat hf (show 0 ≤ v by omega) h1
  refine prints_of cv v f 0 (-1) _ w ?_
  refine (psh_all cv v f hf (by omega) (by omega) w ht).mono fun r w' h => ?_
  rw [p3, show v.toNat = a from by omega] at h
  exact fmt_good hf (by omega) h1 rfl h
/-- Read as another pattern, or as none. -/
def ReadsNot (cv : Value) (f x : Int) (s : ByteArray) : Prop := ∀ w : World, Calls Tryz.prog 17 #[cv, .string s, .int .i64 f, .int .i64 x] w fun e w' => e = .returned (.bool false) ∧ Below w.heap.size w w'
theorem reads_not (cv : Value) (f V g : Int) (a M : Nat) (l : List UInt8) (kd : ByteArray) (ha : V = (a : Int)) (h : NotRead f a g M) (hl : ∀ c ∈ l, 48 ≤ c.toNat ∧ c.toNat ≤ 57) (h0 : l ≠ []) (hlen : l.length ≤ 20) (hM : num (vals (l.map UInt8.toNat)) = M) (hk : IntText g kd) (hks : kd.size ≤ 6) : ReadsNot cv f V (str l ++ ⟨#[101]⟩ ++ kd) := fun w => by
  refine (reads_any cv _ f V w).mono ?_
  rintro e w' ⟨b, g', at', err, hp, rfl, hb⟩
  have hs := prog_spec (K := 30000) (by omega) hp
  obtain ⟨p1, p2⟩ := int_text hk
  rw [chs_app, chs_app, chs_str, show chs (⟨#[101]⟩ : ByteArray) = [101] from rfl, List.append_assoc] at hs
  have hb2 := h (l.map UInt8.toNat) (chs kd) b g' at' err (fun c hc => by
    obtain ⟨x, hx, rfl⟩ := List.mem_map.1 hc
    have := hl x hx
    unfold isDig; simp; omega) (by simpa using h0) (by simpa using hlen) hM p1 p2 (by rw [chs_length]; omega) hs
  refine ⟨?_, hb⟩
  rw [show decide (b = V ∧ err = 0) = false from by
    simp only [decide_eq_false_iff_not]
    rintro ⟨h1, _⟩
    exact hb2 (by rw [h1, ha])]
set_option maxRecDepth 100000 in
set_option maxHeartbeats 4000000 in
theorem short_any (cv : Value) (x b : Int) (hx : -9223372036854775808 ≤ x ∧ x ≤ 9223372036854775807) (hb : -9223372036854775808 ≤ b ∧ b ≤ 9223372036854775807) (w : World) (ht : Tab w) :
    Calls Tryz.prog 7 #[cv, .int .i64 x, .int .i64 b] w fun r w' => r = .returned (.bool true) ∧ Below w.heap.size w w' := by
  have HX := hid (form_any b hb w)
  have h3 : pickV b 3 < 3 := Nat.mod_lt _ (by omega)
  obtain ⟨f, hf0⟩ : ∃ f : Int, f = ((pickV b 3 : Nat) : Int) := ⟨_, rfl⟩
  have hf : 0 ≤ f ∧ f ≤ 2 := by omega
  rw [← hf0] at HX
  clear hf0 h3 hb
  have HV := hid (finite_any f x hf hx w)
  have hvb := finV_bd hf x
  obtain ⟨V, hV⟩ : ∃ V : Int, V = finV f x := ⟨_, rfl⟩
  rw [← hV] at HV hvb
  clear hV hx
  have HT := hid ht
  clear ht
  obtain ⟨a, ha⟩ : ∃ a : Nat, V = (a : Int) := ⟨V.toNat, by omega⟩
  have HP1 : Hid (∀ w : World, Tab w → Calls Tryz.prog 13 #[cv, .int .i64 V, .int .i64 f, .int .i64 0, .int .i64 (-1)] w fun r w' => TextPost w w' r (ShortQ false f a)) := fun w hw => kprints_short cv f V a hf ha hvb.2 w hw
  have HP2 : Hid (∀ n : Nat, n ≤ 800 → ∀ w : World, Tab w → Calls Tryz.prog 13 #[cv, .int .i64 V, .int .i64 f, .int .i64 2, .int .i64 (n : Int)] w fun r w' => TextPost w w' r (ExpQ (awayB 0 false) (valA 3000 f a) n)) := fun n hn w hw => kprints_exp cv f V n a n hf ha hvb.2 rfl hn w hw
  have HSF : Hid (V ≠ 0 → ∀ T, ShortQ false f a T → ∃ d g, ShortF f a T d g) := fun h0 T hT => short_f hf (by omega) (by omega) hT
  have HAV := hid ha
  have HQ : Hid (V % ((2 ^ fQ f : Nat) : Int) = ((a % 2 ^ fQ f : Nat) : Int)) := by unfold Hid; rw [ha]; omega
  have hs : fW f = 16 ∧ (fQ f : Int) = 10 ∧ Hid (bits .and .i64 V 1023 = V % ((2 ^ fQ f : Nat) : Int)) ∨ fW f = 32 ∧ (fQ f : Int) = 23 ∧ Hid (bits .and .i64 V 8388607 = V % ((2 ^ fQ f : Nat) : Int)) ∨ fW f = 64 ∧ (fQ f : Int) = 52 ∧ Hid (bits .and .i64 V 4503599627370495 = V % ((2 ^ fQ f : Nat) : Int)) := by
    rcases (by omega : f = 0 ∨ f = 1 ∨ f = 2) with rfl | rfl | rfl
    · exact .inl ⟨rfl, rfl, and_mask V 10 (by omega)⟩
    · exact .inr (.inl ⟨rfl, rfl, and_mask V 23 (by omega)⟩)
    · exact .inr (.inr ⟨rfl, rfl, and_mask V 52 (by omega)⟩)
  have hvi : V ≤ 9218868437227405312 := by have := infN_i64 hf; omega
  have hv0 : 0 ≤ V := hvb.1
  clear hvb hf ha
  obtain ⟨fw, hfw⟩ : ∃ fw, fw = fW f := ⟨_, rfl⟩
  obtain ⟨fq, hfq⟩ : ∃ fq, fq = (fQ f : Int) := ⟨_, rfl⟩
  rw [← hfw, ← hfq] at HX HV hs
  clear hfw hfq
  obtain ⟨R, hR⟩ : ∃ R : Int, R = V % ((2 ^ fQ f : Nat) : Int) := ⟨_, rfl⟩
  rw [← hR] at hs HQ
  clear hR
  go_enter Tryz.func7, Tryz.ntmps7
  go_wp2_with fail
  refine HX.out.mono ?_
  rintro r w ⟨rfl, rfl⟩
  clear HX
  go_wp2_with fail
  refine HV.out.mono ?_
  rintro r w0 ⟨rfl, hb0⟩
  have HB0 := hid hb0
  clear HV hb0
  go_wp2_with fail
  refine (HP1.out w0 (HT.out.below HB0.out)).mono ?_
  rintro r w1 ⟨T, rfl, hT, hTl, hb1⟩
  have HB1 : Hid (Below w.heap.size w w1) := HB0.out.trans (hb1.mono HB0.out.size)
  have HTQ := hid hT
  clear hb1 HB0 hT HP1 hTl
  by_cases h0 : V = 0
  · have t0 : (V == 0) = true := by simpa using h0
    have hT0 : T = [48] := by
      rcases HTQ.out with ⟨_, h⟩ | ⟨h, _⟩
      · exact h
      · have := HAV.out; omega
    subst hT0
    have e1 : ((str [48]).toList == [48]) = true := by rw [str_toList]; decide
    clear h0 HTQ HSF HP2 HQ HAV hs
    go_wp2
    all_goals (go_ret; exact ⟨rfl, HB1.out⟩)
  · have t0 : (V == 0) = false := by simpa using h0
    obtain ⟨d, g, hF⟩ := HSF.out h0 T HTQ.out
    have HF := hid hF
    have HPT := hid (parts_any T d g hF.parted)
    have hg1 := hF.g1
    have hg2 := hF.g2
    obtain ⟨j, hj⟩ : ∃ j, d.length = j + 1 := ⟨d.length - 1, by have := hF.pos; omega⟩
    have hj18 : j ≤ 17 := by have := hF.le; omega
    have hsz : (str d).size = j + 1 := by rw [str_size, hj]
    have hlast := hF.last (by omega)
    have HJ := hid hj
    have hjd : j < (str d).size := by omega
    have tl : (((((str d)[j]'hjd).toNat : Nat) : Int) == 48) = false := by
      rw [str_get d j (by omega)]
      simp only [beq_eq_false_iff_ne, ne_eq]
      intro h
      apply hlast
      apply UInt8.toNat_inj.1
      have e : d[d.length - 1] = d[j] := by congr 1; omega
      rw [e]; show d[j].toNat = 48; omega
    have HE := hid (HP2.out j (by omega))
    clear HP2 HSF HTQ hF hlast h0 hj
    go_wp2_with fail
    refine (HPT.out w1).mono ?_
    rintro r w1 ⟨rfl, rfl⟩
    clear HPT
    go_wp2_with fail
    refine (HE.out w1 (HT.out.below HB1.out)).mono ?_
    rintro r w2 ⟨S, rfl, hS, hSl, hb2⟩
    have HB2 : Hid (Below w.heap.size w w2) := HB1.out.trans (hb2.mono HB1.out.size)
    have hST : S = T ∨ R = 0 := by
      by_cases hr : R = 0
      · exact .inr hr
      · left
        have h1 := HF.out.same (fun h => hr (by rw [HQ.out, h]; rfl))
        rw [HJ.out, Nat.add_sub_cancel] at h1
        exact hS.same h1
    clear hb2 HB1 hS hSl HE HQ
    -- what is read of a digit less
    obtain ⟨l, hl⟩ : ∃ l, l = d.take j := ⟨_, rfl⟩
    have hx : (str d).extract 0 j = str l := by
      rw [hl]; unfold str; rw [ByteArray.extract_mk]; simp
    have HL : Hid (1 ≤ j → (∀ c ∈ l, 48 ≤ c.toNat ∧ c.toNat ≤ 57) ∧ l ≠ [] ∧ l.length ≤ 17 ∧ NotRead f a (g + 1) (num (vals (l.map UInt8.toNat))) ∧ NotRead f a (g + 1) (num (vals (l.map UInt8.toNat)) + 1)) := fun hj1 => by
      have hjj := HJ.out
      have hlo := HF.out.low (by omega)
      have hhi := HF.out.high (by omega)
      rw [hjj, Nat.add_sub_cancel, ← hl] at hlo hhi
      have hll : l.length = j := by rw [hl, List.length_take]; omega
      exact ⟨fun c hc => HF.out.byte c (by rw [hl] at hc; exact List.mem_of_mem_take hc), fun h => by rw [h] at hll; simp at hll; omega, by omega, hlo, hhi⟩
    clear hl HF HJ
    by_cases hj0 : j = 0
    · subst hj0
      clear HL hx tl
      have tn : (((0 + 1 : Nat) : Int) == 1) = true := by decide
      by_cases hSe : S = T
      · subst hSe
        clear hST
        rcases hs with ⟨rfl, rfl, HO⟩ | ⟨rfl, rfl, HO⟩ | ⟨rfl, rfl, HO⟩
        all_goals (go_wp2_with fail; (try go_quiet (fail)); (try go_wp2); all_goals (go_ret; exact ⟨rfl, by first | exact HB2.out | exact HB2.out.trans ((((Still.refl _).drewN _).below _).mono HB2.out.size)⟩))
      · have hR0 := hST.resolve_left hSe
        subst hR0
        have tS : ((str S).toList == (str T).toList) = false := by rw [str_toList, str_toList]; simpa using hSe
        clear hST hSe
        rcases hs with ⟨rfl, rfl, HO⟩ | ⟨rfl, rfl, HO⟩ | ⟨rfl, rfl, HO⟩
        all_goals (have ho := HO.out; clear HO; go_wp2_with fail; (try go_quiet (fail)); (try go_wp2); all_goals (go_ret; exact ⟨rfl, by first | exact HB2.out | exact HB2.out.trans ((((Still.refl _).drewN _).below _).mono HB2.out.size)⟩))
    · have tn : (((j + 1 : Nat) : Int) == 1) = false := by simp; omega
      obtain ⟨hl1, hl2, hl3, hlo, hhi⟩ := HL.out (by omega)
      have HMO := hid (more_any l hl1 (by omega))
      have HNU := hid (number_int (g + 1) (by omega) (by omega))
      have HLO : Hid (∀ kd : ByteArray, IntText (g + 1) kd → kd.size ≤ 6 → ReadsNot cv f V (str l ++ ⟨#[101]⟩ ++ kd)) := fun kd h1 h2 => reads_not cv f V (g + 1) a _ l kd HAV.out hlo hl1 hl2 (by omega) rfl h1 h2
      have HHI : Hid (∀ r, MoreOf l r → ∀ kd : ByteArray, IntText (g + 1) kd → kd.size ≤ 6 → ReadsNot cv f V (str r ++ ⟨#[101]⟩ ++ kd)) := fun r hr kd h1 h2 => reads_not cv f V (g + 1) a _ r kd HAV.out hhi hr.1 hr.2.1 (by have := hr.2.2.1; omega) hr.2.2.2 h1 h2
      have HMS : Hid (∀ r, MoreOf l r → (str r).size ≤ 20) := fun r hr => by rw [str_size]; have := hr.2.2.1; omega
      have hls : (str l).size ≤ 20 := by rw [str_size]; omega
      have h101 : (⟨#[101]⟩ : ByteArray).size = 1 := rfl
      clear HL hl1 hl2 hl3 hlo hhi HAV
      have key : (S = T ∧ True) ∨ (((str S).toList == (str T).toList) = false ∧ R = 0) := by
        by_cases hSe : S = T
        · exact .inl ⟨hSe, trivial⟩
        · exact .inr ⟨by rw [str_toList, str_toList]; simpa using hSe, hST.resolve_left hSe⟩
      clear hST
      rcases key with ⟨hSe, _⟩ | ⟨tS, hR0⟩
      all_goals
      (first | subst hSe | subst hR0
       rcases hs with ⟨rfl, rfl, HO⟩ | ⟨rfl, rfl, HO⟩ | ⟨rfl, rfl, HO⟩
       all_goals
       (have ho := HO.out
        clear HO
        go_wp2_with fail
        refine (HMO.out w2).mono ?_
        rintro r w3 ⟨r3, rfl, hr3, hb3⟩
        have HB3 : Hid (Below w.heap.size w w3) := HB2.out.trans (hb3.mono HB2.out.size)
        have HR3 := hid (HHI.out r3 hr3)
        have hrs := HMS.out r3 hr3
        clear hr3 hb3 HB2 HMO HHI HMS ho
        go_wp2_with fail
        refine (HNU.out w3).mono ?_
        rintro r w4 ⟨kd, rfl, ⟨hk, hks⟩, hb4⟩
        have HB4 : Hid (Below w.heap.size w w4) := HB3.out.trans (hb4.mono HB3.out.size)
        have HRL := hid (HLO.out kd hk hks)
        have HRH := hid (HR3.out kd hk hks)
        have z1 : (str l ++ ⟨#[101]⟩).size ≤ 21 := by rw [ByteArray.size_append, h101]; omega
        have z2 : (str r3 ++ ⟨#[101]⟩).size ≤ 21 := by rw [ByteArray.size_append, h101]; omega
        clear hk hb4 HB3 HNU HLO HR3
        go_wp2_with fail
        refine (HRL.out w4).mono ?_
        rintro r w5 ⟨rfl, hb5⟩
        have HB5 : Hid (Below w.heap.size w w5) := HB4.out.trans (hb5.mono HB4.out.size)
        clear hb5 HB4 HRL
        go_wp2_with fail
        refine (HRH.out w5).mono ?_
        rintro r w6 ⟨rfl, hb6⟩
        have HB6 : Hid (Below w.heap.size w w6) := HB5.out.trans (hb6.mono HB5.out.size)
        clear hb6 HB5 HRH
        go_wp2
        all_goals (go_ret; exact ⟨rfl, HB6.out⟩)))
set_option maxRecDepth 100000 in
set_option maxHeartbeats 1000000 in
theorem shortest_law (x b : Int) (hx : -9223372036854775808 ≤ x ∧ x ≤ 9223372036854775807) (hb : -9223372036854775808 ≤ b ∧ b ≤ 9223372036854775807) (w : World) (ht : Tab w) :
    Calls Tryz.prog 3 #[.int .i64 x, .int .i64 b] w fun r w' => r = .returned (.bool true) ∧ Below w.heap.size w w' := by
  have HX := hid (fun (cv : Value) (w : World) (hw : Tab w) => short_any cv x b hx hb w hw)
  have HT := hid ht
  clear hx hb ht
  go_enter Tryz.func3, Tryz.ntmps3
  go_wp2_with fail
  refine (pnew_any w).mono ?_
  rintro r w1 ⟨v, rfl, hb1⟩
  have HB1 := hid hb1
  clear hb1
  go_wp2_with fail
  refine (HX.out v w1 (HT.out.below HB1.out)).mono ?_
  rintro r w2 ⟨rfl, hb2⟩
  have HB2 : Hid (Below w.heap.size w w2) := HB1.out.trans (hb2.mono HB1.out.size)
  clear hb2 HX
  go_wp2
  go_ret
  exact ⟨rfl, HB2.out⟩
end Go.Proofs.YtbkdaoicnobllabGreatDoor
