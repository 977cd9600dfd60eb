import Derived.Test.YtbkdaoicnobllabDoorGCount
import Derived.Test.YtbkdaoicnobllabDoorGKRise

namespace Go.Proofs.YtbkdaoicnobllabDoor
open Go.RowKit

theorem kprints_exp (cv : Value) (f v n : Int) (a m : Nat) (hf : 0 ≤ f ∧ f ≤ 2) (ha : v = (a : Int)) (h1 : v < infN f) (hn : n = (m : Int)) (hm : m ≤ 800) (w : World) (ht : Tab w) :
    Calls Tryd.prog 10 #[cv, .int .i64 v, .int .i64 f, .int .i64 2, .int .i64 n] w fun r w' => TextPost w w' r (ExpQ (awayB 0 false) (valA 3000 f a) m) := by
  have := kexp_any cv f v n 0 hf (by omega) h1 (by omega) (by omega) w ht
  rw [show v.toNat = a from by omega, show n.toNat = m from by omega] at this
  exact prints_of cv v f 2 n _ w this
theorem kprints_fix (cv : Value) (f v n : Int) (a m : Nat) (hf : 0 ≤ f ∧ f ≤ 2) (ha : v = (a : Int)) (h1 : v < infN f) (hn : n = (m : Int)) (hm : m ≤ 800) (w : World) (ht : Tab w) :
    Calls Tryd.prog 10 #[cv, .int .i64 v, .int .i64 f, .int .i64 3, .int .i64 n] w fun r w' => TextPost w w' r (FixQ (awayB 0 false) (valA 3000 f a) m) := by
  have := kfix_any cv f v n 0 hf (by omega) h1 (by omega) (by omega) w ht
  rw [show v.toNat = a from by omega, show n.toNat = m from by omega] at this
  exact prints_of cv v f 3 n _ w this
theorem str_pre (P R : List UInt8) : (str (P ++ R)).extract 0 P.length = str P := by
  unfold str; rw [ByteArray.extract_mk]; simp
theorem str_post (P R : List UInt8) (c : UInt8) : (str (P ++ c :: R)).extract (P.length + 1) (P.length + 1 + R.length) = str R := by
  unfold str; rw [ByteArray.extract_mk]
  congr 2
  rw [List.drop_append, List.drop_eq_nil_of_le (by omega), List.nil_append, show P.length + 1 - P.length = 1 from by omega, show P.length + 1 + R.length - (P.length + 1) = R.length from by omega]
  simp
set_option maxRecDepth 100000 in
set_option maxHeartbeats 40000000 in
theorem digited_any (cv : Value) (x b c : Int) (hx : -9223372036854775808 ≤ x ∧ x ≤ 9223372036854775807) (hb : -9223372036854775808 ≤ b ∧ b ≤ 9223372036854775807) (hc : -9223372036854775808 ≤ c ∧ c ≤ 9223372036854775807) (w : World) (ht : Tab w) :
    Calls Tryd.prog 6 #[cv, .int .i64 x, .int .i64 b, .int .i64 c] w fun r w' => r = .returned (.bool true) ∧ Below w.heap.size w w' := by
  have HX := hid (form_any b hb w)
  have h3 : pickV b 3 < 3 := Nat.mod_lt _ (by omega)
  obtain ⟨f, hf0⟩ : ∃ f : Int, f = ((pickV b 3 : Nat) : Int) := ⟨_, rfl⟩
  have hf : 0 ≤ f ∧ f ≤ 2 := by omega
  rw [← hf0] at HX
  clear hf0 h3 hb
  have HV := hid (finite_any f x hf hx w)
  have hvb := finV_bd hf x
  obtain ⟨V, hV⟩ : ∃ V : Int, V = finV f x := ⟨_, rfl⟩
  rw [← hV] at HV hvb
  clear hV hx
  have HP := hid (pick_any c 40 (by omega) (by omega) hc)
  obtain ⟨n, hn0⟩ : ∃ n : Nat, n = pickV c 40 := ⟨_, rfl⟩
  have hn : n < 40 := by rw [hn0]; exact Nat.mod_lt _ (by omega)
  rw [← hn0] at HP
  clear hn0 hc
  have hi := infN_i64 hf
  have HT := hid ht
  clear ht
  obtain ⟨N, hN⟩ : ∃ N : Int, N = (n : Int) := ⟨_, rfl⟩
  rw [← hN] at HP
  obtain ⟨a, ha⟩ : ∃ a : Nat, V = (a : Int) := ⟨V.toNat, by omega⟩
  have HE : Hid (∀ w : World, Tab w → Calls Tryd.prog 10 #[cv, .int .i64 V, .int .i64 f, .int .i64 2, .int .i64 N] w fun r w' => TextPost w w' r (fun T => ∃ d e, Parted T d e ∧ d.length = n + 1 ∧ (0 < a → ∃ c r, d = c :: r ∧ c ≠ 48))) := fun w hw => by
    refine (kprints_exp cv f V N a n hf ha hvb.2 hN (by omega) w hw).mono ?_
    rintro r w' ⟨T, h1, h2, h3, h4⟩
    exact ⟨T, h1, exp_parted hf (by omega) (by omega) h2, h3, h4⟩
  have HF : Hid (∀ w : World, Tab w → Calls Tryd.prog 10 #[cv, .int .i64 V, .int .i64 f, .int .i64 3, .int .i64 N] w fun r w' => TextPost w w' r (fun T => ∃ P Q, T = P ++ (if n = 0 then [] else 46 :: Q) ∧ P ≠ [] ∧ DigB P ∧ DigB Q ∧ Q.length = n ∧ (P.length = 1 ∨ ∃ c r, P = c :: r ∧ c ≠ 48))) := fun w hw => by
    refine (kprints_fix cv f V N a n hf ha hvb.2 hN (by omega) w hw).mono ?_
    rintro r w' ⟨T, h1, h2, h3, h4⟩
    exact ⟨T, h1, fix_shape h2, h3, h4⟩
  have hN0 : 0 ≤ N ∧ N ≤ 39 := by omega
  have hV0 : 0 ≤ V ∧ V ≤ 9218868437227405312 := by omega
  subst hN
  have HVA := hid ha
  clear hvb hi hf ha hn
  go_enter Tryd.func6, Tryd.ntmps6
  go_wp2_with fail
  refine HX.out.mono ?_
  rintro r w ⟨rfl, rfl⟩
  clear HX
  go_wp2_with fail
  refine HV.out.mono ?_
  rintro r w0 ⟨rfl, hb0⟩
  have HB0 := hid hb0
  clear HV hb0
  go_wp2_with fail
  refine (HP.out _).mono ?_
  rintro r w0 ⟨rfl, rfl⟩
  clear HP
  go_wp2_with fail
  refine (HE.out _ (HT.out.below HB0.out)).mono ?_
  rintro r w1 ⟨T, rfl, ⟨d, e, hpt, hdl, hd0⟩, hl, hb1⟩
  have HB1 : Hid (Below w.heap.size w w1) := HB0.out.trans (hb1.mono HB0.out.size)
  have HPT := hid hpt
  have HDL := hid hdl
  have HD0 := hid hd0
  clear hb1 HE HB0 hpt hdl hd0
  go_wp2_with fail
  refine (HF.out _ (HT.out.below HB1.out)).mono ?_
  rintro r w2 ⟨U, rfl, ⟨P, Q, hU, hP0, hPd, hQd, hQl, hP1⟩, hl2, hb2⟩
  have HB2 : Hid (Below w.heap.size w w2) := HB1.out.trans (hb2.mono HB1.out.size)
  have HY := hid (parts_any T d e HPT.out w2)
  have HU1 := hid hU
  have HP01 := hid hP0
  have HPD1 := hid hPd
  have HQD1 := hid hQd
  have HQL1 := hid hQl
  have HP11 := hid hP1
  clear hb2 HF HB1 hU hP0 hPd hQd hQl hP1
  go_wp2_with fail
  refine HY.out.mono ?_
  rintro r w2 ⟨rfl, rfl⟩
  clear HY
  have hpt := HPT.out
  have hdl := HDL.out
  have hd0 := HD0.out
  have hU := HU1.out
  have hP0 := HP01.out
  have hPd := HPD1.out
  have hQd := HQD1.out
  have hQl := HQL1.out
  have hP1 := HP11.out
  clear HPT HDL HD0 HU1 HP01 HPD1 HQD1 HQL1 HP11
  have t1 : (((str d).size : Int) != (n : Int) + 1) = false := by rw [str_size, hdl]; simp
  obtain ⟨c0, dr, hdc⟩ : ∃ c0 dr, d = c0 :: dr := by
    cases d with
    | nil => simp at hdl
    | cons c0 dr => exact ⟨c0, dr, rfl⟩
  have hds : (str d).size = n + 1 := by rw [str_size, hdl]
  have hd00 : 0 < (str d).size := by omega
  have hg0 : (str d)[0] = c0 := by rw [str_get d 0 (by omega)]; simp only [hdc]; rfl
  have HV0 : Hid (0 < V → (((((str d)[0]).toNat : Nat) : Int) == 48) = false) := fun hv => by
    obtain ⟨c, r, h1, h2⟩ := hd0 (by have := HVA.out; omega)
    rw [hg0]
    rw [hdc] at h1
    have : c0 = c := (List.cons.inj h1).1
    simp only [beq_eq_false_iff_ne, ne_eq]
    intro h3; apply h2; rw [← this]; apply UInt8.toNat_inj.1; simp; omega
  have HU : Hid (U = P ++ (if n = 0 then [] else 46 :: Q)) := hU
  have hPp : 0 < P.length := List.length_pos_iff.2 hP0
  have hUl : U.length = P.length + (if n = 0 then 0 else n + 1) := by
    rw [hU, List.length_append]; split <;> simp [hQl]
  have hPU : P.length ≤ 5000 := by omega
  have hUs : (str U).size = P.length + (if n = 0 then 0 else n + 1) := by rw [str_size, hUl]
  have HPg : Hid (∀ k (_ : k < P.length) (h' : k < (str U).size), (str U)[k] = P[k]) := fun k hk h' => by
    rw [str_get U k (by omega)]
    simp only [hU]
    rw [List.getElem_append_left hk]
  have HPD := hid hPd
  have HQD := hid hQd
  have HP1 := hid hP1
  have HQL := hid hQl
  have HP0 := hid hP0
  clear hU hPd hQd hP1 hP0 hd0 hdc hg0 hdl hQl
  have HLP : Hid (∀ k (_ : k < P.length) (h' : k < (str U).size), ((((str U)[k].toNat : Nat) : Int) != 46) = true) := fun k hk h' => by
    rw [HPg.out k hk h']
    have := HPD.out P[k] (List.getElem_mem hk)
    simp only [bne_iff_ne, ne_eq]; omega
  obtain ⟨s, hs⟩ : ∃ s, s = str U := ⟨_, rfl⟩
  have HS := hid hs
  rw [← hs] at hUs HPg HLP ⊢
  clear hs hUl
  by_cases hv : 0 < V
  all_goals
  (first
   | (have tv : decide (0 < V) = true := by simpa using hv
      have td := HV0.out hv)
   | (have tv : decide (0 < V) = false := by simpa using hv
      have td : True := trivial)
   clear HV0 hv
   by_cases hn : n = 0
   · have hsz : s.size = P.length := by rw [hUs, if_pos hn]; rfl
     have tn : ((n : Int) == 0) = true := by simp; omega
     clear hUs HPg HPD HQD HP1 HQL HP0 HS HU hn
     go_wp2
     go_loop [17] (fun kk => ∃ k : Nat, kk = .int .i64 k ∧ k ≤ P.length) (fun kk => P.length - (intOf kk).toNat)
     case atStart => exact ⟨0, rfl, by omega⟩
     case round =>
       obtain ⟨k, rfl, hk⟩ := hrel
       by_cases hlt : k < P.length
       · have hlt2 : k < s.size := by omega
         have t2 := HLP.out k hlt hlt2
         clear HLP
         go_wp2
         go_round
         case rel => exact ⟨k + 1, by go_num, by omega⟩
         case measure => simp [intOf]; omega
       · have hke : k = P.length := by omega
         subst hke
         have t3 : (((P.length : Nat) : Int) == ((s.size : Nat) : Int)) = true := by rw [hsz]; simp
         have t4 : decide ((0 : Int) < (P.length : Int)) = true := by simp; omega
         clear HLP hlt
         go_wp2
         all_goals (go_ret; exact ⟨rfl, HB2.out⟩)
   · have hsz : s.size = P.length + 1 + n := by rw [hUs, if_neg hn]; omega
     have tn : ((n : Int) == 0) = false := by simp; omega
     have hUU := HU.out
     rw [if_neg hn] at hUU
     have hpt : ∀ (h' : P.length < s.size), ((((s[P.length]'h').toNat : Nat) : Int) != 46) = false := fun h' => by
       have hss := HS.out
       subst hss
       rw [str_get U _ (by rw [str_size] at h'; exact h')]
       simp only [hUU]
       rw [List.getElem_append_right (Nat.le_refl _)]
       simp
     have HX1 : Hid (s.extract 0 P.length = str P) := by unfold Hid; rw [HS.out, hUU]; exact str_pre _ _
     have HX2 : Hid (s.extract (P.length + 1) (P.length + 1 + n) = str Q) := by
       unfold Hid; rw [HS.out, hUU, ← HQL.out]; exact str_post _ _ _
     have HD1 := hid (kdigits_any (str P) (by rw [str_size]; unfold maxLen; omega) w2)
     have HD2 := hid (kdigits_any (str Q) (by rw [str_size, HQL.out]; unfold maxLen; omega) w2)
     rw [dig_allDig HPD.out HP0.out] at HD1
     rw [dig_allDig HQD.out (fun h0 => hn (by rw [← HQL.out, h0]; rfl))] at HD2
     have t5 : ∀ (h' : 0 < s.size), P.length = 1 ∨ ((((s[0]'h').toNat : Nat) : Int) != 48) = true := fun h' => by
       rcases HP1.out with h1 | ⟨c, r, h1, h2⟩
       · exact .inl h1
       · right
         rw [HPg.out 0 hPp h']
         simp only [h1]
         simp only [bne_iff_ne, ne_eq]
         intro h3; apply h2; apply UInt8.toNat_inj.1; simp at h3 ⊢; omega
     clear hUs HPg HPD HQD HP1 HQL HP0 HS HU hUU
     go_wp2
     go_loop [17] (fun kk => ∃ k : Nat, kk = .int .i64 k ∧ k ≤ P.length) (fun kk => P.length - (intOf kk).toNat)
     case atStart => exact ⟨0, rfl, by omega⟩
     case round =>
       obtain ⟨k, rfl, hk⟩ := hrel
       by_cases hlt : k < P.length
       · have hlt2 : k < s.size := by omega
         have t2 := HLP.out k hlt hlt2
         clear HLP HX1 HX2 HD1 HD2 t5 hpt
         go_wp2
         go_round
         case rel => exact ⟨k + 1, by go_num, by omega⟩
         case measure => simp [intOf]; omega
       · have hke : k = P.length := by omega
         subst hke
         have hlt2 : P.length < s.size := by omega
         have t2 := hpt hlt2
         have hx1 := HX1.out
         have hx2 := HX2.out
         have h00 : 0 < s.size := by omega
         have T6 := hid (t5 h00)
         clear HLP hlt HX1 HX2 t5 hpt
         go_wp2_with fail
         refine HD1.out.mono ?_
         rintro r w' ⟨rfl, rfl⟩
         go_wp2_with fail
         refine HD2.out.mono ?_
         rintro r w' ⟨rfl, rfl⟩
         clear HD1 HD2
         have t7 : (((s.size : Nat) : Int) - ((P.length : Nat) : Int) - 1 == (n : Int)) = true := by rw [hsz]; simp; omega
         by_cases h1 : P.length = 1
         · have t8 : (((P.length : Nat) : Int) == 1) = true := by rw [h1]; rfl
           clear T6
           go_wp2
           all_goals (go_ret; exact ⟨rfl, HB2.out⟩)
         · have t8 : (((P.length : Nat) : Int) == 1) = false := by simp; omega
           have t9 := T6.out.resolve_left h1
           clear T6
           go_wp2
           all_goals (go_ret; exact ⟨rfl, HB2.out⟩))
set_option maxRecDepth 100000 in
set_option maxHeartbeats 1000000 in
theorem counted_law (x b c : Int) (hx : -9223372036854775808 ≤ x ∧ x ≤ 9223372036854775807) (hb : -9223372036854775808 ≤ b ∧ b ≤ 9223372036854775807) (hc : -9223372036854775808 ≤ c ∧ c ≤ 9223372036854775807) (w : World) (ht : Tab w) :
    Calls Tryd.prog 3 #[.int .i64 x, .int .i64 b, .int .i64 c] w fun r w' => r = .returned (.bool true) ∧ Below w.heap.size w w' := by
  have HX := hid (fun (cv : Value) (w : World) (hw : Tab w) => digited_any cv x b c hx hb hc w hw)
  have HT := hid ht
  clear hx hb hc ht
  go_enter Tryd.func3, Tryd.ntmps3
  go_wp2_with fail
  refine (pnew_any w).mono ?_
  rintro r w1 ⟨v, rfl, hb1⟩
  have HB1 := hid hb1
  clear hb1
  go_wp2_with fail
  refine (HX.out v w1 (HT.out.below HB1.out)).mono ?_
  rintro r w2 ⟨rfl, hb2⟩
  have HB2 : Hid (Below w.heap.size w w2) := HB1.out.trans (hb2.mono HB1.out.size)
  clear hb2 HX
  go_wp2
  go_ret
  exact ⟨rfl, HB2.out⟩
end Go.Proofs.YtbkdaoicnobllabDoor
