import Derived.Test.YtbkdaoicnobllabDoorG12
import Derived.Test.YtbkdaoicnobllabDoorG02
import Derived.Test.YtbkdaoicnobllabDoorG11

namespace Go.Proofs.YtbkdaoicnobllabDoor
open Go.RowKit

/-- An amount below infinity's. -/
def finV (f a : Int) : Int := a % sgnF f % infN f
theorem finV_bd {f : Int} (hf : 0 ≤ f ∧ f ≤ 2) (a : Int) : 0 ≤ finV f a ∧ finV f a < infN f := by
  have h : (0 : Int) < infN f := by
    rcases (by omega : f = 0 ∨ f = 1 ∨ f = 2) with rfl | rfl | rfl <;> decide
  unfold finV
  exact ⟨Int.emod_nonneg _ (by omega), Int.emod_lt_of_pos _ h⟩
theorem infN_i64 {f : Int} (hf : 0 ≤ f ∧ f ≤ 2) : (infN f : Int) ≤ 9218868437227405312 := by
  rcases (by omega : f = 0 ∨ f = 1 ∨ f = 2) with rfl | rfl | rfl <;> decide
set_option maxRecDepth 100000 in
set_option maxHeartbeats 1000000 in
theorem finite0 (a : Int) (ha : -9223372036854775808 ≤ a ∧ a ≤ 9223372036854775807) (w : World) :
    Calls Tryd.prog 12 #[.int .i64 a, .int .i64 16, .int .i64 10] w fun e w' => e = .returned (.int .i64 (finV 0 a)) ∧ Below w.heap.size w w' := by
  obtain ⟨A, hA⟩ : ∃ A : Int, A = a % 32768 := ⟨_, rfl⟩
  have hm : bits .and .i64 a 32767 = A := by rw [hA]; exact and_mask a 15 (by omega)
  have hA1 : 0 ≤ A := by omega
  have hA2 : A < 32768 := by omega
  have HS : Hid (A % 31744 = finV 0 a) := by unfold Hid finV; rw [hA]; rfl
  clear hA
  obtain ⟨hB1, hB2⟩ := ha
  have hw : wrap64 (wrap64 9223372036854775808 - 1) = 9223372036854775807 := by unfold wrap64; decide
  have hw2 : wrap64 (wrap64 9223372036854775808 - 4503599627370496) = 9218868437227405312 := by unfold wrap64; decide
  go_enter Tryd.func12, Tryd.ntmps12
  go_wp2_with fail
  go_quiet (fail)
  go_wp2
  all_goals (go_ret; exact ⟨by rw [← HS.out]; rfl, ((Still.refl w).drewN _).below _⟩)
set_option maxRecDepth 100000 in
set_option maxHeartbeats 1000000 in
theorem finite1 (a : Int) (ha : -9223372036854775808 ≤ a ∧ a ≤ 9223372036854775807) (w : World) :
    Calls Tryd.prog 12 #[.int .i64 a, .int .i64 32, .int .i64 23] w fun e w' => e = .returned (.int .i64 (finV 1 a)) ∧ Below w.heap.size w w' := by
  obtain ⟨A, hA⟩ : ∃ A : Int, A = a % 2147483648 := ⟨_, rfl⟩
  have hm : bits .and .i64 a 2147483647 = A := by rw [hA]; exact and_mask a 31 (by omega)
  have hA1 : 0 ≤ A := by omega
  have hA2 : A < 2147483648 := by omega
  have HS : Hid (A % 2139095040 = finV 1 a) := by unfold Hid finV; rw [hA]; rfl
  clear hA
  obtain ⟨hB1, hB2⟩ := ha
  have hw : wrap64 (wrap64 9223372036854775808 - 1) = 9223372036854775807 := by unfold wrap64; decide
  have hw2 : wrap64 (wrap64 9223372036854775808 - 4503599627370496) = 9218868437227405312 := by unfold wrap64; decide
  go_enter Tryd.func12, Tryd.ntmps12
  go_wp2_with fail
  go_quiet (fail)
  go_wp2
  all_goals (go_ret; exact ⟨by rw [← HS.out]; rfl, ((Still.refl w).drewN _).below _⟩)
set_option maxRecDepth 100000 in
set_option maxHeartbeats 1000000 in
theorem finite2 (a : Int) (ha : -9223372036854775808 ≤ a ∧ a ≤ 9223372036854775807) (w : World) :
    Calls Tryd.prog 12 #[.int .i64 a, .int .i64 64, .int .i64 52] w fun e w' => e = .returned (.int .i64 (finV 2 a)) ∧ Below w.heap.size w w' := by
  obtain ⟨A, hA⟩ : ∃ A : Int, A = a % 9223372036854775808 := ⟨_, rfl⟩
  have hm : bits .and .i64 a 9223372036854775807 = A := by rw [hA]; exact and_mask a 63 (by omega)
  have hA1 : 0 ≤ A := by omega
  have hA2 : A < 9223372036854775808 := by omega
  have HS : Hid (A % 9218868437227405312 = finV 2 a) := by unfold Hid finV; rw [hA]; rfl
  clear hA
  obtain ⟨hB1, hB2⟩ := ha
  have hw : wrap64 (wrap64 9223372036854775808 - 1) = 9223372036854775807 := by unfold wrap64; decide
  have hw2 : wrap64 (wrap64 9223372036854775808 - 4503599627370496) = 9218868437227405312 := by unfold wrap64; decide
  go_enter Tryd.func12, Tryd.ntmps12
  go_wp2_with fail
  go_quiet (fail)
  go_wp2
  all_goals (go_ret; exact ⟨by rw [← HS.out]; rfl, ((Still.refl w).drewN _).below _⟩)
theorem finite_any (f a : Int) (hf : 0 ≤ f ∧ f ≤ 2) (ha : -9223372036854775808 ≤ a ∧ a ≤ 9223372036854775807) (w : World) :
    Calls Tryd.prog 12 #[.int .i64 a, .int .i64 (fW f), .int .i64 (fQ f : Nat)] w fun e w' => e = .returned (.int .i64 (finV f a)) ∧ Below w.heap.size w w' := by
  rcases (by omega : f = 0 ∨ f = 1 ∨ f = 2) with rfl | rfl | rfl
  · exact finite0 a ha w
  · exact finite1 a ha w
  · exact finite2 a ha w
/-- What Format answers of a finite amount. -/
def GoodPost (w w' : World) (r : Ending) (Q : List UInt8 → Prop) : Prop := ∃ T : List UInt8, r = .returned (.tuple #[.string (str T), .int .i64 0]) ∧ Q T ∧ T.length ≤ 5000 ∧ Below w.heap.size w w'
theorem fin_pat {f v : Int} (hf : 0 ≤ f ∧ f ≤ 2) (h0 : 0 ≤ v) (h1 : v < infN f) : hasB f v = true ∧ negI f v = false ∧ amtI f v = v := by
  rcases (by omega : f = 0 ∨ f = 1 ∨ f = 2) with rfl | rfl | rfl
  · have h1 : v < 31744 := h1
    simp [hasB, negI, amtI, sgnF]; omega
  · have h1 : v < 2139095040 := h1
    simp [hasB, negI, amtI, sgnF]; omega
  · have h1 : v < 9218868437227405312 := h1
    simp [hasB, negI, amtI, sgnF]; omega
theorem fmt_good {f v verb prec mode : Int} {w w' : World} {r : Ending} {Q : List UInt8 → Prop} (hf : 0 ≤ f ∧ f ≤ 2) (h0 : 0 ≤ v) (h1 : v < infN f) (ha : allowB verb prec mode = true) (h : FmtPost f v verb prec mode w w' r Q) : GoodPost w w' r Q := by
  obtain ⟨p1, p2, p3⟩ := fin_pat hf h0 h1
  rcases h with ⟨_, _, T, rfl, hq, hl, hb⟩ | ⟨hn, _⟩
  · refine ⟨T, ?_, hq (by rw [p3]; exact h1), hl, hb⟩
    unfold outT
    rw [p3, p2, if_neg (by omega), if_pos h1]; rfl
  · exact absurd ⟨p1, ha⟩ hn
set_option maxRecDepth 100000 in
set_option maxHeartbeats 1000000 in
theorem prints_of (cv : Value) (v f verb prec : Int) (Q : List UInt8 → Prop) (w : World)
    (HF0 : Calls Tryd.prog 15 #[cv, .int .i64 v, .int .i64 f, .int .i64 verb, .int .i64 prec, .int .i64 0] w fun r w' => GoodPost w w' r Q) :
    Calls Tryd.prog 10 #[cv, .int .i64 v, .int .i64 f, .int .i64 verb, .int .i64 prec] w fun r w' => TextPost w w' r Q := by
  have HF := hid HF0
  clear HF0
  go_enter Tryd.func10, Tryd.ntmps10
  go_wp2_with fail
  refine HF.out.mono ?_
  rintro r w1 ⟨T, rfl, hq, hl, hb⟩
  have HP : Hid (TextPost w w1 (.returned (.string (str T))) Q) := ⟨T, rfl, hq, hl, hb⟩
  clear hq hl hb HF
  go_wp2
  all_goals (go_ret; exact HP.out)
end Go.Proofs.YtbkdaoicnobllabDoor

namespace Go.Proofs.YtbkdaoicnobllabDoor
open Go.RowKit

theorem str_get (T : List UInt8) (k : Nat) (h : k < T.length) (h' : k < (str T).size) : (str T)[k]'h' = T[k]'h := by
  show (T.toArray)[k] = T[k]'h
  first | rfl | simp
theorem str_one (T : List UInt8) (k : Nat) (h : k < T.length) : (str T).extract k (k + 1) = str [T[k]] := by
  unfold str
  rw [ByteArray.extract_mk, show k + 1 - k = 1 from by omega, List.drop_eq_getElem_cons h]; rfl
set_option maxRecDepth 100000 in
set_option maxHeartbeats 2000000 in
theorem parts_any (T d : List UInt8) (e : Int) (h : Parted T d e) (w : World) :
    Calls Tryd.prog 13 #[.string (str T)] w fun r w' => r = .returned (.tuple #[.string (str d), .int .i64 e]) ∧ w' = w := by
  obtain ⟨A, B, hT, hA, hAl, hB, hBl, hd, he⟩ := h.ex
  have hTl : T.length = A.length + 1 + B.length := by rw [hT]; simp; omega
  have hsz : (str T).size = A.length + 1 + B.length := by rw [str_size, hTl]
  have HA : Hid (∀ k (hk : k < A.length) (h' : k < (str T).size), (str T)[k] = A[k]) := fun k hk h' => by
    rw [str_get T k (by omega)]
    simp only [hT]
    rw [List.getElem_append_left hk]
  have HE : Hid (∀ (h' : A.length < (str T).size), (str T)[A.length] = 101) := fun h' => by
    rw [str_get T _ (by omega)]
    simp only [hT]
    rw [List.getElem_append_right (Nat.le_refl _)]; simp
  have HB : Hid (∀ k (hk : k < B.length) (h' : A.length + 1 + k < (str T).size), (str T)[A.length + 1 + k] = B[k]) := fun k hk h' => by
    rw [str_get T _ (by omega)]
    simp only [hT]
    rw [List.getElem_append_right (by omega)]
    simp [show A.length + 1 + k - A.length = k + 1 from by omega]
  have HX : Hid (∀ k (_ : k < A.length), (str T).extract k (k + 1) = str [A[k]]) := fun k hk => by
    rw [str_one T k (by omega)]
    simp only [hT]
    rw [List.getElem_append_left hk]
  have HNE := hid hA
  have HPB := hid hB
  have HD := hid hd
  have HEE := hid he
  clear hT hTl hA hB hd he h
  obtain ⟨s, hs⟩ : ∃ s, s = str T := ⟨_, rfl⟩
  rw [← hs] at HA HE HB HX hsz ⊢
  clear hs
  go_enter Tryd.func13, Tryd.ntmps13
  go_wp2
  go_loop [4, 5, 6] (fun dd ii bb => ∃ k : Nat, dd = .string (str (keptD A k)) ∧ ii = .int .i64 k ∧ bb = .int .i64 ((keptD A k).length - 1 : Nat) ∧ k ≤ A.length) (fun _ ii _ => A.length - (intOf ii).toNat)
  case atStart => exact ⟨0, rfl, rfl, rfl, Nat.zero_le _⟩
  case round =>
    obtain ⟨k, rfl, rfl, rfl, hk⟩ := hrel
    have hlt : k < s.size := by omega
    have hkl := keptD_len A k hk
    by_cases hka : k < A.length
    · have hc := HA.out k hka hlt
      have hne := HNE.out A[k] (List.getElem_mem hka)
      have t1 : (((s[k].toNat : Nat) : Int) != 101) = true := by
        rw [hc]; simp only [bne_iff_ne, ne_eq]
        intro h0; apply hne; apply UInt8.toNat_inj.1; simp; omega
      have hsd : (str (keptD A k)).size = (keptD A k).length := str_size _
      by_cases hp : A[k] = 46
      · have t2 : (((s[k].toNat : Nat) : Int) != 46) = false := by rw [hc, hp]; rfl
        have HK := hid (keptD_point A k hka hp)
        clear hc hne hp HE HB HX HNE HPB HD HEE
        go_wp2
        go_round
        case rel => exact ⟨k + 1, by rw [HK.out], by go_num, by rw [HK.out], by omega⟩
        case measure => simp [intOf]; omega
      · have t2 : (((s[k].toNat : Nat) : Int) != 46) = true := by
          rw [hc]; simp only [bne_iff_ne, ne_eq]
          intro h0; apply hp; apply UInt8.toNat_inj.1; simp; omega
        have HK := hid (keptD_digit A k hka hp)
        have hX := HX.out k hka
        have hl1 : (str [A[k]]).size = 1 := rfl
        have HJ : Hid (str (keptD A k) ++ str [A[k]] = str (keptD A (k + 1))) := by unfold Hid; rw [HK.out, str_append]
        have hl2 : (keptD A (k + 1)).length = (keptD A k).length + 1 := by rw [HK.out]; simp
        have hJs : (str (keptD A k) ++ str [A[k]]).size = (keptD A k).length + 1 := by rw [HJ.out, str_size, hl2]
        by_cases h0 : (keptD A k).length = 0
        · have t3 : decide ((1 : Int) < (((str (keptD A k) ++ str [A[k]]).size : Nat) : Int)) = false := by rw [hJs]; simp; omega
          clear hc hne hp HE HB HX HNE HPB HD HEE
          go_wp2
          go_round
          case rel => exact ⟨k + 1, by rw [← HJ.out], by go_num, by rw [hl2, h0]; rfl, by omega⟩
          case measure => simp [intOf]; omega
        · have t3 : decide ((1 : Int) < (((str (keptD A k) ++ str [A[k]]).size : Nat) : Int)) = true := by rw [hJs]; simp; omega
          clear hc hne hp HE HB HX HNE HPB HD HEE
          go_wp2
          go_round
          case rel => exact ⟨k + 1, by rw [← HJ.out], by go_num, by rw [hl2, show (keptD A k).length + 1 - 1 = ((keptD A k).length - 1) + 1 from by omega]; go_num, by omega⟩
          case measure => simp [intOf]; omega
    · have hke : k = A.length := by omega
      subst hke
      have t1 : (((s[A.length].toNat : Nat) : Int) != 101) = false := by rw [HE.out hlt]; rfl
      clear hka HA HE HX HNE
      go_wp2
      go_loop [5, 7, 8] (fun ii ee nn => ∃ k : Nat, ii = .int .i64 (A.length + 1 + k : Nat) ∧ ee = .int .i64 (foldE B k).1 ∧ nn = .bool (foldE B k).2 ∧ k ≤ B.length) (fun ii _ _ => A.length + 1 + B.length - (intOf ii).toNat)
      case atStart => exact ⟨0, by go_num, rfl, rfl, Nat.zero_le _⟩
      case round =>
        obtain ⟨k, rfl, rfl, rfl, hk⟩ := hrel
        have hfb := foldE_bd B HPB.out k hk
        have hfb2 : (foldE B k).1 < 100000000 := Nat.lt_of_lt_of_le hfb (by rw [show (100000000 : Nat) = 10 ^ 8 from by decide]; exact Nat.pow_le_pow_right (by omega) (by omega))
        clear hfb
        by_cases hkb : k < B.length
        · have hlt2 : A.length + 1 + k < s.size := by omega
          have hc := HB.out k hkb hlt2
          have HS := hid (foldE_succ B k hkb)
          have hpb := HPB.out B[k] (List.getElem_mem hkb)
          by_cases hm : B[k] = 45
          · have t1 : (((s[A.length + 1 + k].toNat : Nat) : Int) == 45) = true := by rw [hc, hm]; rfl
            have HS2 : Hid (foldE B (k + 1) = ((foldE B k).1, true)) := by
              unfold Hid; rw [HS.out]; unfold stepE; rw [if_pos hm]
            clear hc hpb hm HB HD HEE HS HPB
            go_wp2
            go_round
            case rel => exact ⟨k + 1, by go_num, by rw [HS2.out], by rw [HS2.out], by omega⟩
            case measure => simp [intOf]; omega
          · have hd : 48 ≤ B[k].toNat ∧ B[k].toNat ≤ 57 := by
              rcases hpb with h | h
              · exact absurd h hm
              · exact h
            have t1 : (((s[A.length + 1 + k].toNat : Nat) : Int) == 45) = false := by
              rw [hc]; simp only [beq_eq_false_iff_ne, ne_eq]; omega
            obtain ⟨c, hcc⟩ : ∃ c : Nat, c = B[k].toNat := ⟨_, rfl⟩
            have hc2 : s[A.length + 1 + k].toNat = c := by rw [hc, hcc]
            have hd1 : 48 ≤ (c : Int) := by omega
            have hd2 : (c : Int) ≤ 57 := by omega
            have HS2 : Hid (foldE B (k + 1) = (10 * (foldE B k).1 + (c - 48), (foldE B k).2)) := by
              unfold Hid; rw [HS.out, hcc]; unfold stepE; rw [if_neg hm]
            rw [hc2] at t1
            clear hc hpb hm HB HD HEE HS HPB hd hcc
            go_wp2
            go_round
            case rel => exact ⟨k + 1, by go_num, by rw [HS2.out]; go_num, by rw [HS2.out], by omega⟩
            case measure => simp [intOf]; omega
        · have hke : k = B.length := by omega
          subst hke
          have hl9 := keptD_len A A.length (Nat.le_refl _)
          obtain ⟨E, hE⟩ : ∃ E : Nat, E = (foldE B B.length).1 := ⟨_, rfl⟩
          obtain ⟨Z, hZ⟩ : ∃ Z : Nat, Z = (keptD A A.length).length - 1 := ⟨_, rfl⟩
          have hZ2 : Z ≤ 3000 := by omega
          have HEV : Hid (e = (if (foldE B B.length).2 = true then -(E : Int) else E) - Z) := by
            unfold Hid; rw [HEE.out, hE, hZ]; rfl
          rw [← hE] at hfb2 ⊢
          rw [← hZ]
          cases hb : (foldE B B.length).2 with
          | true =>
            rw [hb, if_pos rfl] at HEV
            clear hkb HB HPB HEE hE hZ hb hl9
            go_wp2
            go_ret2
            exact ⟨by rw [HD.out, HEV.out]; rfl, rfl⟩
          | false =>
            rw [hb, if_neg (by decide)] at HEV
            clear hkb HB HPB HEE hE hZ hb hl9
            go_wp2
            go_ret2
            exact ⟨by rw [HD.out, HEV.out]; rfl, rfl⟩
end Go.Proofs.YtbkdaoicnobllabDoor

namespace Go.Proofs.YtbkdaoicnobllabDoor
open Go.RowKit

theorem pnew_any (w : World) : Calls Tryd.prog 5 #[] w fun e w' => ∃ v, e = .returned v ∧ Below w.heap.size w w' := by
  go_enter Tryd.func5, Tryd.ntmps5
  go_wp2
  go_ret
  exact ⟨_, rfl, (Below.refl _ _).alloc (Nat.le_refl _) _⟩
theorem allow_short {v prec mode : Int} (hv : v = 0 ∨ v = 1 ∨ v = 4) (h : allowB v prec mode = true) : prec = -1 ∧ mode = 0 := by
  unfold allowB at h; rw [if_pos hv] at h; simpa using h
theorem allow_exact {v prec mode : Int} (hv : v = 2 ∨ v = 3) (h : allowB v prec mode = true) : 0 ≤ prec ∧ prec ≤ 800 ∧ 0 ≤ mode ∧ mode ≤ 4 := by
  unfold allowB at h; rw [if_neg (by omega), if_pos hv] at h; simpa using h
end Go.Proofs.YtbkdaoicnobllabDoor

namespace Go.Proofs.YtbkdaoicnobllabDoor
open Go.RowKit

theorem pExpF0 (cv : Value) (x prec mode : Int) (h1 : -9223372036854775808 ≤ x) (h2 : x ≤ 9223372036854775807) (w : World) (ht : Tab w) : Calls Tryd.prog 15 #[cv, .int .i64 x, .int .i64 0, .int .i64 2, .int .i64 prec, .int .i64 mode] w fun r w' => FmtPost 0 x 2 prec mode w w' r (ExpQ (awayB mode (negI 0 x)) (valA 3000 0 (amtI 0 x).toNat) prec.toNat) :=
  pformat0 cv x 2 prec mode _ h1 h2 w ht (fun ha a hA hlt w hw => by
    obtain ⟨p1, p2, p3, p4⟩ := allow_exact (by omega) ha
    have := numExp0 a (negI 0 x) prec mode p1 p2 hlt w hw
    rw [show (amtI 0 x).toNat = a from by omega]; exact this)
theorem pExpF1 (cv : Value) (x prec mode : Int) (h1 : -9223372036854775808 ≤ x) (h2 : x ≤ 9223372036854775807) (w : World) (ht : Tab w) : Calls Tryd.prog 15 #[cv, .int .i64 x, .int .i64 1, .int .i64 2, .int .i64 prec, .int .i64 mode] w fun r w' => FmtPost 1 x 2 prec mode w w' r (ExpQ (awayB mode (negI 1 x)) (valA 3000 1 (amtI 1 x).toNat) prec.toNat) :=
  pformat1 cv x 2 prec mode _ h1 h2 w ht (fun ha a hA hlt w hw => by
    obtain ⟨p1, p2, p3, p4⟩ := allow_exact (by omega) ha
    have := numExp1 a (negI 1 x) prec mode p1 p2 hlt w hw
    rw [show (amtI 1 x).toNat = a from by omega]; exact this)
theorem pExpF2 (cv : Value) (x prec mode : Int) (h1 : -9223372036854775808 ≤ x) (h2 : x ≤ 9223372036854775807) (w : World) (ht : Tab w) : Calls Tryd.prog 15 #[cv, .int .i64 x, .int .i64 2, .int .i64 2, .int .i64 prec, .int .i64 mode] w fun r w' => FmtPost 2 x 2 prec mode w w' r (ExpQ (awayB mode (negI 2 x)) (valA 3000 2 (amtI 2 x).toNat) prec.toNat) :=
  pformat2 cv x 2 prec mode _ h1 h2 w ht (fun ha a hA hlt w hw => by
    obtain ⟨p1, p2, p3, p4⟩ := allow_exact (by omega) ha
    have := numExp2 a (negI 2 x) prec mode p1 p2 hlt w hw
    rw [show (amtI 2 x).toNat = a from by omega]; exact this)
theorem pFixF0 (cv : Value) (x prec mode : Int) (h1 : -9223372036854775808 ≤ x) (h2 : x ≤ 9223372036854775807) (w : World) (ht : Tab w) : Calls Tryd.prog 15 #[cv, .int .i64 x, .int .i64 0, .int .i64 3, .int .i64 prec, .int .i64 mode] w fun r w' => FmtPost 0 x 3 prec mode w w' r (FixQ (awayB mode (negI 0 x)) (valA 3000 0 (amtI 0 x).toNat) prec.toNat) :=
  pformat0 cv x 3 prec mode _ h1 h2 w ht (fun ha a hA hlt w hw => by
    obtain ⟨p1, p2, p3, p4⟩ := allow_exact (by omega) ha
    have := numFix0 a (negI 0 x) prec mode p1 p2 hlt w hw
    rw [show (amtI 0 x).toNat = a from by omega]; exact this)
theorem pFixF1 (cv : Value) (x prec mode : Int) (h1 : -9223372036854775808 ≤ x) (h2 : x ≤ 9223372036854775807) (w : World) (ht : Tab w) : Calls Tryd.prog 15 #[cv, .int .i64 x, .int .i64 1, .int .i64 3, .int .i64 prec, .int .i64 mode] w fun r w' => FmtPost 1 x 3 prec mode w w' r (FixQ (awayB mode (negI 1 x)) (valA 3000 1 (amtI 1 x).toNat) prec.toNat) :=
  pformat1 cv x 3 prec mode _ h1 h2 w ht (fun ha a hA hlt w hw => by
    obtain ⟨p1, p2, p3, p4⟩ := allow_exact (by omega) ha
    have := numFix1 a (negI 1 x) prec mode p1 p2 hlt w hw
    rw [show (amtI 1 x).toNat = a from by omega]; exact this)
theorem pFixF2 (cv : Value) (x prec mode : Int) (h1 : -9223372036854775808 ≤ x) (h2 : x ≤ 9223372036854775807) (w : World) (ht : Tab w) : Calls Tryd.prog 15 #[cv, .int .i64 x, .int .i64 2, .int .i64 3, .int .i64 prec, .int .i64 mode] w fun r w' => FmtPost 2 x 3 prec mode w w' r (FixQ (awayB mode (negI 2 x)) (valA 3000 2 (amtI 2 x).toNat) prec.toNat) :=
  pformat2 cv x 3 prec mode _ h1 h2 w ht (fun ha a hA hlt w hw => by
    obtain ⟨p1, p2, p3, p4⟩ := allow_exact (by omega) ha
    have := numFix2 a (negI 2 x) prec mode p1 p2 hlt w hw
    rw [show (amtI 2 x).toNat = a from by omega]; exact this)
end Go.Proofs.YtbkdaoicnobllabDoor

namespace Go.Proofs.YtbkdaoicnobllabDoor
open Go.RowKit

theorem allow_exp {verb n mode : Int} (hv : verb = 2 ∨ verb = 3) (hn : 0 ≤ n ∧ n ≤ 800) (hm : 0 ≤ mode ∧ mode ≤ 4) : allowB verb n mode = true := by
  unfold allowB
  rw [if_neg (by omega), if_pos hv]; simp; omega
theorem kexp_any (cv : Value) (f v n mode : Int) (hf : 0 ≤ f ∧ f ≤ 2) (h0 : 0 ≤ v) (h1 : v < infN f) (hn : 0 ≤ n ∧ n ≤ 800) (hm : 0 ≤ mode ∧ mode ≤ 4) (w : World) (ht : Tab w) :
    Calls Tryd.prog 15 #[cv, .int .i64 v, .int .i64 f, .int .i64 2, .int .i64 n, .int .i64 mode] w fun r w' => GoodPost w w' r (ExpQ (awayB mode false) (valA 3000 f v.toNat) n.toNat) := by
  have hi := infN_i64 hf
  obtain ⟨p1, p2, p3⟩ := fin_pat hf h0 h1
  have ha := allow_exp (verb := 2) (.inl rfl) hn hm
  rcases (by omega : f = 0 ∨ f = 1 ∨ f = 2) with rfl | rfl | rfl
  · refine (pExpF0 cv v n mode (by omega) (by omega) w ht).mono fun r w' h => ?_
    rw [p2, p3] at h
    exact fmt_good hf h0 h1 ha h
  · refine (pExpF1 cv v n mode (by omega) (by omega) w ht).mono fun r w' h => ?_
    rw [p2, p3] at h
    exact fmt_good hf h0 h1 ha h
  · refine (pExpF2 cv v n mode (by omega) (by omega) w ht).mono fun r w' h => ?_
    rw [p2, p3] at h
    exact fmt_good hf h0 h1 ha h
theorem kfix_any (cv : Value) (f v n mode : Int) (hf : 0 ≤ f ∧ f ≤ 2) (h0 : 0 ≤ v) (h1 : v < infN f) (hn : 0 ≤ n ∧ n ≤ 800) (hm : 0 ≤ mode ∧ mode ≤ 4) (w : World) (ht : Tab w) :
    Calls Tryd.prog 15 #[cv, .int .i64 v, .int .i64 f, .int .i64 3, .int .i64 n, .int .i64 mode] w fun r w' => GoodPost w w' r (FixQ (awayB mode false) (valA 3000 f v.toNat) n.toNat) := by
  have hi := infN_i64 hf
  obtain ⟨p1, p2, p3⟩ := fin_pat hf h0 h1
  have ha := allow_exp (verb := 3) (.inr rfl) hn hm
  rcases (by omega : f = 0 ∨ f = 1 ∨ f = 2) with rfl | rfl | rfl
  · refine (pFixF0 cv v n mode (by omega) (by omega) w ht).mono fun r w' h => ?_
    rw [p2, p3] at h
    exact fmt_good hf h0 h1 ha h
  · refine (pFixF1 cv v n mode (by omega) (by omega) w ht).mono fun r w' h => ?_
    rw [p2, p3] at h
    exact fmt_good hf h0 h1 ha h
  · refine (pFixF2 cv v n mode (by omega) (by omega) w ht).mono fun r w' h => ?_
    rw [p2, p3] at h
    exact fmt_good hf h0 h1 ha h
theorem kprints_exp (cv : Value) (f v n : Int) (a m : Nat) (hf : 0 ≤ f ∧ f ≤ 2) (ha : v = (a : Int)) (h1 : v < infN f) (hn : n = (m : Int)) (hm : m ≤ 800) (w : World) (ht : Tab w) :
    Calls Tryd.prog 10 #[cv, .int .i64 v, .int .i64 f, .int .i64 2, .int .i64 n] w fun r w' => TextPost w w' r (ExpQ (awayB 0 false) (valA 3000 f a) m) := by
  have := kexp_any cv f v n 0 hf (by omega) h1 (by omega) (by omega) w ht
  rw [show v.toNat = a from by omega, show n.toNat = m from by omega] at this
  exact prints_of cv v f 2 n _ w this
theorem kprints_fix (cv : Value) (f v n : Int) (a m : Nat) (hf : 0 ≤ f ∧ f ≤ 2) (ha : v = (a : Int)) (h1 : v < infN f) (hn : n = (m : Int)) (hm : m ≤ 800) (w : World) (ht : Tab w) :
    Calls Tryd.prog 10 #[cv, .int .i64 v, .int .i64 f, .int .i64 3, .int .i64 n] w fun r w' => TextPost w w' r (FixQ (awayB 0 false) (valA 3000 f a) m) := by
  have := kfix_any cv f v n 0 hf (by omega) h1 (by omega) (by omega) w ht
  rw [show v.toNat = a from by omega, show n.toNat = m from by omega] at this
  exact prints_of cv v f 3 n _ w this
end Go.Proofs.YtbkdaoicnobllabDoor

namespace Go.Proofs.YtbkdaoicnobllabDoor
open Go.RowKit

/-- The text ahead. -/
def LastAt (f : Int) (a n j : Nat) (v : Value) : Prop := (j = 0 ∧ v = .string (str [])) ∨ ∃ S m, v = .string (str S) ∧ ((j = 1 ∧ m = (4 : Int)) ∨ (j = 2 ∧ m = 0) ∨ (j = 3 ∧ m = 1) ∨ (j = 4 ∧ m = 3)) ∧ ExpQ (awayB m false) (valA 3000 f a) n S ∧ S.length ≤ 5000
end Go.Proofs.YtbkdaoicnobllabDoor

namespace Go.Proofs.YtbkdaoicnobllabDoor
open Go.RowKit
theorem str_pre (P R : List UInt8) : (str (P ++ R)).extract 0 P.length = str P := by
  unfold str; rw [ByteArray.extract_mk]; simp
theorem str_post (P R : List UInt8) (c : UInt8) : (str (P ++ c :: R)).extract (P.length + 1) (P.length + 1 + R.length) = str R := by
  unfold str; rw [ByteArray.extract_mk]
  congr 2
  rw [List.drop_append, List.drop_eq_nil_of_le (by omega), List.nil_append, show P.length + 1 - P.length = 1 from by omega, show P.length + 1 + R.length - (P.length + 1) = R.length from by omega]
  simp
set_option maxRecDepth 100000 in
set_option maxHeartbeats 40000000 in
theorem digited_any (cv : Value) (x b c : Int) (hx : -9223372036854775808 ≤ x ∧ x ≤ 9223372036854775807) (hb : -9223372036854775808 ≤ b ∧ b ≤ 9223372036854775807) (hc : -9223372036854775808 ≤ c ∧ c ≤ 9223372036854775807) (w : World) (ht : Tab w) :
    Calls Tryd.prog 6 #[cv, .int .i64 x, .int .i64 b, .int .i64 c] w fun r w' => r = .returned (.bool true) ∧ Below w.heap.size w w' := by
  have HX := hid (form_any b hb w)
  have h3 : pickV b 3 < 3 := Nat.mod_lt _ (by omega)
  obtain ⟨f, hf0⟩ : ∃ f : Int, f = ((pickV b 3 : Nat) : Int) := ⟨_, rfl⟩
  have hf : 0 ≤ f ∧ f ≤ 2 := by omega
  rw [← hf0] at HX
  clear hf0 h3 hb
  have HV := hid (finite_any f x hf hx w)
  have hvb := finV_bd hf x
  obtain ⟨V, hV⟩ : ∃ V : Int, V = finV f x := ⟨_, rfl⟩
  rw [← hV] at HV hvb
  clear hV hx
  have HP := hid (pick_any c 40 (by omega) (by omega) hc)
  obtain ⟨n, hn0⟩ : ∃ n : Nat, n = pickV c 40 := ⟨_, rfl⟩
  have hn : n < 40 := by rw [hn0]; exact Nat.mod_lt _ (by omega)
  rw [← hn0] at HP
  clear hn0 hc
  have hi := infN_i64 hf
  have HT := hid ht
  clear ht
  obtain ⟨N, hN⟩ : ∃ N : Int, N = (n : Int) := ⟨_, rfl⟩
  rw [← hN] at HP
  obtain ⟨a, ha⟩ : ∃ a : Nat, V = (a : Int) := ⟨V.toNat, by omega⟩
  have HE : Hid (∀ w : World, Tab w → Calls Tryd.prog 10 #[cv, .int .i64 V, .int .i64 f, .int .i64 2, .int .i64 N] w fun r w' => TextPost w w' r (fun T => ∃ d e, Parted T d e ∧ d.length = n + 1 ∧ (0 < a → ∃ c r, d = c :: r ∧ c ≠ 48))) := fun w hw => by
    refine (kprints_exp cv f V N a n hf ha hvb.2 hN (by omega) w hw).mono ?_
    rintro r w' ⟨T, h1, h2, h3, h4⟩
    exact ⟨T, h1, exp_parted hf (by omega) (by omega) h2, h3, h4⟩
  have HF : Hid (∀ w : World, Tab w → Calls Tryd.prog 10 #[cv, .int .i64 V, .int .i64 f, .int .i64 3, .int .i64 N] w fun r w' => TextPost w w' r (fun T => ∃ P Q, T = P ++ (if n = 0 then [] else 46 :: Q) ∧ P ≠ [] ∧ DigB P ∧ DigB Q ∧ Q.length = n ∧ (P.length = 1 ∨ ∃ c r, P = c :: r ∧ c ≠ 48))) := fun w hw => by
    refine (kprints_fix cv f V N a n hf ha hvb.2 hN (by omega) w hw).mono ?_
    rintro r w' ⟨T, h1, h2, h3, h4⟩
    exact ⟨T, h1, fix_shape h2, h3, h4⟩
  have hN0 : 0 ≤ N ∧ N ≤ 39 := by omega
  have hV0 : 0 ≤ V ∧ V ≤ 9218868437227405312 := by omega
  subst hN
  have HVA := hid ha
  clear hvb hi hf ha hn
  go_enter Tryd.func6, Tryd.ntmps6
  go_wp2_with fail
  refine HX.out.mono ?_
  rintro r w ⟨rfl, rfl⟩
  clear HX
  go_wp2_with fail
  refine HV.out.mono ?_
  rintro r w0 ⟨rfl, hb0⟩
  have HB0 := hid hb0
  clear HV hb0
  go_wp2_with fail
  refine (HP.out _).mono ?_
  rintro r w0 ⟨rfl, rfl⟩
  clear HP
  go_wp2_with fail
  refine (HE.out _ (HT.out.below HB0.out)).mono ?_
  rintro r w1 ⟨T, rfl, ⟨d, e, hpt, hdl, hd0⟩, hl, hb1⟩
  have HB1 : Hid (Below w.heap.size w w1) := HB0.out.trans (hb1.mono HB0.out.size)
  have HPT := hid hpt
  have HDL := hid hdl
  have HD0 := hid hd0
  clear hb1 HE HB0 hpt hdl hd0
  go_wp2_with fail
  refine (HF.out _ (HT.out.below HB1.out)).mono ?_
  rintro r w2 ⟨U, rfl, ⟨P, Q, hU, hP0, hPd, hQd, hQl, hP1⟩, hl2, hb2⟩
  have HB2 : Hid (Below w.heap.size w w2) := HB1.out.trans (hb2.mono HB1.out.size)
  have HY := hid (parts_any T d e HPT.out w2)
  have HU1 := hid hU
  have HP01 := hid hP0
  have HPD1 := hid hPd
  have HQD1 := hid hQd
  have HQL1 := hid hQl
  have HP11 := hid hP1
  clear hb2 HF HB1 hU hP0 hPd hQd hQl hP1
  go_wp2_with fail
  refine HY.out.mono ?_
  rintro r w2 ⟨rfl, rfl⟩
  clear HY
  have hpt := HPT.out
  have hdl := HDL.out
  have hd0 := HD0.out
  have hU := HU1.out
  have hP0 := HP01.out
  have hPd := HPD1.out
  have hQd := HQD1.out
  have hQl := HQL1.out
  have hP1 := HP11.out
  clear HPT HDL HD0 HU1 HP01 HPD1 HQD1 HQL1 HP11
  have t1 : (((str d).size : Int) != (n : Int) + 1) = false := by rw [str_size, hdl]; simp
  obtain ⟨c0, dr, hdc⟩ : ∃ c0 dr, d = c0 :: dr := by
    cases d with
    | nil => simp at hdl
    | cons c0 dr => exact ⟨c0, dr, rfl⟩
  have hds : (str d).size = n + 1 := by rw [str_size, hdl]
  have hd00 : 0 < (str d).size := by omega
  have hg0 : (str d)[0] = c0 := by rw [str_get d 0 (by omega)]; simp only [hdc]; rfl
  have HV0 : Hid (0 < V → (((((str d)[0]).toNat : Nat) : Int) == 48) = false) := fun hv => by
    obtain ⟨c, r, h1, h2⟩ := hd0 (by have := HVA.out; omega)
    rw [hg0]
    rw [hdc] at h1
    have : c0 = c := (List.cons.inj h1).1
    simp only [beq_eq_false_iff_ne, ne_eq]
    intro h3; apply h2; rw [← this]; apply UInt8.toNat_inj.1; simp; omega
  have HU : Hid (U = P ++ (if n = 0 then [] else 46 :: Q)) := hU
  have hPp : 0 < P.length := List.length_pos_iff.2 hP0
  have hUl : U.length = P.length + (if n = 0 then 0 else n + 1) := by
    rw [hU, List.length_append]; split <;> simp [hQl]
  have hPU : P.length ≤ 5000 := by omega
  have hUs : (str U).size = P.length + (if n = 0 then 0 else n + 1) := by rw [str_size, hUl]
  have HPg : Hid (∀ k (_ : k < P.length) (h' : k < (str U).size), (str U)[k] = P[k]) := fun k hk h' => by
    rw [str_get U k (by omega)]
    simp only [hU]
    rw [List.getElem_append_left hk]
  have HPD := hid hPd
  have HQD := hid hQd
  have HP1 := hid hP1
  have HQL := hid hQl
  have HP0 := hid hP0
  clear hU hPd hQd hP1 hP0 hd0 hdc hg0 hdl hQl
  have HLP : Hid (∀ k (_ : k < P.length) (h' : k < (str U).size), ((((str U)[k].toNat : Nat) : Int) != 46) = true) := fun k hk h' => by
    rw [HPg.out k hk h']
    have := HPD.out P[k] (List.getElem_mem hk)
    simp only [bne_iff_ne, ne_eq]; omega
  obtain ⟨s, hs⟩ : ∃ s, s = str U := ⟨_, rfl⟩
  have HS := hid hs
  rw [← hs] at hUs HPg HLP ⊢
  clear hs hUl
  by_cases hv : 0 < V
  all_goals
  (first
   | (have tv : decide (0 < V) = true := by simpa using hv
      have td := HV0.out hv)
   | (have tv : decide (0 < V) = false := by simpa using hv
      have td : True := trivial)
   clear HV0 hv
   by_cases hn : n = 0
   · have hsz : s.size = P.length := by rw [hUs, if_pos hn]; rfl
     have tn : ((n : Int) == 0) = true := by simp; omega
     clear hUs HPg HPD HQD HP1 HQL HP0 HS HU hn
     go_wp2
     go_loop [17] (fun kk => ∃ k : Nat, kk = .int .i64 k ∧ k ≤ P.length) (fun kk => P.length - (intOf kk).toNat)
     case atStart => exact ⟨0, rfl, by omega⟩
     case round =>
       obtain ⟨k, rfl, hk⟩ := hrel
       by_cases hlt : k < P.length
       · have hlt2 : k < s.size := by omega
         have t2 := HLP.out k hlt hlt2
         clear HLP
         go_wp2
         go_round
         case rel => exact ⟨k + 1, by go_num, by omega⟩
         case measure => simp [intOf]; omega
       · have hke : k = P.length := by omega
         subst hke
         have t3 : (((P.length : Nat) : Int) == ((s.size : Nat) : Int)) = true := by rw [hsz]; simp
         have t4 : decide ((0 : Int) < (P.length : Int)) = true := by simp; omega
         clear HLP hlt
         go_wp2
         all_goals (go_ret; exact ⟨rfl, HB2.out⟩)
   · have hsz : s.size = P.length + 1 + n := by rw [hUs, if_neg hn]; omega
     have tn : ((n : Int) == 0) = false := by simp; omega
     have hUU := HU.out
     rw [if_neg hn] at hUU
     have hpt : ∀ (h' : P.length < s.size), ((((s[P.length]'h').toNat : Nat) : Int) != 46) = false := fun h' => by
       have hss := HS.out
       subst hss
       rw [str_get U _ (by rw [str_size] at h'; exact h')]
       simp only [hUU]
       rw [List.getElem_append_right (Nat.le_refl _)]
       simp
     have HX1 : Hid (s.extract 0 P.length = str P) := by unfold Hid; rw [HS.out, hUU]; exact str_pre _ _
     have HX2 : Hid (s.extract (P.length + 1) (P.length + 1 + n) = str Q) := by
       unfold Hid; rw [HS.out, hUU, ← HQL.out]; exact str_post _ _ _
     have HD1 := hid (kdigits_any (str P) (by rw [str_size]; unfold maxLen; omega) w2)
     have HD2 := hid (kdigits_any (str Q) (by rw [str_size, HQL.out]; unfold maxLen; omega) w2)
     rw [dig_allDig HPD.out HP0.out] at HD1
     rw [dig_allDig HQD.out (fun h0 => hn (by rw [← HQL.out, h0]; rfl))] at HD2
     have t5 : ∀ (h' : 0 < s.size), P.length = 1 ∨ ((((s[0]'h').toNat : Nat) : Int) != 48) = true := fun h' => by
       rcases HP1.out with h1 | ⟨c, r, h1, h2⟩
       · exact .inl h1
       · right
         rw [HPg.out 0 hPp h']
         simp only [h1]
         simp only [bne_iff_ne, ne_eq]
         intro h3; apply h2; apply UInt8.toNat_inj.1; simp at h3 ⊢; omega
     clear hUs HPg HPD HQD HP1 HQL HP0 HS HU hUU
     go_wp2
     go_loop [17] (fun kk => ∃ k : Nat, kk = .int .i64 k ∧ k ≤ P.length) (fun kk => P.length - (intOf kk).toNat)
     case atStart => exact ⟨0, rfl, by omega⟩
     case round =>
       obtain ⟨k, rfl, hk⟩ := hrel
       by_cases hlt : k < P.length
       · have hlt2 : k < s.size := by omega
         have t2 := HLP.out k hlt hlt2
         clear HLP HX1 HX2 HD1 HD2 t5 hpt
         go_wp2
         go_round
         case rel => exact ⟨k + 1, by go_num, by omega⟩
         case measure => simp [intOf]; omega
       · have hke : k = P.length := by omega
         subst hke
         have hlt2 : P.length < s.size := by omega
         have t2 := hpt hlt2
         have hx1 := HX1.out
         have hx2 := HX2.out
         have h00 : 0 < s.size := by omega
         have T6 := hid (t5 h00)
         clear HLP hlt HX1 HX2 t5 hpt
         go_wp2_with fail
         refine HD1.out.mono ?_
         rintro r w' ⟨rfl, rfl⟩
         go_wp2_with fail
         refine HD2.out.mono ?_
         rintro r w' ⟨rfl, rfl⟩
         clear HD1 HD2
         have t7 : (((s.size : Nat) : Int) - ((P.length : Nat) : Int) - 1 == (n : Int)) = true := by rw [hsz]; simp; omega
         by_cases h1 : P.length = 1
         · have t8 : (((P.length : Nat) : Int) == 1) = true := by rw [h1]; rfl
           clear T6
           go_wp2
           all_goals (go_ret; exact ⟨rfl, HB2.out⟩)
         · have t8 : (((P.length : Nat) : Int) == 1) = false := by simp; omega
           have t9 := T6.out.resolve_left h1
           clear T6
           go_wp2
           all_goals (go_ret; exact ⟨rfl, HB2.out⟩))
set_option maxRecDepth 100000 in
set_option maxHeartbeats 1000000 in
theorem counted_law (x b c : Int) (hx : -9223372036854775808 ≤ x ∧ x ≤ 9223372036854775807) (hb : -9223372036854775808 ≤ b ∧ b ≤ 9223372036854775807) (hc : -9223372036854775808 ≤ c ∧ c ≤ 9223372036854775807) (w : World) (ht : Tab w) :
    Calls Tryd.prog 3 #[.int .i64 x, .int .i64 b, .int .i64 c] w fun r w' => r = .returned (.bool true) ∧ Below w.heap.size w w' := by
  have HX := hid (fun (cv : Value) (w : World) (hw : Tab w) => digited_any cv x b c hx hb hc w hw)
  have HT := hid ht
  clear hx hb hc ht
  go_enter Tryd.func3, Tryd.ntmps3
  go_wp2_with fail
  refine (pnew_any w).mono ?_
  rintro r w1 ⟨v, rfl, hb1⟩
  have HB1 := hid hb1
  clear hb1
  go_wp2_with fail
  refine (HX.out v w1 (HT.out.below HB1.out)).mono ?_
  rintro r w2 ⟨rfl, hb2⟩
  have HB2 : Hid (Below w.heap.size w w2) := HB1.out.trans (hb2.mono HB1.out.size)
  clear hb2 HX
  go_wp2
  go_ret
  exact ⟨rfl, HB2.out⟩
end Go.Proofs.YtbkdaoicnobllabDoor
