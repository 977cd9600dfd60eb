import Derived.Test.YtbkdaoicnobllabDoorGRise
import Derived.Test.YtbkdaoicnobllabDoorGKBase

namespace Go.Proofs.YtbkdaoicnobllabDoor
open Go.RowKit

theorem str_get (T : List UInt8) (k : Nat) (h : k < T.length) (h' : k < (str T).size) : (str T)[k]'h' = T[k]'h := by
  show (T.toArray)[k] = T[k]'h
  first | rfl | simp
theorem str_one (T : List UInt8) (k : Nat) (h : k < T.length) : (str T).extract k (k + 1) = str [T[k]] := by
  unfold str
  rw [ByteArray.extract_mk, show k + 1 - k = 1 from by omega, List.drop_eq_getElem_cons h]; rfl
set_option maxRecDepth 100000 in
set_option maxHeartbeats 2000000 in
theorem parts_any (T d : List UInt8) (e : Int) (h : Parted T d e) (w : World) :
    Calls Tryd.prog 13 #[.string (str T)] w fun r w' => r = .returned (.tuple #[.string (str d), .int .i64 e]) ∧ w' = w := by
  obtain ⟨A, B, hT, hA, hAl, hB, hBl, hd, he⟩ := h.ex
  have hTl : T.length = A.length + 1 + B.length := by rw [hT]; simp; omega
  have hsz : (str T).size = A.length + 1 + B.length := by rw [str_size, hTl]
  have HA : Hid (∀ k (hk : k < A.length) (h' : k < (str T).size), (str T)[k] = A[k]) := fun k hk h' => by
    rw [str_get T k (by omega)]
    simp only [hT]
    rw [List.getElem_append_left hk]
  have HE : Hid (∀ (h' : A.length < (str T).size), (str T)[A.length] = 101) := fun h' => by
    rw [str_get T _ (by omega)]
    simp only [hT]
    rw [List.getElem_append_right (Nat.le_refl _)]; simp
  have HB : Hid (∀ k (hk : k < B.length) (h' : A.length + 1 + k < (str T).size), (str T)[A.length + 1 + k] = B[k]) := fun k hk h' => by
    rw [str_get T _ (by omega)]
    simp only [hT]
    rw [List.getElem_append_right (by omega)]
    simp [show A.length + 1 + k - A.length = k + 1 from by omega]
  have HX : Hid (∀ k (_ : k < A.length), (str T).extract k (k + 1) = str [A[k]]) := fun k hk => by
    rw [str_one T k (by omega)]
    simp only [hT]
    rw [List.getElem_append_left hk]
  have HNE := hid hA
  have HPB := hid hB
  have HD := hid hd
  have HEE := hid he
  clear hT hTl hA hB hd he h
  obtain ⟨s, hs⟩ : ∃ s, s = str T := ⟨_, rfl⟩
  rw [← hs] at HA HE HB HX hsz ⊢
  clear hs
  go_enter Tryd.func13, Tryd.ntmps13
  go_wp2
  go_loop [4, 5, 6] (fun dd ii bb => ∃ k : Nat, dd = .string (str (keptD A k)) ∧ ii = .int .i64 k ∧ bb = .int .i64 ((keptD A k).length - 1 : Nat) ∧ k ≤ A.length) (fun _ ii _ => A.length - (intOf ii).toNat)
  case atStart => exact ⟨0, rfl, rfl, rfl, Nat.zero_le _⟩
  case round =>
    obtain ⟨k, rfl, rfl, rfl, hk⟩ := hrel
    have hlt : k < s.size := by omega
    have hkl := keptD_len A k hk
    by_cases hka : k < A.length
    · have hc := HA.out k hka hlt
      have hne := HNE.out A[k] (List.getElem_mem hka)
      have t1 : (((s[k].toNat : Nat) : Int) != 101) = true := by
        rw [hc]; simp only [bne_iff_ne, ne_eq]
        intro h0; apply hne; apply UInt8.toNat_inj.1; simp; omega
      have hsd : (str (keptD A k)).size = (keptD A k).length := str_size _
      by_cases hp : A[k] = 46
      · have t2 : (((s[k].toNat : Nat) : Int) != 46) = false := by rw [hc, hp]; rfl
        have HK := hid (keptD_point A k hka hp)
        clear hc hne hp HE HB HX HNE HPB HD HEE
        go_wp2
        go_round
        case rel => exact ⟨k + 1, by rw [HK.out], by go_num, by rw [HK.out], by omega⟩
        case measure => simp [intOf]; omega
      · have t2 : (((s[k].toNat : Nat) : Int) != 46) = true := by
          rw [hc]; simp only [bne_iff_ne, ne_eq]
          intro h0; apply hp; apply UInt8.toNat_inj.1; simp; omega
        have HK := hid (keptD_digit A k hka hp)
        have hX := HX.out k hka
        have hl1 : (str [A[k]]).size = 1 := rfl
        have HJ : Hid (str (keptD A k) ++ str [A[k]] = str (keptD A (k + 1))) := by unfold Hid; rw [HK.out, str_append]
        have hl2 : (keptD A (k + 1)).length = (keptD A k).length + 1 := by rw [HK.out]; simp
        have hJs : (str (keptD A k) ++ str [A[k]]).size = (keptD A k).length + 1 := by rw [HJ.out, str_size, hl2]
        by_cases h0 : (keptD A k).length = 0
        · have t3 : decide ((1 : Int) < (((str (keptD A k) ++ str [A[k]]).size : Nat) : Int)) = false := by rw [hJs]; simp; omega
          clear hc hne hp HE HB HX HNE HPB HD HEE
          go_wp2
          go_round
          case rel => exact ⟨k + 1, by rw [← HJ.out], by go_num, by rw [hl2, h0]; rfl, by omega⟩
          case measure => simp [intOf]; omega
        · have t3 : decide ((1 : Int) < (((str (keptD A k) ++ str [A[k]]).size : Nat) : Int)) = true := by rw [hJs]; simp; omega
          clear hc hne hp HE HB HX HNE HPB HD HEE
          go_wp2
          go_round
          case rel => exact ⟨k + 1, by rw [← HJ.out], by go_num, by rw [hl2, show (keptD A k).length + 1 - 1 = ((keptD A k).length - 1) + 1 from by omega]; go_num, by omega⟩
          case measure => simp [intOf]; omega
    · have hke : k = A.length := by omega
      subst hke
      have t1 : (((s[A.length].toNat : Nat) : Int) != 101) = false := by rw [HE.out hlt]; rfl
      clear hka HA HE HX HNE
      go_wp2
      go_loop [5, 7, 8] (fun ii ee nn => ∃ k : Nat, ii = .int .i64 (A.length + 1 + k : Nat) ∧ ee = .int .i64 (foldE B k).1 ∧ nn = .bool (foldE B k).2 ∧ k ≤ B.length) (fun ii _ _ => A.length + 1 + B.length - (intOf ii).toNat)
      case atStart => exact ⟨0, by go_num, rfl, rfl, Nat.zero_le _⟩
      case round =>
        obtain ⟨k, rfl, rfl, rfl, hk⟩ := hrel
        have hfb := foldE_bd B HPB.out k hk
        have hfb2 : (foldE B k).1 < 100000000 := Nat.lt_of_lt_of_le hfb (by rw [show (100000000 : Nat) = 10 ^ 8 from by decide]; exact Nat.pow_le_pow_right (by omega) (by omega))
        clear hfb
        by_cases hkb : k < B.length
        · have hlt2 : A.length + 1 + k < s.size := by omega
          have hc := HB.out k hkb hlt2
          have HS := hid (foldE_succ B k hkb)
          have hpb := HPB.out B[k] (List.getElem_mem hkb)
          by_cases hm : B[k] = 45
          · have t1 : (((s[A.length + 1 + k].toNat : Nat) : Int) == 45) = true := by rw [hc, hm]; rfl
            have HS2 : Hid (foldE B (k + 1) = ((foldE B k).1, true)) := by
              unfold Hid; rw [HS.out]; unfold stepE; rw [if_pos hm]
            clear hc hpb hm HB HD HEE HS HPB
            go_wp2
            go_round
            case rel => exact ⟨k + 1, by go_num, by rw [HS2.out], by rw [HS2.out], by omega⟩
            case measure => simp [intOf]; omega
          · have hd : 48 ≤ B[k].toNat ∧ B[k].toNat ≤ 57 := by
              rcases hpb with h | h
              · exact absurd h hm
              · exact h
            have t1 : (((s[A.length + 1 + k].toNat : Nat) : Int) == 45) = false := by
              rw [hc]; simp only [beq_eq_false_iff_ne, ne_eq]; omega
            obtain ⟨c, hcc⟩ : ∃ c : Nat, c = B[k].toNat := ⟨_, rfl⟩
            have hc2 : s[A.length + 1 + k].toNat = c := by rw [hc, hcc]
            have hd1 : 48 ≤ (c : Int) := by omega
            have hd2 : (c : Int) ≤ 57 := by omega
            have HS2 : Hid (foldE B (k + 1) = (10 * (foldE B k).1 + (c - 48), (foldE B k).2)) := by
              unfold Hid; rw [HS.out, hcc]; unfold stepE; rw [if_neg hm]
            rw [hc2] at t1
            clear hc hpb hm HB HD HEE HS HPB hd hcc
            go_wp2
            go_round
            case rel => exact ⟨k + 1, by go_num, by rw [HS2.out]; go_num, by rw [HS2.out], by omega⟩
            case measure => simp [intOf]; omega
        · have hke : k = B.length := by omega
          subst hke
          have hl9 := keptD_len A A.length (Nat.le_refl _)
          obtain ⟨E, hE⟩ : ∃ E : Nat, E = (foldE B B.length).1 := ⟨_, rfl⟩
          obtain ⟨Z, hZ⟩ : ∃ Z : Nat, Z = (keptD A A.length).length - 1 := ⟨_, rfl⟩
          have hZ2 : Z ≤ 3000 := by omega
          have HEV : Hid (e = (if (foldE B B.length).2 = true then -(E : Int) else E) - Z) := by
            unfold Hid; rw [HEE.out, hE, hZ]; rfl
          rw [← hE] at hfb2 ⊢
          rw [← hZ]
          cases hb : (foldE B B.length).2 with
          | true =>
            rw [hb, if_pos rfl] at HEV
            clear hkb HB HPB HEE hE hZ hb hl9
            go_wp2
            go_ret2
            exact ⟨by rw [HD.out, HEV.out]; rfl, rfl⟩
          | false =>
            rw [hb, if_neg (by decide)] at HEV
            clear hkb HB HPB HEE hE hZ hb hl9
            go_wp2
            go_ret2
            exact ⟨by rw [HD.out, HEV.out]; rfl, rfl⟩
end Go.Proofs.YtbkdaoicnobllabDoor
