import Derived.Test.YtbkdaoicnobllaaTKeepC

namespace Go.Proofs.Ytbkdaoicnobllaa
open Go.RowKit

set_option maxRecDepth 100000 in
set_option maxHeartbeats 4000000 in
theorem modes_any (cv : Value) (s : ByteArray) (b : Int) (hb : -9223372036854775808 ≤ b ∧ b ≤ 9223372036854775807) (hs : s.size ≤ maxLen) (w : World) :
    Calls Try.prog 15 #[cv, .string s, .int .i64 b] w fun e w' => e = .returned (.bool true) ∧ Below w.heap.size w w' := by
  have HX := hid (form_any b hb w)
  have h3 : pickV b 3 < 3 := Nat.mod_lt _ (by omega)
  obtain ⟨p, hp⟩ : ∃ p : Int, p = (pickV b 3 : Nat) := ⟨_, rfl⟩
  have hpf : 0 ≤ p ∧ p ≤ 2 := by omega
  rw [← hp] at HX
  have HPF := hid hpf
  have HS := hid hs
  clear hp h3 hpf hs
  go_enter Try.func15, Try.ntmps15
  go_wp2_with fail
  refine HX.out.mono ?_
  rintro e w' ⟨rfl, rfl⟩
  clear HX
  have HX3 := hid (parse_any cv s p 3 w')
  go_wp2_with fail
  refine HX3.out.mono ?_
  rintro e w3 ⟨b3, g3, a3, e3, rfl, hb3, hp3⟩
  have HB3 : Hid (Below w'.heap.size w' w3) := hb3
  have HP3 := hid (prog_spec (Nat.le_refl _) hp3)
  clear HX3 hb3 hp3
  have HX4 := hid (parse_any cv s p 4 w3)
  go_wp2_with fail
  refine HX4.out.mono ?_
  rintro e w4 ⟨b4, g4, a4, e4, rfl, hb4, hp4⟩
  have HB4 : Hid (Below w'.heap.size w' w4) := HB3.out.trans (hb4.mono HB3.out.size)
  have HP4 := hid (prog_spec (Nat.le_refl _) hp4)
  clear HX4 hb4 hp4
  obtain ⟨E34, _⟩ := errs_same (by omega) (by omega) HP3.out HP4.out
  subst E34
  by_cases he : e3 = 0
  · subst he
    have HX0 := hid (parse_any cv s p 0 w4)
    go_wp2_with fail
    refine HX0.out.mono ?_
    rintro e w0 ⟨b0, g0, a0, e0, rfl, hb0, hp0⟩
    have HB0 : Hid (Below w'.heap.size w' w0) := HB4.out.trans (hb0.mono HB4.out.size)
    have HP0 := hid (prog_spec (Nat.le_refl _) hp0)
    clear HX0 hb0 hp0
    have HX1 := hid (parse_any cv s p 1 w0)
    go_wp2_with fail
    refine HX1.out.mono ?_
    rintro e w1 ⟨b1, g1, a1, e1, rfl, hb1, hp1⟩
    have HB1 : Hid (Below w'.heap.size w' w1) := HB0.out.trans (hb1.mono HB0.out.size)
    have HP1 := hid (prog_spec (Nat.le_refl _) hp1)
    clear HX1 hb1 hp1
    have HX2 := hid (parse_any cv s p 2 w1)
    go_wp2_with fail
    refine HX2.out.mono ?_
    rintro e w2 ⟨b2, g2, a2, e2, rfl, hb2, hp2⟩
    have HB2 : Hid (Below w'.heap.size w' w2) := HB1.out.trans (hb2.mono HB1.out.size)
    have HP2 := hid (prog_spec (Nat.le_refl _) hp2)
    clear HX2 hb2 hp2
    obtain ⟨E0, _⟩ := errs_same (by omega) (by omega) HP0.out HP3.out
    obtain ⟨E1, _⟩ := errs_same (by omega) (by omega) HP1.out HP3.out
    obtain ⟨E2, _⟩ := errs_same (by omega) (by omega) HP2.out HP3.out
    subst E0 E1 E2
    obtain ⟨hM, hI3, hI4⟩ := modes_pure (by omega) HP0.out HP1.out HP2.out HP3.out HP4.out
    clear HP0 HP1 HP2 HP3 HP4 HB3 HB4 HB0 HB1
    have HX4 := hid (signed_any p b4 HPF.out hI4 w2)
    have HX3 := hid (signed_any p b3 HPF.out hI3 w2)
    clear hI3 hI4
    go_wp2_with fail
    refine HX4.out.mono ?_
    rintro e w'' ⟨rfl, rfl⟩
    go_wp2_with fail
    refine HX3.out.mono ?_
    rintro e w2 ⟨rfl, rfl⟩
    clear HX3 HX4
    obtain ⟨G, hG⟩ : ∃ G, G = w2.heap.size := ⟨_, rfl⟩
    obtain ⟨w6, hw6⟩ : ∃ w6, w6 = w2.alloc (.cells #[.int .i64 g3, .int .i64 g4, .int .i64 g0, .int .i64 g1, .int .i64 g2] 3) := ⟨_, rfl⟩
    have c0 : w6.cell? ⟨G, 0, none⟩ = some (.int .i64 g3) := by rw [hw6, hG]; simp [go_sem]
    have c1 : w6.cell? ⟨G, 1, none⟩ = some (.int .i64 g4) := by rw [hw6, hG]; simp [go_sem]
    have c2 : w6.cell? ⟨G, 2, none⟩ = some (.int .i64 g0) := by rw [hw6, hG]; simp [go_sem]
    have c3 : w6.cell? ⟨G, 3, none⟩ = some (.int .i64 g1) := by rw [hw6, hG]; simp [go_sem]
    have c4 : w6.cell? ⟨G, 4, none⟩ = some (.int .i64 g2) := by rw [hw6, hG]; simp [go_sem]
    have HB6 : Hid (Below w'.heap.size w' w6) := by unfold Hid; rw [hw6]; exact HB2.out.alloc HB2.out.size _
    have HW6 := hid hw6
    have HG := hid hG
    clear hw6 hG HB2
    have az := and_zero
    rcases hM with ⟨x0, x1, x2, x4, y0, y1, y2, y3, y4⟩ | ⟨x4, y0, y1, y2, y3, y4, hS, ⟨hS1, hS2⟩, x0, x1, x2⟩
    · subst x0 x1 x2 x4 y0 y1 y2 y3 y4
      go_wp2_with (rw [← HW6.out, ← HG.out])
      go_wp2
      go_loop [34] (fun nn => ∃ n : Nat, nn = .int .i64 n ∧ n ≤ 5) (fun nn => 5 - (intOf nn).toNat)
      case atStart => exact ⟨0, rfl, by omega⟩
      case round =>
        obtain ⟨n, rfl, hn⟩ := hrel
        rcases (by omega : n = 0 ∨ n = 1 ∨ n = 2 ∨ n = 3 ∨ n = 4 ∨ n = 5) with rfl | rfl | rfl | rfl | rfl | rfl
        · go_wp2
          go_round
          case rel => exact ⟨1, by go_num, by omega⟩
          case measure => simp [intOf]
        · go_wp2
          go_round
          case rel => exact ⟨2, by go_num, by omega⟩
          case measure => simp [intOf]
        · go_wp2
          go_round
          case rel => exact ⟨3, by go_num, by omega⟩
          case measure => simp [intOf]
        · go_wp2
          go_round
          case rel => exact ⟨4, by go_num, by omega⟩
          case measure => simp [intOf]
        · go_wp2
          go_round
          case rel => exact ⟨5, by go_num, by omega⟩
          case measure => simp [intOf]
        · go_wp2
          all_goals (go_ret; exact ⟨rfl, HB6.out⟩)
    · have z0 := and_one g0 y0
      have z1 := and_one g1 y1
      have z2 := and_one g2 y2
      have z3 := and_one g3 y3
      have z4 := and_one g4 y4
      obtain ⟨S3, hS3⟩ : ∃ S3, S3 = signedOf p b3 := ⟨_, rfl⟩
      obtain ⟨S4, hS4⟩ : ∃ S4, S4 = signedOf p b4 := ⟨_, rfl⟩
      rw [← hS3, ← hS4] at hS ⊢
      rw [← hS4] at hS1 hS2
      subst hS
      have t4 : (b4 == b3) = false := by simpa using x4
      have t4' : (b4 != b3) = true := by simpa using x4
      have HX4 := hid x4
      have HX0 := hid x0
      have HX1 := hid x1
      have HX2 := hid x2
      clear y0 y1 y2 y3 y4 hS3 hS4 x4 x0 x1 x2
      go_wp2_with (rw [← HW6.out, ← HG.out])
      go_wp2
      go_loop [34] (fun nn => ∃ n : Nat, nn = .int .i64 n ∧ n ≤ 5) (fun nn => 5 - (intOf nn).toNat)
      case atStart => exact ⟨0, rfl, by omega⟩
      case round =>
        obtain ⟨n, rfl, hn⟩ := hrel
        rcases (by omega : n = 0 ∨ n = 1 ∨ n = 2 ∨ n = 3 ∨ n = 4 ∨ n = 5) with rfl | rfl | rfl | rfl | rfl | rfl
        · go_wp2
          go_round
          case rel => exact ⟨1, by go_num, by omega⟩
          case measure => simp [intOf]
        · go_wp2
          go_round
          case rel => exact ⟨2, by go_num, by omega⟩
          case measure => simp [intOf]
        · go_wp2
          go_round
          case rel => exact ⟨3, by go_num, by omega⟩
          case measure => simp [intOf]
        · go_wp2
          go_round
          case rel => exact ⟨4, by go_num, by omega⟩
          case measure => simp [intOf]
        · go_wp2
          go_round
          case rel => exact ⟨5, by go_num, by omega⟩
          case measure => simp [intOf]
        · rcases HX0.out with h0 | h0
          · subst h0
            rcases HX1.out with h1 | h1
            · subst h1
              by_cases hz : 0 < s.size
              · have HGD := hid (chs_get s 0 hz)
                by_cases h45 : s[0].toNat = 45
                · have tm : (((s[0].toNat : Nat) : Int) == 45) = true := by simp; omega
                  have hn : decide ((chs s).getD 0 0 = 45) = true := by rw [HGD.out]; simpa using h45
                  have hx2 := HX2.out
                  rw [hn, if_pos rfl] at hx2
                  subst hx2
                  clear hn h45 HX2
                  go_wp2
                  all_goals (go_ret; exact ⟨rfl, HB6.out⟩)
                · have tm : (((s[0].toNat : Nat) : Int) == 45) = false := by simp; omega
                  have hn : decide ((chs s).getD 0 0 = 45) = false := by rw [HGD.out]; simpa using h45
                  have hx2 := HX2.out
                  rw [hn, if_neg (by simp)] at hx2
                  subst hx2
                  clear hn h45 HX2
                  go_wp2
                  all_goals (go_ret; exact ⟨rfl, HB6.out⟩)
              · have hn : decide ((chs s).getD 0 0 = 45) = false := by rw [getD_out (by rw [chs_length]; omega)]; rfl
                have hx2 := HX2.out
                rw [hn, if_neg (by simp)] at hx2
                subst hx2
                clear hn HX2
                go_wp2
                all_goals (go_ret; exact ⟨rfl, HB6.out⟩)
            · subst h1
              by_cases hz : 0 < s.size
              · have HGD := hid (chs_get s 0 hz)
                by_cases h45 : s[0].toNat = 45
                · have tm : (((s[0].toNat : Nat) : Int) == 45) = true := by simp; omega
                  have hn : decide ((chs s).getD 0 0 = 45) = true := by rw [HGD.out]; simpa using h45
                  have hx2 := HX2.out
                  rw [hn, if_pos rfl] at hx2
                  subst hx2
                  clear hn h45 HX2
                  go_wp2
                  all_goals (go_ret; exact ⟨rfl, HB6.out⟩)
                · have tm : (((s[0].toNat : Nat) : Int) == 45) = false := by simp; omega
                  have hn : decide ((chs s).getD 0 0 = 45) = false := by rw [HGD.out]; simpa using h45
                  have hx2 := HX2.out
                  rw [hn, if_neg (by simp)] at hx2
                  subst hx2
                  clear hn h45 HX2
                  go_wp2
                  all_goals (go_ret; exact ⟨rfl, HB6.out⟩)
              · have hn : decide ((chs s).getD 0 0 = 45) = false := by rw [getD_out (by rw [chs_length]; omega)]; rfl
                have hx2 := HX2.out
                rw [hn, if_neg (by simp)] at hx2
                subst hx2
                clear hn HX2
                go_wp2
                all_goals (go_ret; exact ⟨rfl, HB6.out⟩)
          · subst h0
            rcases HX1.out with h1 | h1
            · subst h1
              by_cases hz : 0 < s.size
              · have HGD := hid (chs_get s 0 hz)
                by_cases h45 : s[0].toNat = 45
                · have tm : (((s[0].toNat : Nat) : Int) == 45) = true := by simp; omega
                  have hn : decide ((chs s).getD 0 0 = 45) = true := by rw [HGD.out]; simpa using h45
                  have hx2 := HX2.out
                  rw [hn, if_pos rfl] at hx2
                  subst hx2
                  clear hn h45 HX2
                  go_wp2
                  all_goals (go_ret; exact ⟨rfl, HB6.out⟩)
                · have tm : (((s[0].toNat : Nat) : Int) == 45) = false := by simp; omega
                  have hn : decide ((chs s).getD 0 0 = 45) = false := by rw [HGD.out]; simpa using h45
                  have hx2 := HX2.out
                  rw [hn, if_neg (by simp)] at hx2
                  subst hx2
                  clear hn h45 HX2
                  go_wp2
                  all_goals (go_ret; exact ⟨rfl, HB6.out⟩)
              · have hn : decide ((chs s).getD 0 0 = 45) = false := by rw [getD_out (by rw [chs_length]; omega)]; rfl
                have hx2 := HX2.out
                rw [hn, if_neg (by simp)] at hx2
                subst hx2
                clear hn HX2
                go_wp2
                all_goals (go_ret; exact ⟨rfl, HB6.out⟩)
            · subst h1
              by_cases hz : 0 < s.size
              · have HGD := hid (chs_get s 0 hz)
                by_cases h45 : s[0].toNat = 45
                · have tm : (((s[0].toNat : Nat) : Int) == 45) = true := by simp; omega
                  have hn : decide ((chs s).getD 0 0 = 45) = true := by rw [HGD.out]; simpa using h45
                  have hx2 := HX2.out
                  rw [hn, if_pos rfl] at hx2
                  subst hx2
                  clear hn h45 HX2
                  go_wp2
                  all_goals (go_ret; exact ⟨rfl, HB6.out⟩)
                · have tm : (((s[0].toNat : Nat) : Int) == 45) = false := by simp; omega
                  have hn : decide ((chs s).getD 0 0 = 45) = false := by rw [HGD.out]; simpa using h45
                  have hx2 := HX2.out
                  rw [hn, if_neg (by simp)] at hx2
                  subst hx2
                  clear hn h45 HX2
                  go_wp2
                  all_goals (go_ret; exact ⟨rfl, HB6.out⟩)
              · have hn : decide ((chs s).getD 0 0 = 45) = false := by rw [getD_out (by rw [chs_length]; omega)]; rfl
                have hx2 := HX2.out
                rw [hn, if_neg (by simp)] at hx2
                subst hx2
                clear hn HX2
                go_wp2
                all_goals (go_ret; exact ⟨rfl, HB6.out⟩)
  · have t : (e3 == 0) = false := by simpa using he
    have t2 : (e3 != 0) = true := by simpa using he
    clear he
    go_wp2
    all_goals (go_ret; exact ⟨rfl, HB4.out⟩)
end Go.Proofs.Ytbkdaoicnobllaa

namespace Go.Proofs.Ytbkdaoicnobllaa
open Go.RowKit

theorem wf_bd {n : Int} (h : (Lit.int .i64 n).wf = true) : -9223372036854775808 ≤ n ∧ n ≤ 9223372036854775807 := by
  unfold Lit.wf at h
  simp only [Bool.and_eq_true, decide_eq_true_eq] at h
  exact h
set_option maxRecDepth 100000 in
set_option maxHeartbeats 1000000 in
theorem lawModes_any (s : ByteArray) (b : Int) (hb : -9223372036854775808 ≤ b ∧ b ≤ 9223372036854775807) (hs : s.size ≤ maxLen) (w : World) :
    Calls Try.prog 5 #[.string s, .int .i64 b] w fun e w' => e = .returned (.bool true) ∧ Below w.heap.size w w' := by
  have HS := hid hs
  have HBB := hid hb
  clear hs hb
  go_enter Try.func5, Try.ntmps5
  go_wp2_with fail
  refine (new_any w).mono ?_
  rintro e w1 ⟨v, rfl, hb1⟩
  have HB1 := hid hb1
  have HX := hid (kone_any v b HBB.out w1)
  clear hb1
  go_wp2_with fail
  refine HX.out.mono ?_
  rintro e w2 ⟨rfl, hb2⟩
  have HB2 : Hid (Below w.heap.size w w2) := HB1.out.trans (hb2.mono HB1.out.size)
  clear HX hb2 HB1
  by_cases hl : 16384 < s.size
  · have t : decide ((16384 : Int) < (s.size : Int)) = true := by simp; omega
    clear hl
    go_wp2
    all_goals (go_ret; exact ⟨rfl, HB2.out⟩)
  · have t : decide ((16384 : Int) < (s.size : Int)) = false := by simp; omega
    have HX2 := hid (modes_any v s b HBB.out HS.out w2)
    clear hl
    go_wp2_with fail
    refine HX2.out.mono ?_
    rintro e w3 ⟨rfl, hb3⟩
    have HB3 : Hid (Below w.heap.size w w3) := HB2.out.trans (hb3.mono HB2.out.size)
    clear HX2 hb3 HB2
    go_wp2
    all_goals (go_ret; exact ⟨rfl, HB3.out⟩)
end Go.Proofs.Ytbkdaoicnobllaa
