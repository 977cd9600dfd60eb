import Derived.Test.YtbkdaoicnobllaaTLikeB
import Derived.Test.YtbkdaoicnobllaaTKeepG
import Derived.Deep.AppendLies

namespace Go.Proofs.Ytbkdaoicnobllaa
open Go.RowKit

theorem LikeOk.says {S : List Nat} {e f m b g a err b' g' a' err' : Int} (h : LikeOk S e f m b g a err) (h' : LikeOk S e f m b' g' a' err') : decide (b' = b ∧ g' = g ∧ a' = 0 ∧ err' = 0) = true := by
  obtain ⟨_, _, r, h1, h2⟩ := h
  obtain ⟨k1, k2, r', k3, k4⟩ := h'
  obtain ⟨z1, z2⟩ := RoundSpec.one (by decide) k3 h1
  rw [decide_eq_true_eq]
  exact ⟨by rw [k4, h2, z1], z2, k1, k2⟩
theorem says_of {T : ByteArray} {S : List Nat} {e f m v g a o : Int} (h : LikeOk S e f m v g a o) (hT : ∀ b' g' a' err' : Int, ProgSpec 30000 (chs T) f m b' g' a' err' → LikeOk S e f m b' g' a' err') (cv : Value) (wx : World) :
    Calls Try.prog 13 #[cv, .string T, .int .i64 f, .int .i64 m, .int .i64 v, .int .i64 g] wx fun e w' => e = .returned (.bool true) ∧ Below wx.heap.size wx w' := by
  refine (says_any cv T f m v g wx).mono ?_
  rintro r w' ⟨b', g', a', err', hp', rfl, hb'⟩
  have h1 := hT b' g' a' err' (prog_spec (Nat.le_refl _) hp')
  have h2 := LikeOk.says h h1
  exact ⟨by rw [h2], hb'⟩
theorem arr8 (a0 a1 a2 a3 a4 a5 b0 b1 : Value) (z : Array Value) : (#[a0, a1, a2, a3, a4, a5] ++ (#[b0, b1] ++ z))[0]? = some a0 ∧ (#[a0, a1, a2, a3, a4, a5] ++ (#[b0, b1] ++ z))[1]? = some a1 ∧ (#[a0, a1, a2, a3, a4, a5] ++ (#[b0, b1] ++ z))[2]? = some a2 ∧ (#[a0, a1, a2, a3, a4, a5] ++ (#[b0, b1] ++ z))[3]? = some a3 ∧ (#[a0, a1, a2, a3, a4, a5] ++ (#[b0, b1] ++ z))[4]? = some a4 ∧ (#[a0, a1, a2, a3, a4, a5] ++ (#[b0, b1] ++ z))[5]? = some a5 ∧ (#[a0, a1, a2, a3, a4, a5] ++ (#[b0, b1] ++ z))[6]? = some b0 ∧ (#[a0, a1, a2, a3, a4, a5] ++ (#[b0, b1] ++ z))[7]? = some b1 := by
  simp [Array.getElem?_append]
set_option maxRecDepth 100000 in
set_option maxHeartbeats 4000000 in
theorem like_any (cv : Value) (s : ByteArray) (e b mode : Int) (he : -9223372036854775808 ≤ e ∧ e ≤ 9223372036854775807) (hb : -9223372036854775808 ≤ b ∧ b ≤ 9223372036854775807) (hm : -9223372036854775808 ≤ mode ∧ mode ≤ 9223372036854775807) (hs : s.size ≤ maxLen) (w : World) :
    Calls Try.prog 17 #[cv, .string s, .int .i64 e, .int .i64 b, .int .i64 mode] w fun r w' => r = .returned (.bool true) ∧ Below w.heap.size w w' := by
  have HX0 := hid (kdigits_any s hs w)
  have HXf := hid (form_any b hb w)
  have HXe := hid (pick_any e 700 (by omega) (by omega) he w)
  have HXm := hid (pick_any mode 5 (by omega) (by omega) hm w)
  have h3 : pickV b 3 < 3 := Nat.mod_lt _ (by omega)
  have h700 : pickV e 700 < 700 := Nat.mod_lt _ (by omega)
  have h5 : pickV mode 5 < 5 := Nat.mod_lt _ (by omega)
  obtain ⟨p, hp⟩ : ∃ p : Int, p = (pickV b 3 : Nat) := ⟨_, rfl⟩
  obtain ⟨pe, hpe⟩ : ∃ pe : Int, pe = (pickV e 700 : Nat) := ⟨_, rfl⟩
  obtain ⟨M, hM⟩ : ∃ M : Int, M = (pickV mode 5 : Nat) := ⟨_, rfl⟩
  obtain ⟨E, hE⟩ : ∃ E : Int, pe - 350 = E := ⟨_, rfl⟩
  have HV : Hid (0 ≤ p ∧ p ≤ 2 ∧ 0 ≤ M ∧ M ≤ 4) := by unfold Hid; omega
  have hE1 : -350 ≤ E := by omega
  have hE2 : E ≤ 349 := by omega
  rw [← hp] at HXf
  rw [← hpe] at HXe
  rw [← hM] at HXm
  clear hp hpe hM h3 h700 h5 he hb hm
  unfold maxLen at hs
  go_enter Try.func17, Try.ntmps17
  go_wp2_with fail
  refine HX0.out.mono ?_
  rintro r w' ⟨rfl, rfl⟩
  clear HX0
  cases hD : allDig s
  · clear hD
    go_wp2
    all_goals (go_ret; exact ⟨rfl, Below.refl _ _⟩)
  · have HDD : Hid (chs s ≠ [] ∧ AllD (chs s)) := by
      unfold allDig at hD
      rw [decide_eq_true_eq] at hD
      exact hD
    clear hD
    by_cases hl : 300 < s.size
    · have t : decide ((300 : Int) < (s.size : Int)) = true := by simp; omega
      clear hl
      go_wp2
      all_goals (go_ret; exact ⟨rfl, Below.refl _ _⟩)
    · have t : decide ((300 : Int) < (s.size : Int)) = false := by simp; omega
      have hs3 : s.size ≤ 300 := by omega
      clear hl hs
      go_wp2_with fail
      refine HXf.out.mono ?_
      rintro r w1 ⟨rfl, rfl⟩
      go_wp2_with fail
      refine HXe.out.mono ?_
      rintro r w2 ⟨rfl, rfl⟩
      go_wp2_with fail
      refine HXm.out.mono ?_
      rintro r w3 ⟨rfl, rfl⟩
      clear HXf HXe HXm
      have HXn := hid (number_int E (by omega) (by omega) w3)
      go_wp2_with fail
      refine HXn.out.mono ?_
      rintro r w4 ⟨d, rfl, ⟨hd, hds⟩, hb4⟩
      have HB4 := hid hb4
      have HD := hid hd
      clear HXn hb4 hd
      have HXp := hid (parse_any cv (s ++ ⟨#[101]⟩ ++ d) p M w4)
      go_wp2_with fail
      refine HXp.out.mono ?_
      rintro r w5 ⟨v, g, a, o, rfl, hb5, hp5⟩
      have HB5 : Hid (Below w3.heap.size w3 w5) := HB4.out.trans (hb5.mono HB4.out.size)
      have HLK := hid (like_t0 HDD.out.2 HDD.out.1 hs3 hE1 hE2 HD.out hds HV.out (prog_spec (Nat.le_refl _) hp5))
      have ho : o = 0 := HLK.out.2.1
      subst ho
      clear HXp hb5 hp5 HB4
      go_wp2
      go_loop [20] (fun ii => ∃ i : Nat, ii = .int .i64 i ∧ i ≤ s.size) (fun ii => s.size - (intOf ii).toNat)
      case atStart => exact ⟨0, rfl, Nat.zero_le _⟩
      case round =>
        obtain ⟨i, rfl, hi⟩ := hrel
        by_cases hlt : i < s.size
        · have HG := hid (chs_get s i hlt)
          have HMEM := hid (mem_chs hlt)
          by_cases hE0 : 0 ≤ E
          · have te : decide (0 ≤ E) = true := by simpa using hE0
            by_cases h48 : s[i].toNat = 48
            · have t48 : (((s[i].toNat : Nat) : Int) != 48) = false := by simp; omega
              clear h48 hE0
              go_wp2
              go_round
              case rel => exact ⟨i + 1, by go_num, by omega⟩
              case measure => simp [intOf]; omega
            · have t48 : (((s[i].toNat : Nat) : Int) != 48) = true := by simp; omega
              have hv0 : (v == 0) = false := by
                obtain ⟨_, _, r, k1, k2⟩ := HLK.out
                rw [beq_eq_false_iff_ne, k2]
                exact like_pos ⟨HV.out.1, HV.out.2.1⟩ HDD.out.2 hE0 (num_vals_pos HDD.out.2 HMEM.out (by rw [HG.out]; exact h48)) k1
              clear h48 hE0
              go_wp2
              go_round
              case rel => exact ⟨i + 1, by go_num, by omega⟩
              case measure => simp [intOf]; omega
          · have te : decide (0 ≤ E) = false := by simpa using hE0
            clear hE0
            go_wp2
            go_round
            case rel => exact ⟨i + 1, by go_num, by omega⟩
            case measure => simp [intOf]; omega
        · clear hi
          have HXl := hid (number_int (E - 3) (by omega) (by omega) w5)
          go_wp2_with fail
          refine HXl.out.mono ?_
          rintro r w6 ⟨dl, rfl, ⟨hdl, hdls⟩, hb6⟩
          have HB6 : Hid (Below w3.heap.size w3 w6) := HB5.out.trans (hb6.mono HB5.out.size)
          have HDL := hid hdl
          clear HXl hb6 hdl HB5
          have HXq := hid (number_int (E + s.size) (by omega) (by omega) w6)
          go_wp2_with fail
          refine HXq.out.mono ?_
          rintro r w7 ⟨dp, rfl, ⟨hdp, hdps⟩, hb7⟩
          have HB7 : Hid (Below w3.heap.size w3 w7) := HB6.out.trans (hb7.mono HB6.out.size)
          have HDP := hid hdp
          clear HXq hb7 hdp HB6
          by_cases hE0 : 0 ≤ E
          · have te : decide (0 ≤ E) = true := by simpa using hE0
            have HE0 := hid hE0
            clear hE0
            have HS0 : Hid (∀ wx, Calls Try.prog 13 #[cv, .string (⟨#[48, 48, 48]⟩ ++ s ++ ⟨#[101]⟩ ++ d), .int .i64 p, .int .i64 M, .int .i64 v, .int .i64 g] wx fun e w' => e = .returned (.bool true) ∧ Below wx.heap.size wx w') := fun wx => says_of HLK.out (fun _ _ _ _ hq => like_t1 HDD.out.2 HDD.out.1 hs3 hE1 hE2 HD.out hds HV.out hq) cv wx
            have HS1 : Hid (∀ wx, Calls Try.prog 13 #[cv, .string (⟨#[43]⟩ ++ s ++ ⟨#[46, 101]⟩ ++ d), .int .i64 p, .int .i64 M, .int .i64 v, .int .i64 g] wx fun e w' => e = .returned (.bool true) ∧ Below wx.heap.size wx w') := fun wx => says_of HLK.out (fun _ _ _ _ hq => like_t2 HDD.out.2 HDD.out.1 hs3 hE1 hE2 HD.out hds HV.out hq) cv wx
            have HS2 : Hid (∀ wx, Calls Try.prog 13 #[cv, .string (s ++ ⟨#[46, 48, 48, 48, 101]⟩ ++ d), .int .i64 p, .int .i64 M, .int .i64 v, .int .i64 g] wx fun e w' => e = .returned (.bool true) ∧ Below wx.heap.size wx w') := fun wx => says_of HLK.out (fun _ _ _ _ hq => like_t3 HDD.out.2 HDD.out.1 hs3 hE1 hE2 HD.out hds HV.out hq) cv wx
            have HS3 : Hid (∀ wx, Calls Try.prog 13 #[cv, .string (s ++ ⟨#[48, 48, 48, 101]⟩ ++ dl), .int .i64 p, .int .i64 M, .int .i64 v, .int .i64 g] wx fun e w' => e = .returned (.bool true) ∧ Below wx.heap.size wx w') := fun wx => says_of HLK.out (fun _ _ _ _ hq => like_t4 HDD.out.2 HDD.out.1 hs3 hE1 hE2 HDL.out hdls HV.out hq) cv wx
            have HS4 : Hid (∀ wx, Calls Try.prog 13 #[cv, .string (⟨#[46]⟩ ++ s ++ ⟨#[101]⟩ ++ dp), .int .i64 p, .int .i64 M, .int .i64 v, .int .i64 g] wx fun e w' => e = .returned (.bool true) ∧ Below wx.heap.size wx w') := fun wx => says_of HLK.out (fun _ _ _ _ hq => like_t5 HDD.out.2 HDD.out.1 hs3 hE1 hE2 HDP.out hdps HV.out hq) cv wx
            have HS5 : Hid (∀ wx, Calls Try.prog 13 #[cv, .string (⟨#[48, 46]⟩ ++ s ++ ⟨#[48, 48, 48, 101]⟩ ++ dp), .int .i64 p, .int .i64 M, .int .i64 v, .int .i64 g] wx fun e w' => e = .returned (.bool true) ∧ Below wx.heap.size wx w') := fun wx => says_of HLK.out (fun _ _ _ _ hq => like_t6 HDD.out.2 HDD.out.1 hs3 hE1 hE2 HDP.out hdps HV.out hq) cv wx
            have HS6 : Hid (∀ wx, Calls Try.prog 13 #[cv, .string (s ++ ⟨#[101, 43]⟩ ++ d), .int .i64 p, .int .i64 M, .int .i64 v, .int .i64 g] wx fun e w' => e = .returned (.bool true) ∧ Below wx.heap.size wx w') := fun wx => says_of HLK.out (fun _ _ _ _ hq => like_t7 HDD.out.2 HDD.out.1 hs3 hE1 hE2 HD.out hds HV.out HE0.out hq) cv wx
            have HS7 : Hid (∀ wx, Calls Try.prog 13 #[cv, .string (s ++ ⟨#[101, 48, 48]⟩ ++ d), .int .i64 p, .int .i64 M, .int .i64 v, .int .i64 g] wx fun e w' => e = .returned (.bool true) ∧ Below wx.heap.size wx w') := fun wx => says_of HLK.out (fun _ _ _ _ hq => like_t8 HDD.out.2 HDD.out.1 hs3 hE1 hE2 HD.out hds HV.out HE0.out hq) cv wx
            go_wp2_with fail
            go_loopw [24, 25] (fun ii _ wr => ∃ n : Nat, ii = .int .i64 n ∧ n ≤ 8 ∧ Hid (Below w3.heap.size w3 wr) ∧ Hid (wr.cell? ⟨w7.heap.size + 1 + 1, 0, none⟩ = some (.string (⟨#[48, 48, 48]⟩ ++ s ++ ⟨#[101]⟩ ++ d)) ∧ wr.cell? ⟨w7.heap.size + 1 + 1, 1, none⟩ = some (.string (⟨#[43]⟩ ++ s ++ ⟨#[46, 101]⟩ ++ d)) ∧ wr.cell? ⟨w7.heap.size + 1 + 1, 2, none⟩ = some (.string (s ++ ⟨#[46, 48, 48, 48, 101]⟩ ++ d)) ∧ wr.cell? ⟨w7.heap.size + 1 + 1, 3, none⟩ = some (.string (s ++ ⟨#[48, 48, 48, 101]⟩ ++ dl)) ∧ wr.cell? ⟨w7.heap.size + 1 + 1, 4, none⟩ = some (.string (⟨#[46]⟩ ++ s ++ ⟨#[101]⟩ ++ dp)) ∧ wr.cell? ⟨w7.heap.size + 1 + 1, 5, none⟩ = some (.string (⟨#[48, 46]⟩ ++ s ++ ⟨#[48, 48, 48, 101]⟩ ++ dp)) ∧ wr.cell? ⟨w7.heap.size + 1 + 1, 6, none⟩ = some (.string (s ++ ⟨#[101, 43]⟩ ++ d)) ∧ wr.cell? ⟨w7.heap.size + 1 + 1, 7, none⟩ = some (.string (s ++ ⟨#[101, 48, 48]⟩ ++ d)))) (fun ii _ _ => 8 - (intOf ii).toNat)
            case atStart =>
              refine ⟨0, rfl, by omega, ((((HB7.out.alloc HB7.out.size _).alloc (by have := HB7.out.size; simp; omega) _).alloc (by have := HB7.out.size; simp; omega) _).drew), ?_⟩
              unfold Hid
              refine ⟨?_, ?_, ?_, ?_, ?_, ?_, ?_, ?_⟩ <;> (simp [go_sem]; first | exact (arr8 _ _ _ _ _ _ _ _ _).1 | exact (arr8 _ _ _ _ _ _ _ _ _).2.1 | exact (arr8 _ _ _ _ _ _ _ _ _).2.2.1 | exact (arr8 _ _ _ _ _ _ _ _ _).2.2.2.1 | exact (arr8 _ _ _ _ _ _ _ _ _).2.2.2.2.1 | exact (arr8 _ _ _ _ _ _ _ _ _).2.2.2.2.2.1 | exact (arr8 _ _ _ _ _ _ _ _ _).2.2.2.2.2.2.1 | exact (arr8 _ _ _ _ _ _ _ _ _).2.2.2.2.2.2.2)
            case round =>
              obtain ⟨n, rfl, hn, HBr, HC⟩ := hrel
              have hC := HC.out
              obtain ⟨c0, c1, c2, c3, c4, c5, c6, c7⟩ := hC
              rcases (by omega : n = 0 ∨ n = 1 ∨ n = 2 ∨ n = 3 ∨ n = 4 ∨ n = 5 ∨ n = 6 ∨ n = 7 ∨ n = 8) with rfl | rfl | rfl | rfl | rfl | rfl | rfl | rfl | rfl
              · clear c1 c2 c3 c4 c5 c6 c7
                go_wp2_with fail
                refine (HS0.out _).mono ?_
                rintro r w8 ⟨rfl, hbs⟩
                have HB8 : Hid (Below w3.heap.size w3 w8) := HBr.out.trans (hbs.mono HBr.out.size)
                have HC8 : Hid (w8.cell? ⟨w7.heap.size + 1 + 1, 0, none⟩ = some (.string (⟨#[48, 48, 48]⟩ ++ s ++ ⟨#[101]⟩ ++ d)) ∧ w8.cell? ⟨w7.heap.size + 1 + 1, 1, none⟩ = some (.string (⟨#[43]⟩ ++ s ++ ⟨#[46, 101]⟩ ++ d)) ∧ w8.cell? ⟨w7.heap.size + 1 + 1, 2, none⟩ = some (.string (s ++ ⟨#[46, 48, 48, 48, 101]⟩ ++ d)) ∧ w8.cell? ⟨w7.heap.size + 1 + 1, 3, none⟩ = some (.string (s ++ ⟨#[48, 48, 48, 101]⟩ ++ dl)) ∧ w8.cell? ⟨w7.heap.size + 1 + 1, 4, none⟩ = some (.string (⟨#[46]⟩ ++ s ++ ⟨#[101]⟩ ++ dp)) ∧ w8.cell? ⟨w7.heap.size + 1 + 1, 5, none⟩ = some (.string (⟨#[48, 46]⟩ ++ s ++ ⟨#[48, 48, 48, 101]⟩ ++ dp)) ∧ w8.cell? ⟨w7.heap.size + 1 + 1, 6, none⟩ = some (.string (s ++ ⟨#[101, 43]⟩ ++ d)) ∧ w8.cell? ⟨w7.heap.size + 1 + 1, 7, none⟩ = some (.string (s ++ ⟨#[101, 48, 48]⟩ ++ d))) := ⟨keep_cell' hbs HC.out.1, keep_cell' hbs HC.out.2.1, keep_cell' hbs HC.out.2.2.1, keep_cell' hbs HC.out.2.2.2.1, keep_cell' hbs HC.out.2.2.2.2.1, keep_cell' hbs HC.out.2.2.2.2.2.1, keep_cell' hbs HC.out.2.2.2.2.2.2.1, keep_cell' hbs HC.out.2.2.2.2.2.2.2⟩
                clear hbs HBr HC c0
                go_wp2
                go_roundw
                case rel => exact ⟨1, by go_num, by omega, HB8.out, HC8.out⟩
                case measure => simp [intOf]
              · clear c0 c2 c3 c4 c5 c6 c7
                go_wp2_with fail
                refine (HS1.out _).mono ?_
                rintro r w8 ⟨rfl, hbs⟩
                have HB8 : Hid (Below w3.heap.size w3 w8) := HBr.out.trans (hbs.mono HBr.out.size)
                have HC8 : Hid (w8.cell? ⟨w7.heap.size + 1 + 1, 0, none⟩ = some (.string (⟨#[48, 48, 48]⟩ ++ s ++ ⟨#[101]⟩ ++ d)) ∧ w8.cell? ⟨w7.heap.size + 1 + 1, 1, none⟩ = some (.string (⟨#[43]⟩ ++ s ++ ⟨#[46, 101]⟩ ++ d)) ∧ w8.cell? ⟨w7.heap.size + 1 + 1, 2, none⟩ = some (.string (s ++ ⟨#[46, 48, 48, 48, 101]⟩ ++ d)) ∧ w8.cell? ⟨w7.heap.size + 1 + 1, 3, none⟩ = some (.string (s ++ ⟨#[48, 48, 48, 101]⟩ ++ dl)) ∧ w8.cell? ⟨w7.heap.size + 1 + 1, 4, none⟩ = some (.string (⟨#[46]⟩ ++ s ++ ⟨#[101]⟩ ++ dp)) ∧ w8.cell? ⟨w7.heap.size + 1 + 1, 5, none⟩ = some (.string (⟨#[48, 46]⟩ ++ s ++ ⟨#[48, 48, 48, 101]⟩ ++ dp)) ∧ w8.cell? ⟨w7.heap.size + 1 + 1, 6, none⟩ = some (.string (s ++ ⟨#[101, 43]⟩ ++ d)) ∧ w8.cell? ⟨w7.heap.size + 1 + 1, 7, none⟩ = some (.string (s ++ ⟨#[101, 48, 48]⟩ ++ d))) := ⟨keep_cell' hbs HC.out.1, keep_cell' hbs HC.out.2.1, keep_cell' hbs HC.out.2.2.1, keep_cell' hbs HC.out.2.2.2.1, keep_cell' hbs HC.out.2.2.2.2.1, keep_cell' hbs HC.out.2.2.2.2.2.1, keep_cell' hbs HC.out.2.2.2.2.2.2.1, keep_cell' hbs HC.out.2.2.2.2.2.2.2⟩
                clear hbs HBr HC c1
                go_wp2
                go_roundw
                case rel => exact ⟨2, by go_num, by omega, HB8.out, HC8.out⟩
                case measure => simp [intOf]
              · clear c0 c1 c3 c4 c5 c6 c7
                go_wp2_with fail
                refine (HS2.out _).mono ?_
                rintro r w8 ⟨rfl, hbs⟩
                have HB8 : Hid (Below w3.heap.size w3 w8) := HBr.out.trans (hbs.mono HBr.out.size)
                have HC8 : Hid (w8.cell? ⟨w7.heap.size + 1 + 1, 0, none⟩ = some (.string (⟨#[48, 48, 48]⟩ ++ s ++ ⟨#[101]⟩ ++ d)) ∧ w8.cell? ⟨w7.heap.size + 1 + 1, 1, none⟩ = some (.string (⟨#[43]⟩ ++ s ++ ⟨#[46, 101]⟩ ++ d)) ∧ w8.cell? ⟨w7.heap.size + 1 + 1, 2, none⟩ = some (.string (s ++ ⟨#[46, 48, 48, 48, 101]⟩ ++ d)) ∧ w8.cell? ⟨w7.heap.size + 1 + 1, 3, none⟩ = some (.string (s ++ ⟨#[48, 48, 48, 101]⟩ ++ dl)) ∧ w8.cell? ⟨w7.heap.size + 1 + 1, 4, none⟩ = some (.string (⟨#[46]⟩ ++ s ++ ⟨#[101]⟩ ++ dp)) ∧ w8.cell? ⟨w7.heap.size + 1 + 1, 5, none⟩ = some (.string (⟨#[48, 46]⟩ ++ s ++ ⟨#[48, 48, 48, 101]⟩ ++ dp)) ∧ w8.cell? ⟨w7.heap.size + 1 + 1, 6, none⟩ = some (.string (s ++ ⟨#[101, 43]⟩ ++ d)) ∧ w8.cell? ⟨w7.heap.size + 1 + 1, 7, none⟩ = some (.string (s ++ ⟨#[101, 48, 48]⟩ ++ d))) := ⟨keep_cell' hbs HC.out.1, keep_cell' hbs HC.out.2.1, keep_cell' hbs HC.out.2.2.1, keep_cell' hbs HC.out.2.2.2.1, keep_cell' hbs HC.out.2.2.2.2.1, keep_cell' hbs HC.out.2.2.2.2.2.1, keep_cell' hbs HC.out.2.2.2.2.2.2.1, keep_cell' hbs HC.out.2.2.2.2.2.2.2⟩
                clear hbs HBr HC c2
                go_wp2
                go_roundw
                case rel => exact ⟨3, by go_num, by omega, HB8.out, HC8.out⟩
                case measure => simp [intOf]
              · clear c0 c1 c2 c4 c5 c6 c7
                go_wp2_with fail
                refine (HS3.out _).mono ?_
                rintro r w8 ⟨rfl, hbs⟩
                have HB8 : Hid (Below w3.heap.size w3 w8) := HBr.out.trans (hbs.mono HBr.out.size)
                have HC8 : Hid (w8.cell? ⟨w7.heap.size + 1 + 1, 0, none⟩ = some (.string (⟨#[48, 48, 48]⟩ ++ s ++ ⟨#[101]⟩ ++ d)) ∧ w8.cell? ⟨w7.heap.size + 1 + 1, 1, none⟩ = some (.string (⟨#[43]⟩ ++ s ++ ⟨#[46, 101]⟩ ++ d)) ∧ w8.cell? ⟨w7.heap.size + 1 + 1, 2, none⟩ = some (.string (s ++ ⟨#[46, 48, 48, 48, 101]⟩ ++ d)) ∧ w8.cell? ⟨w7.heap.size + 1 + 1, 3, none⟩ = some (.string (s ++ ⟨#[48, 48, 48, 101]⟩ ++ dl)) ∧ w8.cell? ⟨w7.heap.size + 1 + 1, 4, none⟩ = some (.string (⟨#[46]⟩ ++ s ++ ⟨#[101]⟩ ++ dp)) ∧ w8.cell? ⟨w7.heap.size + 1 + 1, 5, none⟩ = some (.string (⟨#[48, 46]⟩ ++ s ++ ⟨#[48, 48, 48, 101]⟩ ++ dp)) ∧ w8.cell? ⟨w7.heap.size + 1 + 1, 6, none⟩ = some (.string (s ++ ⟨#[101, 43]⟩ ++ d)) ∧ w8.cell? ⟨w7.heap.size + 1 + 1, 7, none⟩ = some (.string (s ++ ⟨#[101, 48, 48]⟩ ++ d))) := ⟨keep_cell' hbs HC.out.1, keep_cell' hbs HC.out.2.1, keep_cell' hbs HC.out.2.2.1, keep_cell' hbs HC.out.2.2.2.1, keep_cell' hbs HC.out.2.2.2.2.1, keep_cell' hbs HC.out.2.2.2.2.2.1, keep_cell' hbs HC.out.2.2.2.2.2.2.1, keep_cell' hbs HC.out.2.2.2.2.2.2.2⟩
                clear hbs HBr HC c3
                go_wp2
                go_roundw
                case rel => exact ⟨4, by go_num, by omega, HB8.out, HC8.out⟩
                case measure => simp [intOf]
              · clear c0 c1 c2 c3 c5 c6 c7
                go_wp2_with fail
                refine (HS4.out _).mono ?_
                rintro r w8 ⟨rfl, hbs⟩
                have HB8 : Hid (Below w3.heap.size w3 w8) := HBr.out.trans (hbs.mono HBr.out.size)
                have HC8 : Hid (w8.cell? ⟨w7.heap.size + 1 + 1, 0, none⟩ = some (.string (⟨#[48, 48, 48]⟩ ++ s ++ ⟨#[101]⟩ ++ d)) ∧ w8.cell? ⟨w7.heap.size + 1 + 1, 1, none⟩ = some (.string (⟨#[43]⟩ ++ s ++ ⟨#[46, 101]⟩ ++ d)) ∧ w8.cell? ⟨w7.heap.size + 1 + 1, 2, none⟩ = some (.string (s ++ ⟨#[46, 48, 48, 48, 101]⟩ ++ d)) ∧ w8.cell? ⟨w7.heap.size + 1 + 1, 3, none⟩ = some (.string (s ++ ⟨#[48, 48, 48, 101]⟩ ++ dl)) ∧ w8.cell? ⟨w7.heap.size + 1 + 1, 4, none⟩ = some (.string (⟨#[46]⟩ ++ s ++ ⟨#[101]⟩ ++ dp)) ∧ w8.cell? ⟨w7.heap.size + 1 + 1, 5, none⟩ = some (.string (⟨#[48, 46]⟩ ++ s ++ ⟨#[48, 48, 48, 101]⟩ ++ dp)) ∧ w8.cell? ⟨w7.heap.size + 1 + 1, 6, none⟩ = some (.string (s ++ ⟨#[101, 43]⟩ ++ d)) ∧ w8.cell? ⟨w7.heap.size + 1 + 1, 7, none⟩ = some (.string (s ++ ⟨#[101, 48, 48]⟩ ++ d))) := ⟨keep_cell' hbs HC.out.1, keep_cell' hbs HC.out.2.1, keep_cell' hbs HC.out.2.2.1, keep_cell' hbs HC.out.2.2.2.1, keep_cell' hbs HC.out.2.2.2.2.1, keep_cell' hbs HC.out.2.2.2.2.2.1, keep_cell' hbs HC.out.2.2.2.2.2.2.1, keep_cell' hbs HC.out.2.2.2.2.2.2.2⟩
                clear hbs HBr HC c4
                go_wp2
                go_roundw
                case rel => exact ⟨5, by go_num, by omega, HB8.out, HC8.out⟩
                case measure => simp [intOf]
              · clear c0 c1 c2 c3 c4 c6 c7
                go_wp2_with fail
                refine (HS5.out _).mono ?_
                rintro r w8 ⟨rfl, hbs⟩
                have HB8 : Hid (Below w3.heap.size w3 w8) := HBr.out.trans (hbs.mono HBr.out.size)
                have HC8 : Hid (w8.cell? ⟨w7.heap.size + 1 + 1, 0, none⟩ = some (.string (⟨#[48, 48, 48]⟩ ++ s ++ ⟨#[101]⟩ ++ d)) ∧ w8.cell? ⟨w7.heap.size + 1 + 1, 1, none⟩ = some (.string (⟨#[43]⟩ ++ s ++ ⟨#[46, 101]⟩ ++ d)) ∧ w8.cell? ⟨w7.heap.size + 1 + 1, 2, none⟩ = some (.string (s ++ ⟨#[46, 48, 48, 48, 101]⟩ ++ d)) ∧ w8.cell? ⟨w7.heap.size + 1 + 1, 3, none⟩ = some (.string (s ++ ⟨#[48, 48, 48, 101]⟩ ++ dl)) ∧ w8.cell? ⟨w7.heap.size + 1 + 1, 4, none⟩ = some (.string (⟨#[46]⟩ ++ s ++ ⟨#[101]⟩ ++ dp)) ∧ w8.cell? ⟨w7.heap.size + 1 + 1, 5, none⟩ = some (.string (⟨#[48, 46]⟩ ++ s ++ ⟨#[48, 48, 48, 101]⟩ ++ dp)) ∧ w8.cell? ⟨w7.heap.size + 1 + 1, 6, none⟩ = some (.string (s ++ ⟨#[101, 43]⟩ ++ d)) ∧ w8.cell? ⟨w7.heap.size + 1 + 1, 7, none⟩ = some (.string (s ++ ⟨#[101, 48, 48]⟩ ++ d))) := ⟨keep_cell' hbs HC.out.1, keep_cell' hbs HC.out.2.1, keep_cell' hbs HC.out.2.2.1, keep_cell' hbs HC.out.2.2.2.1, keep_cell' hbs HC.out.2.2.2.2.1, keep_cell' hbs HC.out.2.2.2.2.2.1, keep_cell' hbs HC.out.2.2.2.2.2.2.1, keep_cell' hbs HC.out.2.2.2.2.2.2.2⟩
                clear hbs HBr HC c5
                go_wp2
                go_roundw
                case rel => exact ⟨6, by go_num, by omega, HB8.out, HC8.out⟩
                case measure => simp [intOf]
              · clear c0 c1 c2 c3 c4 c5 c7
                go_wp2_with fail
                refine (HS6.out _).mono ?_
                rintro r w8 ⟨rfl, hbs⟩
                have HB8 : Hid (Below w3.heap.size w3 w8) := HBr.out.trans (hbs.mono HBr.out.size)
                have HC8 : Hid (w8.cell? ⟨w7.heap.size + 1 + 1, 0, none⟩ = some (.string (⟨#[48, 48, 48]⟩ ++ s ++ ⟨#[101]⟩ ++ d)) ∧ w8.cell? ⟨w7.heap.size + 1 + 1, 1, none⟩ = some (.string (⟨#[43]⟩ ++ s ++ ⟨#[46, 101]⟩ ++ d)) ∧ w8.cell? ⟨w7.heap.size + 1 + 1, 2, none⟩ = some (.string (s ++ ⟨#[46, 48, 48, 48, 101]⟩ ++ d)) ∧ w8.cell? ⟨w7.heap.size + 1 + 1, 3, none⟩ = some (.string (s ++ ⟨#[48, 48, 48, 101]⟩ ++ dl)) ∧ w8.cell? ⟨w7.heap.size + 1 + 1, 4, none⟩ = some (.string (⟨#[46]⟩ ++ s ++ ⟨#[101]⟩ ++ dp)) ∧ w8.cell? ⟨w7.heap.size + 1 + 1, 5, none⟩ = some (.string (⟨#[48, 46]⟩ ++ s ++ ⟨#[48, 48, 48, 101]⟩ ++ dp)) ∧ w8.cell? ⟨w7.heap.size + 1 + 1, 6, none⟩ = some (.string (s ++ ⟨#[101, 43]⟩ ++ d)) ∧ w8.cell? ⟨w7.heap.size + 1 + 1, 7, none⟩ = some (.string (s ++ ⟨#[101, 48, 48]⟩ ++ d))) := ⟨keep_cell' hbs HC.out.1, keep_cell' hbs HC.out.2.1, keep_cell' hbs HC.out.2.2.1, keep_cell' hbs HC.out.2.2.2.1, keep_cell' hbs HC.out.2.2.2.2.1, keep_cell' hbs HC.out.2.2.2.2.2.1, keep_cell' hbs HC.out.2.2.2.2.2.2.1, keep_cell' hbs HC.out.2.2.2.2.2.2.2⟩
                clear hbs HBr HC c6
                go_wp2
                go_roundw
                case rel => exact ⟨7, by go_num, by omega, HB8.out, HC8.out⟩
                case measure => simp [intOf]
              · clear c0 c1 c2 c3 c4 c5 c6
                go_wp2_with fail
                refine (HS7.out _).mono ?_
                rintro r w8 ⟨rfl, hbs⟩
                have HB8 : Hid (Below w3.heap.size w3 w8) := HBr.out.trans (hbs.mono HBr.out.size)
                have HC8 : Hid (w8.cell? ⟨w7.heap.size + 1 + 1, 0, none⟩ = some (.string (⟨#[48, 48, 48]⟩ ++ s ++ ⟨#[101]⟩ ++ d)) ∧ w8.cell? ⟨w7.heap.size + 1 + 1, 1, none⟩ = some (.string (⟨#[43]⟩ ++ s ++ ⟨#[46, 101]⟩ ++ d)) ∧ w8.cell? ⟨w7.heap.size + 1 + 1, 2, none⟩ = some (.string (s ++ ⟨#[46, 48, 48, 48, 101]⟩ ++ d)) ∧ w8.cell? ⟨w7.heap.size + 1 + 1, 3, none⟩ = some (.string (s ++ ⟨#[48, 48, 48, 101]⟩ ++ dl)) ∧ w8.cell? ⟨w7.heap.size + 1 + 1, 4, none⟩ = some (.string (⟨#[46]⟩ ++ s ++ ⟨#[101]⟩ ++ dp)) ∧ w8.cell? ⟨w7.heap.size + 1 + 1, 5, none⟩ = some (.string (⟨#[48, 46]⟩ ++ s ++ ⟨#[48, 48, 48, 101]⟩ ++ dp)) ∧ w8.cell? ⟨w7.heap.size + 1 + 1, 6, none⟩ = some (.string (s ++ ⟨#[101, 43]⟩ ++ d)) ∧ w8.cell? ⟨w7.heap.size + 1 + 1, 7, none⟩ = some (.string (s ++ ⟨#[101, 48, 48]⟩ ++ d))) := ⟨keep_cell' hbs HC.out.1, keep_cell' hbs HC.out.2.1, keep_cell' hbs HC.out.2.2.1, keep_cell' hbs HC.out.2.2.2.1, keep_cell' hbs HC.out.2.2.2.2.1, keep_cell' hbs HC.out.2.2.2.2.2.1, keep_cell' hbs HC.out.2.2.2.2.2.2.1, keep_cell' hbs HC.out.2.2.2.2.2.2.2⟩
                clear hbs HBr HC c7
                go_wp2
                go_roundw
                case rel => exact ⟨8, by go_num, by omega, HB8.out, HC8.out⟩
                case measure => simp [intOf]
              · clear c0 c1 c2 c3 c4 c5 c6 c7
                go_wp2
                all_goals (go_ret; exact ⟨rfl, HBr.out⟩)
          · have te : decide (0 ≤ E) = false := by simpa using hE0
            clear hE0
            have HS0 : Hid (∀ wx, Calls Try.prog 13 #[cv, .string (⟨#[48, 48, 48]⟩ ++ s ++ ⟨#[101]⟩ ++ d), .int .i64 p, .int .i64 M, .int .i64 v, .int .i64 g] wx fun e w' => e = .returned (.bool true) ∧ Below wx.heap.size wx w') := fun wx => says_of HLK.out (fun _ _ _ _ hq => like_t1 HDD.out.2 HDD.out.1 hs3 hE1 hE2 HD.out hds HV.out hq) cv wx
            have HS1 : Hid (∀ wx, Calls Try.prog 13 #[cv, .string (⟨#[43]⟩ ++ s ++ ⟨#[46, 101]⟩ ++ d), .int .i64 p, .int .i64 M, .int .i64 v, .int .i64 g] wx fun e w' => e = .returned (.bool true) ∧ Below wx.heap.size wx w') := fun wx => says_of HLK.out (fun _ _ _ _ hq => like_t2 HDD.out.2 HDD.out.1 hs3 hE1 hE2 HD.out hds HV.out hq) cv wx
            have HS2 : Hid (∀ wx, Calls Try.prog 13 #[cv, .string (s ++ ⟨#[46, 48, 48, 48, 101]⟩ ++ d), .int .i64 p, .int .i64 M, .int .i64 v, .int .i64 g] wx fun e w' => e = .returned (.bool true) ∧ Below wx.heap.size wx w') := fun wx => says_of HLK.out (fun _ _ _ _ hq => like_t3 HDD.out.2 HDD.out.1 hs3 hE1 hE2 HD.out hds HV.out hq) cv wx
            have HS3 : Hid (∀ wx, Calls Try.prog 13 #[cv, .string (s ++ ⟨#[48, 48, 48, 101]⟩ ++ dl), .int .i64 p, .int .i64 M, .int .i64 v, .int .i64 g] wx fun e w' => e = .returned (.bool true) ∧ Below wx.heap.size wx w') := fun wx => says_of HLK.out (fun _ _ _ _ hq => like_t4 HDD.out.2 HDD.out.1 hs3 hE1 hE2 HDL.out hdls HV.out hq) cv wx
            have HS4 : Hid (∀ wx, Calls Try.prog 13 #[cv, .string (⟨#[46]⟩ ++ s ++ ⟨#[101]⟩ ++ dp), .int .i64 p, .int .i64 M, .int .i64 v, .int .i64 g] wx fun e w' => e = .returned (.bool true) ∧ Below wx.heap.size wx w') := fun wx => says_of HLK.out (fun _ _ _ _ hq => like_t5 HDD.out.2 HDD.out.1 hs3 hE1 hE2 HDP.out hdps HV.out hq) cv wx
            have HS5 : Hid (∀ wx, Calls Try.prog 13 #[cv, .string (⟨#[48, 46]⟩ ++ s ++ ⟨#[48, 48, 48, 101]⟩ ++ dp), .int .i64 p, .int .i64 M, .int .i64 v, .int .i64 g] wx fun e w' => e = .returned (.bool true) ∧ Below wx.heap.size wx w') := fun wx => says_of HLK.out (fun _ _ _ _ hq => like_t6 HDD.out.2 HDD.out.1 hs3 hE1 hE2 HDP.out hdps HV.out hq) cv wx
            go_wp2_with fail
            go_loopw [24, 25] (fun ii _ wr => ∃ n : Nat, ii = .int .i64 n ∧ n ≤ 6 ∧ Hid (Below w3.heap.size w3 wr) ∧ Hid (wr.cell? ⟨w7.heap.size, 0, none⟩ = some (.string (⟨#[48, 48, 48]⟩ ++ s ++ ⟨#[101]⟩ ++ d)) ∧ wr.cell? ⟨w7.heap.size, 1, none⟩ = some (.string (⟨#[43]⟩ ++ s ++ ⟨#[46, 101]⟩ ++ d)) ∧ wr.cell? ⟨w7.heap.size, 2, none⟩ = some (.string (s ++ ⟨#[46, 48, 48, 48, 101]⟩ ++ d)) ∧ wr.cell? ⟨w7.heap.size, 3, none⟩ = some (.string (s ++ ⟨#[48, 48, 48, 101]⟩ ++ dl)) ∧ wr.cell? ⟨w7.heap.size, 4, none⟩ = some (.string (⟨#[46]⟩ ++ s ++ ⟨#[101]⟩ ++ dp)) ∧ wr.cell? ⟨w7.heap.size, 5, none⟩ = some (.string (⟨#[48, 46]⟩ ++ s ++ ⟨#[48, 48, 48, 101]⟩ ++ dp)))) (fun ii _ _ => 6 - (intOf ii).toNat)
            case atStart =>
              refine ⟨0, rfl, by omega, HB7.out.alloc HB7.out.size _, ?_⟩
              unfold Hid
              refine ⟨?_, ?_, ?_, ?_, ?_, ?_⟩ <;> simp [go_sem]
            case round =>
              obtain ⟨n, rfl, hn, HBr, HC⟩ := hrel
              have hC := HC.out
              obtain ⟨c0, c1, c2, c3, c4, c5⟩ := hC
              rcases (by omega : n = 0 ∨ n = 1 ∨ n = 2 ∨ n = 3 ∨ n = 4 ∨ n = 5 ∨ n = 6) with rfl | rfl | rfl | rfl | rfl | rfl | rfl
              · clear c1 c2 c3 c4 c5
                go_wp2_with fail
                refine (HS0.out _).mono ?_
                rintro r w8 ⟨rfl, hbs⟩
                have HB8 : Hid (Below w3.heap.size w3 w8) := HBr.out.trans (hbs.mono HBr.out.size)
                have HC8 : Hid (w8.cell? ⟨w7.heap.size, 0, none⟩ = some (.string (⟨#[48, 48, 48]⟩ ++ s ++ ⟨#[101]⟩ ++ d)) ∧ w8.cell? ⟨w7.heap.size, 1, none⟩ = some (.string (⟨#[43]⟩ ++ s ++ ⟨#[46, 101]⟩ ++ d)) ∧ w8.cell? ⟨w7.heap.size, 2, none⟩ = some (.string (s ++ ⟨#[46, 48, 48, 48, 101]⟩ ++ d)) ∧ w8.cell? ⟨w7.heap.size, 3, none⟩ = some (.string (s ++ ⟨#[48, 48, 48, 101]⟩ ++ dl)) ∧ w8.cell? ⟨w7.heap.size, 4, none⟩ = some (.string (⟨#[46]⟩ ++ s ++ ⟨#[101]⟩ ++ dp)) ∧ w8.cell? ⟨w7.heap.size, 5, none⟩ = some (.string (⟨#[48, 46]⟩ ++ s ++ ⟨#[48, 48, 48, 101]⟩ ++ dp))) := ⟨keep_cell' hbs HC.out.1, keep_cell' hbs HC.out.2.1, keep_cell' hbs HC.out.2.2.1, keep_cell' hbs HC.out.2.2.2.1, keep_cell' hbs HC.out.2.2.2.2.1, keep_cell' hbs HC.out.2.2.2.2.2⟩
                clear hbs HBr HC c0
                go_wp2
                go_roundw
                case rel => exact ⟨1, by go_num, by omega, HB8.out, HC8.out⟩
                case measure => simp [intOf]
              · clear c0 c2 c3 c4 c5
                go_wp2_with fail
                refine (HS1.out _).mono ?_
                rintro r w8 ⟨rfl, hbs⟩
                have HB8 : Hid (Below w3.heap.size w3 w8) := HBr.out.trans (hbs.mono HBr.out.size)
                have HC8 : Hid (w8.cell? ⟨w7.heap.size, 0, none⟩ = some (.string (⟨#[48, 48, 48]⟩ ++ s ++ ⟨#[101]⟩ ++ d)) ∧ w8.cell? ⟨w7.heap.size, 1, none⟩ = some (.string (⟨#[43]⟩ ++ s ++ ⟨#[46, 101]⟩ ++ d)) ∧ w8.cell? ⟨w7.heap.size, 2, none⟩ = some (.string (s ++ ⟨#[46, 48, 48, 48, 101]⟩ ++ d)) ∧ w8.cell? ⟨w7.heap.size, 3, none⟩ = some (.string (s ++ ⟨#[48, 48, 48, 101]⟩ ++ dl)) ∧ w8.cell? ⟨w7.heap.size, 4, none⟩ = some (.string (⟨#[46]⟩ ++ s ++ ⟨#[101]⟩ ++ dp)) ∧ w8.cell? ⟨w7.heap.size, 5, none⟩ = some (.string (⟨#[48, 46]⟩ ++ s ++ ⟨#[48, 48, 48, 101]⟩ ++ dp))) := ⟨keep_cell' hbs HC.out.1, keep_cell' hbs HC.out.2.1, keep_cell' hbs HC.out.2.2.1, keep_cell' hbs HC.out.2.2.2.1, keep_cell' hbs HC.out.2.2.2.2.1, keep_cell' hbs HC.out.2.2.2.2.2⟩
                clear hbs HBr HC c1
                go_wp2
                go_roundw
                case rel => exact ⟨2, by go_num, by omega, HB8.out, HC8.out⟩
                case measure => simp [intOf]
              · clear c0 c1 c3 c4 c5
                go_wp2_with fail
                refine (HS2.out _).mono ?_
                rintro r w8 ⟨rfl, hbs⟩
                have HB8 : Hid (Below w3.heap.size w3 w8) := HBr.out.trans (hbs.mono HBr.out.size)
                have HC8 : Hid (w8.cell? ⟨w7.heap.size, 0, none⟩ = some (.string (⟨#[48, 48, 48]⟩ ++ s ++ ⟨#[101]⟩ ++ d)) ∧ w8.cell? ⟨w7.heap.size, 1, none⟩ = some (.string (⟨#[43]⟩ ++ s ++ ⟨#[46, 101]⟩ ++ d)) ∧ w8.cell? ⟨w7.heap.size, 2, none⟩ = some (.string (s ++ ⟨#[46, 48, 48, 48, 101]⟩ ++ d)) ∧ w8.cell? ⟨w7.heap.size, 3, none⟩ = some (.string (s ++ ⟨#[48, 48, 48, 101]⟩ ++ dl)) ∧ w8.cell? ⟨w7.heap.size, 4, none⟩ = some (.string (⟨#[46]⟩ ++ s ++ ⟨#[101]⟩ ++ dp)) ∧ w8.cell? ⟨w7.heap.size, 5, none⟩ = some (.string (⟨#[48, 46]⟩ ++ s ++ ⟨#[48, 48, 48, 101]⟩ ++ dp))) := ⟨keep_cell' hbs HC.out.1, keep_cell' hbs HC.out.2.1, keep_cell' hbs HC.out.2.2.1, keep_cell' hbs HC.out.2.2.2.1, keep_cell' hbs HC.out.2.2.2.2.1, keep_cell' hbs HC.out.2.2.2.2.2⟩
                clear hbs HBr HC c2
                go_wp2
                go_roundw
                case rel => exact ⟨3, by go_num, by omega, HB8.out, HC8.out⟩
                case measure => simp [intOf]
              · clear c0 c1 c2 c4 c5
                go_wp2_with fail
                refine (HS3.out _).mono ?_
                rintro r w8 ⟨rfl, hbs⟩
                have HB8 : Hid (Below w3.heap.size w3 w8) := HBr.out.trans (hbs.mono HBr.out.size)
                have HC8 : Hid (w8.cell? ⟨w7.heap.size, 0, none⟩ = some (.string (⟨#[48, 48, 48]⟩ ++ s ++ ⟨#[101]⟩ ++ d)) ∧ w8.cell? ⟨w7.heap.size, 1, none⟩ = some (.string (⟨#[43]⟩ ++ s ++ ⟨#[46, 101]⟩ ++ d)) ∧ w8.cell? ⟨w7.heap.size, 2, none⟩ = some (.string (s ++ ⟨#[46, 48, 48, 48, 101]⟩ ++ d)) ∧ w8.cell? ⟨w7.heap.size, 3, none⟩ = some (.string (s ++ ⟨#[48, 48, 48, 101]⟩ ++ dl)) ∧ w8.cell? ⟨w7.heap.size, 4, none⟩ = some (.string (⟨#[46]⟩ ++ s ++ ⟨#[101]⟩ ++ dp)) ∧ w8.cell? ⟨w7.heap.size, 5, none⟩ = some (.string (⟨#[48, 46]⟩ ++ s ++ ⟨#[48, 48, 48, 101]⟩ ++ dp))) := ⟨keep_cell' hbs HC.out.1, keep_cell' hbs HC.out.2.1, keep_cell' hbs HC.out.2.2.1, keep_cell' hbs HC.out.2.2.2.1, keep_cell' hbs HC.out.2.2.2.2.1, keep_cell' hbs HC.out.2.2.2.2.2⟩
                clear hbs HBr HC c3
                go_wp2
                go_roundw
                case rel => exact ⟨4, by go_num, by omega, HB8.out, HC8.out⟩
                case measure => simp [intOf]
              · clear c0 c1 c2 c3 c5
                go_wp2_with fail
                refine (HS4.out _).mono ?_
                rintro r w8 ⟨rfl, hbs⟩
                have HB8 : Hid (Below w3.heap.size w3 w8) := HBr.out.trans (hbs.mono HBr.out.size)
                have HC8 : Hid (w8.cell? ⟨w7.heap.size, 0, none⟩ = some (.string (⟨#[48, 48, 48]⟩ ++ s ++ ⟨#[101]⟩ ++ d)) ∧ w8.cell? ⟨w7.heap.size, 1, none⟩ = some (.string (⟨#[43]⟩ ++ s ++ ⟨#[46, 101]⟩ ++ d)) ∧ w8.cell? ⟨w7.heap.size, 2, none⟩ = some (.string (s ++ ⟨#[46, 48, 48, 48, 101]⟩ ++ d)) ∧ w8.cell? ⟨w7.heap.size, 3, none⟩ = some (.string (s ++ ⟨#[48, 48, 48, 101]⟩ ++ dl)) ∧ w8.cell? ⟨w7.heap.size, 4, none⟩ = some (.string (⟨#[46]⟩ ++ s ++ ⟨#[101]⟩ ++ dp)) ∧ w8.cell? ⟨w7.heap.size, 5, none⟩ = some (.string (⟨#[48, 46]⟩ ++ s ++ ⟨#[48, 48, 48, 101]⟩ ++ dp))) := ⟨keep_cell' hbs HC.out.1, keep_cell' hbs HC.out.2.1, keep_cell' hbs HC.out.2.2.1, keep_cell' hbs HC.out.2.2.2.1, keep_cell' hbs HC.out.2.2.2.2.1, keep_cell' hbs HC.out.2.2.2.2.2⟩
                clear hbs HBr HC c4
                go_wp2
                go_roundw
                case rel => exact ⟨5, by go_num, by omega, HB8.out, HC8.out⟩
                case measure => simp [intOf]
              · clear c0 c1 c2 c3 c4
                go_wp2_with fail
                refine (HS5.out _).mono ?_
                rintro r w8 ⟨rfl, hbs⟩
                have HB8 : Hid (Below w3.heap.size w3 w8) := HBr.out.trans (hbs.mono HBr.out.size)
                have HC8 : Hid (w8.cell? ⟨w7.heap.size, 0, none⟩ = some (.string (⟨#[48, 48, 48]⟩ ++ s ++ ⟨#[101]⟩ ++ d)) ∧ w8.cell? ⟨w7.heap.size, 1, none⟩ = some (.string (⟨#[43]⟩ ++ s ++ ⟨#[46, 101]⟩ ++ d)) ∧ w8.cell? ⟨w7.heap.size, 2, none⟩ = some (.string (s ++ ⟨#[46, 48, 48, 48, 101]⟩ ++ d)) ∧ w8.cell? ⟨w7.heap.size, 3, none⟩ = some (.string (s ++ ⟨#[48, 48, 48, 101]⟩ ++ dl)) ∧ w8.cell? ⟨w7.heap.size, 4, none⟩ = some (.string (⟨#[46]⟩ ++ s ++ ⟨#[101]⟩ ++ dp)) ∧ w8.cell? ⟨w7.heap.size, 5, none⟩ = some (.string (⟨#[48, 46]⟩ ++ s ++ ⟨#[48, 48, 48, 101]⟩ ++ dp))) := ⟨keep_cell' hbs HC.out.1, keep_cell' hbs HC.out.2.1, keep_cell' hbs HC.out.2.2.1, keep_cell' hbs HC.out.2.2.2.1, keep_cell' hbs HC.out.2.2.2.2.1, keep_cell' hbs HC.out.2.2.2.2.2⟩
                clear hbs HBr HC c5
                go_wp2
                go_roundw
                case rel => exact ⟨6, by go_num, by omega, HB8.out, HC8.out⟩
                case measure => simp [intOf]
              · clear c0 c1 c2 c3 c4 c5
                go_wp2
                all_goals (go_ret; exact ⟨rfl, HBr.out⟩)
end Go.Proofs.Ytbkdaoicnobllaa

namespace Go.Proofs.Ytbkdaoicnobllaa
open Go.RowKit

set_option maxRecDepth 100000 in
set_option maxHeartbeats 1000000 in
theorem lawLike_any (s : ByteArray) (e b mode : Int) (he : -9223372036854775808 ≤ e ∧ e ≤ 9223372036854775807) (hb : -9223372036854775808 ≤ b ∧ b ≤ 9223372036854775807) (hm : -9223372036854775808 ≤ mode ∧ mode ≤ 9223372036854775807) (hs : s.size ≤ maxLen) (w : World) :
    Calls Try.prog 7 #[.string s, .int .i64 e, .int .i64 b, .int .i64 mode] w fun e w' => e = .returned (.bool true) ∧ Below w.heap.size w w' := by
  have HH := hid (And.intro he (And.intro hb (And.intro hm hs)))
  clear he hb hm hs
  go_enter Try.func7, Try.ntmps7
  go_wp2_with fail
  refine (new_any w).mono ?_
  rintro r w1 ⟨v, rfl, hb1⟩
  have HB1 := hid hb1
  have HX := hid (kone_any v b HH.out.2.1 w1)
  clear hb1
  go_wp2_with fail
  refine HX.out.mono ?_
  rintro r w2 ⟨rfl, hb2⟩
  have HB2 : Hid (Below w.heap.size w w2) := HB1.out.trans (hb2.mono HB1.out.size)
  have HX2 := hid (like_any v s e b mode HH.out.1 HH.out.2.1 HH.out.2.2.1 HH.out.2.2.2 w2)
  clear HX hb2 HB1
  go_wp2_with fail
  refine HX2.out.mono ?_
  rintro r w3 ⟨rfl, hb3⟩
  have HB3 : Hid (Below w.heap.size w w3) := HB2.out.trans (hb3.mono HB2.out.size)
  clear HX2 hb3 HB2
  go_wp2
  all_goals (go_ret; exact ⟨rfl, HB3.out⟩)
end Go.Proofs.Ytbkdaoicnobllaa
