import Derived.Test.YtbkdaoicnobllabGreatDoorG07
import Derived.Test.YtbkdaoicnobllabGreatDoorG17

namespace Go.Proofs.YtbkdaoicnobllabGreatDoor
set_option maxRecDepth 100000
set_option maxHeartbeats 1000000
open Go.RowKit

theorem rgood0 (x : Int) (v prec mode : Int) (Q : List UInt8 → Prop) (h1 : 0 ≤ x) (h2 : x < 65536) (hv : (v = 0 ∨ v = 1 ∨ v = 4) ∧ prec = -1 ∧ mode = 0 ∨ (v = 2 ∨ v = 3) ∧ 0 ≤ prec ∧ prec ≤ 800 ∧ 0 ≤ mode ∧ mode ≤ 4) (w : World)
    (HT0 : ∀ a : Nat, amtI 0 x = a → (a : Int) < 31744 → ∀ w : World, Calls Tryz.prog 52 #[.int .i64 0, .int .i64 a, .bool (negI 0 x), .int .i64 v, .int .i64 prec, .int .i64 mode, .int .i64 11, .int .i64 (-14)] w fun r w' => TextPost w w' r Q) :
    Calls Tryz.prog 35 #[.int .i64 x, .int .i64 0, .int .i64 v, .int .i64 prec, .int .i64 mode] w fun r w' => FmtPost 0 x v prec mode w w' r Q := by
  have hI : (infN 0 : Int) = 31744 := rfl
  have hhas : hasB 0 x = true := by unfold hasB sgnF; simp; omega
  have HK := hid (kind0)
  have HI : Hid (∀ w, Calls Tryz.prog 46 #[.int .i64 0] w fun e w' => e = .returned (.int .i64 31744) ∧ Below w.heap.size w w') := fun w => (infinity_any 0 w (by omega)).mono (by rintro e w' ⟨rfl, n, rfl⟩; exact ⟨rfl, ((Still.refl w).drewN n).below _⟩)
  have hal : allowB v prec mode = true := by
    rcases hv with ⟨rfl | rfl | rfl, rfl, rfl⟩ | ⟨rfl | rfl, h⟩ <;> (unfold allowB; simp; try omega)
  by_cases hneg : x < 32768
  · by_cases c1 : 31744 < x
    · have hq : x / 32768 = 0 := by omega
      have hb0 : bits .and .i64 0 1 = 0 := by decide
      have hnn : 0 ≤ x := by omega
      have HA : Hid (amtI 0 x = x ∧ negI 0 x = false) := by unfold Hid amtI negI sgnF; simp; omega
      have hk : 31744 < x := by omega
      have HS : Hid (str [110, 97, 110] = str (outT 0 x [])) := by unfold Hid outT; rw [HA.out.1, hI, if_pos hk]
      have HP : Hid (∀ (w' : World) (T : List UInt8), (x < 31744 → Q T) → T.length ≤ 5000 → Below w.heap.size w w' → FmtPost 0 x v prec mode w w' (.returned (.tuple #[.string (str (outT 0 x T)), .int .i64 0])) Q) := fun w' T p1 p2 p3 => .inl ⟨hhas, hal, T, rfl, fun h => p1 (by rw [HA.out.1, hI] at h; exact h), p2, p3⟩
      clear hI hhas HT0 hal
      rcases hv with ⟨rfl | rfl | rfl, rfl, rfl⟩ | ⟨rfl | rfl, hp1, hp2, hm1, hm2⟩
      all_goals
      (go_enter Tryz.func35, Tryz.ntmps35
       go_wp2_with fail
       refine (HK.out _).mono ?_
       rintro r w1 ⟨rfl, rfl⟩
       go_wp2_with fail
       refine (HI.out _).mono ?_
       rintro r w2 ⟨rfl, hb2⟩
       have HB2 := hid hb2
       clear hb2
       have HF := hid (HP.out w2 [] (fun h => by omega) (by simp) HB2.out)
       rw [← HS.out] at HF
       clear HP HS
       go_wp2
       go_ret2
       exact HF.out)
    · by_cases c2 : x < 31744
      · have hq : x / 32768 = 0 := by omega
        have hb0 : bits .and .i64 0 1 = 0 := by decide
        have hnn : 0 ≤ x := by omega
        have HA : Hid (amtI 0 x = x ∧ negI 0 x = false) := by unfold Hid amtI negI sgnF; simp; omega
        have hk2 : x < 31744 := by omega
        have hk1 : ¬ 31744 < x := by omega
        have HS : Hid (∀ T : List UInt8, str T = str (outT 0 x T)) := fun T => by
          unfold outT; rw [HA.out.1, HA.out.2, hI, if_neg hk1, if_pos hk2]; rfl
        have HX : Hid (∀ w : World, Calls Tryz.prog 52 #[.int .i64 0, .int .i64 x, .bool false, .int .i64 v, .int .i64 prec, .int .i64 mode, .int .i64 11, .int .i64 (-14)] w fun r w' => TextPost w w' r Q) := fun w => by
          have := HT0 x.toNat (by rw [HA.out.1]; omega) (by omega) w
          rw [HA.out.2, show ((x.toNat : Nat) : Int) = x from by omega] at this; exact this
        have HP : Hid (∀ (w' : World) (T : List UInt8), (x < 31744 → Q T) → T.length ≤ 5000 → Below w.heap.size w w' → FmtPost 0 x v prec mode w w' (.returned (.tuple #[.string (str (outT 0 x T)), .int .i64 0])) Q) := fun w' T p1 p2 p3 => .inl ⟨hhas, hal, T, rfl, fun h => p1 (by rw [HA.out.1, hI] at h; exact h), p2, p3⟩
        clear hI hhas HT0 hal
        rcases hv with ⟨rfl | rfl | rfl, rfl, rfl⟩ | ⟨rfl | rfl, hp1, hp2, hm1, hm2⟩
        all_goals
        (go_enter Tryz.func35, Tryz.ntmps35
         go_wp2_with fail
         refine (HK.out _).mono ?_
         rintro r w1 ⟨rfl, rfl⟩
         go_wp2_with fail
         refine (HI.out _).mono ?_
         rintro r w2 ⟨rfl, hb2⟩
         have HB2 := hid hb2
         clear hb2
         go_wp2_with fail
         refine (HX.out _).mono ?_
         rintro r w3 ⟨T, rfl, hq1, hl, hb3⟩
         have HF := hid (HP.out w3 T (fun _ => hq1) hl (HB2.out.trans (hb3.mono HB2.out.size)))
         have HSS := hid (HS.out T)
         have hts : (str T).size ≤ 5000 := by rw [str_size]; exact hl
         clear hq1 hl hb3 HX HP HS
         go_wp2
         go_ret2
         rw [show (Ending.returned (.tuple #[.string (str (outT 0 x T)), .int .i64 0])) = Ending.returned (.tuple #[.string (str T), .int .i64 0]) from by rw [HSS.out]] at HF
         exact HF.out)
      · have hq : x / 32768 = 0 := by omega
        have hb0 : bits .and .i64 0 1 = 0 := by decide
        have hnn : 0 ≤ x := by omega
        have HA : Hid (amtI 0 x = x ∧ negI 0 x = false) := by unfold Hid amtI negI sgnF; simp; omega
        have hk : x = 31744 := by omega
        have hk1 : ¬ 31744 < x := by omega
        have hk2 : ¬ x < 31744 := by omega
        have HS : Hid ((⟨#[105, 110, 102]⟩ : ByteArray) = str (outT 0 x [])) := by unfold Hid outT; rw [HA.out.1, HA.out.2, hI, if_neg hk1, if_neg hk2]; rfl
        have HP : Hid (∀ (w' : World) (T : List UInt8), (x < 31744 → Q T) → T.length ≤ 5000 → Below w.heap.size w w' → FmtPost 0 x v prec mode w w' (.returned (.tuple #[.string (str (outT 0 x T)), .int .i64 0])) Q) := fun w' T p1 p2 p3 => .inl ⟨hhas, hal, T, rfl, fun h => p1 (by rw [HA.out.1, hI] at h; exact h), p2, p3⟩
        clear hI hhas HT0 hal
        rcases hv with ⟨rfl | rfl | rfl, rfl, rfl⟩ | ⟨rfl | rfl, hp1, hp2, hm1, hm2⟩
        all_goals
        (go_enter Tryz.func35, Tryz.ntmps35
         go_wp2_with fail
         refine (HK.out _).mono ?_
         rintro r w1 ⟨rfl, rfl⟩
         go_wp2_with fail
         refine (HI.out _).mono ?_
         rintro r w2 ⟨rfl, hb2⟩
         have HB2 := hid hb2
         clear hb2
         have HF := hid (HP.out w2 [] (fun h => by omega) (by simp) HB2.out)
         rw [← HS.out] at HF
         clear HP HS
         go_wp2
         go_ret2
         exact HF.out)
  · by_cases c1 : 31744 < x - 32768
    · have hq : x / 32768 = 1 := by omega
      have hb1 : bits .and .i64 1 1 = 1 := by decide
      have hx : bits .xor .i64 x 32768 = x - 32768 := (sign_on 15 (by omega) x (by simp; omega) (by simp; omega)).2
      obtain ⟨A, hA⟩ : ∃ A : Int, x - 32768 = A := ⟨_, rfl⟩
      rw [hA] at hx
      have hnn : 0 ≤ A := by omega
      have HA : Hid (amtI 0 x = A ∧ negI 0 x = true) := by unfold Hid amtI negI sgnF; simp; omega
      have hk : 31744 < A := by omega
      have HS : Hid (str [110, 97, 110] = str (outT 0 x [])) := by unfold Hid outT; rw [HA.out.1, hI, if_pos hk]
      have HP : Hid (∀ (w' : World) (T : List UInt8), (A < 31744 → Q T) → T.length ≤ 5000 → Below w.heap.size w w' → FmtPost 0 x v prec mode w w' (.returned (.tuple #[.string (str (outT 0 x T)), .int .i64 0])) Q) := fun w' T p1 p2 p3 => .inl ⟨hhas, hal, T, rfl, fun h => p1 (by rw [HA.out.1, hI] at h; exact h), p2, p3⟩
      clear hA hI hhas HT0 hal
      rcases hv with ⟨rfl | rfl | rfl, rfl, rfl⟩ | ⟨rfl | rfl, hp1, hp2, hm1, hm2⟩
      all_goals
      (go_enter Tryz.func35, Tryz.ntmps35
       go_wp2_with fail
       refine (HK.out _).mono ?_
       rintro r w1 ⟨rfl, rfl⟩
       go_wp2_with fail
       refine (HI.out _).mono ?_
       rintro r w2 ⟨rfl, hb2⟩
       have HB2 := hid hb2
       clear hb2
       have HF := hid (HP.out w2 [] (fun h => by omega) (by simp) HB2.out)
       rw [← HS.out] at HF
       clear HP HS
       go_wp2
       go_ret2
       exact HF.out)
    · by_cases c2 : x - 32768 < 31744
      · have hq : x / 32768 = 1 := by omega
        have hb1 : bits .and .i64 1 1 = 1 := by decide
        have hx : bits .xor .i64 x 32768 = x - 32768 := (sign_on 15 (by omega) x (by simp; omega) (by simp; omega)).2
        obtain ⟨A, hA⟩ : ∃ A : Int, x - 32768 = A := ⟨_, rfl⟩
        rw [hA] at hx
        have hnn : 0 ≤ A := by omega
        have HA : Hid (amtI 0 x = A ∧ negI 0 x = true) := by unfold Hid amtI negI sgnF; simp; omega
        have hk2 : A < 31744 := by omega
        have hk1 : ¬ 31744 < A := by omega
        have HS : Hid (∀ T : List UInt8, (⟨#[45]⟩ : ByteArray) ++ str T = str (outT 0 x T)) := fun T => by
          unfold outT; rw [HA.out.1, HA.out.2, hI, if_neg hk1, if_pos hk2]; rw [if_pos rfl, ← str_append]; rfl
        have HX : Hid (∀ w : World, Calls Tryz.prog 52 #[.int .i64 0, .int .i64 A, .bool true, .int .i64 v, .int .i64 prec, .int .i64 mode, .int .i64 11, .int .i64 (-14)] w fun r w' => TextPost w w' r Q) := fun w => by
          have := HT0 A.toNat (by rw [HA.out.1]; omega) (by omega) w
          rw [HA.out.2, show ((A.toNat : Nat) : Int) = A from by omega] at this; exact this
        have HP : Hid (∀ (w' : World) (T : List UInt8), (A < 31744 → Q T) → T.length ≤ 5000 → Below w.heap.size w w' → FmtPost 0 x v prec mode w w' (.returned (.tuple #[.string (str (outT 0 x T)), .int .i64 0])) Q) := fun w' T p1 p2 p3 => .inl ⟨hhas, hal, T, rfl, fun h => p1 (by rw [HA.out.1, hI] at h; exact h), p2, p3⟩
        clear hA hI hhas HT0 hal
        rcases hv with ⟨rfl | rfl | rfl, rfl, rfl⟩ | ⟨rfl | rfl, hp1, hp2, hm1, hm2⟩
        all_goals
        (go_enter Tryz.func35, Tryz.ntmps35
         go_wp2_with fail
         refine (HK.out _).mono ?_
         rintro r w1 ⟨rfl, rfl⟩
         go_wp2_with fail
         refine (HI.out _).mono ?_
         rintro r w2 ⟨rfl, hb2⟩
         have HB2 := hid hb2
         clear hb2
         go_wp2_with fail
         refine (HX.out _).mono ?_
         rintro r w3 ⟨T, rfl, hq1, hl, hb3⟩
         have HF := hid (HP.out w3 T (fun _ => hq1) hl (HB2.out.trans (hb3.mono HB2.out.size)))
         have HSS := hid (HS.out T)
         have hts : (str T).size ≤ 5000 := by rw [str_size]; exact hl
         clear hq1 hl hb3 HX HP HS
         go_wp2
         go_ret2
         rw [show (Ending.returned (.tuple #[.string (str (outT 0 x T)), .int .i64 0])) = Ending.returned (.tuple #[.string ((⟨#[45]⟩ : ByteArray) ++ str T), .int .i64 0]) from by rw [HSS.out]] at HF
         exact HF.out)
      · have hq : x / 32768 = 1 := by omega
        have hb1 : bits .and .i64 1 1 = 1 := by decide
        have hx : bits .xor .i64 x 32768 = x - 32768 := (sign_on 15 (by omega) x (by simp; omega) (by simp; omega)).2
        obtain ⟨A, hA⟩ : ∃ A : Int, x - 32768 = A := ⟨_, rfl⟩
        rw [hA] at hx
        have hnn : 0 ≤ A := by omega
        have HA : Hid (amtI 0 x = A ∧ negI 0 x = true) := by unfold Hid amtI negI sgnF; simp; omega
        have hk : A = 31744 := by omega
        have hk1 : ¬ 31744 < A := by omega
        have hk2 : ¬ A < 31744 := by omega
        have HS : Hid ((⟨#[45, 105, 110, 102]⟩ : ByteArray) = str (outT 0 x [])) := by unfold Hid outT; rw [HA.out.1, HA.out.2, hI, if_neg hk1, if_neg hk2]; rfl
        have HP : Hid (∀ (w' : World) (T : List UInt8), (A < 31744 → Q T) → T.length ≤ 5000 → Below w.heap.size w w' → FmtPost 0 x v prec mode w w' (.returned (.tuple #[.string (str (outT 0 x T)), .int .i64 0])) Q) := fun w' T p1 p2 p3 => .inl ⟨hhas, hal, T, rfl, fun h => p1 (by rw [HA.out.1, hI] at h; exact h), p2, p3⟩
        clear hA hI hhas HT0 hal
        rcases hv with ⟨rfl | rfl | rfl, rfl, rfl⟩ | ⟨rfl | rfl, hp1, hp2, hm1, hm2⟩
        all_goals
        (go_enter Tryz.func35, Tryz.ntmps35
         go_wp2_with fail
         refine (HK.out _).mono ?_
         rintro r w1 ⟨rfl, rfl⟩
         go_wp2_with fail
         refine (HI.out _).mono ?_
         rintro r w2 ⟨rfl, hb2⟩
         have HB2 := hid hb2
         clear hb2
         have HF := hid (HP.out w2 [] (fun h => by omega) (by simp) HB2.out)
         rw [← HS.out] at HF
         clear HP HS
         go_wp2
         go_ret2
         exact HF.out)
end Go.Proofs.YtbkdaoicnobllabGreatDoor
