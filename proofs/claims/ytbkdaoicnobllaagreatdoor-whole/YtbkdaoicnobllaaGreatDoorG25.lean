import Derived.Test.YtbkdaoicnobllaaGreatDoorG24
import Derived.Test.YtbkdaoicnobllaaGreatDoorG23

namespace Go.Proofs.YtbkdaoicnobllaaGreatDoor
open Go.RowKit

set_option maxRecDepth 100000 in
set_option maxHeartbeats 1000000 in
theorem says_any (cv : Value) (s : ByteArray) (f mode bits flags : Int) (w : World) :
    Calls Tryz.prog 13 #[cv, .string s, .int .i64 f, .int .i64 mode, .int .i64 bits, .int .i64 flags] w fun e w' =>
      ∃ b g at' err : Int, PParse s f mode b g at' err ∧ e = .returned (.bool (decide (b = bits ∧ g = flags ∧ at' = 0 ∧ err = 0))) ∧ Below w.heap.size w w' := by
  have HX := hid (parse_any cv s f mode w)
  go_enter Tryz.func13, Tryz.ntmps13
  go_wp2_with fail
  refine HX.out.mono ?_
  rintro e w1 ⟨b, g, at', err, rfl, hb, hp⟩
  have HB := hid hb
  have HP := hid hp
  clear HX hb hp
  by_cases h1 : b = bits
  · have t1 : (b == bits) = true := by simpa using h1
    by_cases h2 : g = flags
    · have t2 : (g == flags) = true := by simpa using h2
      by_cases h3 : at' = 0
      · have t3 : (at' == 0) = true := by simpa using h3
        by_cases h4 : err = 0
        · have t4 : (err == 0) = true := by simpa using h4
          have HE : Hid (decide (b = bits ∧ g = flags ∧ at' = 0 ∧ err = 0) = true) := by unfold Hid; simp [h1, h2, h3, h4]
          clear h1 h2 h3 h4
          go_wp2
          all_goals (go_ret; exact ⟨b, g, at', err, HP.out, by rw [HE.out]; rfl, HB.out⟩)
        · have t4 : (err == 0) = false := by simpa using h4
          have HE : Hid (decide (b = bits ∧ g = flags ∧ at' = 0 ∧ err = 0) = false) := by unfold Hid; simp [h4]
          clear h1 h2 h3 h4
          go_wp2
          all_goals (go_ret; exact ⟨b, g, at', err, HP.out, by rw [HE.out]; rfl, HB.out⟩)
      · have t3 : (at' == 0) = false := by simpa using h3
        have HE : Hid (decide (b = bits ∧ g = flags ∧ at' = 0 ∧ err = 0) = false) := by unfold Hid; simp [h3]
        clear h1 h2 h3
        go_wp2
        all_goals (go_ret; exact ⟨b, g, at', err, HP.out, by rw [HE.out]; rfl, HB.out⟩)
    · have t2 : (g == flags) = false := by simpa using h2
      have HE : Hid (decide (b = bits ∧ g = flags ∧ at' = 0 ∧ err = 0) = false) := by unfold Hid; simp [h2]
      clear h1 h2
      go_wp2
      all_goals (go_ret; exact ⟨b, g, at', err, HP.out, by rw [HE.out]; rfl, HB.out⟩)
  · have t1 : (b == bits) = false := by simpa using h1
    have HE : Hid (decide (b = bits ∧ g = flags ∧ at' = 0 ∧ err = 0) = false) := by unfold Hid; simp [h1]
    clear h1
    go_wp2
    all_goals (go_ret; exact ⟨b, g, at', err, HP.out, by rw [HE.out]; rfl, HB.out⟩)
end Go.Proofs.YtbkdaoicnobllaaGreatDoor

namespace Go.Proofs.YtbkdaoicnobllaaGreatDoor
open Go.RowKit

theorem ksays_whole (cv : Value) (T : List UInt8) (f m V : Int) (a : Nat) (hf : 0 ≤ f ∧ f ≤ 2) (ha : V = (a : Int)) (h1 : V < infN f) (hm : 0 ≤ m ∧ m ≤ 4) (hT : ExpQ (awayB 0 false) (valA 3000 f a) 770 T) (w : World) :
    Calls Tryz.prog 13 #[cv, .string (str T), .int .i64 f, .int .i64 m, .int .i64 V, .int .i64 0] w fun e w' => e = .returned (.bool true) ∧ Below w.heap.size w w' := by
  refine (says_any cv (str T) f m V 0 w).mono ?_
  rintro e w' ⟨b, g, at', err, hp, rfl, hb⟩
  obtain ⟨q1, q2, q3, q4⟩ := whole_reads hf (by omega) hm hT hp
  refine ⟨?_, hb⟩
  rw [show decide (b = V ∧ g = 0 ∧ at' = 0 ∧ err = 0) = true from by simp only [decide_eq_true_eq]; exact ⟨by omega, q2, q3, q4⟩]
set_option maxRecDepth 100000 in
set_option maxHeartbeats 4000000 in
theorem exact_any (cv : Value) (x b : Int) (hx : -9223372036854775808 ≤ x ∧ x ≤ 9223372036854775807) (hb : -9223372036854775808 ≤ b ∧ b ≤ 9223372036854775807) (w : World) (ht : Tab w) :
    Calls Tryz.prog 7 #[cv, .int .i64 x, .int .i64 b] w fun r w' => r = .returned (.bool true) ∧ Below w.heap.size w w' := by
  have HX := hid (form_any b hb w)
  have h3 : pickV b 3 < 3 := Nat.mod_lt _ (by omega)
  obtain ⟨f, hf0⟩ : ∃ f : Int, f = ((pickV b 3 : Nat) : Int) := ⟨_, rfl⟩
  have hf : 0 ≤ f ∧ f ≤ 2 := by omega
  rw [← hf0] at HX
  clear hf0 h3 hb
  have HV := hid (finite_any f x hf hx w)
  have hvb := finV_bd hf x
  obtain ⟨V, hV⟩ : ∃ V : Int, V = finV f x := ⟨_, rfl⟩
  rw [← hV] at HV hvb
  clear hV hx
  have hi := infN_i64 hf
  have HT := hid ht
  clear ht
  obtain ⟨a, ha⟩ : ∃ a : Nat, V = (a : Int) := ⟨V.toNat, by omega⟩
  have HE : Hid (∀ w : World, Tab w → Calls Tryz.prog 11 #[cv, .int .i64 V, .int .i64 f, .int .i64 2, .int .i64 770] w fun r w' => TextPost w w' r (ExpQ (awayB 0 false) (valA 3000 f a) 770)) := fun w hw =>
    kprints_exp cv f V 770 a 770 hf ha hvb.2 rfl (by omega) w hw
  have HF : Hid (∀ m : Int, 0 ≤ m ∧ m ≤ 4 → ∀ w : World, Tab w → Calls Tryz.prog 14 #[cv, .int .i64 V, .int .i64 f, .int .i64 2, .int .i64 770, .int .i64 m] w fun r w' => GoodPost w w' r (ExpQ (awayB m false) (valA 3000 f a) 770)) := fun m hm w hw => by
    have := kexp_any cv f V 770 m hf hvb.1 hvb.2 (by omega) hm w hw
    rw [show V.toNat = a from by omega] at this; exact this
  have HR : Hid (∀ T, ExpQ (awayB 0 false) (valA 3000 f a) 770 T → ∀ m : Int, 0 ≤ m ∧ m ≤ 4 → ∀ w : World, Calls Tryz.prog 13 #[cv, .string (str T), .int .i64 f, .int .i64 m, .int .i64 V, .int .i64 0] w fun e w' => e = .returned (.bool true) ∧ Below w.heap.size w w') := fun T hT m hm w =>
    ksays_whole cv T f m V a hf ha hvb.2 hm hT w
  have HS : Hid (∀ m : Int, ∀ S T, ExpQ (awayB 0 false) (valA 3000 f a) 770 T → ExpQ (awayB m false) (valA 3000 f a) 770 S → S = T) := fun m S T hT hS =>
    whole_same hf (by omega) hT hS
  have hV0 : 0 ≤ V ∧ V ≤ 9218868437227405312 := by omega
  clear hvb hi hf ha
  go_enter Tryz.func7, Tryz.ntmps7
  go_wp2_with fail
  refine HX.out.mono ?_
  rintro r w ⟨rfl, rfl⟩
  clear HX
  go_wp2_with fail
  refine HV.out.mono ?_
  rintro r w0 ⟨rfl, hb0⟩
  have HB0 := hid hb0
  clear HV hb0
  go_wp2_with fail
  refine (HE.out _ (HT.out.below HB0.out)).mono ?_
  rintro r w1 ⟨T, rfl, hT, hl, hb1⟩
  have HB1 : Hid (Below w.heap.size w w1) := HB0.out.trans (hb1.mono HB0.out.size)
  have HTQ := hid hT
  have HRT := hid (HR.out T hT)
  clear hb1 HE HB0 hT HR
  go_wp2
  go_loopw [12] (fun mm wr => ∃ (j : Nat), mm = .int .i64 j ∧ j ≤ 5 ∧ Hid (Below w.heap.size w wr)) (fun mm _ => 5 - (intOf mm).toNat)
  case atStart => exact ⟨0, rfl, by omega, HB1.out⟩
  case round =>
    obtain ⟨j, rfl, hj, HB⟩ := hrel
    by_cases h5 : j < 5
    · have t1 : decide ((j : Int) ≤ 4) = true := by simp; omega
      have HR1 := hid (HRT.out j (by omega))
      have HF1 := hid (HF.out j (by omega))
      have HS1 := hid (HS.out j)
      clear HRT HF HS
      go_wp2_with fail
      refine (HR1.out wr).mono ?_
      rintro r w2 ⟨rfl, hb2⟩
      have HB2 : Hid (Below w.heap.size w w2) := HB.out.trans (hb2.mono HB.out.size)
      clear HR1 hb2 HB
      go_wp2_with fail
      refine (HF1.out w2 (HT.out.below HB2.out)).mono ?_
      rintro r w3 ⟨S, rfl, hS, hSl, hb3⟩
      have HB3 : Hid (Below w.heap.size w w3) := HB2.out.trans (hb3.mono HB2.out.size)
      have hST := HS1.out S T HTQ.out hS
      subst hST
      clear HF1 hb3 HB2 hS HS1 HTQ
      go_wp2
      go_round
      case rel => exact ⟨j + 1, by go_num, by omega, HB3.out⟩
      case measure => simp [intOf]; omega
    · have t1 : decide ((j : Int) ≤ 4) = false := by simp; omega
      clear HRT HF HS h5
      go_wp2
      all_goals (go_ret; exact ⟨rfl, HB.out⟩)
set_option maxRecDepth 100000 in
set_option maxHeartbeats 1000000 in
theorem whole_law (x b : Int) (hx : -9223372036854775808 ≤ x ∧ x ≤ 9223372036854775807) (hb : -9223372036854775808 ≤ b ∧ b ≤ 9223372036854775807) (w : World) (ht : Tab w) :
    Calls Tryz.prog 4 #[.int .i64 x, .int .i64 b] w fun r w' => r = .returned (.bool true) ∧ Below w.heap.size w w' := by
  have HX := hid (fun (cv : Value) (w : World) (hw : Tab w) => exact_any cv x b hx hb w hw)
  have HT := hid ht
  clear hx hb ht
  go_enter Tryz.func4, Tryz.ntmps4
  go_wp2_with fail
  refine (pnew_any w).mono ?_
  rintro r w1 ⟨v, rfl, hb1⟩
  have HB1 := hid hb1
  clear hb1
  go_wp2_with fail
  refine (HX.out v w1 (HT.out.below HB1.out)).mono ?_
  rintro r w2 ⟨rfl, hb2⟩
  have HB2 : Hid (Below w.heap.size w w2) := HB1.out.trans (hb2.mono HB1.out.size)
  clear hb2 HX
  go_wp2
  go_ret
  exact ⟨rfl, HB2.out⟩
end Go.Proofs.YtbkdaoicnobllaaGreatDoor
