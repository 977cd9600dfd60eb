import Derived.Test.YtbkdaoicnobllabGreatDoorG44

namespace Go.Proofs.YtbkdaoicnobllabGreatDoor
set_option maxRecDepth 100000
set_option maxHeartbeats 2000000
open Go.RowKit

theorem step_any (W0 w : World) (G : Nat) (cv : Value) (x : Int) (s : ByteArray) (o : OpV) (ho : o.ok) (ht : Tab W0) (hB : Below W0.heap.size W0 w) (hG : W0.heap.size ≤ G) (hw : WAt w G cv x s) :
  Calls Tryz.prog 19 #[.pointer (some ⟨G, 0, none⟩), o.val] w fun e w' => StepPost W0 w' G e := by
 obtain ⟨k, a, b, c, S, T⟩ := o
 have ha : -9223372036854775808 ≤ a ∧ a ≤ 9223372036854775807 := ⟨ho.a1, ho.a2⟩
 have hc : -9223372036854775808 ≤ c ∧ c ≤ 9223372036854775807 := ⟨ho.c1, ho.c2⟩
 by_cases h1 : k = 1
 ·subst h1; exact step1 W0 w G cv x s a b c S T ht hB hG hw ho.sz
 by_cases h2 : k = 2
 ·subst h2; exact step2 W0 w G cv x s a b c S T ht hB hG hw ha
 by_cases h3 : k = 3
 ·subst h3; exact step3 W0 w G cv x s a b c S T ht hB hG hw
 by_cases h4 : k = 4
 ·subst h4; exact step4 W0 w G cv x s a b c S T ht hB hG hw ha hc
 by_cases h5 : k = 5
 ·subst h5; exact step5 W0 w G cv x s a b c S T ht hB hG hw
 by_cases h6 : k = 6
 ·subst h6; exact step6 W0 w G cv x s a b c S T ht hB hG hw ha
 by_cases h7 : k = 7
 ·subst h7; exact step7 W0 w G cv x s a b c S T ht hB hG hw
 by_cases h8 : k = 8
 ·subst h8; exact step8 W0 w G cv x s a b c S T ht hB hG hw ho.sz
 ·exact step9 W0 w G cv x s k a b c S T ⟨h1, h2, h3, h4, h5, h6, h7, h8⟩ ht hB hG hw
structure Scr (w : World) (sb so n : Nat) (os : Nat → OpV) : Prop where
 ok : ∀ i, i < n → (os i).ok ∧ (os i).t.size ≤ maxLen
 c0 : ∀ i, i < n → w.cell? ⟨sb, so + i * 6, none⟩ = some (.int .i64 (os i).kind)
 c1 : ∀ i, i < n → w.cell? ⟨sb, so + i * 6 + 1, none⟩ = some (.int .i64 (os i).a)
 c2 : ∀ i, i < n → w.cell? ⟨sb, so + i * 6 + 2, none⟩ = some (.int .i64 (os i).b)
 c3 : ∀ i, i < n → w.cell? ⟨sb, so + i * 6 + 3, none⟩ = some (.int .i64 (os i).c)
 c4 : ∀ i, i < n → w.cell? ⟨sb, so + i * 6 + 4, none⟩ = some (.string (os i).s)
 c5 : ∀ i, i < n → w.cell? ⟨sb, so + i * 6 + 5, none⟩ = some (.string (os i).t)
theorem small_any (w : World) (sb so n cap : Nat) (os : Nat → OpV) (h : Scr w sb so n os) :
  Calls Tryz.prog 9 #[.slice (some ⟨sb, so, none⟩) n cap] w fun e w' => ∃ b : Bool, e = .returned (.bool b) ∧ (b = true → n ≤ 16384) ∧ Below w.heap.size w w' := by
 have HS := hid h
 clear h
 go_enter Tryz.func9, Tryz.ntmps9
 by_cases hl : 16384 < n
 ·have t : decide ((16384 : Int) < (n : Int)) = true := by simp; omega
  clear hl HS
  go_wp2
  all_goals (go_ret; exact ⟨_, rfl, fun h => (by cases h), Below.refl _ _⟩)
 ·have t : decide ((16384 : Int) < (n : Int)) = false := by simp; omega
  have hn2 : n ≤ 16384 := by omega
  clear hl
  go_wp2
  go_loopw [3, 4] (fun nn ii wr => ∃ (N : Int) (i : Nat), nn = .int .i64 N ∧ ii = .int .i64 i ∧ i ≤ n ∧ Hid (Below w.heap.size w wr)) (fun _ ii _ => n - (intOf ii).toNat)
  case atStart => exact ⟨n, 0, rfl, rfl, by omega, Below.refl _ _⟩
  case round =>
   obtain ⟨N, i, rfl, rfl, hi, HB⟩ := hrel
   by_cases hlt : i < n
   ·have c4 := keep_cell' HB.out (HS.out.c4 i hlt)
    have c5 := keep_cell' HB.out (HS.out.c5 i hlt)
    obtain ⟨S, hS⟩ : ∃ S, S = (os i).s := ⟨_, rfl⟩
    obtain ⟨T, hT⟩ : ∃ T, T = (os i).t := ⟨_, rfl⟩
    rw [← hS] at c4
    rw [← hT] at c5
    clear hS hT HS
    go_wp2_with fail
    go_quiet (fail)
    obtain ⟨M, hM⟩ : ∃ M, M = wrap64 (wrap64 (N + (S.size : Int)) + (T.size : Int)) := ⟨_, rfl⟩
    rw [← hM]
    have HBd : Hid (Below w.heap.size w (wr.drewN nq)) := HB.out.trans ((((Still.refl _).drewN _).below _).mono HB.out.size)
    obtain ⟨wd, hwd⟩ : ∃ wd, wd = wr.drewN nq := ⟨_, rfl⟩
    rw [← hwd] at HBd ⊢
    clear hM hwd c4 c5 HB
    by_cases hMl : 16384 < M
    ·have t3 : decide ((16384 : Int) < M) = true := by simpa using hMl
     clear hMl
     go_wp2
     all_goals (go_ret; exact ⟨_, rfl, fun _ => hn2, HBd.out⟩)
    ·have t3 : decide ((16384 : Int) < M) = false := by simpa using hMl
     clear hMl
     go_wp2
     go_round
     case rel => exact ⟨M, i + 1, rfl, by go_num, by omega, HBd.out⟩
     case measure => simp [intOf]; omega
   ·clear HS
    go_wp2
    all_goals (go_ret; exact ⟨_, rfl, fun _ => hn2, HB.out⟩)
theorem WAt.new (w : World) (g : Nat) : WAt (w.alloc (.cells #[.pointer (some ⟨g, 0, none⟩), .int .i64 0, .string ⟨#[]⟩] 47)) w.heap.size (.pointer (some ⟨g, 0, none⟩)) 0 ⟨#[]⟩ :=
 ⟨by simp [go_sem], by simp [go_sem], by simp [go_sem], by simp [go_sem], by simp [go_sem], by simp [go_sem], by omega, by omega, by decide⟩
theorem upTo_any (w : World) (sb so n cap : Nat) (os : Nat → OpV) (h : Scr w sb so n os) (hn : n ≤ 16384) (ht : Tab w) :
  Calls Tryz.prog 10 #[.slice (some ⟨sb, so, none⟩) n cap] w fun e w' => e = .returned (.int .i64 (-1)) ∧ Below w.heap.size w w' := by
 have HS := hid h
 have HT := hid ht
 clear h ht
 go_enter Tryz.func10, Tryz.ntmps10
 go_wp2_with fail
 refine (new_ptr w).mono ?_
 rintro e w1 ⟨g, hr, hb1⟩
 subst hr
 obtain ⟨G, hG⟩ : ∃ G, G = w1.heap.size := ⟨_, rfl⟩
 obtain ⟨w2, hw2⟩ : ∃ w2, w2 = w1.alloc (.cells #[.pointer (some ⟨g, 0, none⟩), .int .i64 0, .string ⟨#[]⟩] 47) := ⟨_, rfl⟩
 have HW : Hid (WAt w2 G (.pointer (some ⟨g, 0, none⟩)) 0 ⟨#[]⟩) := by unfold Hid; rw [hw2, hG]; exact WAt.new w1 g
 have HB : Hid (Below w.heap.size w w2) := by unfold Hid; rw [hw2]; exact hb1.alloc hb1.size _
 have HG : Hid (w.heap.size ≤ G) := by unfold Hid; rw [hG]; exact hb1.size
 have HW2 := hid hw2
 have HGE := hid hG
 clear hb1 hw2 hG
 go_wp2_with (rw [← HW2.out, ← HGE.out])
 go_loopw [5] (fun ii wr => ∃ i : Nat, ii = .int .i64 i ∧ i ≤ n ∧ Hid (Below w.heap.size w wr) ∧ Hid (∃ cv x s, WAt wr G cv x s)) (fun ii _ => n - (intOf ii).toNat)
 case atStart => exact ⟨0, rfl, by omega, HB.out, ⟨_, _, _, HW.out⟩⟩
 case round =>
  obtain ⟨i, rfl, hi, HBr, HWr⟩ := hrel
  clear HW HB HW2 HGE
  by_cases hlt : i < n
  ·have c0 := keep_cell' HBr.out (HS.out.c0 i hlt)
   have c1 := keep_cell' HBr.out (HS.out.c1 i hlt)
   have c2 := keep_cell' HBr.out (HS.out.c2 i hlt)
   have c3 := keep_cell' HBr.out (HS.out.c3 i hlt)
   have c4 := keep_cell' HBr.out (HS.out.c4 i hlt)
   have c5 := keep_cell' HBr.out (HS.out.c5 i hlt)
   have HST : Hid (Calls Tryz.prog 19 #[.pointer (some ⟨G, 0, none⟩), (os i).val] wr fun e w' => StepPost w w' G e) := by
    obtain ⟨cv, x, s, hw⟩ := HWr.out
    exact step_any w wr G cv x s (os i) (HS.out.ok i hlt).1 HT.out HBr.out HG.out hw
   unfold OpV.val at HST
   clear HWr
   go_wp2_with fail
   refine HST.out.mono ?_
   rintro e w3 ⟨rfl, hb3, hw3⟩
   have HB3 := hid hb3
   have HW3 := hid hw3
   clear hb3 hw3 HST c0 c1 c2 c3 c4 c5 HBr
   go_wp2
   go_round
   case rel => exact ⟨i + 1, by go_num, by omega, HB3.out, HW3.out⟩
   case measure => simp [intOf]; omega
  ·clear HS HWr
   go_wp2
   all_goals (go_ret; exact ⟨rfl, HBr.out⟩)
theorem all_some (w : World) (sb so n cap : Nat) (os : Nat → OpV) (h : Scr w sb so n os) (ht : Tab w) :
  Calls Tryz.prog 5 #[.slice (some ⟨sb, so, none⟩) n cap] w fun e w' => e = .returned (.bool true) ∧ Below w.heap.size w w' := by
 have HS := hid h
 have HT := hid ht
 clear h ht
 go_enter Tryz.func5, Tryz.ntmps5
 go_wp2_with fail
 refine (small_any w sb so n cap os HS.out).mono ?_
 rintro e w1 ⟨b, rfl, hbn, hb1⟩
 have HB1 := hid hb1
 have HBN := hid hbn
 clear hb1 hbn
 cases b with
 | false =>
  go_wp2
  all_goals (go_ret; exact ⟨rfl, HB1.out⟩)
 | true =>
  have HS1 : Hid (Scr w1 sb so n os) := ⟨HS.out.ok, fun i hi => keep_cell' HB1.out (HS.out.c0 i hi), fun i hi => keep_cell' HB1.out (HS.out.c1 i hi), fun i hi => keep_cell' HB1.out (HS.out.c2 i hi), fun i hi => keep_cell' HB1.out (HS.out.c3 i hi), fun i hi => keep_cell' HB1.out (HS.out.c4 i hi), fun i hi => keep_cell' HB1.out (HS.out.c5 i hi)⟩
  go_wp2_with fail
  refine (upTo_any w1 sb so n cap os HS1.out (by first | exact HBN.out rfl | exact HBN.out trivial) (HT.out.below HB1.out)).mono ?_
  rintro e w2 ⟨rfl, hb2⟩
  have HB2 : Hid (Below w.heap.size w w2) := HB1.out.trans (hb2.mono HB1.out.size)
  clear hb2
  go_wp2
  all_goals (go_ret; exact ⟨rfl, HB2.out⟩)
theorem small_nil (w : World) (sa : Option Addr) (cap : Nat) :
  Calls Tryz.prog 9 #[.slice sa 0 cap] w fun e w' => e = .returned (.bool true) ∧ Below w.heap.size w w' := by
 go_enter Tryz.func9, Tryz.ntmps9
 go_wp2
 go_loopw [4] (fun ii wr => ii = .int .i64 0 ∧ Hid (Below w.heap.size w wr)) (fun _ _ => 0)
 case atStart => exact ⟨rfl, Below.refl _ _⟩
 case round =>
  obtain ⟨rfl, HB⟩ := hrel
  go_wp2
  all_goals (go_ret; exact ⟨rfl, HB.out⟩)
theorem upTo_nil (w : World) (sa : Option Addr) (cap : Nat) :
  Calls Tryz.prog 10 #[.slice sa 0 cap] w fun e w' => e = .returned (.int .i64 (-1)) ∧ Below w.heap.size w w' := by
 go_enter Tryz.func10, Tryz.ntmps10
 go_wp2_with fail
 refine (new_ptr w).mono ?_
 rintro e w1 ⟨g, hr, hb1⟩
 subst hr
 obtain ⟨w2, hw2⟩ : ∃ w2, w2 = w1.alloc (.cells #[.pointer (some ⟨g, 0, none⟩), .int .i64 0, .string ⟨#[]⟩] 47) := ⟨_, rfl⟩
 have HB : Hid (Below w.heap.size w w2) := by unfold Hid; rw [hw2]; exact hb1.alloc hb1.size _
 have HW2 := hid hw2
 clear hb1 hw2
 go_wp2_with (rw [← HW2.out])
 go_loopw [5] (fun ii wr => ii = .int .i64 0 ∧ Hid (Below w.heap.size w wr)) (fun _ _ => 0)
 case atStart => exact ⟨rfl, HB.out⟩
 case round =>
  obtain ⟨rfl, HBr⟩ := hrel
  go_wp2
  all_goals (go_ret; exact ⟨rfl, HBr.out⟩)
theorem all_nil (w : World) (sa : Option Addr) (cap : Nat) :
  Calls Tryz.prog 5 #[.slice sa 0 cap] w fun e w' => e = .returned (.bool true) ∧ Below w.heap.size w w' := by
 go_enter Tryz.func5, Tryz.ntmps5
 go_wp2_with fail
 refine (small_nil w sa cap).mono ?_
 rintro e w1 ⟨rfl, hb1⟩
 have HB1 := hid hb1
 clear hb1
 go_wp2_with fail
 refine (upTo_nil w1 sa cap).mono ?_
 rintro e w2 ⟨rfl, hb2⟩
 have HB2 : Hid (Below w.heap.size w w2) := HB1.out.trans (hb2.mono HB1.out.size)
 clear hb2
 go_wp2
 all_goals (go_ret; exact ⟨rfl, HB2.out⟩)
end Go.Proofs.YtbkdaoicnobllabGreatDoor
