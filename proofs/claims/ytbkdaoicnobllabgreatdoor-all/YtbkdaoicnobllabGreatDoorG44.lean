import Derived.Test.YtbkdaoicnobllabGreatDoorG43

namespace Go.Proofs.YtbkdaoicnobllabGreatDoor
set_option maxRecDepth 100000
set_option maxHeartbeats 2000000
open Go.RowKit

theorem step1 (W0 w : World) (G : Nat) (cv : Value) (x : Int) (s : ByteArray) (a b c : Int) (S T : ByteArray) (ht : Tab W0) (hB : Below W0.heap.size W0 w) (hG : W0.heap.size ≤ G) (hw : WAt w G cv x s) (hS : S.size ≤ maxLen) :
  Calls Tryz.prog 19 #[.pointer (some ⟨G, 0, none⟩), .agg #[.int .i64 1, .int .i64 a, .int .i64 b, .int .i64 c, .string S, .string T]] w fun e w' => StepPost W0 w' G e := by
 have HG := hid hG
 have HT := hid ht
 obtain ⟨H, hH⟩ : ∃ H, H = w.heap.size := ⟨_, rfl⟩
 obtain ⟨wb, hwb⟩ : ∃ wb, wb = w.alloc (.cells #[.int .i64 1, .int .i64 a, .int .i64 b, .int .i64 c, .string S, .string T] 44) := ⟨_, rfl⟩
 have HBW : Hid (Below w.heap.size w wb) := by unfold Hid; rw [hwb]; exact (Below.refl _ _).alloc (Nat.le_refl _) _
 have HW : Hid (WAt wb G cv x s) := hw.below HBW.out
 have HB : Hid (Below W0.heap.size W0 wb) := hB.trans (HBW.out.mono hB.size)
 have d0 : wb.cell? ⟨H, 0, none⟩ = some (.int .i64 1) := by rw [hwb, hH]; simp [go_sem]
 have d1 : wb.cell? ⟨H, 1, none⟩ = some (.int .i64 a) := by rw [hwb, hH]; simp [go_sem]
 have d2 : wb.cell? ⟨H, 2, none⟩ = some (.int .i64 b) := by rw [hwb, hH]; simp [go_sem]
 have d3 : wb.cell? ⟨H, 3, none⟩ = some (.int .i64 c) := by rw [hwb, hH]; simp [go_sem]
 have d4 : wb.cell? ⟨H, 4, none⟩ = some (.string S) := by rw [hwb, hH]; simp [go_sem]
 have HWB := hid hwb
 have HHH := hid hH
 have g0 := HW.out.c0
 have g1 := HW.out.c1
 have g2 := HW.out.c2
 have p0 := HW.out.f0
 have p1 := HW.out.f1
 have p2 := HW.out.f2
 have hx1 := HW.out.lo
 have hx2 := HW.out.hi
 have hsz := HW.out.sz
 clear hG hw hB ht hwb hH HBW
 have HPA := hid (fun (cv : Value) (f m : Int) (w : World) => parsed_any cv S f m w hS)
 clear hS hsz hx1 hx2
 go_enter Tryz.func19, Tryz.ntmps19
 go_wp2_with (rw [← HWB.out, ← HHH.out])
 go_region_held3 (fun w' => w'.cell? ⟨G, 0, none⟩ = some cv ∧ w'.cell? ⟨H, 4, none⟩ = some (.string S))
  (first | go_keep | exact ⟨keep_cell' hb (by assumption), keep_cell' hb (by assumption)⟩)
  ((go_at_call 23; refine (HPA.out _ _ _ _).mono ?_; rintro e w1 ⟨bt, rfl, hb, hb1, hb2⟩))
 have HBA : Hid (Below wb.heap.size wb w1) := (Below.refl _ _).drew.trans hb
 have HW1 : Hid (WAt w1 G cv x s) := HW.out.below HBA.out
 have HB1 : Hid (Below W0.heap.size W0 w1) := HB.out.trans (HBA.out.mono HB.out.size)
 have q1 := HW1.out.c1
 have q2 := HW1.out.c2
 have q3 := HW1.out.f1
 have q4 := HW1.out.f2
 clear hb HBA g0 g1 g2 p0 p1 p2 d0 d1 d2 d3 d4 HWB HHH HW HB
 have HN : Hid (WAt (w1.setCell ⟨G, 1, none⟩ (.int .i64 bt)) G cv bt s) := HW1.out.set1 bt hb1 hb2
 have HNB : Hid (Below W0.heap.size W0 (w1.setCell ⟨G, 1, none⟩ (.int .i64 bt))) := HB1.out.setCell (p := ⟨G, 1, none⟩) HG.out _
 clear HW1 HB1 HPA hb1 hb2
 go_wp2
 go_ret
 exact ⟨rfl, HNB.out, cv, bt, s, HN.out⟩

theorem step2 (W0 w : World) (G : Nat) (cv : Value) (x : Int) (s : ByteArray) (a b c : Int) (S T : ByteArray) (ht : Tab W0) (hB : Below W0.heap.size W0 w) (hG : W0.heap.size ≤ G) (hw : WAt w G cv x s) (ha : -9223372036854775808 ≤ a ∧ a ≤ 9223372036854775807) :
  Calls Tryz.prog 19 #[.pointer (some ⟨G, 0, none⟩), .agg #[.int .i64 2, .int .i64 a, .int .i64 b, .int .i64 c, .string S, .string T]] w fun e w' => StepPost W0 w' G e := by
 have HG := hid hG
 have HT := hid ht
 obtain ⟨H, hH⟩ : ∃ H, H = w.heap.size := ⟨_, rfl⟩
 obtain ⟨wb, hwb⟩ : ∃ wb, wb = w.alloc (.cells #[.int .i64 2, .int .i64 a, .int .i64 b, .int .i64 c, .string S, .string T] 44) := ⟨_, rfl⟩
 have HBW : Hid (Below w.heap.size w wb) := by unfold Hid; rw [hwb]; exact (Below.refl _ _).alloc (Nat.le_refl _) _
 have HW : Hid (WAt wb G cv x s) := hw.below HBW.out
 have HB : Hid (Below W0.heap.size W0 wb) := hB.trans (HBW.out.mono hB.size)
 have d0 : wb.cell? ⟨H, 0, none⟩ = some (.int .i64 2) := by rw [hwb, hH]; simp [go_sem]
 have d1 : wb.cell? ⟨H, 1, none⟩ = some (.int .i64 a) := by rw [hwb, hH]; simp [go_sem]
 have d2 : wb.cell? ⟨H, 2, none⟩ = some (.int .i64 b) := by rw [hwb, hH]; simp [go_sem]
 have d3 : wb.cell? ⟨H, 3, none⟩ = some (.int .i64 c) := by rw [hwb, hH]; simp [go_sem]
 have d4 : wb.cell? ⟨H, 4, none⟩ = some (.string S) := by rw [hwb, hH]; simp [go_sem]
 have HWB := hid hwb
 have HHH := hid hH
 have g0 := HW.out.c0
 have g1 := HW.out.c1
 have g2 := HW.out.c2
 have p0 := HW.out.f0
 have p1 := HW.out.f1
 have p2 := HW.out.f2
 have hx1 := HW.out.lo
 have hx2 := HW.out.hi
 have hsz := HW.out.sz
 clear hG hw hB ht hwb hH HBW
 have HN : Hid (WAt (wb.setCell ⟨G, 1, none⟩ (.int .i64 a)) G cv a s) := HW.out.set1 a ha.1 ha.2
 have HNB : Hid (Below W0.heap.size W0 (wb.setCell ⟨G, 1, none⟩ (.int .i64 a))) := HB.out.setCell (p := ⟨G, 1, none⟩) HG.out _
 clear HW HB ha hsz hx1 hx2
 go_enter Tryz.func19, Tryz.ntmps19
 go_wp2_with (rw [← HWB.out, ← HHH.out])
 go_wp2
 go_ret
 exact ⟨rfl, HNB.out, cv, a, s, HN.out⟩

theorem step3 (W0 w : World) (G : Nat) (cv : Value) (x : Int) (s : ByteArray) (a b c : Int) (S T : ByteArray) (ht : Tab W0) (hB : Below W0.heap.size W0 w) (hG : W0.heap.size ≤ G) (hw : WAt w G cv x s) :
  Calls Tryz.prog 19 #[.pointer (some ⟨G, 0, none⟩), .agg #[.int .i64 3, .int .i64 a, .int .i64 b, .int .i64 c, .string S, .string T]] w fun e w' => StepPost W0 w' G e := by
 have HG := hid hG
 have HT := hid ht
 obtain ⟨H, hH⟩ : ∃ H, H = w.heap.size := ⟨_, rfl⟩
 obtain ⟨wb, hwb⟩ : ∃ wb, wb = w.alloc (.cells #[.int .i64 3, .int .i64 a, .int .i64 b, .int .i64 c, .string S, .string T] 44) := ⟨_, rfl⟩
 have HBW : Hid (Below w.heap.size w wb) := by unfold Hid; rw [hwb]; exact (Below.refl _ _).alloc (Nat.le_refl _) _
 have HW : Hid (WAt wb G cv x s) := hw.below HBW.out
 have HB : Hid (Below W0.heap.size W0 wb) := hB.trans (HBW.out.mono hB.size)
 have d0 : wb.cell? ⟨H, 0, none⟩ = some (.int .i64 3) := by rw [hwb, hH]; simp [go_sem]
 have d1 : wb.cell? ⟨H, 1, none⟩ = some (.int .i64 a) := by rw [hwb, hH]; simp [go_sem]
 have d2 : wb.cell? ⟨H, 2, none⟩ = some (.int .i64 b) := by rw [hwb, hH]; simp [go_sem]
 have d3 : wb.cell? ⟨H, 3, none⟩ = some (.int .i64 c) := by rw [hwb, hH]; simp [go_sem]
 have d4 : wb.cell? ⟨H, 4, none⟩ = some (.string S) := by rw [hwb, hH]; simp [go_sem]
 have HWB := hid hwb
 have HHH := hid hH
 have g0 := HW.out.c0
 have g1 := HW.out.c1
 have g2 := HW.out.c2
 have p0 := HW.out.f0
 have p1 := HW.out.f1
 have p2 := HW.out.f2
 have hx1 := HW.out.lo
 have hx2 := HW.out.hi
 have hsz := HW.out.sz
 clear hG hw hB ht hwb hH HBW
 obtain ⟨y, hy⟩ : ∃ y, y = wrap64 (x + a) := ⟨_, rfl⟩
 have hyb : -9223372036854775808 ≤ y ∧ y ≤ 9223372036854775807 := by rw [hy]; unfold wrap64; omega
 have HN : Hid (WAt (wb.setCell ⟨G, 1, none⟩ (.int .i64 y)) G cv y s) := HW.out.set1 y hyb.1 hyb.2
 have HNB : Hid (Below W0.heap.size W0 (wb.setCell ⟨G, 1, none⟩ (.int .i64 y))) := HB.out.setCell (p := ⟨G, 1, none⟩) HG.out _
 have hy' := hy.symm
 clear HW HB hsz hyb hy
 go_enter Tryz.func19, Tryz.ntmps19
 go_wp2_with (rw [← HWB.out, ← HHH.out])
 go_region
 go_wp2
 go_ret
 exact ⟨rfl, HNB.out.drew, cv, y, s, HN.out.below (Below.refl _ _).drew⟩

theorem step4 (W0 w : World) (G : Nat) (cv : Value) (x : Int) (s : ByteArray) (a b c : Int) (S T : ByteArray) (ht : Tab W0) (hB : Below W0.heap.size W0 w) (hG : W0.heap.size ≤ G) (hw : WAt w G cv x s) (ha : -9223372036854775808 ≤ a ∧ a ≤ 9223372036854775807) (hc : -9223372036854775808 ≤ c ∧ c ≤ 9223372036854775807) :
    Calls Tryz.prog 19 #[.pointer (some ⟨G, 0, none⟩), .agg #[.int .i64 4, .int .i64 a, .int .i64 b, .int .i64 c, .string S, .string T]] w fun e w' => StepPost W0 w' G e := by
  have HG := hid hG
  have HT := hid ht
  obtain ⟨H, hH⟩ : ∃ H, H = w.heap.size := ⟨_, rfl⟩
  obtain ⟨wb, hwb⟩ : ∃ wb, wb = w.alloc (.cells #[.int .i64 4, .int .i64 a, .int .i64 b, .int .i64 c, .string S, .string T] 44) := ⟨_, rfl⟩
  have HBW : Hid (Below w.heap.size w wb) := by unfold Hid; rw [hwb]; exact (Below.refl _ _).alloc (Nat.le_refl _) _
  have HW : Hid (WAt wb G cv x s) := hw.below HBW.out
  have HB : Hid (Below W0.heap.size W0 wb) := hB.trans (HBW.out.mono hB.size)
  have d0 : wb.cell? ⟨H, 0, none⟩ = some (.int .i64 4) := by rw [hwb, hH]; simp [go_sem]
  have d1 : wb.cell? ⟨H, 1, none⟩ = some (.int .i64 a) := by rw [hwb, hH]; simp [go_sem]
  have d2 : wb.cell? ⟨H, 2, none⟩ = some (.int .i64 b) := by rw [hwb, hH]; simp [go_sem]
  have d3 : wb.cell? ⟨H, 3, none⟩ = some (.int .i64 c) := by rw [hwb, hH]; simp [go_sem]
  have d4 : wb.cell? ⟨H, 4, none⟩ = some (.string S) := by rw [hwb, hH]; simp [go_sem]
  have HWB := hid hwb
  have HHH := hid hH
  have g0 := HW.out.c0
  have g1 := HW.out.c1
  have g2 := HW.out.c2
  have p0 := HW.out.f0
  have p1 := HW.out.f1
  have p2 := HW.out.f2
  have hx1 := HW.out.lo
  have hx2 := HW.out.hi
  have hsz := HW.out.sz
  clear hG hw hB ht hwb hH HBW
  have HFA := hid (fun (f v p m : Int) (w : World) (hw : Tab w) => both_any cv x f v p m hx1 hx2 w hw)
  have HP6 := hid (lpick_any c 6 (by omega) (by omega) hc)
  have HP40 := hid (lpick_any a 40 (by omega) (by omega) ha)
  have HP803 := hid (lpick_any a 803 (by omega) (by omega) ha)
  obtain ⟨vb, hvb⟩ : ∃ vb : Nat, vb = pickV c 6 := ⟨_, rfl⟩
  have hv6 : vb < 6 := by rw [hvb]; exact Nat.mod_lt _ (by omega)
  obtain ⟨m1, hm1⟩ : ∃ m1 : Nat, m1 = pickV a 40 := ⟨_, rfl⟩
  have hm40 : m1 < 40 := by rw [hm1]; exact Nat.mod_lt _ (by omega)
  obtain ⟨m2, hm2⟩ : ∃ m2 : Nat, m2 = pickV a 803 := ⟨_, rfl⟩
  have hm803 : m2 < 803 := by rw [hm2]; exact Nat.mod_lt _ (by omega)
  rw [← hvb] at HP6
  rw [← hm1] at HP40
  rw [← hm2] at HP803
  clear hvb hm1 hm2 ha hc hsz hx1 hx2
  go_enter Tryz.func19, Tryz.ntmps19
  go_wp2_with (rw [← HWB.out, ← HHH.out])
  refine (HP6.out _).mono ?_
  rintro e w' ⟨rfl, rfl⟩
  go_wp2_with fail
  refine (HP40.out _).mono ?_
  rintro e w' ⟨rfl, rfl⟩
  clear HP6 HP40
  have key : ∃ v2 v4 : Bool, (decide ((vb : Int) < 2) = v2) ∧ (((vb : Int) == 4) = v4) := ⟨_, _, rfl, rfl⟩
  obtain ⟨v2, v4, tv2, tv4⟩ := key
  by_cases hA : a < 0
  · have tA : decide (a < 0) = true := by simpa using hA
    go_wp2_with (rw [← HWB.out, ← HHH.out])
    refine (HP803.out _).mono ?_
    rintro e w' ⟨rfl, rfl⟩
    clear HP803 hA
    cases v2 <;> cases v4
    all_goals
    (go_wp2_with fail
     go_region_held3 (fun w' => w'.cell? ⟨G, 0, none⟩ = some cv ∧ w'.cell? ⟨G, 1, none⟩ = some (.int .i64 x))
     (first | go_keep | exact ⟨keep_cell' hb (by assumption), keep_cell' hb (by assumption)⟩)
     ((go_at_call 25; refine (HFA.out _ _ _ _ _ (HT.out.below HB.out.drew)).mono ?_; rintro e w1 ⟨tx, rfl, htx, hb⟩))
     have HBA := hid ((Below.refl _ _).drew.trans hb)
     have HW1 : Hid (WAt w1 G cv x s) := HW.out.below HBA.out
     have HB1 : Hid (Below W0.heap.size W0 w1) := HB.out.trans (HBA.out.mono HB.out.size)
     have q2 := HW1.out.c2
     have q4 := HW1.out.f2
     have HN : Hid (WAt (w1.setCell ⟨G, 2, none⟩ (.string tx)) G cv x tx) := HW1.out.set2 tx htx
     have HNB : Hid (Below W0.heap.size W0 (w1.setCell ⟨G, 2, none⟩ (.string tx))) := HB1.out.setCell (p := ⟨G, 2, none⟩) HG.out _
     clear hb HBA HW1 HB1 HFA htx g0 g1 g2 p0 p1 p2 d0 d1 d2 d3 d4 HWB HHH HW HB
     go_wp2
     go_ret
     exact ⟨rfl, HNB.out, cv, x, tx, HN.out⟩)
  · have tA : decide (a < 0) = false := by simpa using hA
    clear HP803 hA
    cases v2 <;> cases v4
    all_goals
    (go_wp2_with (rw [← HWB.out, ← HHH.out])
     go_region_held3 (fun w' => w'.cell? ⟨G, 0, none⟩ = some cv ∧ w'.cell? ⟨G, 1, none⟩ = some (.int .i64 x))
     (first | go_keep | exact ⟨keep_cell' hb (by assumption), keep_cell' hb (by assumption)⟩)
     ((go_at_call 25; refine (HFA.out _ _ _ _ _ (HT.out.below HB.out.drew)).mono ?_; rintro e w1 ⟨tx, rfl, htx, hb⟩))
     have HBA := hid ((Below.refl _ _).drew.trans hb)
     have HW1 : Hid (WAt w1 G cv x s) := HW.out.below HBA.out
     have HB1 : Hid (Below W0.heap.size W0 w1) := HB.out.trans (HBA.out.mono HB.out.size)
     have q2 := HW1.out.c2
     have q4 := HW1.out.f2
     have HN : Hid (WAt (w1.setCell ⟨G, 2, none⟩ (.string tx)) G cv x tx) := HW1.out.set2 tx htx
     have HNB : Hid (Below W0.heap.size W0 (w1.setCell ⟨G, 2, none⟩ (.string tx))) := HB1.out.setCell (p := ⟨G, 2, none⟩) HG.out _
     clear hb HBA HW1 HB1 HFA htx g0 g1 g2 p0 p1 p2 d0 d1 d2 d3 d4 HWB HHH HW HB
     go_wp2
     go_ret
     exact ⟨rfl, HNB.out, cv, x, tx, HN.out⟩)

theorem step5 (W0 w : World) (G : Nat) (cv : Value) (x : Int) (s : ByteArray) (a b c : Int) (S T : ByteArray) (ht : Tab W0) (hB : Below W0.heap.size W0 w) (hG : W0.heap.size ≤ G) (hw : WAt w G cv x s) :
  Calls Tryz.prog 19 #[.pointer (some ⟨G, 0, none⟩), .agg #[.int .i64 5, .int .i64 a, .int .i64 b, .int .i64 c, .string S, .string T]] w fun e w' => StepPost W0 w' G e := by
 have HG := hid hG
 have HT := hid ht
 obtain ⟨H, hH⟩ : ∃ H, H = w.heap.size := ⟨_, rfl⟩
 obtain ⟨wb, hwb⟩ : ∃ wb, wb = w.alloc (.cells #[.int .i64 5, .int .i64 a, .int .i64 b, .int .i64 c, .string S, .string T] 44) := ⟨_, rfl⟩
 have HBW : Hid (Below w.heap.size w wb) := by unfold Hid; rw [hwb]; exact (Below.refl _ _).alloc (Nat.le_refl _) _
 have HW : Hid (WAt wb G cv x s) := hw.below HBW.out
 have HB : Hid (Below W0.heap.size W0 wb) := hB.trans (HBW.out.mono hB.size)
 have d0 : wb.cell? ⟨H, 0, none⟩ = some (.int .i64 5) := by rw [hwb, hH]; simp [go_sem]
 have d1 : wb.cell? ⟨H, 1, none⟩ = some (.int .i64 a) := by rw [hwb, hH]; simp [go_sem]
 have d2 : wb.cell? ⟨H, 2, none⟩ = some (.int .i64 b) := by rw [hwb, hH]; simp [go_sem]
 have d3 : wb.cell? ⟨H, 3, none⟩ = some (.int .i64 c) := by rw [hwb, hH]; simp [go_sem]
 have d4 : wb.cell? ⟨H, 4, none⟩ = some (.string S) := by rw [hwb, hH]; simp [go_sem]
 have HWB := hid hwb
 have HHH := hid hH
 have g0 := HW.out.c0
 have g1 := HW.out.c1
 have g2 := HW.out.c2
 have p0 := HW.out.f0
 have p1 := HW.out.f1
 have p2 := HW.out.f2
 have hx1 := HW.out.lo
 have hx2 := HW.out.hi
 have hsz := HW.out.sz
 clear hG hw hB ht hwb hH HBW
 have HPA := hid (fun (cv : Value) (f m : Int) (w : World) => parsed_any cv s f m w (Nat.le_trans HW.out.sz (by unfold maxLen; omega)))
 clear hsz hx1 hx2
 go_enter Tryz.func19, Tryz.ntmps19
 go_wp2_with (rw [← HWB.out, ← HHH.out])
 go_region_held3 (fun w' => w'.cell? ⟨G, 0, none⟩ = some cv ∧ w'.cell? ⟨G, 2, none⟩ = some (.string s))
  (first | go_keep | exact ⟨keep_cell' hb (by assumption), keep_cell' hb (by assumption)⟩)
  ((go_at_call 23; refine (HPA.out _ _ _ _).mono ?_; rintro e w1 ⟨bt, rfl, hb, hb1, hb2⟩))
 have HBA : Hid (Below wb.heap.size wb w1) := (Below.refl _ _).drew.trans hb
 have HW1 : Hid (WAt w1 G cv x s) := HW.out.below HBA.out
 have HB1 : Hid (Below W0.heap.size W0 w1) := HB.out.trans (HBA.out.mono HB.out.size)
 have q1 := HW1.out.c1
 have q2 := HW1.out.c2
 have q3 := HW1.out.f1
 have q4 := HW1.out.f2
 clear hb HBA g0 g1 g2 p0 p1 p2 d0 d1 d2 d3 d4 HWB HHH HW HB
 have HN : Hid (WAt (w1.setCell ⟨G, 1, none⟩ (.int .i64 bt)) G cv bt s) := HW1.out.set1 bt hb1 hb2
 have HNB : Hid (Below W0.heap.size W0 (w1.setCell ⟨G, 1, none⟩ (.int .i64 bt))) := HB1.out.setCell (p := ⟨G, 1, none⟩) HG.out _
 clear HW1 HB1 HPA hb1 hb2
 go_wp2
 go_ret
 exact ⟨rfl, HNB.out, cv, bt, s, HN.out⟩

theorem step6 (W0 w : World) (G : Nat) (cv : Value) (x : Int) (s : ByteArray) (a b c : Int) (S T : ByteArray) (ht : Tab W0) (hB : Below W0.heap.size W0 w) (hG : W0.heap.size ≤ G) (hw : WAt w G cv x s) (ha : -9223372036854775808 ≤ a ∧ a ≤ 9223372036854775807) :
    Calls Tryz.prog 19 #[.pointer (some ⟨G, 0, none⟩), .agg #[.int .i64 6, .int .i64 a, .int .i64 b, .int .i64 c, .string S, .string T]] w fun e w' => StepPost W0 w' G e := by
  have HG := hid hG
  have HT := hid ht
  obtain ⟨H, hH⟩ : ∃ H, H = w.heap.size := ⟨_, rfl⟩
  obtain ⟨wb, hwb⟩ : ∃ wb, wb = w.alloc (.cells #[.int .i64 6, .int .i64 a, .int .i64 b, .int .i64 c, .string S, .string T] 44) := ⟨_, rfl⟩
  have HBW : Hid (Below w.heap.size w wb) := by unfold Hid; rw [hwb]; exact (Below.refl _ _).alloc (Nat.le_refl _) _
  have HW : Hid (WAt wb G cv x s) := hw.below HBW.out
  have HB : Hid (Below W0.heap.size W0 wb) := hB.trans (HBW.out.mono hB.size)
  have d0 : wb.cell? ⟨H, 0, none⟩ = some (.int .i64 6) := by rw [hwb, hH]; simp [go_sem]
  have d1 : wb.cell? ⟨H, 1, none⟩ = some (.int .i64 a) := by rw [hwb, hH]; simp [go_sem]
  have d2 : wb.cell? ⟨H, 2, none⟩ = some (.int .i64 b) := by rw [hwb, hH]; simp [go_sem]
  have d3 : wb.cell? ⟨H, 3, none⟩ = some (.int .i64 c) := by rw [hwb, hH]; simp [go_sem]
  have d4 : wb.cell? ⟨H, 4, none⟩ = some (.string S) := by rw [hwb, hH]; simp [go_sem]
  have HWB := hid hwb
  have HHH := hid hH
  have g0 := HW.out.c0
  have g1 := HW.out.c1
  have g2 := HW.out.c2
  have p0 := HW.out.f0
  have p1 := HW.out.f1
  have p2 := HW.out.f2
  have hx1 := HW.out.lo
  have hx2 := HW.out.hi
  have hsz := HW.out.sz
  clear hG hw hB ht hwb hH HBW
  by_cases h0 : s.toList = []
  · have t0 : s.toList.isEmpty = true := by simp [h0]
    clear h0 ha hx1 hx2 hsz
    go_enter Tryz.func19, Tryz.ntmps19
    go_wp2_with (rw [← HWB.out, ← HHH.out])
    all_goals (go_wp2; go_ret; exact ⟨rfl, HB.out, cv, x, s, HW.out⟩)
  · have t0 : s.toList.isEmpty = false := by simpa using h0
    obtain ⟨l, hl⟩ : ∃ l : List UInt8, s = str l := ⟨s.data.toList, by unfold str; simp⟩
    have hll : s.size = l.length := by rw [hl, str_size]
    have hl0 : 0 < l.length := by
      apply Nat.pos_of_ne_zero; intro hz
      apply h0; rw [hl, str_toList]; exact List.length_eq_zero_iff.1 hz
    have HC := hid (run_bytes_of_string (P := Tryz.prog) wb 9 53 5 s Tryz.underlying9 Tryz.underlying53 Tryz.underlying5)
    rw [hll] at HC
    obtain ⟨cap, hcap⟩ : ∃ cap, cap = grownCap wb l.length 0 5 := ⟨_, rfl⟩
    rw [← hcap] at HC
    obtain ⟨C, hC⟩ : ∃ C, C = bytesRow s cap := ⟨_, rfl⟩
    rw [← hC] at HC
    obtain ⟨K, hK⟩ : ∃ K, K = wb.heap.size := ⟨_, rfl⟩
    obtain ⟨w1, hw1⟩ : ∃ w1, w1 = wb.drew.alloc (.cells C 5 (C.size, C.size + 1)) := ⟨_, rfl⟩
    have HBW1 : Hid (Below wb.heap.size wb w1) := by unfold Hid; rw [hw1]; exact (Below.refl _ _).drew.alloc (Nat.le_refl _) _
    have HA1 : Hid (BytesAt w1 K l) := by
      unfold Hid
      rw [hw1, hK]
      refine BytesAt.new wb.drew l C _ C.size ?_ (fun j hj => by
        rw [hC, hl]
        have := bytesRow_at (str l) cap j (by unfold str; simpa using hj)
        rw [this]; rfl)
      rw [hC, hl]; unfold bytesRow; simp [str]
    rw [← hw1, ← hK] at HC
    have hc := HC.out
    have HKB : Hid (W0.heap.size ≤ K) := by unfold Hid; rw [hK]; exact HB.out.size
    have HGK : Hid (G ≠ K) := by unfold Hid; rw [hK]; exact Nat.ne_of_lt HW.out.lt
    have HBK : Hid (∀ (wx : World) (l' : List UInt8), l'.length = l.length → BytesAt wx K l' → (convert 53 9 (.slice (some ⟨K, 0, none⟩) l.length cap)).run Tryz.prog wx = .ok (.string (str l')) wx) := fun wx l' hll hb => by
      rw [← hll]
      exact run_convert_bytes_back (P := Tryz.prog) wx 53 9 5 ⟨K, 0, none⟩ cap l' Tryz.underlying53 Tryz.underlying5 Tryz.underlying9 (fun j hj => by
        have e : (⟨K, 0, none⟩ : Addr).add j = ⟨K, j, none⟩ := by
          by_cases h0 : j = 0
          · subst h0; simp [Addr.add]
          · simp [Addr.add, h0]
        rw [e]; exact (hb j hj).1)
    have HPK := hid (lpick_any a l.length hl0 (by omega) ha)
    obtain ⟨j, hj⟩ : ∃ j : Nat, j = pickV a l.length := ⟨_, rfl⟩
    have hjl : j < l.length := by rw [hj]; exact Nat.mod_lt _ hl0
    rw [← hj] at HPK
    have HW1 : Hid (WAt w1 G cv x s) := HW.out.below HBW1.out
    have HB1 : Hid (Below W0.heap.size W0 w1) := HB.out.trans (HBW1.out.mono HB.out.size)
    have r1 := keep_cell' HBW1.out d1
    have r3 := keep_cell' HBW1.out d3
    obtain ⟨cj, fj⟩ := HA1.out j hjl
    obtain ⟨n, hn⟩ : ∃ n, n = l.length := ⟨_, rfl⟩
    have HNL := hid hn
    have HJL : Hid (j < l.length) := hjl
    rw [← hn] at hc HPK hjl HBK
    have hn6 : n ≤ 6000 := by omega
    have HSL := hid hl
    clear hw1 hC hcap HC hK h0 hll hl0 hj hn hl ha HBW1 hx1 hx2
    go_enter Tryz.func19, Tryz.ntmps19
    go_wp2_with (rw [← HWB.out, ← HHH.out])
    obtain ⟨bz, hbz⟩ := wrap_byte c
    obtain ⟨z, hz⟩ : ∃ z : Int, z = IntKind.u8.wrap c := ⟨_, rfl⟩
    obtain ⟨w2, hw2⟩ : ∃ w2, w2 = (w1.setCell ⟨K, j, none⟩ (.int .u8 z)).drew := ⟨_, rfl⟩
    have HA2 : Hid (BytesAt w2 K (l.set j bz)) := by
      unfold Hid; rw [hw2]
      exact fun i hi => HA1.out.set j HJL.out bz z (by rw [hz, hbz]) i hi
    have hbk := HBK.out w2 (l.set j bz) (by rw [List.length_set, HNL.out]) HA2.out
    have HW2 : Hid (WAt w2 G cv x s) := by
      unfold Hid; rw [hw2]
      exact (HW1.out.other ⟨K, j, none⟩ _ (fun h => HGK.out h.symm)).below (Below.refl _ _).drew
    have HB2 : Hid (Below W0.heap.size W0 w2) := by
      unfold Hid; rw [hw2]
      exact (HB1.out.setCell (p := ⟨K, j, none⟩) HKB.out _).drew
    have HSZ : Hid ((str (l.set j bz)).size ≤ 6000) := by unfold Hid; rw [str_size, List.length_set, ← HNL.out]; exact hn6
    have HN : Hid (WAt (w2.setCell ⟨G, 2, none⟩ (.string (str (l.set j bz)))) G cv x (str (l.set j bz))) := HW2.out.set2 _ HSZ.out
    have HNB : Hid (Below W0.heap.size W0 (w2.setCell ⟨G, 2, none⟩ (.string (str (l.set j bz))))) := HB2.out.setCell (p := ⟨G, 2, none⟩) HG.out _
    have q2 := HW2.out.c2
    have q4 := HW2.out.f2
    have HW2E := hid hw2
    have HZ := hid hz
    clear hbz hw2 hz HA2 HBK HW1 HB1 HSZ HW2 HB2
    go_region_with (go_at_call 24; refine (HPK.out _).mono ?_; rintro e w' ⟨rfl, hw'⟩; subst hw')
    all_goals
    (rw [← HZ.out, ← HW2E.out]
     go_wp2
     go_ret
     exact ⟨rfl, HNB.out, cv, x, _, HN.out⟩)

theorem step7 (W0 w : World) (G : Nat) (cv : Value) (x : Int) (s : ByteArray) (a b c : Int) (S T : ByteArray) (ht : Tab W0) (hB : Below W0.heap.size W0 w) (hG : W0.heap.size ≤ G) (hw : WAt w G cv x s) :
  Calls Tryz.prog 19 #[.pointer (some ⟨G, 0, none⟩), .agg #[.int .i64 7, .int .i64 a, .int .i64 b, .int .i64 c, .string S, .string T]] w fun e w' => StepPost W0 w' G e := by
 have HG := hid hG
 have HT := hid ht
 obtain ⟨H, hH⟩ : ∃ H, H = w.heap.size := ⟨_, rfl⟩
 obtain ⟨wb, hwb⟩ : ∃ wb, wb = w.alloc (.cells #[.int .i64 7, .int .i64 a, .int .i64 b, .int .i64 c, .string S, .string T] 44) := ⟨_, rfl⟩
 have HBW : Hid (Below w.heap.size w wb) := by unfold Hid; rw [hwb]; exact (Below.refl _ _).alloc (Nat.le_refl _) _
 have HW : Hid (WAt wb G cv x s) := hw.below HBW.out
 have HB : Hid (Below W0.heap.size W0 wb) := hB.trans (HBW.out.mono hB.size)
 have d0 : wb.cell? ⟨H, 0, none⟩ = some (.int .i64 7) := by rw [hwb, hH]; simp [go_sem]
 have d1 : wb.cell? ⟨H, 1, none⟩ = some (.int .i64 a) := by rw [hwb, hH]; simp [go_sem]
 have d2 : wb.cell? ⟨H, 2, none⟩ = some (.int .i64 b) := by rw [hwb, hH]; simp [go_sem]
 have d3 : wb.cell? ⟨H, 3, none⟩ = some (.int .i64 c) := by rw [hwb, hH]; simp [go_sem]
 have d4 : wb.cell? ⟨H, 4, none⟩ = some (.string S) := by rw [hwb, hH]; simp [go_sem]
 have HWB := hid hwb
 have HHH := hid hH
 have g0 := HW.out.c0
 have g1 := HW.out.c1
 have g2 := HW.out.c2
 have p0 := HW.out.f0
 have p1 := HW.out.f1
 have p2 := HW.out.f2
 have hx1 := HW.out.lo
 have hx2 := HW.out.hi
 have hsz := HW.out.sz
 clear hG hw hB ht hwb hH HBW
 go_enter Tryz.func19, Tryz.ntmps19
 go_wp2_with (rw [← HWB.out, ← HHH.out])
 refine (new_ptr _).mono ?_
 rintro e w1 ⟨gn, hr, hb⟩
 subst hr
 obtain ⟨v, hv⟩ : ∃ v, v = Value.pointer (some ⟨gn, 0, none⟩) := ⟨_, rfl⟩
 have HW1 : Hid (WAt w1 G cv x s) := HW.out.below hb
 have HB1 : Hid (Below W0.heap.size W0 w1) := HB.out.trans (hb.mono HB.out.size)
 have q1 := HW1.out.c0
 have q2 := HW1.out.f0
 have HN : Hid (WAt (w1.setCell ⟨G, 0, none⟩ v) G v x s) := HW1.out.set0 v
 have HNB : Hid (Below W0.heap.size W0 (w1.setCell ⟨G, 0, none⟩ v)) := HB1.out.setCell (p := ⟨G, 0, none⟩) HG.out _
 subst hv
 clear hb HW1 HB1 HW HB g0 g1 g2 p0 p1 p2 d0 d1 d2 d3 d4 HWB HHH hsz hx1 hx2
 go_wp2
 go_ret
 exact ⟨rfl, HNB.out, _, x, s, HN.out⟩

theorem step8 (W0 w : World) (G : Nat) (cv : Value) (x : Int) (s : ByteArray) (a b c : Int) (S T : ByteArray) (ht : Tab W0) (hB : Below W0.heap.size W0 w) (hG : W0.heap.size ≤ G) (hw : WAt w G cv x s) (hS : S.size ≤ maxLen) :
  Calls Tryz.prog 19 #[.pointer (some ⟨G, 0, none⟩), .agg #[.int .i64 8, .int .i64 a, .int .i64 b, .int .i64 c, .string S, .string T]] w fun e w' => StepPost W0 w' G e := by
 have HG := hid hG
 have HT := hid ht
 obtain ⟨H, hH⟩ : ∃ H, H = w.heap.size := ⟨_, rfl⟩
 obtain ⟨wb, hwb⟩ : ∃ wb, wb = w.alloc (.cells #[.int .i64 8, .int .i64 a, .int .i64 b, .int .i64 c, .string S, .string T] 44) := ⟨_, rfl⟩
 have HBW : Hid (Below w.heap.size w wb) := by unfold Hid; rw [hwb]; exact (Below.refl _ _).alloc (Nat.le_refl _) _
 have HW : Hid (WAt wb G cv x s) := hw.below HBW.out
 have HB : Hid (Below W0.heap.size W0 wb) := hB.trans (HBW.out.mono hB.size)
 have d0 : wb.cell? ⟨H, 0, none⟩ = some (.int .i64 8) := by rw [hwb, hH]; simp [go_sem]
 have d1 : wb.cell? ⟨H, 1, none⟩ = some (.int .i64 a) := by rw [hwb, hH]; simp [go_sem]
 have d2 : wb.cell? ⟨H, 2, none⟩ = some (.int .i64 b) := by rw [hwb, hH]; simp [go_sem]
 have d3 : wb.cell? ⟨H, 3, none⟩ = some (.int .i64 c) := by rw [hwb, hH]; simp [go_sem]
 have d4 : wb.cell? ⟨H, 4, none⟩ = some (.string S) := by rw [hwb, hH]; simp [go_sem]
 have HWB := hid hwb
 have HHH := hid hH
 have g0 := HW.out.c0
 have g1 := HW.out.c1
 have g2 := HW.out.c2
 have p0 := HW.out.f0
 have p1 := HW.out.f1
 have p2 := HW.out.f2
 have hx1 := HW.out.lo
 have hx2 := HW.out.hi
 have hsz := HW.out.sz
 clear hG hw hB ht hwb hH HBW
 have HPA := hid (fun (cv : Value) (f m : Int) (w : World) => parsed_any cv S f m w hS)
 have HFA := hid (fun (w : World) (hw : Tab w) => both_any cv x a b c 0 hx1 hx2 w hw)
 clear hS hsz hx1 hx2
 go_enter Tryz.func19, Tryz.ntmps19
 go_wp2_with (rw [← HWB.out, ← HHH.out])
 go_region_held3 (fun w' => w'.cell? ⟨G, 0, none⟩ = some cv ∧ w'.cell? ⟨H, 4, none⟩ = some (.string S) ∧ w'.cell? ⟨H, 1, none⟩ = some (.int .i64 a) ∧ w'.cell? ⟨H, 2, none⟩ = some (.int .i64 b))
  (first | go_keep | exact ⟨keep_cell' hb (by assumption), keep_cell' hb (by assumption), keep_cell' hb (by assumption), keep_cell' hb (by assumption)⟩)
  ((go_at_call 23; refine (HPA.out _ _ _ _).mono ?_; rintro e w1 ⟨bt, rfl, hb, hb1, hb2⟩))
 have HBA : Hid (Below wb.heap.size wb w1) := (Below.refl _ _).drew.trans hb
 have HW1 : Hid (WAt w1 G cv x s) := HW.out.below HBA.out
 have HB1 : Hid (Below W0.heap.size W0 w1) := HB.out.trans (HBA.out.mono HB.out.size)
 have q0 := HW1.out.c0
 have q1 := HW1.out.c1
 have r1 := keep_cell' HBA.out d1
 have r2 := keep_cell' HBA.out d2
 have r3 := keep_cell' HBA.out d3
 clear hb HBA g0 g1 g2 p0 p1 p2 d0 d1 d2 d3 d4 HWB HHH HW HB HPA hb1 hb2
 go_wp2_with fail
 go_region_held3 (fun w' => w'.cell? ⟨G, 0, none⟩ = some cv ∧ w'.cell? ⟨G, 1, none⟩ = some (.int .i64 x) ∧ w'.cell? ⟨H, 1, none⟩ = some (.int .i64 a) ∧ w'.cell? ⟨H, 2, none⟩ = some (.int .i64 b) ∧ w'.cell? ⟨H, 3, none⟩ = some (.int .i64 c))
  (first | go_keep | exact ⟨keep_cell' hb (by assumption), keep_cell' hb (by assumption), keep_cell' hb (by assumption), keep_cell' hb (by assumption), keep_cell' hb (by assumption)⟩)
  ((go_at_call 25; refine (HFA.out _ (HT.out.below HB1.out.drew)).mono ?_; rintro e w2 ⟨tx, rfl, htx, hb⟩))
 have HBC : Hid (Below w1.heap.size w1 w2) := (Below.refl _ _).drew.trans hb
 have HW2 : Hid (WAt w2 G cv x s) := HW1.out.below HBC.out
 have HB2 : Hid (Below W0.heap.size W0 w2) := HB1.out.trans (HBC.out.mono HB1.out.size)
 clear hb HBC q0 q1 r1 r2 r3 HW1 HB1 HFA htx
 go_wp2
 go_ret
 exact ⟨rfl, HB2.out, cv, x, s, HW2.out⟩

theorem step9 (W0 w : World) (G : Nat) (cv : Value) (x : Int) (s : ByteArray) (k a b c : Int) (S T : ByteArray) (hk : k ≠ 1 ∧ k ≠ 2 ∧ k ≠ 3 ∧ k ≠ 4 ∧ k ≠ 5 ∧ k ≠ 6 ∧ k ≠ 7 ∧ k ≠ 8) (ht : Tab W0) (hB : Below W0.heap.size W0 w) (hG : W0.heap.size ≤ G) (hw : WAt w G cv x s) :
  Calls Tryz.prog 19 #[.pointer (some ⟨G, 0, none⟩), .agg #[.int .i64 k, .int .i64 a, .int .i64 b, .int .i64 c, .string S, .string T]] w fun e w' => StepPost W0 w' G e := by
 have HG := hid hG
 have HT := hid ht
 obtain ⟨H, hH⟩ : ∃ H, H = w.heap.size := ⟨_, rfl⟩
 obtain ⟨wb, hwb⟩ : ∃ wb, wb = w.alloc (.cells #[.int .i64 k, .int .i64 a, .int .i64 b, .int .i64 c, .string S, .string T] 44) := ⟨_, rfl⟩
 have HBW : Hid (Below w.heap.size w wb) := by unfold Hid; rw [hwb]; exact (Below.refl _ _).alloc (Nat.le_refl _) _
 have HW : Hid (WAt wb G cv x s) := hw.below HBW.out
 have HB : Hid (Below W0.heap.size W0 wb) := hB.trans (HBW.out.mono hB.size)
 have d0 : wb.cell? ⟨H, 0, none⟩ = some (.int .i64 k) := by rw [hwb, hH]; simp [go_sem]
 have d1 : wb.cell? ⟨H, 1, none⟩ = some (.int .i64 a) := by rw [hwb, hH]; simp [go_sem]
 have d2 : wb.cell? ⟨H, 2, none⟩ = some (.int .i64 b) := by rw [hwb, hH]; simp [go_sem]
 have d3 : wb.cell? ⟨H, 3, none⟩ = some (.int .i64 c) := by rw [hwb, hH]; simp [go_sem]
 have d4 : wb.cell? ⟨H, 4, none⟩ = some (.string S) := by rw [hwb, hH]; simp [go_sem]
 have HWB := hid hwb
 have HHH := hid hH
 have g0 := HW.out.c0
 have g1 := HW.out.c1
 have g2 := HW.out.c2
 have p0 := HW.out.f0
 have p1 := HW.out.f1
 have p2 := HW.out.f2
 have hx1 := HW.out.lo
 have hx2 := HW.out.hi
 have hsz := HW.out.sz
 clear hG hw hB ht hwb hH HBW
 have t1 : (k == 1) = false := by simpa using hk.1
 have t2 : (k == 2) = false := by simpa using hk.2.1
 have t3 : (k == 3) = false := by simpa using hk.2.2.1
 have t4 : (k == 4) = false := by simpa using hk.2.2.2.1
 have t5 : (k == 5) = false := by simpa using hk.2.2.2.2.1
 have t6 : (k == 6) = false := by simpa using hk.2.2.2.2.2.1
 have t7 : (k == 7) = false := by simpa using hk.2.2.2.2.2.2.1
 have t8 : (k == 8) = false := by simpa using hk.2.2.2.2.2.2.2
 clear hk hsz hx1 hx2
 go_enter Tryz.func19, Tryz.ntmps19
 go_wp2_with (rw [← HWB.out, ← HHH.out])
 go_wp2
 go_ret
 exact ⟨rfl, HB.out, cv, x, s, HW.out⟩

end Go.Proofs.YtbkdaoicnobllabGreatDoor
