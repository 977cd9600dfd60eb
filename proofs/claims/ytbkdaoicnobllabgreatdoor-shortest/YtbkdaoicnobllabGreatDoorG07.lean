import Derived.Test.YtbkdaoicnobllabGreatDoorG06

namespace Go.Proofs.YtbkdaoicnobllabGreatDoor
open Go.RowKit

set_option maxRecDepth 100000 in
set_option maxHeartbeats 1000000 in
theorem textOf0 (x verb prec mode : Int) (Q : List UInt8 → Prop) (h1 : 0 ≤ x) (h2 : x < 65536) (w : World) (ht : Tab w)
    (HT0 : ∀ a : Nat, amtI 0 x = a → (a : Int) < 31744 → ∀ w : World, Tab w → Calls Tryz.prog 37 #[.int .i64 a, lay0, .bool (negI 0 x), styV verb prec mode] w fun r w' => TextPost w w' r Q) :
    Calls Tryz.prog 30 #[.int .i64 x, lay0, styV verb prec mode] w fun r w' => OutPost 0 x w w' r Q := by
  have hI : (infN 0 : Int) = 31744 := rfl
  have hnn := amtI_nonneg 0 x (by unfold hasB sgnF; simp <;> omega) (by omega) (by omega)
  obtain ⟨a, ha⟩ : ∃ a : Nat, amtI 0 x = a := ⟨(amtI 0 x).toNat, by omega⟩
  have HSP := hid (fun w => split0 x h1 h2 w)
  obtain ⟨A, hA⟩ : ∃ A, amtI 0 x = A := ⟨_, rfl⟩
  obtain ⟨ng, hng⟩ : ∃ ng, negI 0 x = ng := ⟨_, rfl⟩
  rw [hA, hng] at HSP
  have HT : Hid (A < 31744 → ∀ w : World, Tab w → Calls Tryz.prog 37 #[.int .i64 A, lay0, .bool ng, styV verb prec mode] w fun r w' => TextPost w w' r Q) := fun h w hw => by
    have := HT0 a ha (by omega) w hw
    rw [← ha, hA, hng] at this; exact this
  rw [hA] at hnn
  obtain ⟨hA0, hA1⟩ := hnn
  have HTAB := hid ht
  have HPO : Hid (∀ (w w' : World) (r : Ending) (T : List UInt8), r = .returned (.string (str (outT 0 x T))) → (A < 31744 → Q T) → T.length ≤ 5000 → Below w.heap.size w w' → OutPost 0 x w w' r Q) := fun w w' r T p1 p2 p3 p4 => ⟨T, p1, fun h => p2 (by rw [hA, hI] at h; exact h), p3, p4⟩
  clear HT0 ht h1 h2
  unfold lay0 styV at *
  go_enter Tryz.func30, Tryz.ntmps30
  go_wp2_with fail
  have d0 : ((w.alloc (.cells #[.int .i64 10, .int .i64 15, .int .i64 1024, .int .i64 31744, .int .i64 32768] 63)).alloc (.cells #[.int .i64 verb, .int .i64 prec, .int .i64 mode] 66)).cell? ⟨w.heap.size, 0, none⟩ = some (Value.int .i64 10) := by simp [go_sem]
  have d1 : ((w.alloc (.cells #[.int .i64 10, .int .i64 15, .int .i64 1024, .int .i64 31744, .int .i64 32768] 63)).alloc (.cells #[.int .i64 verb, .int .i64 prec, .int .i64 mode] 66)).cell? ⟨w.heap.size, 1, none⟩ = some (Value.int .i64 15) := by simp [go_sem]
  have d2 : ((w.alloc (.cells #[.int .i64 10, .int .i64 15, .int .i64 1024, .int .i64 31744, .int .i64 32768] 63)).alloc (.cells #[.int .i64 verb, .int .i64 prec, .int .i64 mode] 66)).cell? ⟨w.heap.size, 2, none⟩ = some (Value.int .i64 1024) := by simp [go_sem]
  have d3 : ((w.alloc (.cells #[.int .i64 10, .int .i64 15, .int .i64 1024, .int .i64 31744, .int .i64 32768] 63)).alloc (.cells #[.int .i64 verb, .int .i64 prec, .int .i64 mode] 66)).cell? ⟨w.heap.size, 3, none⟩ = some (Value.int .i64 31744) := by simp [go_sem]
  have d4 : ((w.alloc (.cells #[.int .i64 10, .int .i64 15, .int .i64 1024, .int .i64 31744, .int .i64 32768] 63)).alloc (.cells #[.int .i64 verb, .int .i64 prec, .int .i64 mode] 66)).cell? ⟨w.heap.size, 4, none⟩ = some (Value.int .i64 32768) := by simp [go_sem]
  have s0 : ((w.alloc (.cells #[.int .i64 10, .int .i64 15, .int .i64 1024, .int .i64 31744, .int .i64 32768] 63)).alloc (.cells #[.int .i64 verb, .int .i64 prec, .int .i64 mode] 66)).cell? ⟨w.heap.size + 1, 0, none⟩ = some (Value.int .i64 verb) := by simp [go_sem]
  have s1 : ((w.alloc (.cells #[.int .i64 10, .int .i64 15, .int .i64 1024, .int .i64 31744, .int .i64 32768] 63)).alloc (.cells #[.int .i64 verb, .int .i64 prec, .int .i64 mode] 66)).cell? ⟨w.heap.size + 1, 1, none⟩ = some (Value.int .i64 prec) := by simp [go_sem]
  have s2 : ((w.alloc (.cells #[.int .i64 10, .int .i64 15, .int .i64 1024, .int .i64 31744, .int .i64 32768] 63)).alloc (.cells #[.int .i64 verb, .int .i64 prec, .int .i64 mode] 66)).cell? ⟨w.heap.size + 1, 2, none⟩ = some (Value.int .i64 mode) := by simp [go_sem]
  have HB : Hid (Below w.heap.size w ((w.alloc (.cells #[.int .i64 10, .int .i64 15, .int .i64 1024, .int .i64 31744, .int .i64 32768] 63)).alloc (.cells #[.int .i64 verb, .int .i64 prec, .int .i64 mode] 66))) := ((Below.refl _ _).alloc (Nat.le_refl _) _).alloc (by simp) _
  have hw : w.heap.size + 1 < ((w.alloc (.cells #[.int .i64 10, .int .i64 15, .int .i64 1024, .int .i64 31744, .int .i64 32768] 63)).alloc (.cells #[.int .i64 verb, .int .i64 prec, .int .i64 mode] 66)).heap.size := by simp
  generalize ((w.alloc (.cells #[.int .i64 10, .int .i64 15, .int .i64 1024, .int .i64 31744, .int .i64 32768] 63)).alloc (.cells #[.int .i64 verb, .int .i64 prec, .int .i64 mode] 66)) = W at *
  refine (HSP.out W).mono ?_
  rintro r w1 ⟨rfl, hb1⟩
  have HB1 : Hid (Below w.heap.size w w1) := HB.out.trans (hb1.mono (by omega))
  have HT1 : Hid (Tab w1) := HTAB.out.below HB1.out
  have e0 := keep_cell' hb1 d0
  have e1 := keep_cell' hb1 d1
  have e2 := keep_cell' hb1 d2
  have e3 := keep_cell' hb1 d3
  have e4 := keep_cell' hb1 d4
  have z0 := keep_cell' hb1 s0
  have z1 := keep_cell' hb1 s1
  have z2 := keep_cell' hb1 s2
  clear hb1 d0 d1 d2 d3 d4 s0 s1 s2 hw HB HSP
  by_cases hnan : 31744 < A
  · have HS : Hid (str [110, 97, 110] = str (outT 0 x [])) := by unfold Hid outT; rw [if_pos (by rw [hA, hI]; exact hnan)]
    clear hA ha hng hI
    go_wp2
    go_ret
    exact HPO.out _ _ _ [] (ret_str HS.out) (fun h => by omega) (by simp) HB1.out
  · by_cases hfin : A < 31744
    · cases ng
      · have HS : Hid (∀ T : List UInt8, str T = str (outT 0 x T)) := fun T => by
          unfold outT; rw [if_neg (by rw [hA, hI]; omega), if_neg (by rw [hng]; simp), if_pos (by rw [hA, hI]; omega)]; rfl
        have HN := hid (HT.out hfin w1 HT1.out)
        clear hA ha hng hI
        go_wp2_with fail
        refine HN.out.mono ?_
        rintro r w2 ⟨T, rfl, hq, hl, hb2⟩
        have HF := hid (And.intro hq (And.intro hl (HB1.out.trans (hb2.mono HB1.out.size))))
        clear hq hl hb2 HN
        go_wp2
        go_ret
        exact HPO.out _ _ _ T (ret_str (HS.out T)) (fun _ => HF.out.1) HF.out.2.1 HF.out.2.2
      · have HS : Hid (∀ T : List UInt8, (⟨#[45]⟩ : ByteArray) ++ str T = str (outT 0 x T)) := fun T => by
          unfold outT; rw [if_neg (by rw [hA, hI]; omega), if_pos hng, if_pos (by rw [hA, hI]; omega), ← str_append]; rfl
        have HN := hid (HT.out hfin w1 HT1.out)
        clear hA ha hng hI
        go_wp2_with fail
        refine HN.out.mono ?_
        rintro r w2 ⟨T, rfl, hq, hl, hb2⟩
        have HF := hid (And.intro hq (And.intro hl (HB1.out.trans (hb2.mono HB1.out.size))))
        have hts : (str T).size ≤ 5000 := by rw [str_size]; exact hl
        clear hq hl hb2 HN
        go_wp2
        go_ret
        exact HPO.out _ _ _ T (ret_str (HS.out T)) (fun _ => HF.out.1) HF.out.2.1 HF.out.2.2
    · cases ng
      · have HS : Hid (str [105, 110, 102] = str (outT 0 x [])) := by unfold Hid outT; rw [if_neg (by rw [hA, hI]; omega), if_neg (by rw [hng]; simp), if_neg (by rw [hA, hI]; omega)]; rfl
        clear hA ha hng hI
        go_wp2
        go_ret
        exact HPO.out _ _ _ [] (ret_str HS.out) (fun h => by omega) (by simp) HB1.out
      · have HS : Hid ((⟨#[45, 105, 110, 102]⟩ : ByteArray) = str (outT 0 x [])) := by unfold Hid outT; rw [if_neg (by rw [hA, hI]; omega), if_pos hng, if_neg (by rw [hA, hI]; omega)]; rfl
        clear hA ha hng hI
        go_wp2
        go_ret
        exact HPO.out _ _ _ [] (ret_str HS.out) (fun h => by omega) (by simp) HB1.out
set_option maxRecDepth 100000 in
set_option maxHeartbeats 1000000 in
theorem textOf1 (x verb prec mode : Int) (Q : List UInt8 → Prop) (h1 : 0 ≤ x) (h2 : x < 4294967296) (w : World) (ht : Tab w)
    (HT0 : ∀ a : Nat, amtI 1 x = a → (a : Int) < 2139095040 → ∀ w : World, Tab w → Calls Tryz.prog 37 #[.int .i64 a, lay1, .bool (negI 1 x), styV verb prec mode] w fun r w' => TextPost w w' r Q) :
    Calls Tryz.prog 30 #[.int .i64 x, lay1, styV verb prec mode] w fun r w' => OutPost 1 x w w' r Q := by
  have hI : (infN 1 : Int) = 2139095040 := rfl
  have hnn := amtI_nonneg 1 x (by unfold hasB sgnF; simp <;> omega) (by omega) (by omega)
  obtain ⟨a, ha⟩ : ∃ a : Nat, amtI 1 x = a := ⟨(amtI 1 x).toNat, by omega⟩
  have HSP := hid (fun w => split1 x h1 h2 w)
  obtain ⟨A, hA⟩ : ∃ A, amtI 1 x = A := ⟨_, rfl⟩
  obtain ⟨ng, hng⟩ : ∃ ng, negI 1 x = ng := ⟨_, rfl⟩
  rw [hA, hng] at HSP
  have HT : Hid (A < 2139095040 → ∀ w : World, Tab w → Calls Tryz.prog 37 #[.int .i64 A, lay1, .bool ng, styV verb prec mode] w fun r w' => TextPost w w' r Q) := fun h w hw => by
    have := HT0 a ha (by omega) w hw
    rw [← ha, hA, hng] at this; exact this
  rw [hA] at hnn
  obtain ⟨hA0, hA1⟩ := hnn
  have HTAB := hid ht
  have HPO : Hid (∀ (w w' : World) (r : Ending) (T : List UInt8), r = .returned (.string (str (outT 1 x T))) → (A < 2139095040 → Q T) → T.length ≤ 5000 → Below w.heap.size w w' → OutPost 1 x w w' r Q) := fun w w' r T p1 p2 p3 p4 => ⟨T, p1, fun h => p2 (by rw [hA, hI] at h; exact h), p3, p4⟩
  clear HT0 ht h1 h2
  unfold lay1 styV at *
  go_enter Tryz.func30, Tryz.ntmps30
  go_wp2_with fail
  have d0 : ((w.alloc (.cells #[.int .i64 23, .int .i64 127, .int .i64 8388608, .int .i64 2139095040, .int .i64 2147483648] 63)).alloc (.cells #[.int .i64 verb, .int .i64 prec, .int .i64 mode] 66)).cell? ⟨w.heap.size, 0, none⟩ = some (Value.int .i64 23) := by simp [go_sem]
  have d1 : ((w.alloc (.cells #[.int .i64 23, .int .i64 127, .int .i64 8388608, .int .i64 2139095040, .int .i64 2147483648] 63)).alloc (.cells #[.int .i64 verb, .int .i64 prec, .int .i64 mode] 66)).cell? ⟨w.heap.size, 1, none⟩ = some (Value.int .i64 127) := by simp [go_sem]
  have d2 : ((w.alloc (.cells #[.int .i64 23, .int .i64 127, .int .i64 8388608, .int .i64 2139095040, .int .i64 2147483648] 63)).alloc (.cells #[.int .i64 verb, .int .i64 prec, .int .i64 mode] 66)).cell? ⟨w.heap.size, 2, none⟩ = some (Value.int .i64 8388608) := by simp [go_sem]
  have d3 : ((w.alloc (.cells #[.int .i64 23, .int .i64 127, .int .i64 8388608, .int .i64 2139095040, .int .i64 2147483648] 63)).alloc (.cells #[.int .i64 verb, .int .i64 prec, .int .i64 mode] 66)).cell? ⟨w.heap.size, 3, none⟩ = some (Value.int .i64 2139095040) := by simp [go_sem]
  have d4 : ((w.alloc (.cells #[.int .i64 23, .int .i64 127, .int .i64 8388608, .int .i64 2139095040, .int .i64 2147483648] 63)).alloc (.cells #[.int .i64 verb, .int .i64 prec, .int .i64 mode] 66)).cell? ⟨w.heap.size, 4, none⟩ = some (Value.int .i64 2147483648) := by simp [go_sem]
  have s0 : ((w.alloc (.cells #[.int .i64 23, .int .i64 127, .int .i64 8388608, .int .i64 2139095040, .int .i64 2147483648] 63)).alloc (.cells #[.int .i64 verb, .int .i64 prec, .int .i64 mode] 66)).cell? ⟨w.heap.size + 1, 0, none⟩ = some (Value.int .i64 verb) := by simp [go_sem]
  have s1 : ((w.alloc (.cells #[.int .i64 23, .int .i64 127, .int .i64 8388608, .int .i64 2139095040, .int .i64 2147483648] 63)).alloc (.cells #[.int .i64 verb, .int .i64 prec, .int .i64 mode] 66)).cell? ⟨w.heap.size + 1, 1, none⟩ = some (Value.int .i64 prec) := by simp [go_sem]
  have s2 : ((w.alloc (.cells #[.int .i64 23, .int .i64 127, .int .i64 8388608, .int .i64 2139095040, .int .i64 2147483648] 63)).alloc (.cells #[.int .i64 verb, .int .i64 prec, .int .i64 mode] 66)).cell? ⟨w.heap.size + 1, 2, none⟩ = some (Value.int .i64 mode) := by simp [go_sem]
  have HB : Hid (Below w.heap.size w ((w.alloc (.cells #[.int .i64 23, .int .i64 127, .int .i64 8388608, .int .i64 2139095040, .int .i64 2147483648] 63)).alloc (.cells #[.int .i64 verb, .int .i64 prec, .int .i64 mode] 66))) := ((Below.refl _ _).alloc (Nat.le_refl _) _).alloc (by simp) _
  have hw : w.heap.size + 1 < ((w.alloc (.cells #[.int .i64 23, .int .i64 127, .int .i64 8388608, .int .i64 2139095040, .int .i64 2147483648] 63)).alloc (.cells #[.int .i64 verb, .int .i64 prec, .int .i64 mode] 66)).heap.size := by simp
  generalize ((w.alloc (.cells #[.int .i64 23, .int .i64 127, .int .i64 8388608, .int .i64 2139095040, .int .i64 2147483648] 63)).alloc (.cells #[.int .i64 verb, .int .i64 prec, .int .i64 mode] 66)) = W at *
  refine (HSP.out W).mono ?_
  rintro r w1 ⟨rfl, hb1⟩
  have HB1 : Hid (Below w.heap.size w w1) := HB.out.trans (hb1.mono (by omega))
  have HT1 : Hid (Tab w1) := HTAB.out.below HB1.out
  have e0 := keep_cell' hb1 d0
  have e1 := keep_cell' hb1 d1
  have e2 := keep_cell' hb1 d2
  have e3 := keep_cell' hb1 d3
  have e4 := keep_cell' hb1 d4
  have z0 := keep_cell' hb1 s0
  have z1 := keep_cell' hb1 s1
  have z2 := keep_cell' hb1 s2
  clear hb1 d0 d1 d2 d3 d4 s0 s1 s2 hw HB HSP
  by_cases hnan : 2139095040 < A
  · have HS : Hid (str [110, 97, 110] = str (outT 1 x [])) := by unfold Hid outT; rw [if_pos (by rw [hA, hI]; exact hnan)]
    clear hA ha hng hI
    go_wp2
    go_ret
    exact HPO.out _ _ _ [] (ret_str HS.out) (fun h => by omega) (by simp) HB1.out
  · by_cases hfin : A < 2139095040
    · cases ng
      · have HS : Hid (∀ T : List UInt8, str T = str (outT 1 x T)) := fun T => by
          unfold outT; rw [if_neg (by rw [hA, hI]; omega), if_neg (by rw [hng]; simp), if_pos (by rw [hA, hI]; omega)]; rfl
        have HN := hid (HT.out hfin w1 HT1.out)
        clear hA ha hng hI
        go_wp2_with fail
        refine HN.out.mono ?_
        rintro r w2 ⟨T, rfl, hq, hl, hb2⟩
        have HF := hid (And.intro hq (And.intro hl (HB1.out.trans (hb2.mono HB1.out.size))))
        clear hq hl hb2 HN
        go_wp2
        go_ret
        exact HPO.out _ _ _ T (ret_str (HS.out T)) (fun _ => HF.out.1) HF.out.2.1 HF.out.2.2
      · have HS : Hid (∀ T : List UInt8, (⟨#[45]⟩ : ByteArray) ++ str T = str (outT 1 x T)) := fun T => by
          unfold outT; rw [if_neg (by rw [hA, hI]; omega), if_pos hng, if_pos (by rw [hA, hI]; omega), ← str_append]; rfl
        have HN := hid (HT.out hfin w1 HT1.out)
        clear hA ha hng hI
        go_wp2_with fail
        refine HN.out.mono ?_
        rintro r w2 ⟨T, rfl, hq, hl, hb2⟩
        have HF := hid (And.intro hq (And.intro hl (HB1.out.trans (hb2.mono HB1.out.size))))
        have hts : (str T).size ≤ 5000 := by rw [str_size]; exact hl
        clear hq hl hb2 HN
        go_wp2
        go_ret
        exact HPO.out _ _ _ T (ret_str (HS.out T)) (fun _ => HF.out.1) HF.out.2.1 HF.out.2.2
    · cases ng
      · have HS : Hid (str [105, 110, 102] = str (outT 1 x [])) := by unfold Hid outT; rw [if_neg (by rw [hA, hI]; omega), if_neg (by rw [hng]; simp), if_neg (by rw [hA, hI]; omega)]; rfl
        clear hA ha hng hI
        go_wp2
        go_ret
        exact HPO.out _ _ _ [] (ret_str HS.out) (fun h => by omega) (by simp) HB1.out
      · have HS : Hid ((⟨#[45, 105, 110, 102]⟩ : ByteArray) = str (outT 1 x [])) := by unfold Hid outT; rw [if_neg (by rw [hA, hI]; omega), if_pos hng, if_neg (by rw [hA, hI]; omega)]; rfl
        clear hA ha hng hI
        go_wp2
        go_ret
        exact HPO.out _ _ _ [] (ret_str HS.out) (fun h => by omega) (by simp) HB1.out
set_option maxRecDepth 100000 in
set_option maxHeartbeats 1000000 in
theorem textOf2 (x verb prec mode : Int) (Q : List UInt8 → Prop) (h1 : -9223372036854775808 ≤ x) (h2 : x ≤ 9223372036854775807) (w : World) (ht : Tab w)
    (HT0 : ∀ a : Nat, amtI 2 x = a → (a : Int) < 9218868437227405312 → ∀ w : World, Tab w → Calls Tryz.prog 37 #[.int .i64 a, lay2, .bool (negI 2 x), styV verb prec mode] w fun r w' => TextPost w w' r Q) :
    Calls Tryz.prog 30 #[.int .i64 x, lay2, styV verb prec mode] w fun r w' => OutPost 2 x w w' r Q := by
  have hI : (infN 2 : Int) = 9218868437227405312 := rfl
  have hnn := amtI_nonneg 2 x (by unfold hasB sgnF; simp <;> omega) (by omega) (by omega)
  obtain ⟨a, ha⟩ : ∃ a : Nat, amtI 2 x = a := ⟨(amtI 2 x).toNat, by omega⟩
  have HSP := hid (fun w => split2 x h1 h2 w)
  obtain ⟨A, hA⟩ : ∃ A, amtI 2 x = A := ⟨_, rfl⟩
  obtain ⟨ng, hng⟩ : ∃ ng, negI 2 x = ng := ⟨_, rfl⟩
  rw [hA, hng] at HSP
  have HT : Hid (A < 9218868437227405312 → ∀ w : World, Tab w → Calls Tryz.prog 37 #[.int .i64 A, lay2, .bool ng, styV verb prec mode] w fun r w' => TextPost w w' r Q) := fun h w hw => by
    have := HT0 a ha (by omega) w hw
    rw [← ha, hA, hng] at this; exact this
  rw [hA] at hnn
  obtain ⟨hA0, hA1⟩ := hnn
  have HTAB := hid ht
  have HPO : Hid (∀ (w w' : World) (r : Ending) (T : List UInt8), r = .returned (.string (str (outT 2 x T))) → (A < 9218868437227405312 → Q T) → T.length ≤ 5000 → Below w.heap.size w w' → OutPost 2 x w w' r Q) := fun w w' r T p1 p2 p3 p4 => ⟨T, p1, fun h => p2 (by rw [hA, hI] at h; exact h), p3, p4⟩
  clear HT0 ht h1 h2
  unfold lay2 styV at *
  go_enter Tryz.func30, Tryz.ntmps30
  go_wp2_with fail
  have d0 : ((w.alloc (.cells #[.int .i64 52, .int .i64 1023, .int .i64 4503599627370496, .int .i64 9218868437227405312, .int .i64 (-9223372036854775808)] 63)).alloc (.cells #[.int .i64 verb, .int .i64 prec, .int .i64 mode] 66)).cell? ⟨w.heap.size, 0, none⟩ = some (Value.int .i64 52) := by simp [go_sem]
  have d1 : ((w.alloc (.cells #[.int .i64 52, .int .i64 1023, .int .i64 4503599627370496, .int .i64 9218868437227405312, .int .i64 (-9223372036854775808)] 63)).alloc (.cells #[.int .i64 verb, .int .i64 prec, .int .i64 mode] 66)).cell? ⟨w.heap.size, 1, none⟩ = some (Value.int .i64 1023) := by simp [go_sem]
  have d2 : ((w.alloc (.cells #[.int .i64 52, .int .i64 1023, .int .i64 4503599627370496, .int .i64 9218868437227405312, .int .i64 (-9223372036854775808)] 63)).alloc (.cells #[.int .i64 verb, .int .i64 prec, .int .i64 mode] 66)).cell? ⟨w.heap.size, 2, none⟩ = some (Value.int .i64 4503599627370496) := by simp [go_sem]
  have d3 : ((w.alloc (.cells #[.int .i64 52, .int .i64 1023, .int .i64 4503599627370496, .int .i64 9218868437227405312, .int .i64 (-9223372036854775808)] 63)).alloc (.cells #[.int .i64 verb, .int .i64 prec, .int .i64 mode] 66)).cell? ⟨w.heap.size, 3, none⟩ = some (Value.int .i64 9218868437227405312) := by simp [go_sem]
  have d4 : ((w.alloc (.cells #[.int .i64 52, .int .i64 1023, .int .i64 4503599627370496, .int .i64 9218868437227405312, .int .i64 (-9223372036854775808)] 63)).alloc (.cells #[.int .i64 verb, .int .i64 prec, .int .i64 mode] 66)).cell? ⟨w.heap.size, 4, none⟩ = some (Value.int .i64 (-9223372036854775808)) := by simp [go_sem]
  have s0 : ((w.alloc (.cells #[.int .i64 52, .int .i64 1023, .int .i64 4503599627370496, .int .i64 9218868437227405312, .int .i64 (-9223372036854775808)] 63)).alloc (.cells #[.int .i64 verb, .int .i64 prec, .int .i64 mode] 66)).cell? ⟨w.heap.size + 1, 0, none⟩ = some (Value.int .i64 verb) := by simp [go_sem]
  have s1 : ((w.alloc (.cells #[.int .i64 52, .int .i64 1023, .int .i64 4503599627370496, .int .i64 9218868437227405312, .int .i64 (-9223372036854775808)] 63)).alloc (.cells #[.int .i64 verb, .int .i64 prec, .int .i64 mode] 66)).cell? ⟨w.heap.size + 1, 1, none⟩ = some (Value.int .i64 prec) := by simp [go_sem]
  have s2 : ((w.alloc (.cells #[.int .i64 52, .int .i64 1023, .int .i64 4503599627370496, .int .i64 9218868437227405312, .int .i64 (-9223372036854775808)] 63)).alloc (.cells #[.int .i64 verb, .int .i64 prec, .int .i64 mode] 66)).cell? ⟨w.heap.size + 1, 2, none⟩ = some (Value.int .i64 mode) := by simp [go_sem]
  have HB : Hid (Below w.heap.size w ((w.alloc (.cells #[.int .i64 52, .int .i64 1023, .int .i64 4503599627370496, .int .i64 9218868437227405312, .int .i64 (-9223372036854775808)] 63)).alloc (.cells #[.int .i64 verb, .int .i64 prec, .int .i64 mode] 66))) := ((Below.refl _ _).alloc (Nat.le_refl _) _).alloc (by simp) _
  have hw : w.heap.size + 1 < ((w.alloc (.cells #[.int .i64 52, .int .i64 1023, .int .i64 4503599627370496, .int .i64 9218868437227405312, .int .i64 (-9223372036854775808)] 63)).alloc (.cells #[.int .i64 verb, .int .i64 prec, .int .i64 mode] 66)).heap.size := by simp
  generalize ((w.alloc (.cells #[.int .i64 52, .int .i64 1023, .int .i64 4503599627370496, .int .i64 9218868437227405312, .int .i64 (-9223372036854775808)] 63)).alloc (.cells #[.int .i64 verb, .int .i64 prec, .int .i64 mode] 66)) = W at *
  refine (HSP.out W).mono ?_
  rintro r w1 ⟨rfl, hb1⟩
  have HB1 : Hid (Below w.heap.size w w1) := HB.out.trans (hb1.mono (by omega))
  have HT1 : Hid (Tab w1) := HTAB.out.below HB1.out
  have e0 := keep_cell' hb1 d0
  have e1 := keep_cell' hb1 d1
  have e2 := keep_cell' hb1 d2
  have e3 := keep_cell' hb1 d3
  have e4 := keep_cell' hb1 d4
  have z0 := keep_cell' hb1 s0
  have z1 := keep_cell' hb1 s1
  have z2 := keep_cell' hb1 s2
  clear hb1 d0 d1 d2 d3 d4 s0 s1 s2 hw HB HSP
  by_cases hnan : 9218868437227405312 < A
  · have HS : Hid (str [110, 97, 110] = str (outT 2 x [])) := by unfold Hid outT; rw [if_pos (by rw [hA, hI]; exact hnan)]
    clear hA ha hng hI
    go_wp2
    go_ret
    exact HPO.out _ _ _ [] (ret_str HS.out) (fun h => by omega) (by simp) HB1.out
  · by_cases hfin : A < 9218868437227405312
    · cases ng
      · have HS : Hid (∀ T : List UInt8, str T = str (outT 2 x T)) := fun T => by
          unfold outT; rw [if_neg (by rw [hA, hI]; omega), if_neg (by rw [hng]; simp), if_pos (by rw [hA, hI]; omega)]; rfl
        have HN := hid (HT.out hfin w1 HT1.out)
        clear hA ha hng hI
        go_wp2_with fail
        refine HN.out.mono ?_
        rintro r w2 ⟨T, rfl, hq, hl, hb2⟩
        have HF := hid (And.intro hq (And.intro hl (HB1.out.trans (hb2.mono HB1.out.size))))
        clear hq hl hb2 HN
        go_wp2
        go_ret
        exact HPO.out _ _ _ T (ret_str (HS.out T)) (fun _ => HF.out.1) HF.out.2.1 HF.out.2.2
      · have HS : Hid (∀ T : List UInt8, (⟨#[45]⟩ : ByteArray) ++ str T = str (outT 2 x T)) := fun T => by
          unfold outT; rw [if_neg (by rw [hA, hI]; omega), if_pos hng, if_pos (by rw [hA, hI]; omega), ← str_append]; rfl
        have HN := hid (HT.out hfin w1 HT1.out)
        clear hA ha hng hI
        go_wp2_with fail
        refine HN.out.mono ?_
        rintro r w2 ⟨T, rfl, hq, hl, hb2⟩
        have HF := hid (And.intro hq (And.intro hl (HB1.out.trans (hb2.mono HB1.out.size))))
        have hts : (str T).size ≤ 5000 := by rw [str_size]; exact hl
        clear hq hl hb2 HN
        go_wp2
        go_ret
        exact HPO.out _ _ _ T (ret_str (HS.out T)) (fun _ => HF.out.1) HF.out.2.1 HF.out.2.2
    · cases ng
      · have HS : Hid (str [105, 110, 102] = str (outT 2 x [])) := by unfold Hid outT; rw [if_neg (by rw [hA, hI]; omega), if_neg (by rw [hng]; simp), if_neg (by rw [hA, hI]; omega)]; rfl
        clear hA ha hng hI
        go_wp2
        go_ret
        exact HPO.out _ _ _ [] (ret_str HS.out) (fun h => by omega) (by simp) HB1.out
      · have HS : Hid ((⟨#[45, 105, 110, 102]⟩ : ByteArray) = str (outT 2 x [])) := by unfold Hid outT; rw [if_neg (by rw [hA, hI]; omega), if_pos hng, if_neg (by rw [hA, hI]; omega)]; rfl
        clear hA ha hng hI
        go_wp2
        go_ret
        exact HPO.out _ _ _ [] (ret_str HS.out) (fun h => by omega) (by simp) HB1.out
end Go.Proofs.YtbkdaoicnobllabGreatDoor

namespace Go.Proofs.YtbkdaoicnobllabGreatDoor
open Go.RowKit

/-- The text of base 16 of an amount. -/
def HexQ (f : Int) (a : Nat) (T : List UInt8) : Prop := (a = 0 ∧ T = [48, 120, 48, 112, 48]) ∨ (0 < a ∧ ∃ T0 E, HexText (mA (fQ f) a) (fE f + xA (fQ f) a) T0 E ∧ T = hexS T0 E)
theorem HexQ.same {f : Int} {a : Nat} {T T' : List UInt8} (h : HexQ f a T) (h' : HexQ f a T') : T = T' := by
  rcases h with ⟨h0, rfl⟩ | ⟨h0, T0, E, h1, rfl⟩
  · rcases h' with ⟨_, rfl⟩ | ⟨h2, _⟩
    · rfl
    · omega
  · rcases h' with ⟨h2, _⟩ | ⟨_, T1, E1, h3, rfl⟩
    · omega
    · obtain ⟨rfl, rfl⟩ := h1.same h3; rfl
theorem hexS_length (T : List UInt8) (E : Int) (h : T.length ≤ 13) (h1 : -4000 ≤ E) (h2 : E ≤ 4000) : (hexS T E).length ≤ 100 := by
  unfold hexS ptd
  have := Lib.itoa_length_le E (by omega) (by omega)
  split <;> simp <;> omega
theorem mA_pos (q a : Nat) (h : 0 < a) : 0 < mA q a := by
  unfold mA
  have hp : 0 < 2 ^ q := Nat.pow_pos (by omega)
  split
  · rename_i h0
    have := Nat.div_add_mod a (2 ^ q)
    rw [h0] at this; omega
  · omega
theorem mA_lt (q a : Nat) : mA q a < 2 * 2 ^ q := by
  unfold mA
  have hp : 0 < 2 ^ q := Nat.pow_pos (by omega)
  have := Nat.mod_lt a hp
  split <;> omega
set_option maxRecDepth 100000 in
set_option maxHeartbeats 1000000 in
theorem numHex0 (a : Nat) (ng : Bool) (prec mode : Int) (ha : (a : Int) < 31744) (w : World) (ht : Tab w) :
    Calls Tryz.prog 37 #[.int .i64 a, lay0, .bool ng, styV 4 prec mode] w fun r w' => TextPost w w' r (HexQ 0 a) := by
  have HTAB := hid ht
  have HNB := hid (fun w => number0 a ha w)
  have hxa : ((xA 10 a : Nat) : Int) ≤ 2100 := by
    unfold xA; rw [show (2 : Nat) ^ 10 = 1024 from by decide]; omega
  have hm1 := mA_lt 10 a
  rw [show (2 : Nat) ^ 10 = 1024 from by decide] at hm1
  have HMP : Hid (0 < a → 0 < mA 10 a) := mA_pos 10 a
  have HM0 : Hid (a = 0 → mA 10 a = 0) := fun h => by rw [h]; rfl
  have HQ : Hid (HexQ 0 a = fun T => (a = 0 ∧ T = [48, 120, 48, 112, 48]) ∨ (0 < a ∧ ∃ T0 E, HexText (mA 10 a) (-24 + (xA 10 a : Nat)) T0 E ∧ T = hexS T0 E)) := rfl
  obtain ⟨m, hm⟩ : ∃ m, m = mA 10 a := ⟨_, rfl⟩
  obtain ⟨k, hk⟩ : ∃ k : Nat, k = xA 10 a := ⟨_, rfl⟩
  obtain ⟨A, hA⟩ : ∃ A : Int, A = (a : Int) := ⟨_, rfl⟩
  rw [← hm, ← hk, ← hA] at HNB
  rw [← hm, ← hk] at HQ
  rw [← hm] at hm1 HMP HM0
  rw [← hk] at hxa
  obtain ⟨M, hM⟩ : ∃ M : Int, M = (m : Int) := ⟨_, rfl⟩
  rw [← hM] at HNB
  have HMM := hid hM
  have HA := hid hA
  rw [← hA]
  clear ht hm hk hA hM ha
  have hml := hid hm1
  clear hm1
  unfold lay0 styV at *
  go_enter Tryz.func37, Tryz.ntmps37
  go_wp2_with fail
  have d0 : ((w.alloc (.cells #[.int .i64 10, .int .i64 15, .int .i64 1024, .int .i64 31744, .int .i64 32768] 63)).alloc (.cells #[.int .i64 4, .int .i64 prec, .int .i64 mode] 66)).cell? ⟨w.heap.size, 0, none⟩ = some (Value.int .i64 10) := by simp [go_sem]
  have d1 : ((w.alloc (.cells #[.int .i64 10, .int .i64 15, .int .i64 1024, .int .i64 31744, .int .i64 32768] 63)).alloc (.cells #[.int .i64 4, .int .i64 prec, .int .i64 mode] 66)).cell? ⟨w.heap.size, 1, none⟩ = some (Value.int .i64 15) := by simp [go_sem]
  have d2 : ((w.alloc (.cells #[.int .i64 10, .int .i64 15, .int .i64 1024, .int .i64 31744, .int .i64 32768] 63)).alloc (.cells #[.int .i64 4, .int .i64 prec, .int .i64 mode] 66)).cell? ⟨w.heap.size, 2, none⟩ = some (Value.int .i64 1024) := by simp [go_sem]
  have d3 : ((w.alloc (.cells #[.int .i64 10, .int .i64 15, .int .i64 1024, .int .i64 31744, .int .i64 32768] 63)).alloc (.cells #[.int .i64 4, .int .i64 prec, .int .i64 mode] 66)).cell? ⟨w.heap.size, 3, none⟩ = some (Value.int .i64 31744) := by simp [go_sem]
  have d4 : ((w.alloc (.cells #[.int .i64 10, .int .i64 15, .int .i64 1024, .int .i64 31744, .int .i64 32768] 63)).alloc (.cells #[.int .i64 4, .int .i64 prec, .int .i64 mode] 66)).cell? ⟨w.heap.size, 4, none⟩ = some (Value.int .i64 32768) := by simp [go_sem]
  have s0 : ((w.alloc (.cells #[.int .i64 10, .int .i64 15, .int .i64 1024, .int .i64 31744, .int .i64 32768] 63)).alloc (.cells #[.int .i64 4, .int .i64 prec, .int .i64 mode] 66)).cell? ⟨w.heap.size + 1, 0, none⟩ = some (Value.int .i64 4) := by simp [go_sem]
  have s1 : ((w.alloc (.cells #[.int .i64 10, .int .i64 15, .int .i64 1024, .int .i64 31744, .int .i64 32768] 63)).alloc (.cells #[.int .i64 4, .int .i64 prec, .int .i64 mode] 66)).cell? ⟨w.heap.size + 1, 1, none⟩ = some (Value.int .i64 prec) := by simp [go_sem]
  have s2 : ((w.alloc (.cells #[.int .i64 10, .int .i64 15, .int .i64 1024, .int .i64 31744, .int .i64 32768] 63)).alloc (.cells #[.int .i64 4, .int .i64 prec, .int .i64 mode] 66)).cell? ⟨w.heap.size + 1, 2, none⟩ = some (Value.int .i64 mode) := by simp [go_sem]
  have HB : Hid (Below w.heap.size w ((w.alloc (.cells #[.int .i64 10, .int .i64 15, .int .i64 1024, .int .i64 31744, .int .i64 32768] 63)).alloc (.cells #[.int .i64 4, .int .i64 prec, .int .i64 mode] 66))) := ((Below.refl _ _).alloc (Nat.le_refl _) _).alloc (by simp) _
  have hw : w.heap.size + 1 < ((w.alloc (.cells #[.int .i64 10, .int .i64 15, .int .i64 1024, .int .i64 31744, .int .i64 32768] 63)).alloc (.cells #[.int .i64 4, .int .i64 prec, .int .i64 mode] 66)).heap.size := by simp
  generalize ((w.alloc (.cells #[.int .i64 10, .int .i64 15, .int .i64 1024, .int .i64 31744, .int .i64 32768] 63)).alloc (.cells #[.int .i64 4, .int .i64 prec, .int .i64 mode] 66)) = W at *
  refine (HNB.out W).mono ?_
  rintro r w1 ⟨rfl, hb1⟩
  have HB1 : Hid (Below w.heap.size w w1) := HB.out.trans (hb1.mono (by omega))
  have HT1 : Hid (Tab w1) := HTAB.out.below HB1.out
  have e0 := keep_cell' hb1 d0
  have e1 := keep_cell' hb1 d1
  have e2 := keep_cell' hb1 d2
  have e3 := keep_cell' hb1 d3
  have e4 := keep_cell' hb1 d4
  have z0 := keep_cell' hb1 s0
  have z1 := keep_cell' hb1 s1
  have z2 := keep_cell' hb1 s2
  clear hb1 d0 d1 d2 d3 d4 s0 s1 s2 hw HB HNB
  by_cases h0 : a = 0
  · have hM0 : M = 0 := by rw [HMM.out, HM0.out h0]; rfl
    subst hM0
    go_wp2_with fail
    refine (whex_zero _ _).mono ?_
    rintro r w2 ⟨rfl, rfl⟩
    go_wp2
    go_ret
    exact ⟨[48, 120, 48, 112, 48], rfl, by rw [HQ.out]; exact .inl ⟨h0, rfl⟩, by simp, HB1.out⟩
  · have HX : Hid (Calls Tryz.prog 57 #[.int .i64 M, .int .i64 (-24 + k)] w1 fun r w' => ∃ s : ByteArray, r = .returned (.string s) ∧ ∃ (T : List UInt8) (E : Int), HexText m (-24 + k) T E ∧ s = str (hexS T E) ∧ T.length ≤ 13 ∧ -4000 ≤ E ∧ E ≤ 4000 ∧ Below w1.heap.size w1 w') := by
      unfold Hid; rw [HMM.out]
      exact whex_any m (-24 + k) w1 HT1.out (HMP.out (by omega)) (by have := hml.out; omega) (by omega) (by omega)
    have H0 := hid h0
    clear h0
    go_wp2_with fail
    refine HX.out.mono ?_
    rintro r w2 ⟨s, rfl, T0, E0, hh, rfl, hl, he1, he2, hb2⟩
    have HF := hid (And.intro hh (And.intro (hexS_length T0 E0 hl he1 he2) (HB1.out.trans (hb2.mono HB1.out.size))))
    clear hh hl he1 he2 hb2 HX
    go_wp2
    go_ret
    exact ⟨hexS T0 E0, rfl, by rw [HQ.out]; exact .inr ⟨by have := H0.out; omega, T0, E0, HF.out.1, rfl⟩, Nat.le_trans HF.out.2.1 (by omega), HF.out.2.2⟩
set_option maxRecDepth 100000 in
set_option maxHeartbeats 1000000 in
theorem numHex1 (a : Nat) (ng : Bool) (prec mode : Int) (ha : (a : Int) < 2139095040) (w : World) (ht : Tab w) :
    Calls Tryz.prog 37 #[.int .i64 a, lay1, .bool ng, styV 4 prec mode] w fun r w' => TextPost w w' r (HexQ 1 a) := by
  have HTAB := hid ht
  have HNB := hid (fun w => number1 a ha w)
  have hxa : ((xA 23 a : Nat) : Int) ≤ 2100 := by
    unfold xA; rw [show (2 : Nat) ^ 23 = 8388608 from by decide]; omega
  have hm1 := mA_lt 23 a
  rw [show (2 : Nat) ^ 23 = 8388608 from by decide] at hm1
  have HMP : Hid (0 < a → 0 < mA 23 a) := mA_pos 23 a
  have HM0 : Hid (a = 0 → mA 23 a = 0) := fun h => by rw [h]; rfl
  have HQ : Hid (HexQ 1 a = fun T => (a = 0 ∧ T = [48, 120, 48, 112, 48]) ∨ (0 < a ∧ ∃ T0 E, HexText (mA 23 a) (-149 + (xA 23 a : Nat)) T0 E ∧ T = hexS T0 E)) := rfl
  obtain ⟨m, hm⟩ : ∃ m, m = mA 23 a := ⟨_, rfl⟩
  obtain ⟨k, hk⟩ : ∃ k : Nat, k = xA 23 a := ⟨_, rfl⟩
  obtain ⟨A, hA⟩ : ∃ A : Int, A = (a : Int) := ⟨_, rfl⟩
  rw [← hm, ← hk, ← hA] at HNB
  rw [← hm, ← hk] at HQ
  rw [← hm] at hm1 HMP HM0
  rw [← hk] at hxa
  obtain ⟨M, hM⟩ : ∃ M : Int, M = (m : Int) := ⟨_, rfl⟩
  rw [← hM] at HNB
  have HMM := hid hM
  have HA := hid hA
  rw [← hA]
  clear ht hm hk hA hM ha
  have hml := hid hm1
  clear hm1
  unfold lay1 styV at *
  go_enter Tryz.func37, Tryz.ntmps37
  go_wp2_with fail
  have d0 : ((w.alloc (.cells #[.int .i64 23, .int .i64 127, .int .i64 8388608, .int .i64 2139095040, .int .i64 2147483648] 63)).alloc (.cells #[.int .i64 4, .int .i64 prec, .int .i64 mode] 66)).cell? ⟨w.heap.size, 0, none⟩ = some (Value.int .i64 23) := by simp [go_sem]
  have d1 : ((w.alloc (.cells #[.int .i64 23, .int .i64 127, .int .i64 8388608, .int .i64 2139095040, .int .i64 2147483648] 63)).alloc (.cells #[.int .i64 4, .int .i64 prec, .int .i64 mode] 66)).cell? ⟨w.heap.size, 1, none⟩ = some (Value.int .i64 127) := by simp [go_sem]
  have d2 : ((w.alloc (.cells #[.int .i64 23, .int .i64 127, .int .i64 8388608, .int .i64 2139095040, .int .i64 2147483648] 63)).alloc (.cells #[.int .i64 4, .int .i64 prec, .int .i64 mode] 66)).cell? ⟨w.heap.size, 2, none⟩ = some (Value.int .i64 8388608) := by simp [go_sem]
  have d3 : ((w.alloc (.cells #[.int .i64 23, .int .i64 127, .int .i64 8388608, .int .i64 2139095040, .int .i64 2147483648] 63)).alloc (.cells #[.int .i64 4, .int .i64 prec, .int .i64 mode] 66)).cell? ⟨w.heap.size, 3, none⟩ = some (Value.int .i64 2139095040) := by simp [go_sem]
  have d4 : ((w.alloc (.cells #[.int .i64 23, .int .i64 127, .int .i64 8388608, .int .i64 2139095040, .int .i64 2147483648] 63)).alloc (.cells #[.int .i64 4, .int .i64 prec, .int .i64 mode] 66)).cell? ⟨w.heap.size, 4, none⟩ = some (Value.int .i64 2147483648) := by simp [go_sem]
  have s0 : ((w.alloc (.cells #[.int .i64 23, .int .i64 127, .int .i64 8388608, .int .i64 2139095040, .int .i64 2147483648] 63)).alloc (.cells #[.int .i64 4, .int .i64 prec, .int .i64 mode] 66)).cell? ⟨w.heap.size + 1, 0, none⟩ = some (Value.int .i64 4) := by simp [go_sem]
  have s1 : ((w.alloc (.cells #[.int .i64 23, .int .i64 127, .int .i64 8388608, .int .i64 2139095040, .int .i64 2147483648] 63)).alloc (.cells #[.int .i64 4, .int .i64 prec, .int .i64 mode] 66)).cell? ⟨w.heap.size + 1, 1, none⟩ = some (Value.int .i64 prec) := by simp [go_sem]
  have s2 : ((w.alloc (.cells #[.int .i64 23, .int .i64 127, .int .i64 8388608, .int .i64 2139095040, .int .i64 2147483648] 63)).alloc (.cells #[.int .i64 4, .int .i64 prec, .int .i64 mode] 66)).cell? ⟨w.heap.size + 1, 2, none⟩ = some (Value.int .i64 mode) := by simp [go_sem]
  have HB : Hid (Below w.heap.size w ((w.alloc (.cells #[.int .i64 23, .int .i64 127, .int .i64 8388608, .int .i64 2139095040, .int .i64 2147483648] 63)).alloc (.cells #[.int .i64 4, .int .i64 prec, .int .i64 mode] 66))) := ((Below.refl _ _).alloc (Nat.le_refl _) _).alloc (by simp) _
  have hw : w.heap.size + 1 < ((w.alloc (.cells #[.int .i64 23, .int .i64 127, .int .i64 8388608, .int .i64 2139095040, .int .i64 2147483648] 63)).alloc (.cells #[.int .i64 4, .int .i64 prec, .int .i64 mode] 66)).heap.size := by simp
  generalize ((w.alloc (.cells #[.int .i64 23, .int .i64 127, .int .i64 8388608, .int .i64 2139095040, .int .i64 2147483648] 63)).alloc (.cells #[.int .i64 4, .int .i64 prec, .int .i64 mode] 66)) = W at *
  refine (HNB.out W).mono ?_
  rintro r w1 ⟨rfl, hb1⟩
  have HB1 : Hid (Below w.heap.size w w1) := HB.out.trans (hb1.mono (by omega))
  have HT1 : Hid (Tab w1) := HTAB.out.below HB1.out
  have e0 := keep_cell' hb1 d0
  have e1 := keep_cell' hb1 d1
  have e2 := keep_cell' hb1 d2
  have e3 := keep_cell' hb1 d3
  have e4 := keep_cell' hb1 d4
  have z0 := keep_cell' hb1 s0
  have z1 := keep_cell' hb1 s1
  have z2 := keep_cell' hb1 s2
  clear hb1 d0 d1 d2 d3 d4 s0 s1 s2 hw HB HNB
  by_cases h0 : a = 0
  · have hM0 : M = 0 := by rw [HMM.out, HM0.out h0]; rfl
    subst hM0
    go_wp2_with fail
    refine (whex_zero _ _).mono ?_
    rintro r w2 ⟨rfl, rfl⟩
    go_wp2
    go_ret
    exact ⟨[48, 120, 48, 112, 48], rfl, by rw [HQ.out]; exact .inl ⟨h0, rfl⟩, by simp, HB1.out⟩
  · have HX : Hid (Calls Tryz.prog 57 #[.int .i64 M, .int .i64 (-149 + k)] w1 fun r w' => ∃ s : ByteArray, r = .returned (.string s) ∧ ∃ (T : List UInt8) (E : Int), HexText m (-149 + k) T E ∧ s = str (hexS T E) ∧ T.length ≤ 13 ∧ -4000 ≤ E ∧ E ≤ 4000 ∧ Below w1.heap.size w1 w') := by
      unfold Hid; rw [HMM.out]
      exact whex_any m (-149 + k) w1 HT1.out (HMP.out (by omega)) (by have := hml.out; omega) (by omega) (by omega)
    have H0 := hid h0
    clear h0
    go_wp2_with fail
    refine HX.out.mono ?_
    rintro r w2 ⟨s, rfl, T0, E0, hh, rfl, hl, he1, he2, hb2⟩
    have HF := hid (And.intro hh (And.intro (hexS_length T0 E0 hl he1 he2) (HB1.out.trans (hb2.mono HB1.out.size))))
    clear hh hl he1 he2 hb2 HX
    go_wp2
    go_ret
    exact ⟨hexS T0 E0, rfl, by rw [HQ.out]; exact .inr ⟨by have := H0.out; omega, T0, E0, HF.out.1, rfl⟩, Nat.le_trans HF.out.2.1 (by omega), HF.out.2.2⟩
set_option maxRecDepth 100000 in
set_option maxHeartbeats 1000000 in
theorem numHex2 (a : Nat) (ng : Bool) (prec mode : Int) (ha : (a : Int) < 9218868437227405312) (w : World) (ht : Tab w) :
    Calls Tryz.prog 37 #[.int .i64 a, lay2, .bool ng, styV 4 prec mode] w fun r w' => TextPost w w' r (HexQ 2 a) := by
  have HTAB := hid ht
  have HNB := hid (fun w => number2 a ha w)
  have hxa : ((xA 52 a : Nat) : Int) ≤ 2100 := by
    unfold xA; rw [show (2 : Nat) ^ 52 = 4503599627370496 from by decide]; omega
  have hm1 := mA_lt 52 a
  rw [show (2 : Nat) ^ 52 = 4503599627370496 from by decide] at hm1
  have HMP : Hid (0 < a → 0 < mA 52 a) := mA_pos 52 a
  have HM0 : Hid (a = 0 → mA 52 a = 0) := fun h => by rw [h]; rfl
  have HQ : Hid (HexQ 2 a = fun T => (a = 0 ∧ T = [48, 120, 48, 112, 48]) ∨ (0 < a ∧ ∃ T0 E, HexText (mA 52 a) (-1074 + (xA 52 a : Nat)) T0 E ∧ T = hexS T0 E)) := rfl
  obtain ⟨m, hm⟩ : ∃ m, m = mA 52 a := ⟨_, rfl⟩
  obtain ⟨k, hk⟩ : ∃ k : Nat, k = xA 52 a := ⟨_, rfl⟩
  obtain ⟨A, hA⟩ : ∃ A : Int, A = (a : Int) := ⟨_, rfl⟩
  rw [← hm, ← hk, ← hA] at HNB
  rw [← hm, ← hk] at HQ
  rw [← hm] at hm1 HMP HM0
  rw [← hk] at hxa
  obtain ⟨M, hM⟩ : ∃ M : Int, M = (m : Int) := ⟨_, rfl⟩
  rw [← hM] at HNB
  have HMM := hid hM
  have HA := hid hA
  rw [← hA]
  clear ht hm hk hA hM ha
  have hml := hid hm1
  clear hm1
  unfold lay2 styV at *
  go_enter Tryz.func37, Tryz.ntmps37
  go_wp2_with fail
  have d0 : ((w.alloc (.cells #[.int .i64 52, .int .i64 1023, .int .i64 4503599627370496, .int .i64 9218868437227405312, .int .i64 (-9223372036854775808)] 63)).alloc (.cells #[.int .i64 4, .int .i64 prec, .int .i64 mode] 66)).cell? ⟨w.heap.size, 0, none⟩ = some (Value.int .i64 52) := by simp [go_sem]
  have d1 : ((w.alloc (.cells #[.int .i64 52, .int .i64 1023, .int .i64 4503599627370496, .int .i64 9218868437227405312, .int .i64 (-9223372036854775808)] 63)).alloc (.cells #[.int .i64 4, .int .i64 prec, .int .i64 mode] 66)).cell? ⟨w.heap.size, 1, none⟩ = some (Value.int .i64 1023) := by simp [go_sem]
  have d2 : ((w.alloc (.cells #[.int .i64 52, .int .i64 1023, .int .i64 4503599627370496, .int .i64 9218868437227405312, .int .i64 (-9223372036854775808)] 63)).alloc (.cells #[.int .i64 4, .int .i64 prec, .int .i64 mode] 66)).cell? ⟨w.heap.size, 2, none⟩ = some (Value.int .i64 4503599627370496) := by simp [go_sem]
  have d3 : ((w.alloc (.cells #[.int .i64 52, .int .i64 1023, .int .i64 4503599627370496, .int .i64 9218868437227405312, .int .i64 (-9223372036854775808)] 63)).alloc (.cells #[.int .i64 4, .int .i64 prec, .int .i64 mode] 66)).cell? ⟨w.heap.size, 3, none⟩ = some (Value.int .i64 9218868437227405312) := by simp [go_sem]
  have d4 : ((w.alloc (.cells #[.int .i64 52, .int .i64 1023, .int .i64 4503599627370496, .int .i64 9218868437227405312, .int .i64 (-9223372036854775808)] 63)).alloc (.cells #[.int .i64 4, .int .i64 prec, .int .i64 mode] 66)).cell? ⟨w.heap.size, 4, none⟩ = some (Value.int .i64 (-9223372036854775808)) := by simp [go_sem]
  have s0 : ((w.alloc (.cells #[.int .i64 52, .int .i64 1023, .int .i64 4503599627370496, .int .i64 9218868437227405312, .int .i64 (-9223372036854775808)] 63)).alloc (.cells #[.int .i64 4, .int .i64 prec, .int .i64 mode] 66)).cell? ⟨w.heap.size + 1, 0, none⟩ = some (Value.int .i64 4) := by simp [go_sem]
  have s1 : ((w.alloc (.cells #[.int .i64 52, .int .i64 1023, .int .i64 4503599627370496, .int .i64 9218868437227405312, .int .i64 (-9223372036854775808)] 63)).alloc (.cells #[.int .i64 4, .int .i64 prec, .int .i64 mode] 66)).cell? ⟨w.heap.size + 1, 1, none⟩ = some (Value.int .i64 prec) := by simp [go_sem]
  have s2 : ((w.alloc (.cells #[.int .i64 52, .int .i64 1023, .int .i64 4503599627370496, .int .i64 9218868437227405312, .int .i64 (-9223372036854775808)] 63)).alloc (.cells #[.int .i64 4, .int .i64 prec, .int .i64 mode] 66)).cell? ⟨w.heap.size + 1, 2, none⟩ = some (Value.int .i64 mode) := by simp [go_sem]
  have HB : Hid (Below w.heap.size w ((w.alloc (.cells #[.int .i64 52, .int .i64 1023, .int .i64 4503599627370496, .int .i64 9218868437227405312, .int .i64 (-9223372036854775808)] 63)).alloc (.cells #[.int .i64 4, .int .i64 prec, .int .i64 mode] 66))) := ((Below.refl _ _).alloc (Nat.le_refl _) _).alloc (by simp) _
  have hw : w.heap.size + 1 < ((w.alloc (.cells #[.int .i64 52, .int .i64 1023, .int .i64 4503599627370496, .int .i64 9218868437227405312, .int .i64 (-9223372036854775808)] 63)).alloc (.cells #[.int .i64 4, .int .i64 prec, .int .i64 mode] 66)).heap.size := by simp
  generalize ((w.alloc (.cells #[.int .i64 52, .int .i64 1023, .int .i64 4503599627370496, .int .i64 9218868437227405312, .int .i64 (-9223372036854775808)] 63)).alloc (.cells #[.int .i64 4, .int .i64 prec, .int .i64 mode] 66)) = W at *
  refine (HNB.out W).mono ?_
  rintro r w1 ⟨rfl, hb1⟩
  have HB1 : Hid (Below w.heap.size w w1) := HB.out.trans (hb1.mono (by omega))
  have HT1 : Hid (Tab w1) := HTAB.out.below HB1.out
  have e0 := keep_cell' hb1 d0
  have e1 := keep_cell' hb1 d1
  have e2 := keep_cell' hb1 d2
  have e3 := keep_cell' hb1 d3
  have e4 := keep_cell' hb1 d4
  have z0 := keep_cell' hb1 s0
  have z1 := keep_cell' hb1 s1
  have z2 := keep_cell' hb1 s2
  clear hb1 d0 d1 d2 d3 d4 s0 s1 s2 hw HB HNB
  by_cases h0 : a = 0
  · have hM0 : M = 0 := by rw [HMM.out, HM0.out h0]; rfl
    subst hM0
    go_wp2_with fail
    refine (whex_zero _ _).mono ?_
    rintro r w2 ⟨rfl, rfl⟩
    go_wp2
    go_ret
    exact ⟨[48, 120, 48, 112, 48], rfl, by rw [HQ.out]; exact .inl ⟨h0, rfl⟩, by simp, HB1.out⟩
  · have HX : Hid (Calls Tryz.prog 57 #[.int .i64 M, .int .i64 (-1074 + k)] w1 fun r w' => ∃ s : ByteArray, r = .returned (.string s) ∧ ∃ (T : List UInt8) (E : Int), HexText m (-1074 + k) T E ∧ s = str (hexS T E) ∧ T.length ≤ 13 ∧ -4000 ≤ E ∧ E ≤ 4000 ∧ Below w1.heap.size w1 w') := by
      unfold Hid; rw [HMM.out]
      exact whex_any m (-1074 + k) w1 HT1.out (HMP.out (by omega)) (by have := hml.out; omega) (by omega) (by omega)
    have H0 := hid h0
    clear h0
    go_wp2_with fail
    refine HX.out.mono ?_
    rintro r w2 ⟨s, rfl, T0, E0, hh, rfl, hl, he1, he2, hb2⟩
    have HF := hid (And.intro hh (And.intro (hexS_length T0 E0 hl he1 he2) (HB1.out.trans (hb2.mono HB1.out.size))))
    clear hh hl he1 he2 hb2 HX
    go_wp2
    go_ret
    exact ⟨hexS T0 E0, rfl, by rw [HQ.out]; exact .inr ⟨by have := H0.out; omega, T0, E0, HF.out.1, rfl⟩, Nat.le_trans HF.out.2.1 (by omega), HF.out.2.2⟩
end Go.Proofs.YtbkdaoicnobllabGreatDoor
