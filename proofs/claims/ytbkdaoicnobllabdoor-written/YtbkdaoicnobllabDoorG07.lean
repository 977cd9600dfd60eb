import Derived.Test.YtbkdaoicnobllabDoorG06

namespace Go.Proofs.YtbkdaoicnobllabDoor
open Go.RowKit

set_option maxRecDepth 100000 in
set_option maxHeartbeats 1000000 in
theorem textOf0 (x verb prec mode : Int) (Q : List UInt8 → Prop) (h1 : 0 ≤ x) (h2 : x < 65536) (w : World) (ht : Tab w)
    (HT0 : ∀ a : Nat, amtI 0 x = a → (a : Int) < 31744 → ∀ w : World, Tab w → Calls Tryd.prog 23 #[.int .i64 a, lay0, .bool (negI 0 x), styV verb prec mode] w fun r w' => TextPost w w' r Q) :
    Calls Tryd.prog 20 #[.int .i64 x, lay0, styV verb prec mode] w fun r w' => OutPost 0 x w w' r Q := by
  have hI : (infN 0 : Int) = 31744 := rfl
  have hnn := amtI_nonneg 0 x (by unfold hasB sgnF; simp <;> omega) (by omega) (by omega)
  obtain ⟨a, ha⟩ : ∃ a : Nat, amtI 0 x = a := ⟨(amtI 0 x).toNat, by omega⟩
  have HSP := hid (fun w => split0 x h1 h2 w)
  obtain ⟨A, hA⟩ : ∃ A, amtI 0 x = A := ⟨_, rfl⟩
  obtain ⟨ng, hng⟩ : ∃ ng, negI 0 x = ng := ⟨_, rfl⟩
  rw [hA, hng] at HSP
  have HT : Hid (A < 31744 → ∀ w : World, Tab w → Calls Tryd.prog 23 #[.int .i64 A, lay0, .bool ng, styV verb prec mode] w fun r w' => TextPost w w' r Q) := fun h w hw => by
    have := HT0 a ha (by omega) w hw
    rw [← ha, hA, hng] at this; exact this
  rw [hA] at hnn
  obtain ⟨hA0, hA1⟩ := hnn
  have HTAB := hid ht
  have HPO : Hid (∀ (w w' : World) (r : Ending) (T : List UInt8), r = .returned (.string (str (outT 0 x T))) → (A < 31744 → Q T) → T.length ≤ 5000 → Below w.heap.size w w' → OutPost 0 x w w' r Q) := fun w w' r T p1 p2 p3 p4 => ⟨T, p1, fun h => p2 (by rw [hA, hI] at h; exact h), p3, p4⟩
  clear HT0 ht h1 h2
  unfold lay0 styV at *
  go_enter Tryd.func20, Tryd.ntmps20
  go_wp2_with fail
  have d0 : ((w.alloc (.cells #[.int .i64 10, .int .i64 15, .int .i64 1024, .int .i64 31744, .int .i64 32768] 46)).alloc (.cells #[.int .i64 verb, .int .i64 prec, .int .i64 mode] 49)).cell? ⟨w.heap.size, 0, none⟩ = some (Value.int .i64 10) := by simp [go_sem]
  have d1 : ((w.alloc (.cells #[.int .i64 10, .int .i64 15, .int .i64 1024, .int .i64 31744, .int .i64 32768] 46)).alloc (.cells #[.int .i64 verb, .int .i64 prec, .int .i64 mode] 49)).cell? ⟨w.heap.size, 1, none⟩ = some (Value.int .i64 15) := by simp [go_sem]
  have d2 : ((w.alloc (.cells #[.int .i64 10, .int .i64 15, .int .i64 1024, .int .i64 31744, .int .i64 32768] 46)).alloc (.cells #[.int .i64 verb, .int .i64 prec, .int .i64 mode] 49)).cell? ⟨w.heap.size, 2, none⟩ = some (Value.int .i64 1024) := by simp [go_sem]
  have d3 : ((w.alloc (.cells #[.int .i64 10, .int .i64 15, .int .i64 1024, .int .i64 31744, .int .i64 32768] 46)).alloc (.cells #[.int .i64 verb, .int .i64 prec, .int .i64 mode] 49)).cell? ⟨w.heap.size, 3, none⟩ = some (Value.int .i64 31744) := by simp [go_sem]
  have d4 : ((w.alloc (.cells #[.int .i64 10, .int .i64 15, .int .i64 1024, .int .i64 31744, .int .i64 32768] 46)).alloc (.cells #[.int .i64 verb, .int .i64 prec, .int .i64 mode] 49)).cell? ⟨w.heap.size, 4, none⟩ = some (Value.int .i64 32768) := by simp [go_sem]
  have s0 : ((w.alloc (.cells #[.int .i64 10, .int .i64 15, .int .i64 1024, .int .i64 31744, .int .i64 32768] 46)).alloc (.cells #[.int .i64 verb, .int .i64 prec, .int .i64 mode] 49)).cell? ⟨w.heap.size + 1, 0, none⟩ = some (Value.int .i64 verb) := by simp [go_sem]
  have s1 : ((w.alloc (.cells #[.int .i64 10, .int .i64 15, .int .i64 1024, .int .i64 31744, .int .i64 32768] 46)).alloc (.cells #[.int .i64 verb, .int .i64 prec, .int .i64 mode] 49)).cell? ⟨w.heap.size + 1, 1, none⟩ = some (Value.int .i64 prec) := by simp [go_sem]
  have s2 : ((w.alloc (.cells #[.int .i64 10, .int .i64 15, .int .i64 1024, .int .i64 31744, .int .i64 32768] 46)).alloc (.cells #[.int .i64 verb, .int .i64 prec, .int .i64 mode] 49)).cell? ⟨w.heap.size + 1, 2, none⟩ = some (Value.int .i64 mode) := by simp [go_sem]
  have HB : Hid (Below w.heap.size w ((w.alloc (.cells #[.int .i64 10, .int .i64 15, .int .i64 1024, .int .i64 31744, .int .i64 32768] 46)).alloc (.cells #[.int .i64 verb, .int .i64 prec, .int .i64 mode] 49))) := ((Below.refl _ _).alloc (Nat.le_refl _) _).alloc (by simp) _
  have hw : w.heap.size + 1 < ((w.alloc (.cells #[.int .i64 10, .int .i64 15, .int .i64 1024, .int .i64 31744, .int .i64 32768] 46)).alloc (.cells #[.int .i64 verb, .int .i64 prec, .int .i64 mode] 49)).heap.size := by simp
  generalize ((w.alloc (.cells #[.int .i64 10, .int .i64 15, .int .i64 1024, .int .i64 31744, .int .i64 32768] 46)).alloc (.cells #[.int .i64 verb, .int .i64 prec, .int .i64 mode] 49)) = W at *
  refine (HSP.out W).mono ?_
  rintro r w1 ⟨rfl, hb1⟩
  have HB1 : Hid (Below w.heap.size w w1) := HB.out.trans (hb1.mono (by omega))
  have HT1 : Hid (Tab w1) := HTAB.out.below HB1.out
  have e0 := keep_cell' hb1 d0
  have e1 := keep_cell' hb1 d1
  have e2 := keep_cell' hb1 d2
  have e3 := keep_cell' hb1 d3
  have e4 := keep_cell' hb1 d4
  have z0 := keep_cell' hb1 s0
  have z1 := keep_cell' hb1 s1
  have z2 := keep_cell' hb1 s2
  clear hb1 d0 d1 d2 d3 d4 s0 s1 s2 hw HB HSP
  by_cases hnan : 31744 < A
  · have HS : Hid (str [110, 97, 110] = str (outT 0 x [])) := by unfold Hid outT; rw [if_pos (by rw [hA, hI]; exact hnan)]
    clear hA ha hng hI
    go_wp2
    go_ret
    exact HPO.out _ _ _ [] (ret_str HS.out) (fun h => by omega) (by simp) HB1.out
  · by_cases hfin : A < 31744
    · cases ng
      · have HS : Hid (∀ T : List UInt8, str T = str (outT 0 x T)) := fun T => by
          unfold outT; rw [if_neg (by rw [hA, hI]; omega), if_neg (by rw [hng]; simp), if_pos (by rw [hA, hI]; omega)]; rfl
        have HN := hid (HT.out hfin w1 HT1.out)
        clear hA ha hng hI
        go_wp2_with fail
        refine HN.out.mono ?_
        rintro r w2 ⟨T, rfl, hq, hl, hb2⟩
        have HF := hid (And.intro hq (And.intro hl (HB1.out.trans (hb2.mono HB1.out.size))))
        clear hq hl hb2 HN
        go_wp2
        go_ret
        exact HPO.out _ _ _ T (ret_str (HS.out T)) (fun _ => HF.out.1) HF.out.2.1 HF.out.2.2
      · have HS : Hid (∀ T : List UInt8, (⟨#[45]⟩ : ByteArray) ++ str T = str (outT 0 x T)) := fun T => by
          unfold outT; rw [if_neg (by rw [hA, hI]; omega), if_pos hng, if_pos (by rw [hA, hI]; omega), ← str_append]; rfl
        have HN := hid (HT.out hfin w1 HT1.out)
        clear hA ha hng hI
        go_wp2_with fail
        refine HN.out.mono ?_
        rintro r w2 ⟨T, rfl, hq, hl, hb2⟩
        have HF := hid (And.intro hq (And.intro hl (HB1.out.trans (hb2.mono HB1.out.size))))
        have hts : (str T).size ≤ 5000 := by rw [str_size]; exact hl
        clear hq hl hb2 HN
        go_wp2
        go_ret
        exact HPO.out _ _ _ T (ret_str (HS.out T)) (fun _ => HF.out.1) HF.out.2.1 HF.out.2.2
    · cases ng
      · have HS : Hid (str [105, 110, 102] = str (outT 0 x [])) := by unfold Hid outT; rw [if_neg (by rw [hA, hI]; omega), if_neg (by rw [hng]; simp), if_neg (by rw [hA, hI]; omega)]; rfl
        clear hA ha hng hI
        go_wp2
        go_ret
        exact HPO.out _ _ _ [] (ret_str HS.out) (fun h => by omega) (by simp) HB1.out
      · have HS : Hid ((⟨#[45, 105, 110, 102]⟩ : ByteArray) = str (outT 0 x [])) := by unfold Hid outT; rw [if_neg (by rw [hA, hI]; omega), if_pos hng, if_neg (by rw [hA, hI]; omega)]; rfl
        clear hA ha hng hI
        go_wp2
        go_ret
        exact HPO.out _ _ _ [] (ret_str HS.out) (fun h => by omega) (by simp) HB1.out
set_option maxRecDepth 100000 in
set_option maxHeartbeats 1000000 in
theorem textOf1 (x verb prec mode : Int) (Q : List UInt8 → Prop) (h1 : 0 ≤ x) (h2 : x < 4294967296) (w : World) (ht : Tab w)
    (HT0 : ∀ a : Nat, amtI 1 x = a → (a : Int) < 2139095040 → ∀ w : World, Tab w → Calls Tryd.prog 23 #[.int .i64 a, lay1, .bool (negI 1 x), styV verb prec mode] w fun r w' => TextPost w w' r Q) :
    Calls Tryd.prog 20 #[.int .i64 x, lay1, styV verb prec mode] w fun r w' => OutPost 1 x w w' r Q := by
  have hI : (infN 1 : Int) = 2139095040 := rfl
  have hnn := amtI_nonneg 1 x (by unfold hasB sgnF; simp <;> omega) (by omega) (by omega)
  obtain ⟨a, ha⟩ : ∃ a : Nat, amtI 1 x = a := ⟨(amtI 1 x).toNat, by omega⟩
  have HSP := hid (fun w => split1 x h1 h2 w)
  obtain ⟨A, hA⟩ : ∃ A, amtI 1 x = A := ⟨_, rfl⟩
  obtain ⟨ng, hng⟩ : ∃ ng, negI 1 x = ng := ⟨_, rfl⟩
  rw [hA, hng] at HSP
  have HT : Hid (A < 2139095040 → ∀ w : World, Tab w → Calls Tryd.prog 23 #[.int .i64 A, lay1, .bool ng, styV verb prec mode] w fun r w' => TextPost w w' r Q) := fun h w hw => by
    have := HT0 a ha (by omega) w hw
    rw [← ha, hA, hng] at this; exact this
  rw [hA] at hnn
  obtain ⟨hA0, hA1⟩ := hnn
  have HTAB := hid ht
  have HPO : Hid (∀ (w w' : World) (r : Ending) (T : List UInt8), r = .returned (.string (str (outT 1 x T))) → (A < 2139095040 → Q T) → T.length ≤ 5000 → Below w.heap.size w w' → OutPost 1 x w w' r Q) := fun w w' r T p1 p2 p3 p4 => ⟨T, p1, fun h => p2 (by rw [hA, hI] at h; exact h), p3, p4⟩
  clear HT0 ht h1 h2
  unfold lay1 styV at *
  go_enter Tryd.func20, Tryd.ntmps20
  go_wp2_with fail
  have d0 : ((w.alloc (.cells #[.int .i64 23, .int .i64 127, .int .i64 8388608, .int .i64 2139095040, .int .i64 2147483648] 46)).alloc (.cells #[.int .i64 verb, .int .i64 prec, .int .i64 mode] 49)).cell? ⟨w.heap.size, 0, none⟩ = some (Value.int .i64 23) := by simp [go_sem]
  have d1 : ((w.alloc (.cells #[.int .i64 23, .int .i64 127, .int .i64 8388608, .int .i64 2139095040, .int .i64 2147483648] 46)).alloc (.cells #[.int .i64 verb, .int .i64 prec, .int .i64 mode] 49)).cell? ⟨w.heap.size, 1, none⟩ = some (Value.int .i64 127) := by simp [go_sem]
  have d2 : ((w.alloc (.cells #[.int .i64 23, .int .i64 127, .int .i64 8388608, .int .i64 2139095040, .int .i64 2147483648] 46)).alloc (.cells #[.int .i64 verb, .int .i64 prec, .int .i64 mode] 49)).cell? ⟨w.heap.size, 2, none⟩ = some (Value.int .i64 8388608) := by simp [go_sem]
  have d3 : ((w.alloc (.cells #[.int .i64 23, .int .i64 127, .int .i64 8388608, .int .i64 2139095040, .int .i64 2147483648] 46)).alloc (.cells #[.int .i64 verb, .int .i64 prec, .int .i64 mode] 49)).cell? ⟨w.heap.size, 3, none⟩ = some (Value.int .i64 2139095040) := by simp [go_sem]
  have d4 : ((w.alloc (.cells #[.int .i64 23, .int .i64 127, .int .i64 8388608, .int .i64 2139095040, .int .i64 2147483648] 46)).alloc (.cells #[.int .i64 verb, .int .i64 prec, .int .i64 mode] 49)).cell? ⟨w.heap.size, 4, none⟩ = some (Value.int .i64 2147483648) := by simp [go_sem]
  have s0 : ((w.alloc (.cells #[.int .i64 23, .int .i64 127, .int .i64 8388608, .int .i64 2139095040, .int .i64 2147483648] 46)).alloc (.cells #[.int .i64 verb, .int .i64 prec, .int .i64 mode] 49)).cell? ⟨w.heap.size + 1, 0, none⟩ = some (Value.int .i64 verb) := by simp [go_sem]
  have s1 : ((w.alloc (.cells #[.int .i64 23, .int .i64 127, .int .i64 8388608, .int .i64 2139095040, .int .i64 2147483648] 46)).alloc (.cells #[.int .i64 verb, .int .i64 prec, .int .i64 mode] 49)).cell? ⟨w.heap.size + 1, 1, none⟩ = some (Value.int .i64 prec) := by simp [go_sem]
  have s2 : ((w.alloc (.cells #[.int .i64 23, .int .i64 127, .int .i64 8388608, .int .i64 2139095040, .int .i64 2147483648] 46)).alloc (.cells #[.int .i64 verb, .int .i64 prec, .int .i64 mode] 49)).cell? ⟨w.heap.size + 1, 2, none⟩ = some (Value.int .i64 mode) := by simp [go_sem]
  have HB : Hid (Below w.heap.size w ((w.alloc (.cells #[.int .i64 23, .int .i64 127, .int .i64 8388608, .int .i64 2139095040, .int .i64 2147483648] 46)).alloc (.cells #[.int .i64 verb, .int .i64 prec, .int .i64 mode] 49))) := ((Below.refl _ _).alloc (Nat.le_refl _) _).alloc (by simp) _
  have hw : w.heap.size + 1 < ((w.alloc (.cells #[.int .i64 23, .int .i64 127, .int .i64 8388608, .int .i64 2139095040, .int .i64 2147483648] 46)).alloc (.cells #[.int .i64 verb, .int .i64 prec, .int .i64 mode] 49)).heap.size := by simp
  generalize ((w.alloc (.cells #[.int .i64 23, .int .i64 127, .int .i64 8388608, .int .i64 2139095040, .int .i64 2147483648] 46)).alloc (.cells #[.int .i64 verb, .int .i64 prec, .int .i64 mode] 49)) = W at *
  refine (HSP.out W).mono ?_
  rintro r w1 ⟨rfl, hb1⟩
  have HB1 : Hid (Below w.heap.size w w1) := HB.out.trans (hb1.mono (by omega))
  have HT1 : Hid (Tab w1) := HTAB.out.below HB1.out
  have e0 := keep_cell' hb1 d0
  have e1 := keep_cell' hb1 d1
  have e2 := keep_cell' hb1 d2
  have e3 := keep_cell' hb1 d3
  have e4 := keep_cell' hb1 d4
  have z0 := keep_cell' hb1 s0
  have z1 := keep_cell' hb1 s1
  have z2 := keep_cell' hb1 s2
  clear hb1 d0 d1 d2 d3 d4 s0 s1 s2 hw HB HSP
  by_cases hnan : 2139095040 < A
  · have HS : Hid (str [110, 97, 110] = str (outT 1 x [])) := by unfold Hid outT; rw [if_pos (by rw [hA, hI]; exact hnan)]
    clear hA ha hng hI
    go_wp2
    go_ret
    exact HPO.out _ _ _ [] (ret_str HS.out) (fun h => by omega) (by simp) HB1.out
  · by_cases hfin : A < 2139095040
    · cases ng
      · have HS : Hid (∀ T : List UInt8, str T = str (outT 1 x T)) := fun T => by
          unfold outT; rw [if_neg (by rw [hA, hI]; omega), if_neg (by rw [hng]; simp), if_pos (by rw [hA, hI]; omega)]; rfl
        have HN := hid (HT.out hfin w1 HT1.out)
        clear hA ha hng hI
        go_wp2_with fail
        refine HN.out.mono ?_
        rintro r w2 ⟨T, rfl, hq, hl, hb2⟩
        have HF := hid (And.intro hq (And.intro hl (HB1.out.trans (hb2.mono HB1.out.size))))
        clear hq hl hb2 HN
        go_wp2
        go_ret
        exact HPO.out _ _ _ T (ret_str (HS.out T)) (fun _ => HF.out.1) HF.out.2.1 HF.out.2.2
      · have HS : Hid (∀ T : List UInt8, (⟨#[45]⟩ : ByteArray) ++ str T = str (outT 1 x T)) := fun T => by
          unfold outT; rw [if_neg (by rw [hA, hI]; omega), if_pos hng, if_pos (by rw [hA, hI]; omega), ← str_append]; rfl
        have HN := hid (HT.out hfin w1 HT1.out)
        clear hA ha hng hI
        go_wp2_with fail
        refine HN.out.mono ?_
        rintro r w2 ⟨T, rfl, hq, hl, hb2⟩
        have HF := hid (And.intro hq (And.intro hl (HB1.out.trans (hb2.mono HB1.out.size))))
        have hts : (str T).size ≤ 5000 := by rw [str_size]; exact hl
        clear hq hl hb2 HN
        go_wp2
        go_ret
        exact HPO.out _ _ _ T (ret_str (HS.out T)) (fun _ => HF.out.1) HF.out.2.1 HF.out.2.2
    · cases ng
      · have HS : Hid (str [105, 110, 102] = str (outT 1 x [])) := by unfold Hid outT; rw [if_neg (by rw [hA, hI]; omega), if_neg (by rw [hng]; simp), if_neg (by rw [hA, hI]; omega)]; rfl
        clear hA ha hng hI
        go_wp2
        go_ret
        exact HPO.out _ _ _ [] (ret_str HS.out) (fun h => by omega) (by simp) HB1.out
      · have HS : Hid ((⟨#[45, 105, 110, 102]⟩ : ByteArray) = str (outT 1 x [])) := by unfold Hid outT; rw [if_neg (by rw [hA, hI]; omega), if_pos hng, if_neg (by rw [hA, hI]; omega)]; rfl
        clear hA ha hng hI
        go_wp2
        go_ret
        exact HPO.out _ _ _ [] (ret_str HS.out) (fun h => by omega) (by simp) HB1.out
set_option maxRecDepth 100000 in
set_option maxHeartbeats 1000000 in
theorem textOf2 (x verb prec mode : Int) (Q : List UInt8 → Prop) (h1 : -9223372036854775808 ≤ x) (h2 : x ≤ 9223372036854775807) (w : World) (ht : Tab w)
    (HT0 : ∀ a : Nat, amtI 2 x = a → (a : Int) < 9218868437227405312 → ∀ w : World, Tab w → Calls Tryd.prog 23 #[.int .i64 a, lay2, .bool (negI 2 x), styV verb prec mode] w fun r w' => TextPost w w' r Q) :
    Calls Tryd.prog 20 #[.int .i64 x, lay2, styV verb prec mode] w fun r w' => OutPost 2 x w w' r Q := by
  have hI : (infN 2 : Int) = 9218868437227405312 := rfl
  have hnn := amtI_nonneg 2 x (by unfold hasB sgnF; simp <;> omega) (by omega) (by omega)
  obtain ⟨a, ha⟩ : ∃ a : Nat, amtI 2 x = a := ⟨(amtI 2 x).toNat, by omega⟩
  have HSP := hid (fun w => split2 x h1 h2 w)
  obtain ⟨A, hA⟩ : ∃ A, amtI 2 x = A := ⟨_, rfl⟩
  obtain ⟨ng, hng⟩ : ∃ ng, negI 2 x = ng := ⟨_, rfl⟩
  rw [hA, hng] at HSP
  have HT : Hid (A < 9218868437227405312 → ∀ w : World, Tab w → Calls Tryd.prog 23 #[.int .i64 A, lay2, .bool ng, styV verb prec mode] w fun r w' => TextPost w w' r Q) := fun h w hw => by
    have := HT0 a ha (by omega) w hw
    rw [← ha, hA, hng] at this; exact this
  rw [hA] at hnn
  obtain ⟨hA0, hA1⟩ := hnn
  have HTAB := hid ht
  have HPO : Hid (∀ (w w' : World) (r : Ending) (T : List UInt8), r = .returned (.string (str (outT 2 x T))) → (A < 9218868437227405312 → Q T) → T.length ≤ 5000 → Below w.heap.size w w' → OutPost 2 x w w' r Q) := fun w w' r T p1 p2 p3 p4 => ⟨T, p1, fun h => p2 (by rw [hA, hI] at h; exact h), p3, p4⟩
  clear HT0 ht h1 h2
  unfold lay2 styV at *
  go_enter Tryd.func20, Tryd.ntmps20
  go_wp2_with fail
  have d0 : ((w.alloc (.cells #[.int .i64 52, .int .i64 1023, .int .i64 4503599627370496, .int .i64 9218868437227405312, .int .i64 (-9223372036854775808)] 46)).alloc (.cells #[.int .i64 verb, .int .i64 prec, .int .i64 mode] 49)).cell? ⟨w.heap.size, 0, none⟩ = some (Value.int .i64 52) := by simp [go_sem]
  have d1 : ((w.alloc (.cells #[.int .i64 52, .int .i64 1023, .int .i64 4503599627370496, .int .i64 9218868437227405312, .int .i64 (-9223372036854775808)] 46)).alloc (.cells #[.int .i64 verb, .int .i64 prec, .int .i64 mode] 49)).cell? ⟨w.heap.size, 1, none⟩ = some (Value.int .i64 1023) := by simp [go_sem]
  have d2 : ((w.alloc (.cells #[.int .i64 52, .int .i64 1023, .int .i64 4503599627370496, .int .i64 9218868437227405312, .int .i64 (-9223372036854775808)] 46)).alloc (.cells #[.int .i64 verb, .int .i64 prec, .int .i64 mode] 49)).cell? ⟨w.heap.size, 2, none⟩ = some (Value.int .i64 4503599627370496) := by simp [go_sem]
  have d3 : ((w.alloc (.cells #[.int .i64 52, .int .i64 1023, .int .i64 4503599627370496, .int .i64 9218868437227405312, .int .i64 (-9223372036854775808)] 46)).alloc (.cells #[.int .i64 verb, .int .i64 prec, .int .i64 mode] 49)).cell? ⟨w.heap.size, 3, none⟩ = some (Value.int .i64 9218868437227405312) := by simp [go_sem]
  have d4 : ((w.alloc (.cells #[.int .i64 52, .int .i64 1023, .int .i64 4503599627370496, .int .i64 9218868437227405312, .int .i64 (-9223372036854775808)] 46)).alloc (.cells #[.int .i64 verb, .int .i64 prec, .int .i64 mode] 49)).cell? ⟨w.heap.size, 4, none⟩ = some (Value.int .i64 (-9223372036854775808)) := by simp [go_sem]
  have s0 : ((w.alloc (.cells #[.int .i64 52, .int .i64 1023, .int .i64 4503599627370496, .int .i64 9218868437227405312, .int .i64 (-9223372036854775808)] 46)).alloc (.cells #[.int .i64 verb, .int .i64 prec, .int .i64 mode] 49)).cell? ⟨w.heap.size + 1, 0, none⟩ = some (Value.int .i64 verb) := by simp [go_sem]
  have s1 : ((w.alloc (.cells #[.int .i64 52, .int .i64 1023, .int .i64 4503599627370496, .int .i64 9218868437227405312, .int .i64 (-9223372036854775808)] 46)).alloc (.cells #[.int .i64 verb, .int .i64 prec, .int .i64 mode] 49)).cell? ⟨w.heap.size + 1, 1, none⟩ = some (Value.int .i64 prec) := by simp [go_sem]
  have s2 : ((w.alloc (.cells #[.int .i64 52, .int .i64 1023, .int .i64 4503599627370496, .int .i64 9218868437227405312, .int .i64 (-9223372036854775808)] 46)).alloc (.cells #[.int .i64 verb, .int .i64 prec, .int .i64 mode] 49)).cell? ⟨w.heap.size + 1, 2, none⟩ = some (Value.int .i64 mode) := by simp [go_sem]
  have HB : Hid (Below w.heap.size w ((w.alloc (.cells #[.int .i64 52, .int .i64 1023, .int .i64 4503599627370496, .int .i64 9218868437227405312, .int .i64 (-9223372036854775808)] 46)).alloc (.cells #[.int .i64 verb, .int .i64 prec, .int .i64 mode] 49))) := ((Below.refl _ _).alloc (Nat.le_refl _) _).alloc (by simp) _
  have hw : w.heap.size + 1 < ((w.alloc (.cells #[.int .i64 52, .int .i64 1023, .int .i64 4503599627370496, .int .i64 9218868437227405312, .int .i64 (-9223372036854775808)] 46)).alloc (.cells #[.int .i64 verb, .int .i64 prec, .int .i64 mode] 49)).heap.size := by simp
  generalize ((w.alloc (.cells #[.int .i64 52, .int .i64 1023, .int .i64 4503599627370496, .int .i64 9218868437227405312, .int .i64 (-9223372036854775808)] 46)).alloc (.cells #[.int .i64 verb, .int .i64 prec, .int .i64 mode] 49)) = W at *
  refine (HSP.out W).mono ?_
  rintro r w1 ⟨rfl, hb1⟩
  have HB1 : Hid (Below w.heap.size w w1) := HB.out.trans (hb1.mono (by omega))
  have HT1 : Hid (Tab w1) := HTAB.out.below HB1.out
  have e0 := keep_cell' hb1 d0
  have e1 := keep_cell' hb1 d1
  have e2 := keep_cell' hb1 d2
  have e3 := keep_cell' hb1 d3
  have e4 := keep_cell' hb1 d4
  have z0 := keep_cell' hb1 s0
  have z1 := keep_cell' hb1 s1
  have z2 := keep_cell' hb1 s2
  clear hb1 d0 d1 d2 d3 d4 s0 s1 s2 hw HB HSP
  by_cases hnan : 9218868437227405312 < A
  · have HS : Hid (str [110, 97, 110] = str (outT 2 x [])) := by unfold Hid outT; rw [if_pos (by rw [hA, hI]; exact hnan)]
    clear hA ha hng hI
    go_wp2
    go_ret
    exact HPO.out _ _ _ [] (ret_str HS.out) (fun h => by omega) (by simp) HB1.out
  · by_cases hfin : A < 9218868437227405312
    · cases ng
      · have HS : Hid (∀ T : List UInt8, str T = str (outT 2 x T)) := fun T => by
          unfold outT; rw [if_neg (by rw [hA, hI]; omega), if_neg (by rw [hng]; simp), if_pos (by rw [hA, hI]; omega)]; rfl
        have HN := hid (HT.out hfin w1 HT1.out)
        clear hA ha hng hI
        go_wp2_with fail
        refine HN.out.mono ?_
        rintro r w2 ⟨T, rfl, hq, hl, hb2⟩
        have HF := hid (And.intro hq (And.intro hl (HB1.out.trans (hb2.mono HB1.out.size))))
        clear hq hl hb2 HN
        go_wp2
        go_ret
        exact HPO.out _ _ _ T (ret_str (HS.out T)) (fun _ => HF.out.1) HF.out.2.1 HF.out.2.2
      · have HS : Hid (∀ T : List UInt8, (⟨#[45]⟩ : ByteArray) ++ str T = str (outT 2 x T)) := fun T => by
          unfold outT; rw [if_neg (by rw [hA, hI]; omega), if_pos hng, if_pos (by rw [hA, hI]; omega), ← str_append]; rfl
        have HN := hid (HT.out hfin w1 HT1.out)
        clear hA ha hng hI
        go_wp2_with fail
        refine HN.out.mono ?_
        rintro r w2 ⟨T, rfl, hq, hl, hb2⟩
        have HF := hid (And.intro hq (And.intro hl (HB1.out.trans (hb2.mono HB1.out.size))))
        have hts : (str T).size ≤ 5000 := by rw [str_size]; exact hl
        clear hq hl hb2 HN
        go_wp2
        go_ret
        exact HPO.out _ _ _ T (ret_str (HS.out T)) (fun _ => HF.out.1) HF.out.2.1 HF.out.2.2
    · cases ng
      · have HS : Hid (str [105, 110, 102] = str (outT 2 x [])) := by unfold Hid outT; rw [if_neg (by rw [hA, hI]; omega), if_neg (by rw [hng]; simp), if_neg (by rw [hA, hI]; omega)]; rfl
        clear hA ha hng hI
        go_wp2
        go_ret
        exact HPO.out _ _ _ [] (ret_str HS.out) (fun h => by omega) (by simp) HB1.out
      · have HS : Hid ((⟨#[45, 105, 110, 102]⟩ : ByteArray) = str (outT 2 x [])) := by unfold Hid outT; rw [if_neg (by rw [hA, hI]; omega), if_pos hng, if_neg (by rw [hA, hI]; omega)]; rfl
        clear hA ha hng hI
        go_wp2
        go_ret
        exact HPO.out _ _ _ [] (ret_str HS.out) (fun h => by omega) (by simp) HB1.out
end Go.Proofs.YtbkdaoicnobllabDoor
