import Derived.Test.YtbkdaoicnobllabGreatDoorG15
import Derived.Test.YtbkdaoicnobllabGreatDoorG04
import Derived.Deep.DeepCutAuto
import Derived.Deep.RegionWith
import Derived.Deep.DrawnRows

namespace Go.Proofs.YtbkdaoicnobllabGreatDoor
set_option maxRecDepth 100000
set_option maxHeartbeats 6000000
open Go.RowKit
structure CaseNo (i : Nat) : Prop where
 ok : True
theorem belowT : (CaseNo 0 → ∀ (v : Value), ∀ (L : List Nat), ∀ (e : Int), ∀ (K : Nat), ∀ (w : World), (Row w v L) → (Norm L) → (L.length ≤ 100000) → (-100000 ≤ e ∧ e ≤ 100000) → (-(K : Int) ≤ e) → (1100 ≤ K) → (val K L e < valA K 0 31744) → Calls Tryz.prog 82 #[.int .i64 0, .agg #[v, .int .i64 e]] w fun r w' => Below w.heap.size w w' ∧ ∃ a : Nat, r = .returned (.int .i64 a) ∧ a < 31744 ∧ valA K 0 a ≤ val K L e ∧ val K L e < valA K 0 (a + 1)) ∧
    (CaseNo 1 → ∀ (v : Value), ∀ (L : List Nat), ∀ (e : Int), ∀ (K : Nat), ∀ (w : World), (Row w v L) → (Norm L) → (L.length ≤ 100000) → (-100000 ≤ e ∧ e ≤ 100000) → (-(K : Int) ≤ e) → (1100 ≤ K) → (val K L e < valA K 1 2139095040) → Calls Tryz.prog 82 #[.int .i64 1, .agg #[v, .int .i64 e]] w fun r w' => Below w.heap.size w w' ∧ ∃ a : Nat, r = .returned (.int .i64 a) ∧ a < 2139095040 ∧ valA K 1 a ≤ val K L e ∧ val K L e < valA K 1 (a + 1)) ∧
    (CaseNo 2 → ∀ (v : Value), ∀ (L : List Nat), ∀ (e : Int), ∀ (K : Nat), ∀ (w : World), (Row w v L) → (Norm L) → (L.length ≤ 100000) → (-100000 ≤ e ∧ e ≤ 100000) → (-(K : Int) ≤ e) → (1100 ≤ K) → (val K L e < valA K 2 9218868437227405312) → Calls Tryz.prog 82 #[.int .i64 2, .agg #[v, .int .i64 e]] w fun r w' => Below w.heap.size w w' ∧ ∃ a : Nat, r = .returned (.int .i64 a) ∧ a < 9218868437227405312 ∧ valA K 2 a ≤ val K L e ∧ val K L e < valA K 2 (a + 1)) := by
  refine ⟨?_, ?_, ?_⟩
  all_goals
  (intro HGD v L e K w hr hn hl he hk hK hx
   obtain ⟨ao, cap, hv⟩ := hr.isSlice
   subst hv
   have HR := hid (And.intro hr (And.intro hn hx))
   clear hr hn hx
   go_enter Tryz.func82, Tryz.ntmps82
   go_wp2_with fail
   first
   | (have _g : CaseNo 0 := HGD
      refine (kind0 _).mono ?_)
   | (have _g : CaseNo 1 := HGD
      refine (kind1 _).mono ?_)
   | (have _g : CaseNo 2 := HGD
      refine (kind2 _).mono ?_)
   rintro r w' ⟨rfl, rfl⟩
   go_wp2
   first
   | (have _g : CaseNo 0 := HGD
      go_loopw [9, 10] (fun l h wr => ∃ lo hi : Nat, l = .int .i64 lo ∧ h = .int .i64 hi ∧ lo < hi ∧ hi ≤ 31 ∧ Hid (valA K 0 (lo * 1024) ≤ val K L e ∧ val K L e < valA K 0 (hi * 1024)) ∧
          Below (w.heap.size + 1) (w.alloc (.cells #[.slice ao L.length cap, .int .i64 e] 95)) wr) (fun l h _ => (intOf h - intOf l).toNat))
   | (have _g : CaseNo 1 := HGD
      go_loopw [9, 10] (fun l h wr => ∃ lo hi : Nat, l = .int .i64 lo ∧ h = .int .i64 hi ∧ lo < hi ∧ hi ≤ 255 ∧ Hid (valA K 1 (lo * 8388608) ≤ val K L e ∧ val K L e < valA K 1 (hi * 8388608)) ∧
          Below (w.heap.size + 1) (w.alloc (.cells #[.slice ao L.length cap, .int .i64 e] 95)) wr) (fun l h _ => (intOf h - intOf l).toNat))
   | (have _g : CaseNo 2 := HGD
      go_loopw [9, 10] (fun l h wr => ∃ lo hi : Nat, l = .int .i64 lo ∧ h = .int .i64 hi ∧ lo < hi ∧ hi ≤ 2047 ∧ Hid (valA K 2 (lo * 4503599627370496) ≤ val K L e ∧ val K L e < valA K 2 (hi * 4503599627370496)) ∧
          Below (w.heap.size + 1) (w.alloc (.cells #[.slice ao L.length cap, .int .i64 e] 95)) wr) (fun l h _ => (intOf h - intOf l).toNat))
   case atStart =>
     first
     | (have _g : CaseNo 0 := HGD
        refine ⟨0, 31, rfl, rfl, by omega, by omega, ⟨?_, HR.out.2.2⟩, Below.refl _ _⟩)
     | (have _g : CaseNo 1 := HGD
        refine ⟨0, 255, rfl, rfl, by omega, by omega, ⟨?_, HR.out.2.2⟩, Below.refl _ _⟩)
     | (have _g : CaseNo 2 := HGD
        refine ⟨0, 2047, rfl, rfl, by omega, by omega, ⟨?_, HR.out.2.2⟩, Below.refl _ _⟩)
     rw [Nat.zero_mul, valA_zero]; exact Nat.zero_le _
   case round =>
     obtain ⟨lo, hi, rfl, rfl, hlh, hh, HV, hb⟩ := hrel
     have c0 : wr.cell? ⟨w.heap.size, 0, none⟩ = some (.slice ao L.length cap) := (hb.cell (p := ⟨w.heap.size, 0, none⟩) (by simp)).trans (by simp [go_sem])
     have c1 : wr.cell? ⟨w.heap.size, 1, none⟩ = some (.int .i64 e) := (hb.cell (p := ⟨w.heap.size, 1, none⟩) (by simp)).trans (by simp [go_sem])
     by_cases hgo : 1 < (hi : Int) - lo
     · go_wp2_with fail
       rw [show ((lo : Int) + hi) / 2 = (((lo + hi) / 2 : Nat) : Int) from by omega]
       obtain ⟨mid, hmid⟩ : ∃ mid, mid = (lo + hi) / 2 := ⟨_, rfl⟩
       rw [← hmid]
       have hm1 : lo < mid := by omega
       have hm2 : mid < hi := by omega
       clear hmid
       first
       | (have _g : CaseNo 0 := HGD
          rw [show (mid : Int) * 1024 = ((mid * 1024 : Nat) : Int) from by omega]
          refine (value_any 0 (mid * 1024) _ (by omega) (by show _ ≤ (31744 : Int); omega)).mono ?_)
       | (have _g : CaseNo 1 := HGD
          rw [show (mid : Int) * 8388608 = ((mid * 8388608 : Nat) : Int) from by omega]
          refine (value_any 1 (mid * 8388608) _ (by omega) (by show _ ≤ (2139095040 : Int); omega)).mono ?_)
       | (have _g : CaseNo 2 := HGD
          rw [show (mid : Int) * 4503599627370496 = ((mid * 4503599627370496 : Nat) : Int) from by omega]
          refine (value_any 2 (mid * 4503599627370496) _ (by omega) (by show _ ≤ (9218868437227405312 : Int); omega)).mono ?_)
       rintro r w1 ⟨hb1, v', L', e', rfl, hout⟩
       obtain ⟨ao', cap', hv⟩ := hout.row.isSlice
       rw [hv] at hout
       subst hv
       have hl' := hout.len
       have hbd := hout.bounds 20000 (by omega) (by omega) (by omega)
       have hs := hb.size
       simp at hs
       have hb2 := below_next hb hb1 hs
       have hs2 := hb2.size
       simp at hs2
       have hlt1 : w.heap.size < w1.heap.size := by omega
       have hke : -(K : Int) ≤ e' := by
         by_cases h0 : L' = []
         · rw [hout.nil h0]; omega
         · have := (hout.ne h0).1; omega
       have hval := hout.val K (by omega)
       have hrow := hout.row.below ((Below.refl w1.heap.size w1).alloc (Nat.le_refl _) (.cells #[.slice ao' L'.length cap', .int .i64 e'] 95)) (Nat.le_refl _)
       have hb3 := hb2.alloc (by omega) (.cells #[.slice ao' L'.length cap', .int .i64 e'] 95)
       have hbw := ((Below.refl w.heap.size w).alloc (Nat.le_refl _) (.cells #[.slice ao L.length cap, .int .i64 e] 95)).trans (hb3.mono (B' := w.heap.size) (by omega))
       have d0 : w1.cell? ⟨w.heap.size, 0, none⟩ = some (.slice ao L.length cap) := (hb2.cell (p := ⟨w.heap.size, 0, none⟩) (by simp)).trans (by simp [go_sem])
       have d1 : w1.cell? ⟨w.heap.size, 1, none⟩ = some (.int .i64 e) := (hb2.cell (p := ⟨w.heap.size, 1, none⟩) (by simp)).trans (by simp [go_sem])
       have HO := hid hout
       have HVL := hid hval
       have HB3 := hid hb3
       have HBW := hid hbw
       clear hb hb1 hb2 hout hval hb3 hbw c0 c1
       go_wp2_with fail
       refine (cmp_any _ _ L' L e' e K _ hrow (HR.out.1.below HBW.out (Nat.le_refl _)) HO.out.norm HR.out.2.1 (by omega) (by omega) (by omega) (by omega) hke hk).mono ?_
       rintro r w2 ⟨hb4, rfl⟩
       rw [HVL.out]
       have hb5 := below_next HB3.out hb4 (by simp; omega)
       clear hb4 hrow d0 d1
       first
       | (have _g : CaseNo 0 := HGD
          by_cases hle : valA K 0 (mid * 1024) ≤ val K L e
          · have hc : cmpN (valA K 0 (mid * 1024)) (val K L e) ≤ 0 := by unfold cmpN; split <;> (try split) <;> omega
            have HLE := hid hle
            clear hle
            generalize cmpN (valA K 0 (mid * 1024)) (val K L e) = c at *
            go_wp2
            go_roundw
            case rel => exact ⟨mid, hi, rfl, rfl, hm2, hh, ⟨HLE.out, HV.out.2⟩, hb5⟩
            case measure => simp [intOf]; omega
          · have hc : ¬ cmpN (valA K 0 (mid * 1024)) (val K L e) ≤ 0 := by unfold cmpN; rw [if_neg (by omega), if_neg (by omega)]; omega
            have HLE := hid hle
            clear hle
            generalize cmpN (valA K 0 (mid * 1024)) (val K L e) = c at *
            go_wp2
            go_roundw
            case rel => exact ⟨lo, mid, rfl, rfl, hm1, by omega, ⟨HV.out.1, Nat.lt_of_not_le HLE.out⟩, hb5⟩
            case measure => simp [intOf]; omega)
       | (have _g : CaseNo 1 := HGD
          by_cases hle : valA K 1 (mid * 8388608) ≤ val K L e
          · have hc : cmpN (valA K 1 (mid * 8388608)) (val K L e) ≤ 0 := by unfold cmpN; split <;> (try split) <;> omega
            have HLE := hid hle
            clear hle
            generalize cmpN (valA K 1 (mid * 8388608)) (val K L e) = c at *
            go_wp2
            go_roundw
            case rel => exact ⟨mid, hi, rfl, rfl, hm2, hh, ⟨HLE.out, HV.out.2⟩, hb5⟩
            case measure => simp [intOf]; omega
          · have hc : ¬ cmpN (valA K 1 (mid * 8388608)) (val K L e) ≤ 0 := by unfold cmpN; rw [if_neg (by omega), if_neg (by omega)]; omega
            have HLE := hid hle
            clear hle
            generalize cmpN (valA K 1 (mid * 8388608)) (val K L e) = c at *
            go_wp2
            go_roundw
            case rel => exact ⟨lo, mid, rfl, rfl, hm1, by omega, ⟨HV.out.1, Nat.lt_of_not_le HLE.out⟩, hb5⟩
            case measure => simp [intOf]; omega)
       | (have _g : CaseNo 2 := HGD
          by_cases hle : valA K 2 (mid * 4503599627370496) ≤ val K L e
          · have hc : cmpN (valA K 2 (mid * 4503599627370496)) (val K L e) ≤ 0 := by unfold cmpN; split <;> (try split) <;> omega
            have HLE := hid hle
            clear hle
            generalize cmpN (valA K 2 (mid * 4503599627370496)) (val K L e) = c at *
            go_wp2
            go_roundw
            case rel => exact ⟨mid, hi, rfl, rfl, hm2, hh, ⟨HLE.out, HV.out.2⟩, hb5⟩
            case measure => simp [intOf]; omega
          · have hc : ¬ cmpN (valA K 2 (mid * 4503599627370496)) (val K L e) ≤ 0 := by unfold cmpN; rw [if_neg (by omega), if_neg (by omega)]; omega
            have HLE := hid hle
            clear hle
            generalize cmpN (valA K 2 (mid * 4503599627370496)) (val K L e) = c at *
            go_wp2
            go_roundw
            case rel => exact ⟨lo, mid, rfl, rfl, hm1, by omega, ⟨HV.out.1, Nat.lt_of_not_le HLE.out⟩, hb5⟩
            case measure => simp [intOf]; omega)
     · have hhi : hi = lo + 1 := by omega
       first
       | (have _g : CaseNo 0 := HGD
          have HV2 : Hid (valA K 0 (lo * 1024) ≤ val K L e ∧ val K L e < valA K 0 (lo * 1024 + 1024)) := by have := HV.out; rw [hhi, Nat.succ_mul] at this; exact this)
       | (have _g : CaseNo 1 := HGD
          have HV2 : Hid (valA K 1 (lo * 8388608) ≤ val K L e ∧ val K L e < valA K 1 (lo * 8388608 + 8388608)) := by have := HV.out; rw [hhi, Nat.succ_mul] at this; exact this)
       | (have _g : CaseNo 2 := HGD
          have HV2 : Hid (valA K 2 (lo * 4503599627370496) ≤ val K L e ∧ val K L e < valA K 2 (lo * 4503599627370496 + 4503599627370496)) := by have := HV.out; rw [hhi, Nat.succ_mul] at this; exact this)
       clear HV hgo hlh
       subst hhi
       by_cases hlo : lo = 0
       · subst hlo
         have hhh : True := trivial
         clear c0 c1
         go_wp2_with fail
         first
         | (have _g : CaseNo 0 := HGD
            refine (two_any ((-24 : Int)) _ (by omega)).mono ?_)
         | (have _g : CaseNo 1 := HGD
            refine (two_any ((-149 : Int)) _ (by omega)).mono ?_)
         | (have _g : CaseNo 2 := HGD
            refine (two_any ((-1074 : Int)) _ (by omega)).mono ?_)
         rintro r w1 ⟨hb1, v', L', e', rfl, hout⟩
         obtain ⟨ao', cap', hv⟩ := hout.row.isSlice
         rw [hv] at hout
         subst hv
         have hl' := hout.len
         have hbd := hout.bounds 20000 (by omega) (by omega) (by omega)
         have hs := hb.size
         simp at hs
         have hb2 := below_next hb hb1 hs
         have hs2 := hb2.size
         simp at hs2
         have hlt1 : w.heap.size < w1.heap.size := by omega
         have hke : -(K : Int) ≤ e' := by
           by_cases h0 : L' = []
           · rw [hout.nil h0]; omega
           · have := (hout.ne h0).1; omega
         have hbd2 : -1100 ≤ e' ∧ e' + L'.length ≤ 20000 ∧ L'.length ≤ 19000 := by
           by_cases h0 : L' = []
           · rw [hout.nil h0, h0]; simp
           · have := hout.ne h0; omega
         clear hbd hl'
         have hval := hout.val K (by omega)
         have hrow := hout.row.below ((Below.refl w1.heap.size w1).alloc (Nat.le_refl _) (.cells #[.slice ao' L'.length cap', .int .i64 e'] 95)) (Nat.le_refl _)
         have hb3 := hb2.alloc (by omega) (.cells #[.slice ao' L'.length cap', .int .i64 e'] 95)
         have hbw := ((Below.refl w.heap.size w).alloc (Nat.le_refl _) (.cells #[.slice ao L.length cap, .int .i64 e] 95)).trans (hb3.mono (B' := w.heap.size) (by omega))
         have d0 : w1.cell? ⟨w.heap.size, 0, none⟩ = some (.slice ao L.length cap) := (hb2.cell (p := ⟨w.heap.size, 0, none⟩) (by simp)).trans (by simp [go_sem])
         have d1 : w1.cell? ⟨w.heap.size, 1, none⟩ = some (.int .i64 e) := (hb2.cell (p := ⟨w.heap.size, 1, none⟩) (by simp)).trans (by simp [go_sem])
         have HU := hid (And.intro hrow (And.intro hout.norm (And.intro hke hval)))
         have HBW := hid hbw
         have HB3 := hid hb3
         clear hb hb1 hb2 hout hval hb3 hbw hke hrow
         go_wp2
         first
         | (have _g : CaseNo 0 := HGD
            go_loopw [15, 17] (fun m b wr => ∃ mm j : Nat, m = .int .i64 mm ∧ b = .int .i64 ((j : Int) - 1) ∧ j ≤ 10 ∧ 0 ≤ mm ∧ Hid (mm + 2 ^ j ≤ 0 + 1024) ∧ Hid (two K ((-24 : Int)) * mm ≤ val K L e ∧ val K L e < two K ((-24 : Int)) * (mm + 2 ^ j)) ∧
                Below (w1.heap.size + 1) (w1.alloc (.cells #[.slice ao' L'.length cap', .int .i64 e'] 95)) wr) (fun _ b _ => (intOf b + 1).toNat))
         | (have _g : CaseNo 1 := HGD
            go_loopw [15, 17] (fun m b wr => ∃ mm j : Nat, m = .int .i64 mm ∧ b = .int .i64 ((j : Int) - 1) ∧ j ≤ 23 ∧ 0 ≤ mm ∧ Hid (mm + 2 ^ j ≤ 0 + 8388608) ∧ Hid (two K ((-149 : Int)) * mm ≤ val K L e ∧ val K L e < two K ((-149 : Int)) * (mm + 2 ^ j)) ∧
                Below (w1.heap.size + 1) (w1.alloc (.cells #[.slice ao' L'.length cap', .int .i64 e'] 95)) wr) (fun _ b _ => (intOf b + 1).toNat))
         | (have _g : CaseNo 2 := HGD
            go_loopw [15, 17] (fun m b wr => ∃ mm j : Nat, m = .int .i64 mm ∧ b = .int .i64 ((j : Int) - 1) ∧ j ≤ 52 ∧ 0 ≤ mm ∧ Hid (mm + 2 ^ j ≤ 0 + 4503599627370496) ∧ Hid (two K ((-1074 : Int)) * mm ≤ val K L e ∧ val K L e < two K ((-1074 : Int)) * (mm + 2 ^ j)) ∧
                Below (w1.heap.size + 1) (w1.alloc (.cells #[.slice ao' L'.length cap', .int .i64 e'] 95)) wr) (fun _ b _ => (intOf b + 1).toNat))
         case atStart =>
           first
           | (have _g : CaseNo 0 := HGD
              refine ⟨0, 10, rfl, rfl, Nat.le_refl _, Nat.le_refl _, ?_, ?_, Below.refl _ _⟩)
           | (have _g : CaseNo 1 := HGD
              refine ⟨0, 23, rfl, rfl, Nat.le_refl _, Nat.le_refl _, ?_, ?_, Below.refl _ _⟩)
           | (have _g : CaseNo 2 := HGD
              refine ⟨0, 52, rfl, rfl, Nat.le_refl _, Nat.le_refl _, ?_, ?_, Below.refl _ _⟩)
           · unfold Hid; omega
           · have := HV2.out
             rw [Nat.zero_mul, Nat.zero_add] at this
             first
             | (have _g : CaseNo 0 := HGD
                have h2 := valA_at K 0 0 1024 (by rw [pQ0]; exact Nat.le_refl _) hK)
             | (have _g : CaseNo 1 := HGD
                have h2 := valA_at K 1 0 8388608 (by rw [pQ1]; exact Nat.le_refl _) hK)
             | (have _g : CaseNo 2 := HGD
                have h2 := valA_at K 2 0 4503599627370496 (by rw [pQ2]; exact Nat.le_refl _) hK)
             rw [if_pos rfl, Nat.zero_mul, Nat.zero_add] at h2
             rw [h2] at this
             exact ⟨by rw [Nat.mul_zero]; exact Nat.zero_le _, by rw [Nat.zero_add]; exact this.2⟩
         case round =>
           obtain ⟨m, j, rfl, rfl, hj, hm0, HM, HV, hb⟩ := hrel
           have hs3 := hb.size
           simp at hs3
           have hlt3 : w1.heap.size < wr.heap.size := by omega
           have hlt4 : w.heap.size < wr.heap.size := by omega
           have hc0 : wr.cell? ⟨w.heap.size, 0, none⟩ = some (.slice ao L.length cap) := (hb.cell (p := ⟨w.heap.size, 0, none⟩) (by simp; omega)).trans (by simp [go_sem, hlt1]; exact d0)
           have hc1 : wr.cell? ⟨w.heap.size, 1, none⟩ = some (.int .i64 e) := (hb.cell (p := ⟨w.heap.size, 1, none⟩) (by simp; omega)).trans (by simp [go_sem, hlt1]; exact d1)
           have hu0 : wr.cell? ⟨w1.heap.size, 0, none⟩ = some (.slice ao' L'.length cap') := (hb.cell (p := ⟨w1.heap.size, 0, none⟩) (by simp)).trans (by simp [go_sem])
           have hu1 : wr.cell? ⟨w1.heap.size, 1, none⟩ = some (.int .i64 e') := (hb.cell (p := ⟨w1.heap.size, 1, none⟩) (by simp)).trans (by simp [go_sem])
           by_cases hpos : 0 < j
           · obtain ⟨i, rfl⟩ : ∃ i, j = i + 1 := ⟨j - 1, by omega⟩
             first
             | (have _g : CaseNo 0 := HGD
                have hpw : 2 ^ i ≤ 512 := Nat.pow_le_pow_right (by omega) (show i ≤ 9 by omega)
                have hpi1 : ((2 ^ i : Nat) : Int) ≤ 512 := by omega)
             | (have _g : CaseNo 1 := HGD
                have hpw : 2 ^ i ≤ 4194304 := Nat.pow_le_pow_right (by omega) (show i ≤ 22 by omega)
                have hpi1 : ((2 ^ i : Nat) : Int) ≤ 4194304 := by omega)
             | (have _g : CaseNo 2 := HGD
                have hpw : 2 ^ i ≤ 2251799813685248 := Nat.pow_le_pow_right (by omega) (show i ≤ 51 by omega)
                have hpi1 : ((2 ^ i : Nat) : Int) ≤ 2251799813685248 := by omega)
             have hpi2 : (0 : Int) < ((2 ^ i : Nat) : Int) := by have : 0 < 2 ^ i := Nat.pow_pos (by omega); omega
             rw [Int.natCast_pow] at hpi1 hpi2
             first
             | (have _g : CaseNo 0 := HGD
                have hmm : (m : Int) ≤ 2 * 1024 := by have := HM.out; omega)
             | (have _g : CaseNo 1 := HGD
                have hmm : (m : Int) ≤ 2 * 8388608 := by have := HM.out; omega)
             | (have _g : CaseNo 2 := HGD
                have hmm : (m : Int) ≤ 2 * 4503599627370496 := by have := HM.out; omega)
             rw [show ((i + 1 : Nat) : Int) - 1 = (i : Int) from by omega]
             obtain ⟨n2, hn2⟩ : ∃ n2, n2 = m + 2 ^ i := ⟨_, rfl⟩
             have hni : (m : Int) + 2 ^ i = n2 := by rw [hn2]; simp
             have hw1 : IntKind.i64.wrap (2 ^ i) = (2 ^ i : Int) := by rw [IntKind.wrap_i64]; omega
             have hw2 : IntKind.i64.wrap ((m : Int) + 2 ^ i) = (n2 : Int) := by rw [IntKind.wrap_i64]; omega
             have hn2b : n2 ≤ 36028797018963968 := by omega
             have HN2 := hid hn2
             clear hn2 hni
             go_upto_region 20 with fail
             go_cut [18] (fun s wx => Boxed 0 s wx 30000 (-1100) 30000 (fun K => val K L' e' * n2) ∧ Below (w1.heap.size + 1) (w1.alloc (.cells #[.slice ao' L'.length cap', .int .i64 e'] 95)) wx)
             case first =>
               have HRA : Hid (∀ W, Below wr.heap.size wr W → Row W (.slice ao' L'.length cap') L') := fun W hW => HU.out.1.below (hb.trans (hW.mono (by omega))) (by simp)
               go_region_with (go_at_call 73; refine (times_any _ L' e' n2 _ (HRA.out _ (by first | exact (Below.refl _ _).drew | exact ((Below.refl _ _).alloc (Nat.le_refl _) _).drew)) HU.out.2.1.digs (by omega) (by omega) hn2b).mono ?_; rintro r w2 ⟨hb6, v2, L2, e2, rfl, hout⟩; obtain ⟨ao2, cap2, hv2⟩ := hout.row.isSlice; rw [hv2] at hout; subst hv2; (first | (refine after_alloc_then hb6 ?_; intro q0 q1 q2 q3 q4) | skip))
               all_goals (go_wp2_with fail; go_meet)
               · exact boxed_after hb (by omega) (Nat.zero_le _) hb6 hout (by omega) (by omega) (by omega) (fun _ _ => rfl)
               · exact boxed_ahead hb (by omega) (Nat.zero_le _) hb6 hout (by omega) (by omega) (by omega) (fun _ _ => rfl)
               · exact boxed_ahead hb (by omega) (Nat.zero_le _) hb6 hout (by omega) (by omega) (by omega) (fun _ _ => rfl)
             case rest =>
               obtain ⟨⟨g, ao2, cap2, L2, e2, rfl, hg, cg0, cg1, hout⟩, hb7⟩ := hcut
               have hl2 := hout.len
               have hbd := hout.bounds 30000 (by omega) (by omega) (by omega)
               have hke2 : -(K : Int) ≤ e2 := by
                 by_cases h0 : L2 = []
                 · rw [hout.nil h0]; omega
                 · have := (hout.ne h0).1; omega
               have hval2 := hout.val K (by omega)
               have hs5 := hb7.size
               simp at hs5
               have hx0 : wc.cell? ⟨w.heap.size, 0, none⟩ = some (.slice ao L.length cap) := (hb7.cell (p := ⟨w.heap.size, 0, none⟩) (by simp; omega)).trans (by simp [go_sem, hlt1]; exact d0)
               have hx1 : wc.cell? ⟨w.heap.size, 1, none⟩ = some (.int .i64 e) := (hb7.cell (p := ⟨w.heap.size, 1, none⟩) (by simp; omega)).trans (by simp [go_sem, hlt1]; exact d1)
               have hbx := HBW.out.trans (hb7.mono (B' := w.heap.size) (by omega))
               have HO2 := hid (And.intro hout hbx)
               clear hout hc0 hc1 hu0 hu1 hb hbx
               go_wp2_with fail
               refine (cmp_any _ _ L2 L e2 e K _ HO2.out.1.row (HR.out.1.below HO2.out.2 (Nat.le_refl _)) HO2.out.1.norm HR.out.2.1 (by omega) (by omega) (by omega) (by omega) hke2 hk).mono ?_
               rintro r w3 ⟨hb8, rfl⟩
               rw [hval2, HU.out.2.2.2]
               have hb9 := below_next hb7 hb8 (by omega)
               clear hb7 hb8 hx0 hx1 cg0 cg1
               have HN3 : Hid (2 ^ (i + 1) = 2 ^ i + 2 ^ i) := by unfold Hid; rw [Nat.pow_succ]; omega
               first
               | (have _g : CaseNo 0 := HGD
                  by_cases hle : two K ((-24 : Int)) * n2 ≤ val K L e
                  · have hc : cmpN (two K ((-24 : Int)) * n2) (val K L e) ≤ 0 := by unfold cmpN; split <;> (try split) <;> omega
                    have HLE := hid hle
                    clear hle
                    generalize cmpN (two K ((-24 : Int)) * n2) (val K L e) = c at *
                    go_wp2
                    go_roundw
                    case rel => exact ⟨n2, i, rfl, rfl, by omega, by have := HN2.out; omega, by have := HM.out; rw [HN3.out] at this; have := HN2.out; unfold Hid; omega, ⟨HLE.out, by have := HV.out.2; rw [HN3.out] at this; rw [HN2.out, Nat.add_assoc]; exact this⟩, hb9⟩
                    case measure => simp [intOf]
                  · have hc : ¬ cmpN (two K ((-24 : Int)) * n2) (val K L e) ≤ 0 := by unfold cmpN; rw [if_neg (by omega), if_neg (by omega)]; omega
                    have HLE := hid hle
                    clear hle
                    generalize cmpN (two K ((-24 : Int)) * n2) (val K L e) = c at *
                    go_wp2
                    go_roundw
                    case rel => exact ⟨m, i, rfl, rfl, by omega, hm0, by have := HM.out; rw [HN3.out] at this; unfold Hid; omega, ⟨HV.out.1, by rw [← HN2.out]; exact Nat.lt_of_not_le HLE.out⟩, hb9⟩
                    case measure => simp [intOf])
               | (have _g : CaseNo 1 := HGD
                  by_cases hle : two K ((-149 : Int)) * n2 ≤ val K L e
                  · have hc : cmpN (two K ((-149 : Int)) * n2) (val K L e) ≤ 0 := by unfold cmpN; split <;> (try split) <;> omega
                    have HLE := hid hle
                    clear hle
                    generalize cmpN (two K ((-149 : Int)) * n2) (val K L e) = c at *
                    go_wp2
                    go_roundw
                    case rel => exact ⟨n2, i, rfl, rfl, by omega, by have := HN2.out; omega, by have := HM.out; rw [HN3.out] at this; have := HN2.out; unfold Hid; omega, ⟨HLE.out, by have := HV.out.2; rw [HN3.out] at this; rw [HN2.out, Nat.add_assoc]; exact this⟩, hb9⟩
                    case measure => simp [intOf]
                  · have hc : ¬ cmpN (two K ((-149 : Int)) * n2) (val K L e) ≤ 0 := by unfold cmpN; rw [if_neg (by omega), if_neg (by omega)]; omega
                    have HLE := hid hle
                    clear hle
                    generalize cmpN (two K ((-149 : Int)) * n2) (val K L e) = c at *
                    go_wp2
                    go_roundw
                    case rel => exact ⟨m, i, rfl, rfl, by omega, hm0, by have := HM.out; rw [HN3.out] at this; unfold Hid; omega, ⟨HV.out.1, by rw [← HN2.out]; exact Nat.lt_of_not_le HLE.out⟩, hb9⟩
                    case measure => simp [intOf])
               | (have _g : CaseNo 2 := HGD
                  by_cases hle : two K ((-1074 : Int)) * n2 ≤ val K L e
                  · have hc : cmpN (two K ((-1074 : Int)) * n2) (val K L e) ≤ 0 := by unfold cmpN; split <;> (try split) <;> omega
                    have HLE := hid hle
                    clear hle
                    generalize cmpN (two K ((-1074 : Int)) * n2) (val K L e) = c at *
                    go_wp2
                    go_roundw
                    case rel => exact ⟨n2, i, rfl, rfl, by omega, by have := HN2.out; omega, by have := HM.out; rw [HN3.out] at this; have := HN2.out; unfold Hid; omega, ⟨HLE.out, by have := HV.out.2; rw [HN3.out] at this; rw [HN2.out, Nat.add_assoc]; exact this⟩, hb9⟩
                    case measure => simp [intOf]
                  · have hc : ¬ cmpN (two K ((-1074 : Int)) * n2) (val K L e) ≤ 0 := by unfold cmpN; rw [if_neg (by omega), if_neg (by omega)]; omega
                    have HLE := hid hle
                    clear hle
                    generalize cmpN (two K ((-1074 : Int)) * n2) (val K L e) = c at *
                    go_wp2
                    go_roundw
                    case rel => exact ⟨m, i, rfl, rfl, by omega, hm0, by have := HM.out; rw [HN3.out] at this; unfold Hid; omega, ⟨HV.out.1, by rw [← HN2.out]; exact Nat.lt_of_not_le HLE.out⟩, hb9⟩
                    case measure => simp [intOf])
           · have hj0 : j = 0 := by omega
             subst hj0
             first
             | (have _g : CaseNo 0 := HGD
                have HE : Hid (valA K 0 m ≤ val K L e ∧ val K L e < valA K 0 (m + 1)) := by
                  have h9 := below_end K 0 0 m (val K L e) hK (fun _ => ⟨by have := HM.out; show m < 1024; omega, HV.out.1, HV.out.2⟩) (fun h => absurd rfl h)
                  rw [if_pos rfl, Nat.zero_mul, Nat.zero_add] at h9
                  exact h9)
             | (have _g : CaseNo 1 := HGD
                have HE : Hid (valA K 1 m ≤ val K L e ∧ val K L e < valA K 1 (m + 1)) := by
                  have h9 := below_end K 1 0 m (val K L e) hK (fun _ => ⟨by have := HM.out; show m < 8388608; omega, HV.out.1, HV.out.2⟩) (fun h => absurd rfl h)
                  rw [if_pos rfl, Nat.zero_mul, Nat.zero_add] at h9
                  exact h9)
             | (have _g : CaseNo 2 := HGD
                have HE : Hid (valA K 2 m ≤ val K L e ∧ val K L e < valA K 2 (m + 1)) := by
                  have h9 := below_end K 2 0 m (val K L e) hK (fun _ => ⟨by have := HM.out; show m < 4503599627370496; omega, HV.out.1, HV.out.2⟩) (fun h => absurd rfl h)
                  rw [if_pos rfl, Nat.zero_mul, Nat.zero_add] at h9
                  exact h9)
             have HBX := hid (HBW.out.trans (hb.mono (B' := w.heap.size) (by omega)))
             have hm1 := HM.out
             clear hc0 hc1 hu0 hu1 hb d0 d1
             go_wp2
             go_ret
             exact ⟨HBX.out, m, rfl, by omega, HE.out⟩
       · have hlp : (0 : Int) < lo := by omega
         have HLO := hid hlo
         clear hlo
         clear c0 c1
         go_wp2_with fail
         first
         | (have _g : CaseNo 0 := HGD
            refine (two_any (-24 + ((lo : Int) - 1)) _ (by omega)).mono ?_)
         | (have _g : CaseNo 1 := HGD
            refine (two_any (-149 + ((lo : Int) - 1)) _ (by omega)).mono ?_)
         | (have _g : CaseNo 2 := HGD
            refine (two_any (-1074 + ((lo : Int) - 1)) _ (by omega)).mono ?_)
         rintro r w1 ⟨hb1, v', L', e', rfl, hout⟩
         obtain ⟨ao', cap', hv⟩ := hout.row.isSlice
         rw [hv] at hout
         subst hv
         have hl' := hout.len
         have hbd := hout.bounds 20000 (by omega) (by omega) (by omega)
         have hs := hb.size
         simp at hs
         have hb2 := below_next hb hb1 hs
         have hs2 := hb2.size
         simp at hs2
         have hlt1 : w.heap.size < w1.heap.size := by omega
         have hke : -(K : Int) ≤ e' := by
           by_cases h0 : L' = []
           · rw [hout.nil h0]; omega
           · have := (hout.ne h0).1; omega
         have hbd2 : -1100 ≤ e' ∧ e' + L'.length ≤ 20000 ∧ L'.length ≤ 19000 := by
           by_cases h0 : L' = []
           · rw [hout.nil h0, h0]; simp
           · have := hout.ne h0; omega
         clear hbd hl'
         have hval := hout.val K (by omega)
         have hrow := hout.row.below ((Below.refl w1.heap.size w1).alloc (Nat.le_refl _) (.cells #[.slice ao' L'.length cap', .int .i64 e'] 95)) (Nat.le_refl _)
         have hb3 := hb2.alloc (by omega) (.cells #[.slice ao' L'.length cap', .int .i64 e'] 95)
         have hbw := ((Below.refl w.heap.size w).alloc (Nat.le_refl _) (.cells #[.slice ao L.length cap, .int .i64 e] 95)).trans (hb3.mono (B' := w.heap.size) (by omega))
         have d0 : w1.cell? ⟨w.heap.size, 0, none⟩ = some (.slice ao L.length cap) := (hb2.cell (p := ⟨w.heap.size, 0, none⟩) (by simp)).trans (by simp [go_sem])
         have d1 : w1.cell? ⟨w.heap.size, 1, none⟩ = some (.int .i64 e) := (hb2.cell (p := ⟨w.heap.size, 1, none⟩) (by simp)).trans (by simp [go_sem])
         have HU := hid (And.intro hrow (And.intro hout.norm (And.intro hke hval)))
         have HBW := hid hbw
         have HB3 := hid hb3
         clear hb hb1 hb2 hout hval hb3 hbw hke hrow
         go_wp2
         first
         | (have _g : CaseNo 0 := HGD
            go_loopw [15, 17] (fun m b wr => ∃ mm j : Nat, m = .int .i64 mm ∧ b = .int .i64 ((j : Int) - 1) ∧ j ≤ 10 ∧ 1024 ≤ mm ∧ Hid (mm + 2 ^ j ≤ 1024 + 1024) ∧ Hid (two K (-24 + ((lo : Int) - 1)) * mm ≤ val K L e ∧ val K L e < two K (-24 + ((lo : Int) - 1)) * (mm + 2 ^ j)) ∧
                Below (w1.heap.size + 1) (w1.alloc (.cells #[.slice ao' L'.length cap', .int .i64 e'] 95)) wr) (fun _ b _ => (intOf b + 1).toNat))
         | (have _g : CaseNo 1 := HGD
            go_loopw [15, 17] (fun m b wr => ∃ mm j : Nat, m = .int .i64 mm ∧ b = .int .i64 ((j : Int) - 1) ∧ j ≤ 23 ∧ 8388608 ≤ mm ∧ Hid (mm + 2 ^ j ≤ 8388608 + 8388608) ∧ Hid (two K (-149 + ((lo : Int) - 1)) * mm ≤ val K L e ∧ val K L e < two K (-149 + ((lo : Int) - 1)) * (mm + 2 ^ j)) ∧
                Below (w1.heap.size + 1) (w1.alloc (.cells #[.slice ao' L'.length cap', .int .i64 e'] 95)) wr) (fun _ b _ => (intOf b + 1).toNat))
         | (have _g : CaseNo 2 := HGD
            go_loopw [15, 17] (fun m b wr => ∃ mm j : Nat, m = .int .i64 mm ∧ b = .int .i64 ((j : Int) - 1) ∧ j ≤ 52 ∧ 4503599627370496 ≤ mm ∧ Hid (mm + 2 ^ j ≤ 4503599627370496 + 4503599627370496) ∧ Hid (two K (-1074 + ((lo : Int) - 1)) * mm ≤ val K L e ∧ val K L e < two K (-1074 + ((lo : Int) - 1)) * (mm + 2 ^ j)) ∧
                Below (w1.heap.size + 1) (w1.alloc (.cells #[.slice ao' L'.length cap', .int .i64 e'] 95)) wr) (fun _ b _ => (intOf b + 1).toNat))
         case atStart =>
           first
           | (have _g : CaseNo 0 := HGD
              refine ⟨1024, 10, rfl, rfl, Nat.le_refl _, Nat.le_refl _, ?_, ?_, Below.refl _ _⟩)
           | (have _g : CaseNo 1 := HGD
              refine ⟨8388608, 23, rfl, rfl, Nat.le_refl _, Nat.le_refl _, ?_, ?_, Below.refl _ _⟩)
           | (have _g : CaseNo 2 := HGD
              refine ⟨4503599627370496, 52, rfl, rfl, Nat.le_refl _, Nat.le_refl _, ?_, ?_, Below.refl _ _⟩)
           · unfold Hid; omega
           · have := HV2.out
             first
             | (have _g : CaseNo 0 := HGD
                have h1 := valA_at K 0 lo 0 (Nat.zero_le _) hK
                have h2 := valA_at K 0 lo 1024 (by rw [pQ0]; exact Nat.le_refl _) hK
                rw [if_neg HLO.out, pQ0] at h1 h2)
             | (have _g : CaseNo 1 := HGD
                have h1 := valA_at K 1 lo 0 (Nat.zero_le _) hK
                have h2 := valA_at K 1 lo 8388608 (by rw [pQ1]; exact Nat.le_refl _) hK
                rw [if_neg HLO.out, pQ1] at h1 h2)
             | (have _g : CaseNo 2 := HGD
                have h1 := valA_at K 2 lo 0 (Nat.zero_le _) hK
                have h2 := valA_at K 2 lo 4503599627370496 (by rw [pQ2]; exact Nat.le_refl _) hK
                rw [if_neg HLO.out, pQ2] at h1 h2)
             rw [Nat.add_zero, Nat.add_zero] at h1
             rw [h1] at this
             first
             | (have _g : CaseNo 0 := HGD
                have h3 : (-24 : Int) + ((lo : Int) - 1) = fE 0 + ((lo - 1 : Nat) : Int) := by show _ = (-24 : Int) + _; omega)
             | (have _g : CaseNo 1 := HGD
                have h3 : (-149 : Int) + ((lo : Int) - 1) = fE 1 + ((lo - 1 : Nat) : Int) := by show _ = (-149 : Int) + _; omega)
             | (have _g : CaseNo 2 := HGD
                have h3 : (-1074 : Int) + ((lo : Int) - 1) = fE 2 + ((lo - 1 : Nat) : Int) := by show _ = (-1074 : Int) + _; omega)
             rw [h3]
             exact ⟨this.1, by rw [h2] at this; exact this.2⟩
         case round =>
           obtain ⟨m, j, rfl, rfl, hj, hm0, HM, HV, hb⟩ := hrel
           have hs3 := hb.size
           simp at hs3
           have hlt3 : w1.heap.size < wr.heap.size := by omega
           have hlt4 : w.heap.size < wr.heap.size := by omega
           have hc0 : wr.cell? ⟨w.heap.size, 0, none⟩ = some (.slice ao L.length cap) := (hb.cell (p := ⟨w.heap.size, 0, none⟩) (by simp; omega)).trans (by simp [go_sem, hlt1]; exact d0)
           have hc1 : wr.cell? ⟨w.heap.size, 1, none⟩ = some (.int .i64 e) := (hb.cell (p := ⟨w.heap.size, 1, none⟩) (by simp; omega)).trans (by simp [go_sem, hlt1]; exact d1)
           have hu0 : wr.cell? ⟨w1.heap.size, 0, none⟩ = some (.slice ao' L'.length cap') := (hb.cell (p := ⟨w1.heap.size, 0, none⟩) (by simp)).trans (by simp [go_sem])
           have hu1 : wr.cell? ⟨w1.heap.size, 1, none⟩ = some (.int .i64 e') := (hb.cell (p := ⟨w1.heap.size, 1, none⟩) (by simp)).trans (by simp [go_sem])
           by_cases hpos : 0 < j
           · obtain ⟨i, rfl⟩ : ∃ i, j = i + 1 := ⟨j - 1, by omega⟩
             first
             | (have _g : CaseNo 0 := HGD
                have hpw : 2 ^ i ≤ 512 := Nat.pow_le_pow_right (by omega) (show i ≤ 9 by omega)
                have hpi1 : ((2 ^ i : Nat) : Int) ≤ 512 := by omega)
             | (have _g : CaseNo 1 := HGD
                have hpw : 2 ^ i ≤ 4194304 := Nat.pow_le_pow_right (by omega) (show i ≤ 22 by omega)
                have hpi1 : ((2 ^ i : Nat) : Int) ≤ 4194304 := by omega)
             | (have _g : CaseNo 2 := HGD
                have hpw : 2 ^ i ≤ 2251799813685248 := Nat.pow_le_pow_right (by omega) (show i ≤ 51 by omega)
                have hpi1 : ((2 ^ i : Nat) : Int) ≤ 2251799813685248 := by omega)
             have hpi2 : (0 : Int) < ((2 ^ i : Nat) : Int) := by have : 0 < 2 ^ i := Nat.pow_pos (by omega); omega
             rw [Int.natCast_pow] at hpi1 hpi2
             first
             | (have _g : CaseNo 0 := HGD
                have hmm : (m : Int) ≤ 2 * 1024 := by have := HM.out; omega)
             | (have _g : CaseNo 1 := HGD
                have hmm : (m : Int) ≤ 2 * 8388608 := by have := HM.out; omega)
             | (have _g : CaseNo 2 := HGD
                have hmm : (m : Int) ≤ 2 * 4503599627370496 := by have := HM.out; omega)
             rw [show ((i + 1 : Nat) : Int) - 1 = (i : Int) from by omega]
             obtain ⟨n2, hn2⟩ : ∃ n2, n2 = m + 2 ^ i := ⟨_, rfl⟩
             have hni : (m : Int) + 2 ^ i = n2 := by rw [hn2]; simp
             have hw1 : IntKind.i64.wrap (2 ^ i) = (2 ^ i : Int) := by rw [IntKind.wrap_i64]; omega
             have hw2 : IntKind.i64.wrap ((m : Int) + 2 ^ i) = (n2 : Int) := by rw [IntKind.wrap_i64]; omega
             have hn2b : n2 ≤ 36028797018963968 := by omega
             have HN2 := hid hn2
             clear hn2 hni
             go_upto_region 20 with fail
             go_cut [18] (fun s wx => Boxed 0 s wx 30000 (-1100) 30000 (fun K => val K L' e' * n2) ∧ Below (w1.heap.size + 1) (w1.alloc (.cells #[.slice ao' L'.length cap', .int .i64 e'] 95)) wx)
             case first =>
               have HRA : Hid (∀ W, Below wr.heap.size wr W → Row W (.slice ao' L'.length cap') L') := fun W hW => HU.out.1.below (hb.trans (hW.mono (by omega))) (by simp)
               go_region_with (go_at_call 73; refine (times_any _ L' e' n2 _ (HRA.out _ (by first | exact (Below.refl _ _).drew | exact ((Below.refl _ _).alloc (Nat.le_refl _) _).drew)) HU.out.2.1.digs (by omega) (by omega) hn2b).mono ?_; rintro r w2 ⟨hb6, v2, L2, e2, rfl, hout⟩; obtain ⟨ao2, cap2, hv2⟩ := hout.row.isSlice; rw [hv2] at hout; subst hv2; (first | (refine after_alloc_then hb6 ?_; intro q0 q1 q2 q3 q4) | skip))
               all_goals (go_wp2_with fail; go_meet)
               · exact boxed_after hb (by omega) (Nat.zero_le _) hb6 hout (by omega) (by omega) (by omega) (fun _ _ => rfl)
               · exact boxed_ahead hb (by omega) (Nat.zero_le _) hb6 hout (by omega) (by omega) (by omega) (fun _ _ => rfl)
               · exact boxed_ahead hb (by omega) (Nat.zero_le _) hb6 hout (by omega) (by omega) (by omega) (fun _ _ => rfl)
             case rest =>
               obtain ⟨⟨g, ao2, cap2, L2, e2, rfl, hg, cg0, cg1, hout⟩, hb7⟩ := hcut
               have hl2 := hout.len
               have hbd := hout.bounds 30000 (by omega) (by omega) (by omega)
               have hke2 : -(K : Int) ≤ e2 := by
                 by_cases h0 : L2 = []
                 · rw [hout.nil h0]; omega
                 · have := (hout.ne h0).1; omega
               have hval2 := hout.val K (by omega)
               have hs5 := hb7.size
               simp at hs5
               have hx0 : wc.cell? ⟨w.heap.size, 0, none⟩ = some (.slice ao L.length cap) := (hb7.cell (p := ⟨w.heap.size, 0, none⟩) (by simp; omega)).trans (by simp [go_sem, hlt1]; exact d0)
               have hx1 : wc.cell? ⟨w.heap.size, 1, none⟩ = some (.int .i64 e) := (hb7.cell (p := ⟨w.heap.size, 1, none⟩) (by simp; omega)).trans (by simp [go_sem, hlt1]; exact d1)
               have hbx := HBW.out.trans (hb7.mono (B' := w.heap.size) (by omega))
               have HO2 := hid (And.intro hout hbx)
               clear hout hc0 hc1 hu0 hu1 hb hbx
               go_wp2_with fail
               refine (cmp_any _ _ L2 L e2 e K _ HO2.out.1.row (HR.out.1.below HO2.out.2 (Nat.le_refl _)) HO2.out.1.norm HR.out.2.1 (by omega) (by omega) (by omega) (by omega) hke2 hk).mono ?_
               rintro r w3 ⟨hb8, rfl⟩
               rw [hval2, HU.out.2.2.2]
               have hb9 := below_next hb7 hb8 (by omega)
               clear hb7 hb8 hx0 hx1 cg0 cg1
               have HN3 : Hid (2 ^ (i + 1) = 2 ^ i + 2 ^ i) := by unfold Hid; rw [Nat.pow_succ]; omega
               first
               | (have _g : CaseNo 0 := HGD
                  by_cases hle : two K (-24 + ((lo : Int) - 1)) * n2 ≤ val K L e
                  · have hc : cmpN (two K (-24 + ((lo : Int) - 1)) * n2) (val K L e) ≤ 0 := by unfold cmpN; split <;> (try split) <;> omega
                    have HLE := hid hle
                    clear hle
                    generalize cmpN (two K (-24 + ((lo : Int) - 1)) * n2) (val K L e) = c at *
                    go_wp2
                    go_roundw
                    case rel => exact ⟨n2, i, rfl, rfl, by omega, by have := HN2.out; omega, by have := HM.out; rw [HN3.out] at this; have := HN2.out; unfold Hid; omega, ⟨HLE.out, by have := HV.out.2; rw [HN3.out] at this; rw [HN2.out, Nat.add_assoc]; exact this⟩, hb9⟩
                    case measure => simp [intOf]
                  · have hc : ¬ cmpN (two K (-24 + ((lo : Int) - 1)) * n2) (val K L e) ≤ 0 := by unfold cmpN; rw [if_neg (by omega), if_neg (by omega)]; omega
                    have HLE := hid hle
                    clear hle
                    generalize cmpN (two K (-24 + ((lo : Int) - 1)) * n2) (val K L e) = c at *
                    go_wp2
                    go_roundw
                    case rel => exact ⟨m, i, rfl, rfl, by omega, hm0, by have := HM.out; rw [HN3.out] at this; unfold Hid; omega, ⟨HV.out.1, by rw [← HN2.out]; exact Nat.lt_of_not_le HLE.out⟩, hb9⟩
                    case measure => simp [intOf])
               | (have _g : CaseNo 1 := HGD
                  by_cases hle : two K (-149 + ((lo : Int) - 1)) * n2 ≤ val K L e
                  · have hc : cmpN (two K (-149 + ((lo : Int) - 1)) * n2) (val K L e) ≤ 0 := by unfold cmpN; split <;> (try split) <;> omega
                    have HLE := hid hle
                    clear hle
                    generalize cmpN (two K (-149 + ((lo : Int) - 1)) * n2) (val K L e) = c at *
                    go_wp2
                    go_roundw
                    case rel => exact ⟨n2, i, rfl, rfl, by omega, by have := HN2.out; omega, by have := HM.out; rw [HN3.out] at this; have := HN2.out; unfold Hid; omega, ⟨HLE.out, by have := HV.out.2; rw [HN3.out] at this; rw [HN2.out, Nat.add_assoc]; exact this⟩, hb9⟩
                    case measure => simp [intOf]
                  · have hc : ¬ cmpN (two K (-149 + ((lo : Int) - 1)) * n2) (val K L e) ≤ 0 := by unfold cmpN; rw [if_neg (by omega), if_neg (by omega)]; omega
                    have HLE := hid hle
                    clear hle
                    generalize cmpN (two K (-149 + ((lo : Int) - 1)) * n2) (val K L e) = c at *
                    go_wp2
                    go_roundw
                    case rel => exact ⟨m, i, rfl, rfl, by omega, hm0, by have := HM.out; rw [HN3.out] at this; unfold Hid; omega, ⟨HV.out.1, by rw [← HN2.out]; exact Nat.lt_of_not_le HLE.out⟩, hb9⟩
                    case measure => simp [intOf])
               | (have _g : CaseNo 2 := HGD
                  by_cases hle : two K (-1074 + ((lo : Int) - 1)) * n2 ≤ val K L e
                  · have hc : cmpN (two K (-1074 + ((lo : Int) - 1)) * n2) (val K L e) ≤ 0 := by unfold cmpN; split <;> (try split) <;> omega
                    have HLE := hid hle
                    clear hle
                    generalize cmpN (two K (-1074 + ((lo : Int) - 1)) * n2) (val K L e) = c at *
                    go_wp2
                    go_roundw
                    case rel => exact ⟨n2, i, rfl, rfl, by omega, by have := HN2.out; omega, by have := HM.out; rw [HN3.out] at this; have := HN2.out; unfold Hid; omega, ⟨HLE.out, by have := HV.out.2; rw [HN3.out] at this; rw [HN2.out, Nat.add_assoc]; exact this⟩, hb9⟩
                    case measure => simp [intOf]
                  · have hc : ¬ cmpN (two K (-1074 + ((lo : Int) - 1)) * n2) (val K L e) ≤ 0 := by unfold cmpN; rw [if_neg (by omega), if_neg (by omega)]; omega
                    have HLE := hid hle
                    clear hle
                    generalize cmpN (two K (-1074 + ((lo : Int) - 1)) * n2) (val K L e) = c at *
                    go_wp2
                    go_roundw
                    case rel => exact ⟨m, i, rfl, rfl, by omega, hm0, by have := HM.out; rw [HN3.out] at this; unfold Hid; omega, ⟨HV.out.1, by rw [← HN2.out]; exact Nat.lt_of_not_le HLE.out⟩, hb9⟩
                    case measure => simp [intOf])
           · have hj0 : j = 0 := by omega
             subst hj0
             first
             | (have _g : CaseNo 0 := HGD
                have h3 : (-24 : Int) + ((lo : Int) - 1) = fE 0 + ((lo - 1 : Nat) : Int) := by show _ = (-24 : Int) + _; omega
                have HE : Hid (valA K 0 (lo * 1024 + (m - 1024)) ≤ val K L e ∧ val K L e < valA K 0 (lo * 1024 + (m - 1024) + 1)) := by
                  have h9 := below_end K 0 lo m (val K L e) hK (fun h => absurd h HLO.out) (fun _ => ⟨hm0, by have := HM.out; show m < 2 * 1024; omega, by rw [← h3]; exact HV.out.1, by rw [← h3]; exact HV.out.2⟩)
                  rw [if_neg HLO.out] at h9
                  exact h9)
             | (have _g : CaseNo 1 := HGD
                have h3 : (-149 : Int) + ((lo : Int) - 1) = fE 1 + ((lo - 1 : Nat) : Int) := by show _ = (-149 : Int) + _; omega
                have HE : Hid (valA K 1 (lo * 8388608 + (m - 8388608)) ≤ val K L e ∧ val K L e < valA K 1 (lo * 8388608 + (m - 8388608) + 1)) := by
                  have h9 := below_end K 1 lo m (val K L e) hK (fun h => absurd h HLO.out) (fun _ => ⟨hm0, by have := HM.out; show m < 2 * 8388608; omega, by rw [← h3]; exact HV.out.1, by rw [← h3]; exact HV.out.2⟩)
                  rw [if_neg HLO.out] at h9
                  exact h9)
             | (have _g : CaseNo 2 := HGD
                have h3 : (-1074 : Int) + ((lo : Int) - 1) = fE 2 + ((lo - 1 : Nat) : Int) := by show _ = (-1074 : Int) + _; omega
                have HE : Hid (valA K 2 (lo * 4503599627370496 + (m - 4503599627370496)) ≤ val K L e ∧ val K L e < valA K 2 (lo * 4503599627370496 + (m - 4503599627370496) + 1)) := by
                  have h9 := below_end K 2 lo m (val K L e) hK (fun h => absurd h HLO.out) (fun _ => ⟨hm0, by have := HM.out; show m < 2 * 4503599627370496; omega, by rw [← h3]; exact HV.out.1, by rw [← h3]; exact HV.out.2⟩)
                  rw [if_neg HLO.out] at h9
                  exact h9)
             have HBX := hid (HBW.out.trans (hb.mono (B' := w.heap.size) (by omega)))
             have hm1 := HM.out
             have hbl : ((lo : Int) == 0) = false := beq_eq_false_iff_ne.2 (by omega)
             clear hc0 hc1 hu0 hu1 hb d0 d1 h3
             go_wp2
             go_quiet (fail)
             go_wp2
             go_ret
             first
             | (have _g : CaseNo 0 := HGD
                refine ⟨below_drewN HBX.out _, lo * 1024 + (m - 1024), ret_int ?_, by omega, HE.out⟩
                show (lo : Int) * 1024 + m - 1024 = _)
             | (have _g : CaseNo 1 := HGD
                refine ⟨below_drewN HBX.out _, lo * 8388608 + (m - 8388608), ret_int ?_, by omega, HE.out⟩
                show (lo : Int) * 8388608 + m - 8388608 = _)
             | (have _g : CaseNo 2 := HGD
                refine ⟨below_drewN HBX.out _, lo * 4503599627370496 + (m - 4503599627370496), ret_int ?_, by omega, HE.out⟩
                show (lo : Int) * 4503599627370496 + m - 4503599627370496 = _)
             omega
 )
end Go.Proofs.YtbkdaoicnobllabGreatDoor
