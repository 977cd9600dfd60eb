import Derived.Test.YtbkdaoicnobllabGreatDoorG15
import Derived.Test.YtbkdaoicnobllabGreatDoorG26
import Derived.Test.YtbkdaoicnobllabGreatDoorG27
import Derived.Test.YtbkdaoicnobllabGreatDoorG12

namespace Go.Proofs.YtbkdaoicnobllabGreatDoor
open Go.RowKit

theorem rExpF0 (x prec mode : Int) (h1 : -9223372036854775808 ≤ x) (h2 : x ≤ 9223372036854775807) (w : World) : Calls Tryz.prog 35 #[.int .i64 x, .int .i64 0, .int .i64 2, .int .i64 prec, .int .i64 mode] w fun r w' => FmtPost 0 x 2 prec mode w w' r (ExpQ (awayB mode (negI 0 x)) (valA 3000 0 (amtI 0 x).toNat) prec.toNat) := by
 by_cases h : hasB 0 x = true ∧ allowB 2 prec mode = true
 ·obtain ⟨hh, ha⟩ := h
  obtain ⟨p1, p2, p3, p4⟩ := allow_exact (by omega) ha
  exact rgood0 x 2 prec mode _ (by unfold hasB sgnF at hh; simp at hh; omega) (by unfold hasB sgnF at hh; simp at hh; omega) (.inr ⟨by omega, p1, p2, p3, p4⟩) w (fun a hA hlt w => by
   have := rtextExp 0 a a (negI 0 x) prec mode 11 (-14) rfl (by omega) hlt p1 p2 w
   rw [show (amtI 0 x).toNat = a from by omega]; exact this)
 ·exact rbad0e x 2 prec mode _ (by omega) h w
theorem rExpF1 (x prec mode : Int) (h1 : -9223372036854775808 ≤ x) (h2 : x ≤ 9223372036854775807) (w : World) : Calls Tryz.prog 35 #[.int .i64 x, .int .i64 1, .int .i64 2, .int .i64 prec, .int .i64 mode] w fun r w' => FmtPost 1 x 2 prec mode w w' r (ExpQ (awayB mode (negI 1 x)) (valA 3000 1 (amtI 1 x).toNat) prec.toNat) := by
 by_cases h : hasB 1 x = true ∧ allowB 2 prec mode = true
 ·obtain ⟨hh, ha⟩ := h
  obtain ⟨p1, p2, p3, p4⟩ := allow_exact (by omega) ha
  exact rgood1 x 2 prec mode _ (by unfold hasB sgnF at hh; simp at hh; omega) (by unfold hasB sgnF at hh; simp at hh; omega) (.inr ⟨by omega, p1, p2, p3, p4⟩) w (fun a hA hlt w => by
   have := rtextExp 1 a a (negI 1 x) prec mode 24 (-126) rfl (by omega) hlt p1 p2 w
   rw [show (amtI 1 x).toNat = a from by omega]; exact this)
 ·exact rbad1e x 2 prec mode _ (by omega) h w
theorem rExpF2 (x prec mode : Int) (h1 : -9223372036854775808 ≤ x) (h2 : x ≤ 9223372036854775807) (w : World) : Calls Tryz.prog 35 #[.int .i64 x, .int .i64 2, .int .i64 2, .int .i64 prec, .int .i64 mode] w fun r w' => FmtPost 2 x 2 prec mode w w' r (ExpQ (awayB mode (negI 2 x)) (valA 3000 2 (amtI 2 x).toNat) prec.toNat) := by
 by_cases h : hasB 2 x = true ∧ allowB 2 prec mode = true
 ·obtain ⟨hh, ha⟩ := h
  obtain ⟨p1, p2, p3, p4⟩ := allow_exact (by omega) ha
  exact rgood2 x 2 prec mode _ h1 h2 (.inr ⟨by omega, p1, p2, p3, p4⟩) w (fun a hA hlt w => by
   have := rtextExp 2 a a (negI 2 x) prec mode 53 (-1022) rfl (by omega) hlt p1 p2 w
   rw [show (amtI 2 x).toNat = a from by omega]; exact this)
 ·exact rbad2e x 2 prec mode _ (by omega) h w
theorem both_exp (cv : Value) (x f prec mode : Int) (h1 : -9223372036854775808 ≤ x) (h2 : x ≤ 9223372036854775807) (w : World) (ht : Tab w) :
  Calls Tryz.prog 25 #[cv, .int .i64 x, .int .i64 f, .int .i64 2, .int .i64 prec, .int .i64 mode] w fun r w' => BothPost w w' r := by
 by_cases hf : 0 ≤ f ∧ f ≤ 2
 ·rcases (by omega : f = 0 ∨ f = 1 ∨ f = 2) with rfl | rfl | rfl
  ·exact formatted_any cv x 0 2 prec mode _ _ (fun T T' a b => a.same b) w ht (fun w hw => pExpF cv 0 x prec mode (by decide) h1 h2 w hw) (fun w => rExpF0 x prec mode h1 h2 w)
  ·exact formatted_any cv x 1 2 prec mode _ _ (fun T T' a b => a.same b) w ht (fun w hw => pExpF cv 1 x prec mode (by decide) h1 h2 w hw) (fun w => rExpF1 x prec mode h1 h2 w)
  ·exact formatted_any cv x 2 2 prec mode _ _ (fun T T' a b => a.same b) w ht (fun w hw => pExpF cv 2 x prec mode (by decide) h1 h2 w hw) (fun w => rExpF2 x prec mode h1 h2 w)
 ·exact formatted_none cv x f 2 prec mode hf w
theorem rFixF0 (x prec mode : Int) (h1 : -9223372036854775808 ≤ x) (h2 : x ≤ 9223372036854775807) (w : World) : Calls Tryz.prog 35 #[.int .i64 x, .int .i64 0, .int .i64 3, .int .i64 prec, .int .i64 mode] w fun r w' => FmtPost 0 x 3 prec mode w w' r (FixQ (awayB mode (negI 0 x)) (valA 3000 0 (amtI 0 x).toNat) prec.toNat) := by
 by_cases h : hasB 0 x = true ∧ allowB 3 prec mode = true
 ·obtain ⟨hh, ha⟩ := h
  obtain ⟨p1, p2, p3, p4⟩ := allow_exact (by omega) ha
  exact rgood0 x 3 prec mode _ (by unfold hasB sgnF at hh; simp at hh; omega) (by unfold hasB sgnF at hh; simp at hh; omega) (.inr ⟨by omega, p1, p2, p3, p4⟩) w (fun a hA hlt w => by
   have := rtextFix 0 a a (negI 0 x) prec mode 11 (-14) rfl (by omega) hlt p1 p2 w
   rw [show (amtI 0 x).toNat = a from by omega]; exact this)
 ·exact rbad0e x 3 prec mode _ (by omega) h w
theorem rFixF1 (x prec mode : Int) (h1 : -9223372036854775808 ≤ x) (h2 : x ≤ 9223372036854775807) (w : World) : Calls Tryz.prog 35 #[.int .i64 x, .int .i64 1, .int .i64 3, .int .i64 prec, .int .i64 mode] w fun r w' => FmtPost 1 x 3 prec mode w w' r (FixQ (awayB mode (negI 1 x)) (valA 3000 1 (amtI 1 x).toNat) prec.toNat) := by
 by_cases h : hasB 1 x = true ∧ allowB 3 prec mode = true
 ·obtain ⟨hh, ha⟩ := h
  obtain ⟨p1, p2, p3, p4⟩ := allow_exact (by omega) ha
  exact rgood1 x 3 prec mode _ (by unfold hasB sgnF at hh; simp at hh; omega) (by unfold hasB sgnF at hh; simp at hh; omega) (.inr ⟨by omega, p1, p2, p3, p4⟩) w (fun a hA hlt w => by
   have := rtextFix 1 a a (negI 1 x) prec mode 24 (-126) rfl (by omega) hlt p1 p2 w
   rw [show (amtI 1 x).toNat = a from by omega]; exact this)
 ·exact rbad1e x 3 prec mode _ (by omega) h w
theorem rFixF2 (x prec mode : Int) (h1 : -9223372036854775808 ≤ x) (h2 : x ≤ 9223372036854775807) (w : World) : Calls Tryz.prog 35 #[.int .i64 x, .int .i64 2, .int .i64 3, .int .i64 prec, .int .i64 mode] w fun r w' => FmtPost 2 x 3 prec mode w w' r (FixQ (awayB mode (negI 2 x)) (valA 3000 2 (amtI 2 x).toNat) prec.toNat) := by
 by_cases h : hasB 2 x = true ∧ allowB 3 prec mode = true
 ·obtain ⟨hh, ha⟩ := h
  obtain ⟨p1, p2, p3, p4⟩ := allow_exact (by omega) ha
  exact rgood2 x 3 prec mode _ h1 h2 (.inr ⟨by omega, p1, p2, p3, p4⟩) w (fun a hA hlt w => by
   have := rtextFix 2 a a (negI 2 x) prec mode 53 (-1022) rfl (by omega) hlt p1 p2 w
   rw [show (amtI 2 x).toNat = a from by omega]; exact this)
 ·exact rbad2e x 3 prec mode _ (by omega) h w
theorem both_fix (cv : Value) (x f prec mode : Int) (h1 : -9223372036854775808 ≤ x) (h2 : x ≤ 9223372036854775807) (w : World) (ht : Tab w) :
  Calls Tryz.prog 25 #[cv, .int .i64 x, .int .i64 f, .int .i64 3, .int .i64 prec, .int .i64 mode] w fun r w' => BothPost w w' r := by
 by_cases hf : 0 ≤ f ∧ f ≤ 2
 ·rcases (by omega : f = 0 ∨ f = 1 ∨ f = 2) with rfl | rfl | rfl
  ·exact formatted_any cv x 0 3 prec mode _ _ (fun T T' a b => a.same b) w ht (fun w hw => pFixF cv 0 x prec mode (by decide) h1 h2 w hw) (fun w => rFixF0 x prec mode h1 h2 w)
  ·exact formatted_any cv x 1 3 prec mode _ _ (fun T T' a b => a.same b) w ht (fun w hw => pFixF cv 1 x prec mode (by decide) h1 h2 w hw) (fun w => rFixF1 x prec mode h1 h2 w)
  ·exact formatted_any cv x 2 3 prec mode _ _ (fun T T' a b => a.same b) w ht (fun w hw => pFixF cv 2 x prec mode (by decide) h1 h2 w hw) (fun w => rFixF2 x prec mode h1 h2 w)
 ·exact formatted_none cv x f 3 prec mode hf w
end Go.Proofs.YtbkdaoicnobllabGreatDoor

namespace Go.Proofs.YtbkdaoicnobllabGreatDoor
open Go.RowKit

theorem ref_exact {H : Nat → Prop} {V P : Nat} (h : V % P = 0) : StepYes H V P (V / P * P) := by
 refine .inl ⟨h, ?_⟩
 have := Nat.div_add_mod V P
 rw [h, Nat.add_zero, Nat.mul_comm] at this; exact this
theorem ref_both_hi {H : Nat → Prop} {V P : Nat} (h : V % P ≠ 0) (a : H (V / P * P)) (b : H (V / P * P + P)) (c : leftN V P = 3 ∨ (leftN V P = 2 ∧ V / P % 2 = 1)) : StepYes H V P (V / P * P + P) := by
 refine .inr ⟨h, .inl ⟨a, b, ?_⟩⟩
 unfold rndN
 rw [if_pos, Nat.add_mul, Nat.one_mul]
 refine ⟨fun h0 => h ((left_zero V P).1 h0), ?_⟩
 rw [away_zero]
 rcases c with c | ⟨c, d⟩
 ·rw [c]; rfl
 ·rw [c, d]; rfl
theorem ref_both_lo {H : Nat → Prop} {V P : Nat} (h : V % P ≠ 0) (a : H (V / P * P)) (b : H (V / P * P + P)) (c : ¬ (leftN V P = 3 ∨ (leftN V P = 2 ∧ V / P % 2 = 1))) : StepYes H V P (V / P * P) := by
 refine .inr ⟨h, .inl ⟨a, b, ?_⟩⟩
 unfold rndN
 rw [if_neg]
 rintro ⟨_, h1⟩
 rw [away_zero] at h1
 apply c
 simp at h1
 rcases h1 with h1 | ⟨h1, h2⟩
 ·exact .inl h1
 ·exact .inr ⟨h1, h2⟩
theorem ref_lo {H : Nat → Prop} {V P : Nat} (h : V % P ≠ 0) (a : H (V / P * P)) (b : ¬ H (V / P * P + P)) : StepYes H V P (V / P * P) := .inr ⟨h, .inr (.inl ⟨a, b, rfl⟩)⟩
theorem ref_hi {H : Nat → Prop} {V P : Nat} (h : V % P ≠ 0) (a : ¬ H (V / P * P)) (b : H (V / P * P + P)) : StepYes H V P (V / P * P + P) := .inr ⟨h, .inr (.inr ⟨a, b, rfl⟩)⟩
theorem ref_no {H : Nat → Prop} {V P : Nat} (h : V % P ≠ 0) (a : ¬ H (V / P * P)) (b : ¬ H (V / P * P + P)) : StepNo H V P := ⟨h, a, b⟩
theorem top_le {D : List Nat} {e p : Int} (hh : Headed D) (hl : 0 < D.length) (he : -(3000 : Int) ≤ e) (hp : p ≤ e + D.length - 1) : 10 ^ (p + (3000 : Nat)).toNat ≤ val 3000 D e := by
 unfold val
 refine Nat.le_trans ?_ (Nat.mul_le_mul_right _ (hh.lo hl))
 rw [← Nat.pow_add]
 exact Nat.pow_le_pow_right (by omega) (by omega)
theorem low_pos {V P : Nat} (h : P ≤ V) (hP : 0 < P) : 0 < V / P * P := Nat.mul_pos (Nat.div_pos h hP) hP
end Go.Proofs.YtbkdaoicnobllabGreatDoor

namespace Go.Proofs.YtbkdaoicnobllabGreatDoor
set_option maxRecDepth 100000
set_option maxHeartbeats 1000000
open Go.RowKit

def ShortestPost (w w' : World) (r : Ending) (f : Int) (a : Nat) : Prop :=
 ∃ (v' : Value) (L' : List Nat) (e' : Int), r = .returned (.agg #[v', .int .i64 e']) ∧ Row w' v' L' ∧ Norm L' ∧ L' ≠ [] ∧ (-1100 ≤ e' ∧ e' + (L'.length : Int) ≤ 402) ∧ (∃ D e p, ShortAt f a D e p (val 3000 L' e')) ∧ Below w.heap.size w w'
def NoneTo (f : Int) (a : Nat) (T p : Int) : Prop := ∀ q, p < q → q ≤ T → StepNo (Hold 3000 f a) (valA 3000 f a) (10 ^ (q + (3000 : Nat)).toNat)
theorem shortest_any (f A : Int) (a : Nat) (w : World) (hA : A = (a : Int)) (hf : 0 ≤ f ∧ f ≤ 2) (h0 : 0 < a) (ha : (a : Int) < infA f) :
  Calls Tryz.prog 89 #[.int .i64 f, .int .i64 A] w fun r w' => ShortestPost w w' r f a := by
 have HV := hid (fun w => value_any f a w hf (by omega))
 rw [← hA] at HV
 have HVT := hid (fun (L : List Nat) (e : Int) (a1 : Headed L) (a2 : 0 < L.length) (a3 : -(3000 : Int) ≤ e) (a4 : val 3000 L e = valA 3000 f a) => valA_top hf ha a1 a2 a3 a4)
 have HNE : Hid (valA 3000 f a ≠ 0) := Nat.ne_of_gt (valA_some 3000 f a h0)
 have HA := hid (And.intro hA (And.intro hf (And.intro h0 ha)))
 clear hA hf h0 ha
 go_enter Tryz.func89, Tryz.ntmps89
 go_wp2_with fail
 have r0 : (w.alloc (.cells #[.slice none 0 0, .int .i64 0] 95)).cell? ⟨w.heap.size, 0, none⟩ = some (.slice none 0 0) := by simp [go_sem]
 have r1 : (w.alloc (.cells #[.slice none 0 0, .int .i64 0] 95)).cell? ⟨w.heap.size, 1, none⟩ = some (.int .i64 0) := by simp [go_sem]
 have z0 : (w.alloc (.cells #[.slice none 0 0, .int .i64 0] 95)).frozen? ⟨w.heap.size, 0, none⟩ = false := by simp [go_sem]
 have z1 : (w.alloc (.cells #[.slice none 0 0, .int .i64 0] 95)).frozen? ⟨w.heap.size, 1, none⟩ = false := by simp [go_sem]
 have hw0 : w.heap.size < (w.alloc (.cells #[.slice none 0 0, .int .i64 0] 95)).heap.size := by simp
 have HB0 : Hid (Below w.heap.size w (w.alloc (.cells #[.slice none 0 0, .int .i64 0] 95))) := (Below.refl _ _).alloc (Nat.le_refl _) _
 generalize (w.alloc (.cells #[.slice none 0 0, .int .i64 0] 95)) = W0 at *
 refine (HV.out W0).mono ?_
 rintro r w1 ⟨hb1, v', L, e, rfl, hout⟩
 obtain ⟨ao, cp, hv⟩ := hout.row.isSlice
 subst hv
 have HVAL : Hid (val 3000 L e = valA 3000 f a) := hout.val 3000 (by omega)
 have hLne : L ≠ [] := fun h => HNE.out (by rw [← HVAL.out, h]; simp [val, num_nil])
 have hbd := hout.ne hLne
 have htop := HVT.out L e hout.norm.headed (List.length_pos_iff.2 hLne) (by omega) HVAL.out
 have hlen := hout.len
 have hpos := List.length_pos_iff.2 hLne
 have he1 : -1100 ≤ e := hbd.1
 have HNORM := hid hout.norm
 have HOV : Hid (∀ g, (Value.slice ao L.length cp).ownBlock = some g → w.heap.size < g) := fun g hg => by have := hout.own g hg; omega
 obtain ⟨T, hT0⟩ : ∃ T : Int, T = e + L.length - 1 := ⟨_, rfl⟩
 have HT := hid hT0
 have hT1 : e ≤ T := by omega
 have hT2 : T ≤ 400 := by omega
 have s0 := keep_cell' (hb1.alloc hb1.size (.cells #[.slice ao L.length cp, .int .i64 e] 95)) r0
 have s1 := keep_cell' (hb1.alloc hb1.size (.cells #[.slice ao L.length cp, .int .i64 e] 95)) r1
 have y0 := ((hb1.alloc hb1.size (.cells #[.slice ao L.length cp, .int .i64 e] 95)).frozen (p := ⟨w.heap.size, 0, none⟩) hw0).trans z0
 have y1 := ((hb1.alloc hb1.size (.cells #[.slice ao L.length cp, .int .i64 e] 95)).frozen (p := ⟨w.heap.size, 1, none⟩) hw0).trans z1
 have v0 : (w1.alloc (.cells #[.slice ao L.length cp, .int .i64 e] 95)).cell? ⟨w1.heap.size, 0, none⟩ = some (.slice ao L.length cp) := by simp [go_sem]
 have v1 : (w1.alloc (.cells #[.slice ao L.length cp, .int .i64 e] 95)).cell? ⟨w1.heap.size, 1, none⟩ = some (.int .i64 e) := by simp [go_sem]
 have HB1 : Hid (Below w.heap.size w (w1.alloc (.cells #[.slice ao L.length cp, .int .i64 e] 95))) := HB0.out.trans ((hb1.alloc hb1.size _).mono HB0.out.size)
 have HROW : Hid (Row (w1.alloc (.cells #[.slice ao L.length cp, .int .i64 e] 95)) (.slice ao L.length cp) L) := hout.row.below ((Below.refl _ _).alloc (Nat.le_refl _) _) (Nat.le_refl _)
 have hw1 : w.heap.size < w1.heap.size := by have := hb1.size; omega
 have hw2 : w1.heap.size < (w1.alloc (.cells #[.slice ao L.length cp, .int .i64 e] 95)).heap.size := by simp
 obtain ⟨W1, hW1⟩ : ∃ W1, W1 = (w1.alloc (.cells #[.slice ao L.length cp, .int .i64 e] 95)) := ⟨_, rfl⟩
 obtain ⟨vB, hvB⟩ : ∃ vB, vB = w1.heap.size := ⟨_, rfl⟩
 have HW1 := hid hW1
 clear r0 r1 z0 z1 hw0 hb1 hout hbd hT0 HV HVT hLne htop
 go_wp2_with (rw [← HW1.out])
 go_loopw [6] (fun nn wr => ∃ k : Int, nn = .int .i64 k ∧ 1 ≤ k ∧ k ≤ T - e + 1 ∧ NoneTo f a T (T - k + 1) ∧ Below W1.heap.size W1 wr) (fun nn _ => (T - e + 1 - intOf nn).toNat)
 case atStart => exact ⟨1, rfl, by omega, by omega, fun q a b => by omega, by rw [HW1.out]; exact Below.refl _ _⟩
 case round =>
  obtain ⟨k, rfl, hk1, hk2, hno, hbw⟩ := hrel
  rw [← hW1] at s0 s1 y0 y1 v0 v1 HB1 HROW hw2
  rw [← hvB] at v0 v1 hw1 hw2
  have hsW : w.heap.size < W1.heap.size := by omega
  obtain ⟨p, hp⟩ : ∃ p : Int, T - k + 1 = p := ⟨_, rfl⟩
  have hp1 : e ≤ p := by omega
  have hp2 : p ≤ T := by omega
  rw [hp] at hno
  have HNO := hid hno
  have HBW := hid hbw
  have HVB := hid hvB
  have a0 := keep_cell' hbw s0
  have a1 := keep_cell' hbw s1
  have a2 := keep_cell' hbw v0
  have a3 := keep_cell' hbw v1
  have f0 := (hbw.frozen (p := ⟨w.heap.size, 0, none⟩) hsW).trans y0
  have f1 := (hbw.frozen (p := ⟨w.heap.size, 1, none⟩) hsW).trans y1
  have HR1 : Hid (Row wr (.slice ao L.length cp) L) := HROW.out.below hbw (Nat.le_refl _)
  have HBF : Hid (Below w.heap.size w wr) := HB1.out.trans (hbw.mono HB1.out.size)
  have hsr : w.heap.size < wr.heap.size := by have := hbw.size; omega
  have HTP : Hid (Calls Tryz.prog 84 #[.agg #[.slice ao L.length cp, .int .i64 e]] wr fun r w' => r = .returned (.int .i64 T) ∧ Below wr.heap.size wr w') := by
   unfold Hid; rw [HT.out]; exact top_any (.slice ao L.length cp) L e wr HR1.out (by omega) (by omega)
  clear hno hbw s0 s1 y0 y1 v0 v1 hvB hW1
  rw [← HVB.out]
  go_wp2_with fail
  refine HTP.out.mono ?_
  rintro r w2 ⟨rfl, hb2⟩
  have b0 := keep_cell' hb2 a0
  have b1 := keep_cell' hb2 a1
  have b2 := keep_cell' hb2 a2
  have b3 := keep_cell' hb2 a3
  have g0 := (hb2.frozen (p := ⟨w.heap.size, 0, none⟩) hsr).trans f0
  have g1 := (hb2.frozen (p := ⟨w.heap.size, 1, none⟩) hsr).trans f1
  have HR2 : Hid (Row w2 (.slice ao L.length cp) L) := HR1.out.below hb2 (Nat.le_refl _)
  have HBW2 : Hid (Below W1.heap.size W1 w2) := HBW.out.trans (hb2.mono HBW.out.size)
  have hs2 : w.heap.size < w2.heap.size := by have := hb2.size; omega
  have HCU := hid (cut_any (.slice ao L.length cp) L e p w2 HR2.out HNORM.out (fun h => by rw [h] at hpos; simp at hpos) (by omega) (by omega) (by omega))
  clear hb2 a0 a1 a2 a3 f0 f1 HTP HR1
  go_wp2_with fail
  refine HCU.out.mono ?_
  rintro r w3 ⟨hb3, v3, L3, e3, left, rfl, hlf, hout3⟩
  obtain ⟨ao3, cp3, hv3⟩ := hout3.row.isSlice
  subst hv3
  have HLF : Hid (left = leftN (valA 3000 f a) (10 ^ (p + (3000 : Nat)).toNat)) := by
   have := hlf 3000 (by omega) (by omega)
   rw [HVAL.out] at this; exact this
  have HX3 : Hid (val 3000 L3 e3 = valA 3000 f a / 10 ^ (p + (3000 : Nat)).toNat * 10 ^ (p + (3000 : Nat)).toNat) := by
   have := hout3.val 3000 (by omega)
   unfold cutV at this
   rw [HVAL.out] at this; exact this
  have HPL : Hid (10 ^ (p + (3000 : Nat)).toNat ≤ valA 3000 f a) := by
   have := top_le (e := e) (p := p) HNORM.out.headed hpos (by omega) (by have := HT.out; omega)
   rw [HVAL.out] at this; exact this
  have HXP : Hid (0 < val 3000 L3 e3) := by
   unfold Hid; rw [HX3.out]; exact low_pos HPL.out (Nat.pow_pos (by omega))
  have hne3 : L3 ≠ [] := fun h => by have := HXP.out; rw [h] at this; simp [val, num_nil] at this
  have hbd3 := hout3.ne hne3
  have hlen3 := hout3.len
  have hg1 : e ≤ e3 := by omega
  have hg2 : e3 + L3.length ≤ 401 := by have := HT.out; omega
  have HOW3 : Hid (∀ g, (Value.slice ao3 L3.length cp3).ownBlock = some g → w.heap.size < g) := fun g hg => by
   rcases hout3.own g hg with h | h
   ·exact HOV.out g h
   ·omega
  have HN3 := hid (And.intro hout3.norm (And.intro hout3.nil hne3))
  have hl0 : 0 ≤ left := by rw [HLF.out]; exact (leftN_range _ _).1
  have hl3 : left ≤ 3 := by rw [HLF.out]; exact (leftN_range _ _).2
  obtain ⟨W3, hW3⟩ : ∃ W3, W3 = w3.alloc (.cells #[.slice ao3 L3.length cp3, .int .i64 e3] 95) := ⟨_, rfl⟩
  have hb3' : Below w2.heap.size w2 W3 := by rw [hW3]; exact hb3.alloc hb3.size _
  have c0 := keep_cell' hb3' b0
  have c1 := keep_cell' hb3' b1
  have h0 := (hb3'.frozen (p := ⟨w.heap.size, 0, none⟩) hs2).trans g0
  have h1 := (hb3'.frozen (p := ⟨w.heap.size, 1, none⟩) hs2).trans g1
  have l0 : W3.cell? ⟨w3.heap.size, 0, none⟩ = some (.slice ao3 L3.length cp3) := by rw [hW3]; simp [go_sem]
  have l1 : W3.cell? ⟨w3.heap.size, 1, none⟩ = some (.int .i64 e3) := by rw [hW3]; simp [go_sem]
  have HRW3 : Hid (Row W3 (.slice ao3 L3.length cp3) L3) := by unfold Hid; rw [hW3]; exact hout3.row.below ((Below.refl _ _).alloc (Nat.le_refl _) _) (Nat.le_refl _)
  have HBW3 : Hid (Below W1.heap.size W1 W3) := HBW2.out.trans (hb3'.mono HBW2.out.size)
  have hs3 : w.heap.size < W3.heap.size := by have := hb3'.size; omega
  obtain ⟨lB, hlB⟩ : ∃ lB, lB = w3.heap.size := ⟨_, rfl⟩
  rw [← hlB] at l0 l1
  have HW3 := hid hW3
  have HLB := hid hlB
  clear hb3 hb3' hout3 hlf hbd3 hne3 b0 b1 b2 b3 g0 g1 HCU hW3 hlB HR2
  go_wp2_with fail
  rw [← HW3.out, ← HLB.out]
  refine (one_any p W3).mono ?_
  rintro r w4 ⟨hb4, v4, L4, e4, rfl, hout4⟩
  obtain ⟨ao4, cp4, hv4⟩ := hout4.row.isSlice
  subst hv4
  have HX4 : Hid (val 3000 L4 e4 = 10 ^ (p + (3000 : Nat)).toNat) := hout4.val 3000 (by omega)
  have hne4 : L4 ≠ [] := fun h => by
   have h1 : 0 < val 3000 L4 e4 := by rw [HX4.out]; exact Nat.pow_pos (by omega)
   rw [h] at h1
   simp [val, num_nil] at h1
  have hbd4 := hout4.ne hne4
  have hlen4 := hout4.len
  have HN4 := hid (And.intro hout4.norm hout4.nil)
  have HOW4 : Hid (∀ g, (Value.slice ao4 L4.length cp4).ownBlock = some g → w.heap.size < g) := fun g hg => by have := hout4.own g hg; omega
  obtain ⟨W4, hW4⟩ : ∃ W4, W4 = w4.alloc (.cells #[.slice ao4 L4.length cp4, .int .i64 e4] 95) := ⟨_, rfl⟩
  have hb4' : Below W3.heap.size W3 W4 := by rw [hW4]; exact hb4.alloc hb4.size _
  have i0 := keep_cell' hb4' c0
  have i1 := keep_cell' hb4' c1
  have m0 := keep_cell' hb4' l0
  have m1 := keep_cell' hb4' l1
  have j0 := (hb4'.frozen (p := ⟨w.heap.size, 0, none⟩) hs3).trans h0
  have j1 := (hb4'.frozen (p := ⟨w.heap.size, 1, none⟩) hs3).trans h1
  have n0 : W4.cell? ⟨w4.heap.size, 0, none⟩ = some (.slice ao4 L4.length cp4) := by rw [hW4]; simp [go_sem]
  have n1 : W4.cell? ⟨w4.heap.size, 1, none⟩ = some (.int .i64 e4) := by rw [hW4]; simp [go_sem]
  have HRW4 : Hid (Row W4 (.slice ao3 L3.length cp3) L3) := HRW3.out.below hb4' (Nat.le_refl _)
  have HRO4 : Hid (Row W4 (.slice ao4 L4.length cp4) L4) := by unfold Hid; rw [hW4]; exact hout4.row.below ((Below.refl _ _).alloc (Nat.le_refl _) _) (Nat.le_refl _)
  have HBW4 : Hid (Below W1.heap.size W1 W4) := HBW3.out.trans (hb4'.mono HBW3.out.size)
  have hs4 : w.heap.size < W4.heap.size := by have := hb4'.size; omega
  obtain ⟨oB, hoB⟩ : ∃ oB, oB = w4.heap.size := ⟨_, rfl⟩
  rw [← hoB] at n0 n1
  have HW4 := hid hW4
  have HOB := hid hoB
  have HAD := hid (add_any (.slice ao3 L3.length cp3) (.slice ao4 L4.length cp4) L3 L4 e3 e4 W4 HRW4.out HRO4.out HN3.out.1 HN4.out.1 HN3.out.2.1 HN4.out.2 (by omega) (by omega) (by omega) (by omega))
  clear hb4 hb4' hout4 c0 c1 h0 h1 l0 l1 hW4 hoB HRW3 hne4
  go_wp2_with (rw [← HW4.out, ← HOB.out])
  go_wp2_with fail
  refine HAD.out.mono ?_
  rintro r w5 ⟨hb5, v5, L5, e5, rfl, hout5⟩
  obtain ⟨ao5, cp5, hv5⟩ := hout5.row.isSlice
  subst hv5
  have hne5b : L5 ≠ [] → min e3 e4 ≤ e5 ∧ e5 + L5.length ≤ max (e3 + L3.length) (e4 + L4.length) + 1 := hout5.ne
  have HX5 : Hid (val 3000 L5 e5 = valA 3000 f a / 10 ^ (p + (3000 : Nat)).toNat * 10 ^ (p + (3000 : Nat)).toNat + 10 ^ (p + (3000 : Nat)).toNat) := by
   have h1 := hout5.val 3000 (by omega)
   rw [HX3.out, HX4.out] at h1; exact h1
  have hne5 : L5 ≠ [] := fun h => by
   have h1 : 0 < val 3000 L5 e5 := by rw [HX5.out]; exact Nat.lt_of_lt_of_le (Nat.pow_pos (by omega)) (Nat.le_add_left _ _)
   rw [h] at h1
   simp [val, num_nil] at h1
  have hbd5 := hne5b hne5
  have hg3 : e ≤ e5 := by omega
  have hg4 : e5 + L5.length ≤ 402 := by omega
  have HN5 := hid (And.intro hout5.norm (And.intro hout5.nil hne5))
  have HOW5 : Hid (∀ g, (Value.slice ao5 L5.length cp5).ownBlock = some g → w.heap.size < g) := fun g hg => by
   rcases hout5.own g hg with h | h | h
   ·exact HOW3.out g h
   ·exact HOW4.out g h
   ·omega
  obtain ⟨W5, hW5⟩ : ∃ W5, W5 = w5.alloc (.cells #[.slice ao5 L5.length cp5, .int .i64 e5] 95) := ⟨_, rfl⟩
  have hb5' : Below W4.heap.size W4 W5 := by rw [hW5]; exact hb5.alloc hb5.size _
  have o0 := keep_cell' hb5' i0
  have o1 := keep_cell' hb5' i1
  have q0 := keep_cell' hb5' m0
  have q1 := keep_cell' hb5' m1
  have k0 := (hb5'.frozen (p := ⟨w.heap.size, 0, none⟩) hs4).trans j0
  have k1 := (hb5'.frozen (p := ⟨w.heap.size, 1, none⟩) hs4).trans j1
  have t0 : W5.cell? ⟨w5.heap.size, 0, none⟩ = some (.slice ao5 L5.length cp5) := by rw [hW5]; simp [go_sem]
  have t1 : W5.cell? ⟨w5.heap.size, 1, none⟩ = some (.int .i64 e5) := by rw [hW5]; simp [go_sem]
  have HRW5 : Hid (Row W5 (.slice ao3 L3.length cp3) L3) := HRW4.out.below hb5' (Nat.le_refl _)
  have HRH5 : Hid (Row W5 (.slice ao5 L5.length cp5) L5) := by unfold Hid; rw [hW5]; exact hout5.row.below ((Below.refl _ _).alloc (Nat.le_refl _) _) (Nat.le_refl _)
  have HBW5 : Hid (Below W1.heap.size W1 W5) := HBW4.out.trans (hb5'.mono HBW4.out.size)
  have hs5 : w.heap.size < W5.heap.size := by have := hb5'.size; omega
  obtain ⟨hB, hhB⟩ : ∃ hB, hB = w5.heap.size := ⟨_, rfl⟩
  rw [← hhB] at t0 t1
  have HW5 := hid hW5
  have HHB := hid hhB
  have HRO1 := hid (rounded_any f 0 false (.slice ao3 L3.length cp3) L3 e3 3000 W5 HA.out.2.1 HRW5.out HN3.out.1 (by omega) (by omega) (by omega) (by omega) HN3.out.2.1)
  have hl5 := hout5.len
  clear hb5 hb5' hout5 i0 i1 j0 j1 m0 m1 n0 n1 hW5 hhB HRW4 HRO4 hne5b HAD hne5
  go_wp2_with (rw [← HW5.out, ← HHB.out])
  go_wp2_with fail
  refine HRO1.out.mono ?_
  rintro r w6 ⟨hb6, ra, fa, rfl, hspa⟩
  have p0 := keep_cell' hb6 o0
  have p1 := keep_cell' hb6 o1
  have r0 := keep_cell' hb6 q0
  have r1 := keep_cell' hb6 q1
  have u0 := keep_cell' hb6 t0
  have u1 := keep_cell' hb6 t1
  have x0 := (hb6.frozen (p := ⟨w.heap.size, 0, none⟩) hs5).trans k0
  have x1 := (hb6.frozen (p := ⟨w.heap.size, 1, none⟩) hs5).trans k1
  have HRW6 : Hid (Row w6 (.slice ao3 L3.length cp3) L3) := HRW5.out.below hb6 (Nat.le_refl _)
  have HRH6 : Hid (Row w6 (.slice ao5 L5.length cp5) L5) := HRH5.out.below hb6 (Nat.le_refl _)
  have HBW6 : Hid (Below W1.heap.size W1 w6) := HBW5.out.trans (hb6.mono HBW5.out.size)
  have hs6 : w.heap.size < w6.heap.size := by have := hb6.size; omega
  have HSA := hid hspa
  have HRO2 := hid (rounded_any f 0 false (.slice ao5 L5.length cp5) L5 e5 3000 w6 HA.out.2.1 HRH6.out HN5.out.1 (by omega) (by omega) (by omega) (by omega) HN5.out.2.1)
  clear hb6 hspa o0 o1 q0 q1 t0 t1 k0 k1 HRO1 HRW5 HRH5
  go_wp2_with fail
  refine HRO2.out.mono ?_
  rintro r w7 ⟨hb7, rb, fb, rfl, hspb⟩
  have R0 := keep_cell' hb7 p0
  have R1 := keep_cell' hb7 p1
  have M0 := keep_cell' hb7 r0
  have M1 := keep_cell' hb7 r1
  have N0 := keep_cell' hb7 u0
  have N1 := keep_cell' hb7 u1
  have Z0 := (hb7.frozen (p := ⟨w.heap.size, 0, none⟩) hs6).trans x0
  have Z1 := (hb7.frozen (p := ⟨w.heap.size, 1, none⟩) hs6).trans x1
  have HRW7 : Hid (Row w7 (.slice ao3 L3.length cp3) L3) := HRW6.out.below hb7 (Nat.le_refl _)
  have HRH7 : Hid (Row w7 (.slice ao5 L5.length cp5) L5) := HRH6.out.below hb7 (Nat.le_refl _)
  have HBW7 : Hid (Below W1.heap.size W1 w7) := HBW6.out.trans (hb7.mono HBW6.out.size)
  have HBF7 : Hid (Below w.heap.size w w7) := HB1.out.trans (HBW7.out.mono HB1.out.size)
  have hs7 : w.heap.size < w7.heap.size := by have := hb7.size; omega
  have hA0 := HA.out.1
  have hain : a < infN f := by
   have := HA.out.2.2.2
   unfold infA at this; unfold infN
   split
   ·rename_i h; rw [if_pos h] at this; omega
   ·rename_i h; rw [if_neg h] at this
    split
    ·rename_i h; rw [if_pos h] at this; omega
    ·rename_i h; rw [if_neg h] at this; omega
  have HXA : Hid (ra = A ↔ Hold 3000 f a (val 3000 L3 e3)) := by
   unfold Hid; rw [hA0]; exact round_hold (by omega) HXP.out HA.out.2.2.1 hain HSA.out
  have HXB : Hid (rb = A ↔ Hold 3000 f a (val 3000 L5 e5)) := by
   unfold Hid; rw [hA0]; exact round_hold (by omega) (by rw [HX5.out]; exact Nat.lt_of_lt_of_le (Nat.pow_pos (by omega)) (Nat.le_add_left _ _)) HA.out.2.2.1 hain hspb
  have HLO : Hid (∀ w8, Below w7.heap.size w7 w8 → StepYes (Hold 3000 f a) (valA 3000 f a) (10 ^ (p + (3000 : Nat)).toNat) (val 3000 L3 e3) → ShortestPost w ((w8.setCell ⟨w.heap.size, 0, none⟩ (.slice ao3 L3.length cp3)).setCell ⟨w.heap.size, 1, none⟩ (.int .i64 e3)) (.returned (.agg #[.slice ao3 L3.length cp3, .int .i64 e3])) f a) := fun w8 h8 hy =>
   ⟨_, L3, e3, rfl, (((HRW7.out.below h8 (Nat.le_refl _)).setCell ⟨w.heap.size, 0, none⟩ _ (fun h => by have := HOW3.out _ h; simp at this)).setCell ⟨w.heap.size, 1, none⟩ _ (fun h => by have := HOW3.out _ h; simp at this)), HN3.out.1, HN3.out.2.2, by omega, ⟨L, e, p, HNORM.out.digs, HNORM.out.headed, hpos, by omega, HVAL.out, by have := HT.out; omega, hy, fun q c d => HNO.out q c (by have := HT.out; omega)⟩, below_two (HBF7.out.trans (h8.mono HBF7.out.size)) (Nat.le_refl _) _ _⟩
  have HHI : Hid (∀ w8, Below w7.heap.size w7 w8 → StepYes (Hold 3000 f a) (valA 3000 f a) (10 ^ (p + (3000 : Nat)).toNat) (val 3000 L5 e5) → ShortestPost w ((w8.setCell ⟨w.heap.size, 0, none⟩ (.slice ao5 L5.length cp5)).setCell ⟨w.heap.size, 1, none⟩ (.int .i64 e5)) (.returned (.agg #[.slice ao5 L5.length cp5, .int .i64 e5])) f a) := fun w8 h8 hy =>
   ⟨_, L5, e5, rfl, (((HRH7.out.below h8 (Nat.le_refl _)).setCell ⟨w.heap.size, 0, none⟩ _ (fun h => by have := HOW5.out _ h; simp at this)).setCell ⟨w.heap.size, 1, none⟩ _ (fun h => by have := HOW5.out _ h; simp at this)), HN5.out.1, HN5.out.2.2, by omega, ⟨L, e, p, HNORM.out.digs, HNORM.out.headed, hpos, by omega, HVAL.out, by have := HT.out; omega, hy, fun q c d => HNO.out q c (by have := HT.out; omega)⟩, below_two (HBF7.out.trans (h8.mono HBF7.out.size)) (Nat.le_refl _) _ _⟩
  clear hb7 hspb hA0 hain p0 p1 r0 r1 u0 u1 x0 x1 HRO2 HRW6 HRH6
  by_cases h0 : left = 0
  ·have HP := hid (HLO.out w7 (Below.refl _ _) (by rw [HX3.out]; exact ref_exact ((left_zero _ _).1 (by rw [← HLF.out]; exact h0))))
   subst h0
   go_wp2
   exact bodyPost_ret (v := .agg #[.slice ao3 L3.length cp3, .int .i64 e3]) (dec_results rfl _ _ w.heap.size _ _ rfl (two_cells R0 R1).1 (two_cells R0 R1).2) rfl HP.out
  ·have HMOD : Hid (valA 3000 f a % 10 ^ (p + (3000 : Nat)).toNat ≠ 0) := fun h => h0 (by rw [HLF.out]; exact (left_zero _ _).2 h)
   have tl0 : (left == 0) = false := by rw [beq_eq_false_iff_ne]; exact h0
   have HH3 : Hid (Hold 3000 f a (val 3000 L3 e3) = Hold 3000 f a (valA 3000 f a / 10 ^ (p + (3000 : Nat)).toNat * 10 ^ (p + (3000 : Nat)).toNat)) := by unfold Hid; rw [HX3.out]
   have HH5 : Hid (Hold 3000 f a (val 3000 L5 e5) = Hold 3000 f a (valA 3000 f a / 10 ^ (p + (3000 : Nat)).toNat * 10 ^ (p + (3000 : Nat)).toNat + 10 ^ (p + (3000 : Nat)).toNat)) := by unfold Hid; rw [HX5.out]
   by_cases qa : ra = A
   ·have A1 : Hid (Hold 3000 f a (valA 3000 f a / 10 ^ (p + (3000 : Nat)).toNat * 10 ^ (p + (3000 : Nat)).toNat)) := by unfold Hid; rw [← HH3.out]; exact HXA.out.1 qa
    have ta : (ra == A) = true := by rw [qa]; simp
    by_cases qb : rb = A
    ·have B1 : Hid (Hold 3000 f a (valA 3000 f a / 10 ^ (p + (3000 : Nat)).toNat * 10 ^ (p + (3000 : Nat)).toNat + 10 ^ (p + (3000 : Nat)).toNat)) := by unfold Hid; rw [← HH5.out]; exact HXB.out.1 qb
     have tb : (rb == A) = true := by rw [qb]; simp
     clear qa qb
     rcases (by omega : left = 3 ∨ left = 2 ∨ left = 1) with h3 | h2 | h1
     ·have HP := hid (HHI.out w7 (Below.refl _ _) (by rw [HX5.out]; exact ref_both_hi HMOD.out A1.out B1.out (.inl (by rw [← HLF.out]; exact h3))))
      subst h3
      go_wp2
      exact bodyPost_ret (v := .agg #[.slice ao5 L5.length cp5, .int .i64 e5]) (dec_results rfl _ _ w.heap.size _ _ rfl (two_cells R0 R1).1 (two_cells R0 R1).2) rfl HP.out
     ·obtain ⟨od, hod⟩ : ∃ od, od = dig L3 e3 p := ⟨_, rfl⟩
      have hod9 : od ≤ 9 := by rw [hod]; exact dig_le HN3.out.1.digs e3 p
      have HAT := hid (at_any (.slice ao3 L3.length cp3) L3 e3 p w7 HRW7.out (by omega) (by omega) (by omega))
      rw [← hod] at HAT
      have hpar : od % 2 = valA 3000 f a / 10 ^ (p + (3000 : Nat)).toNat % 2 := by
       rw [hod, ← HVAL.out]
       exact cut_par (L := L) (e := e) (K := 3000) HN3.out.1.digs (by omega) (by omega) (by unfold cutV; rw [HVAL.out]; exact HX3.out)
      have HH2 := hid h2
      rcases (by omega : od % 2 = 1 ∨ od % 2 = 0) with ho | ho
      ·have HPX := hid (fun w8 h8 => HHI.out w8 h8 (by rw [HX5.out]; exact ref_both_hi HMOD.out A1.out B1.out (.inr ⟨by rw [← HLF.out]; exact HH2.out, by rw [← hpar]; exact ho⟩)))
       have hoi : (od : Int) % 2 = 1 := by omega
       subst h2
       clear hod hpar ho HH2
       go_wp2_with fail
       refine HAT.out.mono ?_
       rintro r w8 ⟨rfl, hb8⟩
       have HP := hid (HPX.out w8 hb8)
       have S0 := keep_cell' hb8 R0
       have S1 := keep_cell' hb8 R1
       have Y0 := (hb8.frozen (p := ⟨w.heap.size, 0, none⟩) hs7).trans Z0
       have Y1 := (hb8.frozen (p := ⟨w.heap.size, 1, none⟩) hs7).trans Z1
       have M2 := keep_cell' hb8 M0
       have M3 := keep_cell' hb8 M1
       have N2 := keep_cell' hb8 N0
       have N3 := keep_cell' hb8 N1
       have hs8 : w.heap.size < w8.heap.size := by have := hb8.size; omega
       clear hb8 R0 R1 Z0 Z1 M0 M1 N0 N1 HPX HAT
       go_wp2
       exact bodyPost_ret (v := .agg #[.slice ao5 L5.length cp5, .int .i64 e5]) (dec_results rfl _ _ w.heap.size _ _ rfl (two_cells S0 S1).1 (two_cells S0 S1).2) rfl HP.out
      ·have HPX := hid (fun w8 h8 => HLO.out w8 h8 (by rw [HX3.out]; exact ref_both_lo HMOD.out A1.out B1.out (by rw [← HLF.out, ← hpar]; omega)))
       have hoi : (od : Int) % 2 = 0 := by omega
       subst h2
       clear hod hpar ho HH2
       go_wp2_with fail
       refine HAT.out.mono ?_
       rintro r w8 ⟨rfl, hb8⟩
       have HP := hid (HPX.out w8 hb8)
       have S0 := keep_cell' hb8 R0
       have S1 := keep_cell' hb8 R1
       have Y0 := (hb8.frozen (p := ⟨w.heap.size, 0, none⟩) hs7).trans Z0
       have Y1 := (hb8.frozen (p := ⟨w.heap.size, 1, none⟩) hs7).trans Z1
       have M2 := keep_cell' hb8 M0
       have M3 := keep_cell' hb8 M1
       have N2 := keep_cell' hb8 N0
       have N3 := keep_cell' hb8 N1
       have hs8 : w.heap.size < w8.heap.size := by have := hb8.size; omega
       clear hb8 R0 R1 Z0 Z1 M0 M1 N0 N1 HPX HAT
       go_wp2
       exact bodyPost_ret (v := .agg #[.slice ao3 L3.length cp3, .int .i64 e3]) (dec_results rfl _ _ w.heap.size _ _ rfl (two_cells S0 S1).1 (two_cells S0 S1).2) rfl HP.out
     ·have HP := hid (HLO.out w7 (Below.refl _ _) (by rw [HX3.out]; exact ref_both_lo HMOD.out A1.out B1.out (by rw [← HLF.out]; omega)))
      subst h1
      go_wp2
      exact bodyPost_ret (v := .agg #[.slice ao3 L3.length cp3, .int .i64 e3]) (dec_results rfl _ _ w.heap.size _ _ rfl (two_cells R0 R1).1 (two_cells R0 R1).2) rfl HP.out
    ·have HP := hid (HLO.out w7 (Below.refl _ _) (by rw [HX3.out]; exact ref_lo HMOD.out A1.out (by rw [← HH5.out]; exact fun h => qb (HXB.out.2 h))))
     have tb : (rb == A) = false := by rw [beq_eq_false_iff_ne]; exact qb
     clear qa qb
     go_wp2
     exact bodyPost_ret (v := .agg #[.slice ao3 L3.length cp3, .int .i64 e3]) (dec_results rfl _ _ w.heap.size _ _ rfl (two_cells R0 R1).1 (two_cells R0 R1).2) rfl HP.out
   ·have A1 : Hid (¬ Hold 3000 f a (valA 3000 f a / 10 ^ (p + (3000 : Nat)).toNat * 10 ^ (p + (3000 : Nat)).toNat)) := by unfold Hid; rw [← HH3.out]; exact fun h => qa (HXA.out.2 h)
    have ta : (ra == A) = false := by rw [beq_eq_false_iff_ne]; exact qa
    by_cases qb : rb = A
    ·have HP := hid (HHI.out w7 (Below.refl _ _) (by rw [HX5.out]; exact ref_hi HMOD.out A1.out (by rw [← HH5.out]; exact HXB.out.1 qb)))
     have tb : (rb == A) = true := by rw [qb]; simp
     clear qa qb
     go_wp2
     exact bodyPost_ret (v := .agg #[.slice ao5 L5.length cp5, .int .i64 e5]) (dec_results rfl _ _ w.heap.size _ _ rfl (two_cells R0 R1).1 (two_cells R0 R1).2) rfl HP.out
    ·have HN : Hid (StepNo (Hold 3000 f a) (valA 3000 f a) (10 ^ (p + (3000 : Nat)).toNat)) := ref_no HMOD.out A1.out (by rw [← HH5.out]; exact fun h => qb (HXB.out.2 h))
     have tb : (rb == A) = false := by rw [beq_eq_false_iff_ne]; exact qb
     have hpe : e < p := by
      rcases (by omega : e = p ∨ e < p) with g | g
      ·exfalso; apply HMOD.out; rw [← HVAL.out, ← g]; unfold val; exact Nat.mul_mod_left _ _
      ·exact g
     have HNX : Hid (NoneTo f a T (T - (k + 1) + 1)) := fun q c d => by
      rcases (by omega : q = p ∨ p < q) with g | g
      ·rw [g]; exact HN.out
      ·exact HNO.out q g d
     clear qa qb
     go_wp2
     go_roundw
     case rel => exact ⟨k + 1, by go_num, by omega, by omega, HNX.out, HBW7.out⟩
     case measure => simp [intOf]; omega
end Go.Proofs.YtbkdaoicnobllabGreatDoor

namespace Go.Proofs.YtbkdaoicnobllabGreatDoor
set_option maxRecDepth 100000
set_option maxHeartbeats 1000000
open Go.RowKit

theorem shortT_len (pl : Bool) (L : List Nat) (g : Int) (h1 : -1100 ≤ g) (h2 : g + L.length ≤ 402) : (shortT pl L g).length ≤ 5000 := by
 unfold shortT
 split
 ·have q := fixT_length L g (highN L g) (-(min g 0)).toNat
  have q2 := highN_le L g 402 (by omega)
  omega
 ·have q := sciT_length L g (g + L.length - 1) (L.length - 1)
  have q2 := Lib.itoa_length_le (g + L.length - 1) (by omega) (by omega)
  rw [List.length_append, List.length_cons]
  omega
theorem rtextSh (f A : Int) (a : Nat) (ng : Bool) (prec mode P LO : Int) (hA : A = (a : Int)) (hf : 0 ≤ f ∧ f ≤ 2) (ha : (a : Int) < infA f) (w : World) :
  Calls Tryz.prog 52 #[.int .i64 f, .int .i64 A, .bool ng, .int .i64 0, .int .i64 prec, .int .i64 mode, .int .i64 P, .int .i64 LO] w fun r w' => TextPost w w' r (ShortQ false f a) := by
 have HV := hid (fun w => value_any f a w hf (by omega))
 rw [← hA] at HV
 by_cases h0 : a = 0
 ·have hA0 : A = 0 := by omega
  subst hA0
  have H0 := hid h0
  clear hA hf ha h0
  go_enter Tryz.func52, Tryz.ntmps52
  go_wp2_with fail
  refine (HV.out _).mono ?_
  rintro r w1 ⟨hb1, v', L, e, rfl, hout⟩
  obtain ⟨ao, cp, hv⟩ := hout.row.isSlice
  subst hv
  have HB1 : Hid (Below w.heap.size w (w1.alloc (.cells #[.slice ao L.length cp, .int .i64 e] 95))) := hb1.alloc hb1.size _
  clear hb1 hout HV
  go_wp2
  go_ret
  exact ⟨[48], rfl, .inl ⟨H0.out, rfl⟩, by simp, HB1.out⟩
 ·have hA0 : (A == 0) = false := by rw [beq_eq_false_iff_ne]; omega
  have hA1 : ¬ A = 0 := by omega
  have H1 : Hid (0 < a) := by unfold Hid; omega
  have HSH := hid (fun w => shortest_any f A a w hA hf (by omega) ha)
  clear hA hf ha h0
  go_enter Tryz.func52, Tryz.ntmps52
  go_wp2_with fail
  refine (HV.out _).mono ?_
  rintro r w1 ⟨hb1, v', L, e, rfl, hout⟩
  obtain ⟨ao, cp, hv⟩ := hout.row.isSlice
  subst hv
  have HB1 : Hid (Below w.heap.size w (w1.alloc (.cells #[.slice ao L.length cp, .int .i64 e] 95))) := hb1.alloc hb1.size _
  clear hb1 hout HV
  go_wp2_with fail
  refine (HSH.out _).mono ?_
  rintro r w2 ⟨v2, L2, e2, rfl, hrow, hnorm, hne, ⟨hg1, hg2⟩, ⟨D, e', p, hsa⟩, hb2⟩
  obtain ⟨ao2, cp2, hv2⟩ := hrow.isSlice
  subst hv2
  have HB2 : Hid (Below w.heap.size w (w2.alloc (.cells #[.slice ao2 L2.length cp2, .int .i64 e2] 95))) := (HB1.out.trans (hb2.mono HB1.out.size)).alloc (HB1.out.trans (hb2.mono HB1.out.size)).size _
  have HR2 : Hid (Row (w2.alloc (.cells #[.slice ao2 L2.length cp2, .int .i64 e2] 95)) (.slice ao2 L2.length cp2) L2) := hrow.below ((Below.refl _ _).alloc (Nat.le_refl _) _) (Nat.le_refl _)
  have HN2 := hid (And.intro hnorm hne)
  have hl2 := List.length_pos_iff.2 hne
  have HQ : Hid (ShortQ false f a (sciT L2 e2 (e2 + L2.length - 1) (cntS L2 (-1)) ++ (101 :: Lib.itoa (e2 + L2.length - 1))) ∧ (sciT L2 e2 (e2 + L2.length - 1) (cntS L2 (-1)) ++ (101 :: Lib.itoa (e2 + L2.length - 1))).length ≤ 5000) := by
   have ht : sciT L2 e2 (e2 + L2.length - 1) (cntS L2 (-1)) ++ (101 :: Lib.itoa (e2 + L2.length - 1)) = shortT false L2 e2 := by unfold shortT cntS; rw [if_pos (by omega), if_neg (by decide)]
   rw [ht]
   exact ⟨.inr ⟨H1.out, D, e', p, _, L2, e2, hsa, hnorm, hne, by omega, rfl, rfl⟩, shortT_len _ _ _ hg1 hg2⟩
  clear hrow hnorm hne hsa hb2 HSH
  go_wp2_with fail
  refine (scientific_any (.slice ao2 L2.length cp2) L2 e2 (-1) _ HR2.out HN2.out.1.digs hl2 (by omega) (by omega) (by omega) (by omega)).mono ?_
  rintro r w3 ⟨rfl, hb3⟩
  have HB3 : Hid (Below w.heap.size w w3) := HB2.out.trans (hb3.mono HB2.out.size)
  clear hb3
  go_wp2
  go_ret
  exact ⟨_, rfl, HQ.out.1, HQ.out.2, HB3.out⟩
theorem rtextPl (f A : Int) (a : Nat) (ng : Bool) (prec mode P LO : Int) (hA : A = (a : Int)) (hf : 0 ≤ f ∧ f ≤ 2) (ha : (a : Int) < infA f) (w : World) :
  Calls Tryz.prog 52 #[.int .i64 f, .int .i64 A, .bool ng, .int .i64 1, .int .i64 prec, .int .i64 mode, .int .i64 P, .int .i64 LO] w fun r w' => TextPost w w' r (ShortQ true f a) := by
 have HV := hid (fun w => value_any f a w hf (by omega))
 rw [← hA] at HV
 by_cases h0 : a = 0
 ·have hA0 : A = 0 := by omega
  subst hA0
  have H0 := hid h0
  clear hA hf ha h0
  go_enter Tryz.func52, Tryz.ntmps52
  go_wp2_with fail
  refine (HV.out _).mono ?_
  rintro r w1 ⟨hb1, v', L, e, rfl, hout⟩
  obtain ⟨ao, cp, hv⟩ := hout.row.isSlice
  subst hv
  have HB1 : Hid (Below w.heap.size w (w1.alloc (.cells #[.slice ao L.length cp, .int .i64 e] 95))) := hb1.alloc hb1.size _
  clear hb1 hout HV
  go_wp2
  go_ret
  exact ⟨[48], rfl, .inl ⟨H0.out, rfl⟩, by simp, HB1.out⟩
 ·have hA0 : (A == 0) = false := by rw [beq_eq_false_iff_ne]; omega
  have hA1 : ¬ A = 0 := by omega
  have H1 : Hid (0 < a) := by unfold Hid; omega
  have HSH := hid (fun w => shortest_any f A a w hA hf (by omega) ha)
  clear hA hf ha h0
  go_enter Tryz.func52, Tryz.ntmps52
  go_wp2_with fail
  refine (HV.out _).mono ?_
  rintro r w1 ⟨hb1, v', L, e, rfl, hout⟩
  obtain ⟨ao, cp, hv⟩ := hout.row.isSlice
  subst hv
  have HB1 : Hid (Below w.heap.size w (w1.alloc (.cells #[.slice ao L.length cp, .int .i64 e] 95))) := hb1.alloc hb1.size _
  clear hb1 hout HV
  go_wp2_with fail
  refine (HSH.out _).mono ?_
  rintro r w2 ⟨v2, L2, e2, rfl, hrow, hnorm, hne, ⟨hg1, hg2⟩, ⟨D, e', p, hsa⟩, hb2⟩
  obtain ⟨ao2, cp2, hv2⟩ := hrow.isSlice
  subst hv2
  have HB2 : Hid (Below w.heap.size w (w2.alloc (.cells #[.slice ao2 L2.length cp2, .int .i64 e2] 95))) := (HB1.out.trans (hb2.mono HB1.out.size)).alloc (HB1.out.trans (hb2.mono HB1.out.size)).size _
  have HR2 : Hid (Row (w2.alloc (.cells #[.slice ao2 L2.length cp2, .int .i64 e2] 95)) (.slice ao2 L2.length cp2) L2) := hrow.below ((Below.refl _ _).alloc (Nat.le_refl _) _) (Nat.le_refl _)
  have HN2 := hid (And.intro hnorm hne)
  have hl2 := List.length_pos_iff.2 hne
  have HQ : Hid (ShortQ true f a (fixT L2 e2 (highN L2 e2) (cntN e2 (-1))) ∧ (fixT L2 e2 (highN L2 e2) (cntN e2 (-1))).length ≤ 5000) := by
   have ht : fixT L2 e2 (highN L2 e2) (cntN e2 (-1)) = shortT true L2 e2 := by unfold shortT cntN; rw [if_pos rfl, if_pos (by omega)]
   rw [ht]
   exact ⟨.inr ⟨H1.out, D, e', p, _, L2, e2, hsa, hnorm, hne, by omega, rfl, rfl⟩, shortT_len _ _ _ hg1 hg2⟩
  clear hrow hnorm hne hsa hb2 HSH
  go_wp2_with fail
  refine (plain_any (.slice ao2 L2.length cp2) L2 e2 (-1) _ HR2.out HN2.out.1.digs (by omega) (by omega) (by omega) (by omega)).mono ?_
  rintro r w3 ⟨rfl, hb3⟩
  have HB3 : Hid (Below w.heap.size w w3) := HB2.out.trans (hb3.mono HB2.out.size)
  clear hb3
  go_wp2
  go_ret
  exact ⟨_, rfl, HQ.out.1, HQ.out.2, HB3.out⟩
end Go.Proofs.YtbkdaoicnobllabGreatDoor
