import Derived.Test.YtbkdaoicnobllaaGreatDoorG24
import Derived.Test.YtbkdaoicnobllaaGreatDoorG11
import Derived.Test.YtbkdaoicnobllaaGreatDoorG22
import Derived.Test.YtbkdaoicnobllaaGreatDoorG21
import Derived.Test.YtbkdaoicnobllaaGreatDoorG07

namespace Go.Proofs.YtbkdaoicnobllaaGreatDoor
open Go.RowKit

/-- An amount below infinity's. -/
def finV (f a : Int) : Int := a % sgnF f % infN f
theorem finV_bd {f : Int} (hf : 0 ≤ f ∧ f ≤ 2) (a : Int) : 0 ≤ finV f a ∧ finV f a < infN f := by
  have h : (0 : Int) < infN f := by
    rcases (by omega : f = 0 ∨ f = 1 ∨ f = 2) with rfl | rfl | rfl <;> decide
  unfold finV
  exact ⟨Int.emod_nonneg _ (by omega), Int.emod_lt_of_pos _ h⟩
theorem infN_i64 {f : Int} (hf : 0 ≤ f ∧ f ≤ 2) : (infN f : Int) ≤ 9218868437227405312 := by
  rcases (by omega : f = 0 ∨ f = 1 ∨ f = 2) with rfl | rfl | rfl <;> decide
set_option maxRecDepth 100000 in
set_option maxHeartbeats 1000000 in
theorem finite0 (a : Int) (ha : -9223372036854775808 ≤ a ∧ a ≤ 9223372036854775807) (w : World) :
    Calls Tryz.prog 10 #[.int .i64 a, .int .i64 16, .int .i64 10] w fun e w' => e = .returned (.int .i64 (finV 0 a)) ∧ Below w.heap.size w w' := by
  obtain ⟨A, hA⟩ : ∃ A : Int, A = a % 32768 := ⟨_, rfl⟩
  have hm : bits .and .i64 a 32767 = A := by rw [hA]; exact and_mask a 15 (by omega)
  have hA1 : 0 ≤ A := by omega
  have hA2 : A < 32768 := by omega
  have HS : Hid (A % 31744 = finV 0 a) := by unfold Hid finV; rw [hA]; rfl
  clear hA
  obtain ⟨hB1, hB2⟩ := ha
  have hw : wrap64 (wrap64 9223372036854775808 - 1) = 9223372036854775807 := by unfold wrap64; decide
  have hw2 : wrap64 (wrap64 9223372036854775808 - 4503599627370496) = 9218868437227405312 := by unfold wrap64; decide
  go_enter Tryz.func10, Tryz.ntmps10
  go_wp2_with fail
  go_quiet (fail)
  go_wp2
  all_goals (go_ret; exact ⟨by rw [← HS.out]; rfl, ((Still.refl w).drewN _).below _⟩)
set_option maxRecDepth 100000 in
set_option maxHeartbeats 1000000 in
theorem finite1 (a : Int) (ha : -9223372036854775808 ≤ a ∧ a ≤ 9223372036854775807) (w : World) :
    Calls Tryz.prog 10 #[.int .i64 a, .int .i64 32, .int .i64 23] w fun e w' => e = .returned (.int .i64 (finV 1 a)) ∧ Below w.heap.size w w' := by
  obtain ⟨A, hA⟩ : ∃ A : Int, A = a % 2147483648 := ⟨_, rfl⟩
  have hm : bits .and .i64 a 2147483647 = A := by rw [hA]; exact and_mask a 31 (by omega)
  have hA1 : 0 ≤ A := by omega
  have hA2 : A < 2147483648 := by omega
  have HS : Hid (A % 2139095040 = finV 1 a) := by unfold Hid finV; rw [hA]; rfl
  clear hA
  obtain ⟨hB1, hB2⟩ := ha
  have hw : wrap64 (wrap64 9223372036854775808 - 1) = 9223372036854775807 := by unfold wrap64; decide
  have hw2 : wrap64 (wrap64 9223372036854775808 - 4503599627370496) = 9218868437227405312 := by unfold wrap64; decide
  go_enter Tryz.func10, Tryz.ntmps10
  go_wp2_with fail
  go_quiet (fail)
  go_wp2
  all_goals (go_ret; exact ⟨by rw [← HS.out]; rfl, ((Still.refl w).drewN _).below _⟩)
set_option maxRecDepth 100000 in
set_option maxHeartbeats 1000000 in
theorem finite2 (a : Int) (ha : -9223372036854775808 ≤ a ∧ a ≤ 9223372036854775807) (w : World) :
    Calls Tryz.prog 10 #[.int .i64 a, .int .i64 64, .int .i64 52] w fun e w' => e = .returned (.int .i64 (finV 2 a)) ∧ Below w.heap.size w w' := by
  obtain ⟨A, hA⟩ : ∃ A : Int, A = a % 9223372036854775808 := ⟨_, rfl⟩
  have hm : bits .and .i64 a 9223372036854775807 = A := by rw [hA]; exact and_mask a 63 (by omega)
  have hA1 : 0 ≤ A := by omega
  have hA2 : A < 9223372036854775808 := by omega
  have HS : Hid (A % 9218868437227405312 = finV 2 a) := by unfold Hid finV; rw [hA]; rfl
  clear hA
  obtain ⟨hB1, hB2⟩ := ha
  have hw : wrap64 (wrap64 9223372036854775808 - 1) = 9223372036854775807 := by unfold wrap64; decide
  have hw2 : wrap64 (wrap64 9223372036854775808 - 4503599627370496) = 9218868437227405312 := by unfold wrap64; decide
  go_enter Tryz.func10, Tryz.ntmps10
  go_wp2_with fail
  go_quiet (fail)
  go_wp2
  all_goals (go_ret; exact ⟨by rw [← HS.out]; rfl, ((Still.refl w).drewN _).below _⟩)
theorem finite_any (f a : Int) (hf : 0 ≤ f ∧ f ≤ 2) (ha : -9223372036854775808 ≤ a ∧ a ≤ 9223372036854775807) (w : World) :
    Calls Tryz.prog 10 #[.int .i64 a, .int .i64 (fW f), .int .i64 (fQ f : Nat)] w fun e w' => e = .returned (.int .i64 (finV f a)) ∧ Below w.heap.size w w' := by
  rcases (by omega : f = 0 ∨ f = 1 ∨ f = 2) with rfl | rfl | rfl
  · exact finite0 a ha w
  · exact finite1 a ha w
  · exact finite2 a ha w
/-- What Format answers of a finite amount. -/
def GoodPost (w w' : World) (r : Ending) (Q : List UInt8 → Prop) : Prop := ∃ T : List UInt8, r = .returned (.tuple #[.string (str T), .int .i64 0]) ∧ Q T ∧ T.length ≤ 5000 ∧ Below w.heap.size w w'
theorem fin_pat {f v : Int} (hf : 0 ≤ f ∧ f ≤ 2) (h0 : 0 ≤ v) (h1 : v < infN f) : hasB f v = true ∧ negI f v = false ∧ amtI f v = v := by
  rcases (by omega : f = 0 ∨ f = 1 ∨ f = 2) with rfl | rfl | rfl
  · have h1 : v < 31744 := h1
    simp [hasB, negI, amtI, sgnF]; omega
  · have h1 : v < 2139095040 := h1
    simp [hasB, negI, amtI, sgnF]; omega
  · have h1 : v < 9218868437227405312 := h1
    simp [hasB, negI, amtI, sgnF]; omega
theorem fmt_good {f v verb prec mode : Int} {w w' : World} {r : Ending} {Q : List UInt8 → Prop} (hf : 0 ≤ f ∧ f ≤ 2) (h0 : 0 ≤ v) (h1 : v < infN f) (ha : allowB verb prec mode = true) (h : FmtPost f v verb prec mode w w' r Q) : GoodPost w w' r Q := by
  obtain ⟨p1, p2, p3⟩ := fin_pat hf h0 h1
  rcases h with ⟨_, _, T, rfl, hq, hl, hb⟩ | ⟨hn, _⟩
  · refine ⟨T, ?_, hq (by rw [p3]; exact h1), hl, hb⟩
    unfold outT
    rw [p3, p2, if_neg (by omega), if_pos h1]; rfl
  · exact absurd ⟨p1, ha⟩ hn
set_option maxRecDepth 100000 in
set_option maxHeartbeats 1000000 in
theorem prints_of (cv : Value) (v f verb prec : Int) (Q : List UInt8 → Prop) (w : World)
    (HF0 : Calls Tryz.prog 14 #[cv, .int .i64 v, .int .i64 f, .int .i64 verb, .int .i64 prec, .int .i64 0] w fun r w' => GoodPost w w' r Q) :
    Calls Tryz.prog 11 #[cv, .int .i64 v, .int .i64 f, .int .i64 verb, .int .i64 prec] w fun r w' => TextPost w w' r Q := by
  have HF := hid HF0
  clear HF0
  go_enter Tryz.func11, Tryz.ntmps11
  go_wp2_with fail
  refine HF.out.mono ?_
  rintro r w1 ⟨T, rfl, hq, hl, hb⟩
  have HP : Hid (TextPost w w1 (.returned (.string (str T))) Q) := ⟨T, rfl, hq, hl, hb⟩
  clear hq hl hb HF
  go_wp2
  all_goals (go_ret; exact HP.out)
end Go.Proofs.YtbkdaoicnobllaaGreatDoor

namespace Go.Proofs.YtbkdaoicnobllaaGreatDoor
open Go.RowKit

theorem pnew_any (w : World) : Calls Tryz.prog 5 #[] w fun e w' => ∃ v, e = .returned v ∧ Below w.heap.size w w' := by
  go_enter Tryz.func5, Tryz.ntmps5
  go_wp2
  go_ret
  exact ⟨_, rfl, (Below.refl _ _).alloc (Nat.le_refl _) _⟩
theorem allow_short {v prec mode : Int} (hv : v = 0 ∨ v = 1 ∨ v = 4) (h : allowB v prec mode = true) : prec = -1 ∧ mode = 0 := by
  unfold allowB at h; rw [if_pos hv] at h; simpa using h
theorem allow_exact {v prec mode : Int} (hv : v = 2 ∨ v = 3) (h : allowB v prec mode = true) : 0 ≤ prec ∧ prec ≤ 800 ∧ 0 ≤ mode ∧ mode ≤ 4 := by
  unfold allowB at h; rw [if_neg (by omega), if_pos hv] at h; simpa using h
end Go.Proofs.YtbkdaoicnobllaaGreatDoor

namespace Go.Proofs.YtbkdaoicnobllaaGreatDoor
open Go.RowKit

theorem pExpF0 (cv : Value) (x prec mode : Int) (h1 : -9223372036854775808 ≤ x) (h2 : x ≤ 9223372036854775807) (w : World) (ht : Tab w) : Calls Tryz.prog 14 #[cv, .int .i64 x, .int .i64 0, .int .i64 2, .int .i64 prec, .int .i64 mode] w fun r w' => FmtPost 0 x 2 prec mode w w' r (ExpQ (awayB mode (negI 0 x)) (valA 3000 0 (amtI 0 x).toNat) prec.toNat) :=
  pformat0 cv x 2 prec mode _ h1 h2 w ht (fun ha a hA hlt w hw => by
    obtain ⟨p1, p2, p3, p4⟩ := allow_exact (by omega) ha
    have := numExp0 a (negI 0 x) prec mode p1 p2 hlt w hw
    rw [show (amtI 0 x).toNat = a from by omega]; exact this)
theorem pExpF1 (cv : Value) (x prec mode : Int) (h1 : -9223372036854775808 ≤ x) (h2 : x ≤ 9223372036854775807) (w : World) (ht : Tab w) : Calls Tryz.prog 14 #[cv, .int .i64 x, .int .i64 1, .int .i64 2, .int .i64 prec, .int .i64 mode] w fun r w' => FmtPost 1 x 2 prec mode w w' r (ExpQ (awayB mode (negI 1 x)) (valA 3000 1 (amtI 1 x).toNat) prec.toNat) :=
  pformat1 cv x 2 prec mode _ h1 h2 w ht (fun ha a hA hlt w hw => by
    obtain ⟨p1, p2, p3, p4⟩ := allow_exact (by omega) ha
    have := numExp1 a (negI 1 x) prec mode p1 p2 hlt w hw
    rw [show (amtI 1 x).toNat = a from by omega]; exact this)
theorem pExpF2 (cv : Value) (x prec mode : Int) (h1 : -9223372036854775808 ≤ x) (h2 : x ≤ 9223372036854775807) (w : World) (ht : Tab w) : Calls Tryz.prog 14 #[cv, .int .i64 x, .int .i64 2, .int .i64 2, .int .i64 prec, .int .i64 mode] w fun r w' => FmtPost 2 x 2 prec mode w w' r (ExpQ (awayB mode (negI 2 x)) (valA 3000 2 (amtI 2 x).toNat) prec.toNat) :=
  pformat2 cv x 2 prec mode _ h1 h2 w ht (fun ha a hA hlt w hw => by
    obtain ⟨p1, p2, p3, p4⟩ := allow_exact (by omega) ha
    have := numExp2 a (negI 2 x) prec mode p1 p2 hlt w hw
    rw [show (amtI 2 x).toNat = a from by omega]; exact this)
theorem pFixF0 (cv : Value) (x prec mode : Int) (h1 : -9223372036854775808 ≤ x) (h2 : x ≤ 9223372036854775807) (w : World) (ht : Tab w) : Calls Tryz.prog 14 #[cv, .int .i64 x, .int .i64 0, .int .i64 3, .int .i64 prec, .int .i64 mode] w fun r w' => FmtPost 0 x 3 prec mode w w' r (FixQ (awayB mode (negI 0 x)) (valA 3000 0 (amtI 0 x).toNat) prec.toNat) :=
  pformat0 cv x 3 prec mode _ h1 h2 w ht (fun ha a hA hlt w hw => by
    obtain ⟨p1, p2, p3, p4⟩ := allow_exact (by omega) ha
    have := numFix0 a (negI 0 x) prec mode p1 p2 hlt w hw
    rw [show (amtI 0 x).toNat = a from by omega]; exact this)
theorem pFixF1 (cv : Value) (x prec mode : Int) (h1 : -9223372036854775808 ≤ x) (h2 : x ≤ 9223372036854775807) (w : World) (ht : Tab w) : Calls Tryz.prog 14 #[cv, .int .i64 x, .int .i64 1, .int .i64 3, .int .i64 prec, .int .i64 mode] w fun r w' => FmtPost 1 x 3 prec mode w w' r (FixQ (awayB mode (negI 1 x)) (valA 3000 1 (amtI 1 x).toNat) prec.toNat) :=
  pformat1 cv x 3 prec mode _ h1 h2 w ht (fun ha a hA hlt w hw => by
    obtain ⟨p1, p2, p3, p4⟩ := allow_exact (by omega) ha
    have := numFix1 a (negI 1 x) prec mode p1 p2 hlt w hw
    rw [show (amtI 1 x).toNat = a from by omega]; exact this)
theorem pFixF2 (cv : Value) (x prec mode : Int) (h1 : -9223372036854775808 ≤ x) (h2 : x ≤ 9223372036854775807) (w : World) (ht : Tab w) : Calls Tryz.prog 14 #[cv, .int .i64 x, .int .i64 2, .int .i64 3, .int .i64 prec, .int .i64 mode] w fun r w' => FmtPost 2 x 3 prec mode w w' r (FixQ (awayB mode (negI 2 x)) (valA 3000 2 (amtI 2 x).toNat) prec.toNat) :=
  pformat2 cv x 3 prec mode _ h1 h2 w ht (fun ha a hA hlt w hw => by
    obtain ⟨p1, p2, p3, p4⟩ := allow_exact (by omega) ha
    have := numFix2 a (negI 2 x) prec mode p1 p2 hlt w hw
    rw [show (amtI 2 x).toNat = a from by omega]; exact this)
end Go.Proofs.YtbkdaoicnobllaaGreatDoor

namespace Go.Proofs.YtbkdaoicnobllaaGreatDoor
open Go.RowKit

theorem allow_exp {verb n mode : Int} (hv : verb = 2 ∨ verb = 3) (hn : 0 ≤ n ∧ n ≤ 800) (hm : 0 ≤ mode ∧ mode ≤ 4) : allowB verb n mode = true := by
  unfold allowB
  rw [if_neg (by omega), if_pos hv]; simp; omega
theorem kexp_any (cv : Value) (f v n mode : Int) (hf : 0 ≤ f ∧ f ≤ 2) (h0 : 0 ≤ v) (h1 : v < infN f) (hn : 0 ≤ n ∧ n ≤ 800) (hm : 0 ≤ mode ∧ mode ≤ 4) (w : World) (ht : Tab w) :
    Calls Tryz.prog 14 #[cv, .int .i64 v, .int .i64 f, .int .i64 2, .int .i64 n, .int .i64 mode] w fun r w' => GoodPost w w' r (ExpQ (awayB mode false) (valA 3000 f v.toNat) n.toNat) := by
  have hi := infN_i64 hf
  obtain ⟨p1, p2, p3⟩ := fin_pat hf h0 h1
  have ha := allow_exp (verb := 2) (.inl rfl) hn hm
  rcases (by omega : f = 0 ∨ f = 1 ∨ f = 2) with rfl | rfl | rfl
  · refine (pExpF0 cv v n mode (by omega) (by omega) w ht).mono fun r w' h => ?_
    rw [p2, p3] at h
    exact fmt_good hf h0 h1 ha h
  · refine (pExpF1 cv v n mode (by omega) (by omega) w ht).mono fun r w' h => ?_
    rw [p2, p3] at h
    exact fmt_good hf h0 h1 ha h
  · refine (pExpF2 cv v n mode (by omega) (by omega) w ht).mono fun r w' h => ?_
    rw [p2, p3] at h
    exact fmt_good hf h0 h1 ha h
theorem kfix_any (cv : Value) (f v n mode : Int) (hf : 0 ≤ f ∧ f ≤ 2) (h0 : 0 ≤ v) (h1 : v < infN f) (hn : 0 ≤ n ∧ n ≤ 800) (hm : 0 ≤ mode ∧ mode ≤ 4) (w : World) (ht : Tab w) :
    Calls Tryz.prog 14 #[cv, .int .i64 v, .int .i64 f, .int .i64 3, .int .i64 n, .int .i64 mode] w fun r w' => GoodPost w w' r (FixQ (awayB mode false) (valA 3000 f v.toNat) n.toNat) := by
  have hi := infN_i64 hf
  obtain ⟨p1, p2, p3⟩ := fin_pat hf h0 h1
  have ha := allow_exp (verb := 3) (.inr rfl) hn hm
  rcases (by omega : f = 0 ∨ f = 1 ∨ f = 2) with rfl | rfl | rfl
  · refine (pFixF0 cv v n mode (by omega) (by omega) w ht).mono fun r w' h => ?_
    rw [p2, p3] at h
    exact fmt_good hf h0 h1 ha h
  · refine (pFixF1 cv v n mode (by omega) (by omega) w ht).mono fun r w' h => ?_
    rw [p2, p3] at h
    exact fmt_good hf h0 h1 ha h
  · refine (pFixF2 cv v n mode (by omega) (by omega) w ht).mono fun r w' h => ?_
    rw [p2, p3] at h
    exact fmt_good hf h0 h1 ha h
theorem kprints_exp (cv : Value) (f v n : Int) (a m : Nat) (hf : 0 ≤ f ∧ f ≤ 2) (ha : v = (a : Int)) (h1 : v < infN f) (hn : n = (m : Int)) (hm : m ≤ 800) (w : World) (ht : Tab w) :
    Calls Tryz.prog 11 #[cv, .int .i64 v, .int .i64 f, .int .i64 2, .int .i64 n] w fun r w' => TextPost w w' r (ExpQ (awayB 0 false) (valA 3000 f a) m) := by
  have := kexp_any cv f v n 0 hf (by omega) h1 (by omega) (by omega) w ht
  rw [show v.toNat = a from by omega, show n.toNat = m from by omega] at this
  exact prints_of cv v f 2 n _ w this
theorem kprints_fix (cv : Value) (f v n : Int) (a m : Nat) (hf : 0 ≤ f ∧ f ≤ 2) (ha : v = (a : Int)) (h1 : v < infN f) (hn : n = (m : Int)) (hm : m ≤ 800) (w : World) (ht : Tab w) :
    Calls Tryz.prog 11 #[cv, .int .i64 v, .int .i64 f, .int .i64 3, .int .i64 n] w fun r w' => TextPost w w' r (FixQ (awayB 0 false) (valA 3000 f a) m) := by
  have := kfix_any cv f v n 0 hf (by omega) h1 (by omega) (by omega) w ht
  rw [show v.toNat = a from by omega, show n.toNat = m from by omega] at this
  exact prints_of cv v f 3 n _ w this
end Go.Proofs.YtbkdaoicnobllaaGreatDoor

/- Known texts: what is told of them, by reckoning. -/
namespace Go.Proofs.YtbkdaoicnobllaaGreatDoor

/-- Where a number lies, the amount below it being known. -/
def RoundAt (K : Nat) (f mode : Int) (neg : Bool) (X : Nat) (r fl : Int) (a : Nat) : Prop :=
  (X = 0 ∧ r = 0 ∧ fl = 0) ∨
  (0 < X ∧ valA K f (infN f) ≤ X ∧ fl = 3 ∧ r = if awayB mode neg 3 true = true then (infN f : Int) else (infN f : Int) - 1) ∨
  (0 < X ∧ X < valA K f (infN f) ∧ a < infN f ∧ valA K f a ≤ X ∧ X < valA K f (a + 1) ∧
    ((X = valA K f a ∧ r = a ∧ fl = 0) ∨
     (X ≠ valA K f a ∧ r = (if awayB mode neg (cmpN (X * 2) (valA K f a + valA K f (a + 1)) + 2) (a % 2 == 1) = true then (a : Int) + 1 else (a : Int)) ∧
      fl = 1 + (if X < two K (fLow f) then 4 else 0) + (if r = infN f then 2 else 0))))
instance (K : Nat) (f mode : Int) (neg : Bool) (X : Nat) (r fl : Int) (a : Nat) : Decidable (RoundAt K f mode neg X r fl a) := by unfold RoundAt; infer_instance
theorem RoundAt.spec {K : Nat} {f mode : Int} {neg : Bool} {X : Nat} {r fl : Int} {a : Nat} (h : RoundAt K f mode neg X r fl a) : RoundSpec K f mode neg X r fl := by
  rcases h with h | h | ⟨h1, h2, h3, h4, h5, h6⟩
  · exact .inl h
  · exact .inr (.inl h)
  · exact .inr (.inr ⟨h1, h2, a, h3, h4, h5, h6⟩)
/-- No state on the way is the dead one. -/
def liveB (l : List Nat) (k : Nat) : Bool := (List.range (k + 1)).all (fun j => stAt l j != 28)
theorem liveB_of {l : List Nat} {k : Nat} (h : liveB l k = true) : ∀ j, j ≤ k → stAt l j ≠ 28 := by
  intro j hj
  unfold liveB at h
  rw [List.all_eq_true] at h
  have := h j (List.mem_range.2 (by omega))
  simpa using this
/-- The text says a number; r and fl are what it comes to. -/
def numOK (l : List Nat) (f mode : Int) (st a : Nat) (r fl : Int) : Bool :=
  decide (l.length ≤ 900) && liveB l l.length && (stAt l l.length == st) && (st == 15 || st == 2 || st == 3 || st == 4 || st == 6 || st == 9) && decide (RoundAt 30000 f mode (decide (l.getD 0 0 = 45)) (numX 30000 (body l) st) r fl a)
/-- The text is none, and it is told where. -/
def failOK (l : List Nat) (k : Nat) : Bool :=
  decide (l.length ≤ 900) && liveB l k && ((decide (k < l.length) && stAt l (k + 1) == 28) || (k == l.length && !(endsB (stAt l k))))
theorem num_eval {l : List Nat} {f mode : Int} {st a : Nat} {r fl b g at' err : Int} (hv : 0 ≤ f ∧ f ≤ 2 ∧ 0 ≤ mode ∧ mode ≤ 4) (h : numOK l f mode st a r fl = true) (hp : ProgSpec 30000 l f mode b g at' err) :
    b = signedV f (decide (l.getD 0 0 = 45)) r ∧ g = fl ∧ at' = 0 ∧ err = 0 := by
  unfold numOK at h
  simp only [Bool.and_eq_true, decide_eq_true_eq, beq_iff_eq, Bool.or_eq_true] at h
  obtain ⟨⟨⟨⟨h1, h2⟩, h3⟩, h4⟩, h5⟩ := h
  have he : endsB st = true := by
    rcases h4 with ((((h | h) | h) | h) | h) | h <;> (subst h; rfl)
  have hr : ReadSpec l st l.length true := .inr ⟨liveB_of h2, h3.symm, rfl, he.symm⟩
  rcases hp with ⟨gv, _⟩ | ⟨_, gl, _⟩ | ⟨_, _, st2, a2, ok2, hr2, hc⟩
  · exact absurd hv gv
  · omega
  · obtain ⟨e1, e2, e3⟩ := ReadSpec.one hr hr2
    subst e1 e3
    rcases hc with ⟨g0, _⟩ | ⟨_, g1, g2, ho⟩
    · cases g0
    · rcases ho with ⟨o1, _⟩ | ⟨o1, _⟩ | ⟨_, r2, o1, o2⟩
      · omega
      · omega
      · obtain ⟨z1, z2⟩ := RoundSpec.one (by decide) h5.spec o1
        exact ⟨by rw [o2, z1], z2.symm, g1, g2⟩
theorem fail_eval {l : List Nat} {f mode : Int} {k : Nat} {b g at' err : Int} (hv : 0 ≤ f ∧ f ≤ 2 ∧ 0 ≤ mode ∧ mode ≤ 4) (h : failOK l k = true) (hp : ProgSpec 30000 l f mode b g at' err) :
    b = 0 ∧ g = 0 ∧ at' = k ∧ err = 3 := by
  unfold failOK at h
  simp only [Bool.and_eq_true, decide_eq_true_eq, beq_iff_eq, Bool.or_eq_true, Bool.not_eq_true'] at h
  obtain ⟨⟨h1, h2⟩, h3⟩ := h
  have hr : ∃ st, ReadSpec l st k false := by
    rcases h3 with ⟨h3, h4⟩ | ⟨h3, h4⟩
    · exact ⟨28, .inl ⟨k, h3, liveB_of h2, h4, rfl, rfl, rfl⟩⟩
    · exact ⟨_, .inr ⟨by rw [← h3]; exact liveB_of h2, rfl, h3, by rw [← h3, h4]⟩⟩
  obtain ⟨st, hr⟩ := hr
  rcases hp with ⟨gv, _⟩ | ⟨_, gl, _⟩ | ⟨_, _, st2, a2, ok2, hr2, hc⟩
  · exact absurd hv gv
  · omega
  · obtain ⟨e1, e2, e3⟩ := ReadSpec.one hr hr2
    subst e3
    rcases hc with ⟨_, g1, g2, g3, g4⟩ | ⟨g0, _⟩
    · exact ⟨g1, g2, by omega, g4⟩
    · cases g0
theorem one_half : numOK [49] 0 0 3 15360 15360 0 = true := by decide +kernel
theorem known_tiny : numOK [49, 101, 45, 57, 57, 57, 57, 57, 57, 57, 57, 57, 57, 57, 57, 57, 57, 57, 57, 57, 57, 57, 57] 0 3 9 0 1 5 = true := by decide +kernel
end Go.Proofs.YtbkdaoicnobllaaGreatDoor

namespace Go.Proofs.YtbkdaoicnobllaaGreatDoor
open Go.RowKit

theorem new_any (w : World) : Calls Tryz.prog 5 #[] w fun e w' => ∃ v, e = .returned v ∧ Below w.heap.size w w' := by
  go_enter Tryz.func5, Tryz.ntmps5
  go_wp2
  go_ret
  exact ⟨_, rfl, (Below.refl _ _).alloc (Nat.le_refl _) _⟩
end Go.Proofs.YtbkdaoicnobllaaGreatDoor

namespace Go.Proofs.YtbkdaoicnobllaaGreatDoor
open Go.RowKit

set_option maxRecDepth 100000 in
set_option maxHeartbeats 1000000 in
theorem says_any (cv : Value) (s : ByteArray) (f mode bits flags : Int) (w : World) :
    Calls Tryz.prog 13 #[cv, .string s, .int .i64 f, .int .i64 mode, .int .i64 bits, .int .i64 flags] w fun e w' =>
      ∃ b g at' err : Int, PParse s f mode b g at' err ∧ e = .returned (.bool (decide (b = bits ∧ g = flags ∧ at' = 0 ∧ err = 0))) ∧ Below w.heap.size w w' := by
  have HX := hid (parse_any cv s f mode w)
  go_enter Tryz.func13, Tryz.ntmps13
  go_wp2_with fail
  refine HX.out.mono ?_
  rintro e w1 ⟨b, g, at', err, rfl, hb, hp⟩
  have HB := hid hb
  have HP := hid hp
  clear HX hb hp
  by_cases h1 : b = bits
  · have t1 : (b == bits) = true := by simpa using h1
    by_cases h2 : g = flags
    · have t2 : (g == flags) = true := by simpa using h2
      by_cases h3 : at' = 0
      · have t3 : (at' == 0) = true := by simpa using h3
        by_cases h4 : err = 0
        · have t4 : (err == 0) = true := by simpa using h4
          have HE : Hid (decide (b = bits ∧ g = flags ∧ at' = 0 ∧ err = 0) = true) := by unfold Hid; simp [h1, h2, h3, h4]
          clear h1 h2 h3 h4
          go_wp2
          all_goals (go_ret; exact ⟨b, g, at', err, HP.out, by rw [HE.out]; rfl, HB.out⟩)
        · have t4 : (err == 0) = false := by simpa using h4
          have HE : Hid (decide (b = bits ∧ g = flags ∧ at' = 0 ∧ err = 0) = false) := by unfold Hid; simp [h4]
          clear h1 h2 h3 h4
          go_wp2
          all_goals (go_ret; exact ⟨b, g, at', err, HP.out, by rw [HE.out]; rfl, HB.out⟩)
      · have t3 : (at' == 0) = false := by simpa using h3
        have HE : Hid (decide (b = bits ∧ g = flags ∧ at' = 0 ∧ err = 0) = false) := by unfold Hid; simp [h3]
        clear h1 h2 h3
        go_wp2
        all_goals (go_ret; exact ⟨b, g, at', err, HP.out, by rw [HE.out]; rfl, HB.out⟩)
    · have t2 : (g == flags) = false := by simpa using h2
      have HE : Hid (decide (b = bits ∧ g = flags ∧ at' = 0 ∧ err = 0) = false) := by unfold Hid; simp [h2]
      clear h1 h2
      go_wp2
      all_goals (go_ret; exact ⟨b, g, at', err, HP.out, by rw [HE.out]; rfl, HB.out⟩)
  · have t1 : (b == bits) = false := by simpa using h1
    have HE : Hid (decide (b = bits ∧ g = flags ∧ at' = 0 ∧ err = 0) = false) := by unfold Hid; simp [h1]
    clear h1
    go_wp2
    all_goals (go_ret; exact ⟨b, g, at', err, HP.out, by rw [HE.out]; rfl, HB.out⟩)
end Go.Proofs.YtbkdaoicnobllaaGreatDoor

namespace Go.Proofs.YtbkdaoicnobllaaGreatDoor
open Go.RowKit

theorem phexF0 (cv : Value) (x prec mode : Int) (h1 : -9223372036854775808 ≤ x) (h2 : x ≤ 9223372036854775807) (w : World) (ht : Tab w) : Calls Tryz.prog 14 #[cv, .int .i64 x, .int .i64 0, .int .i64 4, .int .i64 prec, .int .i64 mode] w fun r w' => FmtPost 0 x 4 prec mode w w' r (HexQ 0 (amtI 0 x).toNat) :=
  pformat0 cv x 4 prec mode _ h1 h2 w ht (fun _ a hA hlt w hw => by
    have := numHex0 a (negI 0 x) prec mode hlt w hw
    rw [show (amtI 0 x).toNat = a from by omega]; exact this)
theorem phexF1 (cv : Value) (x prec mode : Int) (h1 : -9223372036854775808 ≤ x) (h2 : x ≤ 9223372036854775807) (w : World) (ht : Tab w) : Calls Tryz.prog 14 #[cv, .int .i64 x, .int .i64 1, .int .i64 4, .int .i64 prec, .int .i64 mode] w fun r w' => FmtPost 1 x 4 prec mode w w' r (HexQ 1 (amtI 1 x).toNat) :=
  pformat1 cv x 4 prec mode _ h1 h2 w ht (fun _ a hA hlt w hw => by
    have := numHex1 a (negI 1 x) prec mode hlt w hw
    rw [show (amtI 1 x).toNat = a from by omega]; exact this)
theorem phexF2 (cv : Value) (x prec mode : Int) (h1 : -9223372036854775808 ≤ x) (h2 : x ≤ 9223372036854775807) (w : World) (ht : Tab w) : Calls Tryz.prog 14 #[cv, .int .i64 x, .int .i64 2, .int .i64 4, .int .i64 prec, .int .i64 mode] w fun r w' => FmtPost 2 x 4 prec mode w w' r (HexQ 2 (amtI 2 x).toNat) :=
  pformat2 cv x 4 prec mode _ h1 h2 w ht (fun _ a hA hlt w hw => by
    have := numHex2 a (negI 2 x) prec mode hlt w hw
    rw [show (amtI 2 x).toNat = a from by omega]; exact this)
end Go.Proofs.YtbkdaoicnobllaaGreatDoor

namespace Go.Proofs.YtbkdaoicnobllaaGreatDoor
open Go.RowKit

theorem kprints_hex (cv : Value) (f v : Int) (a : Nat) (hf : 0 ≤ f ∧ f ≤ 2) (ha : v = (a : Int)) (h1 : v < infN f) (w : World) (ht : Tab w) :
    Calls Tryz.prog 11 #[cv, .int .i64 v, .int .i64 f, .int .i64 4, .int .i64 (-1)] w fun r w' => TextPost w w' r (HexQ f a) := by
  have hi := infN_i64 hf
  obtain ⟨p1, p2, p3⟩ := fin_pat hf (show 0 ≤ v by omega) h1
  have hal : allowB 4 (-1) 0 = true := rfl
  have key : Calls Tryz.prog 14 #[cv, .int .i64 v, .int .i64 f, .int .i64 4, .int .i64 (-1), .int .i64 0] w fun r w' => GoodPost w w' r (HexQ f a) := by
    rcases (by omega : f = 0 ∨ f = 1 ∨ f = 2) with rfl | rfl | rfl
    · refine (phexF0 cv v (-1) 0 (by omega) (by omega) w ht).mono fun r w' h => ?_
      rw [p3, show v.toNat = a from by omega] at h
      exact fmt_good hf (by omega) h1 hal h
    · refine (phexF1 cv v (-1) 0 (by omega) (by omega) w ht).mono fun r w' h => ?_
      rw [p3, show v.toNat = a from by omega] at h
      exact fmt_good hf (by omega) h1 hal h
    · refine (phexF2 cv v (-1) 0 (by omega) (by omega) w ht).mono fun r w' h => ?_
      rw [p3, show v.toNat = a from by omega] at h
      exact fmt_good hf (by omega) h1 hal h
  exact prints_of cv v f 4 (-1) _ w key
/-- What Parse says of what Hex wrote. -/
def PostP (P : Int) (w w' : World) (e : Ending) : Prop := ∃ at' err : Int, e = .returned (.tuple #[.int .i64 P, .int .i64 0, .int .i64 at', .int .i64 err]) ∧ Below w.heap.size w w'
theorem ksays_half (cv : Value) (T : List UInt8) (f m V fl : Int) (a lo N D d : Nat) (h : HalfAt f a lo N D) (hf : f = 0 ∨ f = 1) (h1 : a + 1 < infN f) (hd1 : 0 < d) (hd2 : d < 2 * D) (hm : 0 ≤ m ∧ m ≤ 4)
    (hV : V = (if awayB m false (cmpN d D + 2) (a % 2 == 1) = true then (a : Int) + 1 else a)) (hfl : fl = (if a < 2 ^ fQ f then 5 else 1)) (hT : ExpQ (awayB 0 false) (valA 3000 2 (dblN lo (N + d))) 300 T) (w : World) :
    Calls Tryz.prog 13 #[cv, .string (str T), .int .i64 f, .int .i64 m, .int .i64 V, .int .i64 fl] w fun e w' => e = .returned (.bool true) ∧ Below w.heap.size w w' := by
  refine (says_any cv (str T) f m V fl w).mono ?_
  rintro e w' ⟨b, g, at', err, hp, rfl, hb⟩
  obtain ⟨q1, q2, q3, q4⟩ := h.reads hf h1 hd1 hd2 hm hT hp
  refine ⟨?_, hb⟩
  rw [show decide (b = V ∧ g = fl ∧ at' = 0 ∧ err = 0) = true from by simp only [decide_eq_true_eq]; exact ⟨by rw [q1, hV], by rw [q2, hfl], q3, q4⟩]
/-- What is known of the numbers of 'half'. -/
structure HalfK (cv : Value) (f V P D fl : Int) : Prop where
  h1 : ∀ w : World, Tab w → Calls Tryz.prog 11 #[cv, .int .i64 V, .int .i64 f, .int .i64 4, .int .i64 (-1)] w fun r w' => TextPost w w' r (fun T => ∀ w, Calls Tryz.prog 12 #[cv, .string (str T), .int .i64 2, .int .i64 0] w fun e w' => PostP P w w' e)
  h2 : ∀ w : World, Tab w → Calls Tryz.prog 11 #[cv, .int .i64 (V + 1), .int .i64 f, .int .i64 4, .int .i64 (-1)] w fun r w' => TextPost w w' r (fun T => ∀ w, Calls Tryz.prog 12 #[cv, .string (str T), .int .i64 2, .int .i64 0] w fun e w' => PostP (P + 2 * D) w w' e)
  h3 : ∀ w : World, Tab w → Calls Tryz.prog 11 #[cv, .int .i64 (P + D), .int .i64 2, .int .i64 2, .int .i64 300] w fun r w' => TextPost w w' r (fun T => ∀ m X : Int, (m = 0 ∧ X = V + V % 2) ∨ (m = 1 ∧ X = V + 1) ∨ (m = 2 ∧ X = V) ∨ (m = 3 ∧ X = V + 1) → ∀ w, Calls Tryz.prog 13 #[cv, .string (str T), .int .i64 f, .int .i64 m, .int .i64 X, .int .i64 fl] w fun e w' => e = .returned (.bool true) ∧ Below w.heap.size w w')
  h4 : ∀ w : World, Tab w → Calls Tryz.prog 11 #[cv, .int .i64 (P + D - 1), .int .i64 2, .int .i64 2, .int .i64 300] w fun r w' => TextPost w w' r (fun T => ∀ w, Calls Tryz.prog 13 #[cv, .string (str T), .int .i64 f, .int .i64 1, .int .i64 V, .int .i64 fl] w fun e w' => e = .returned (.bool true) ∧ Below w.heap.size w w')
  h5 : ∀ w : World, Tab w → Calls Tryz.prog 11 #[cv, .int .i64 (P + D + 1), .int .i64 2, .int .i64 2, .int .i64 300] w fun r w' => TextPost w w' r (fun T => ∀ w, Calls Tryz.prog 13 #[cv, .string (str T), .int .i64 f, .int .i64 0, .int .i64 (V + 1), .int .i64 fl] w fun e w' => e = .returned (.bool true) ∧ Below w.heap.size w w')
theorem half_k (cv : Value) (f V : Int) (hf : f = 0 ∨ f = 1) (h0 : 0 < V) (h1 : V + 1 < infN f) : ∃ P D : Int, 0 ≤ P ∧ P ≤ 5200000000000000000 ∧ 2 ≤ D ∧ D ≤ 9007199254740992 ∧ HalfK cv f V P D (if V < ((2 ^ fQ f : Nat) : Int) then 5 else 1) := by
  obtain ⟨a, ha⟩ : ∃ a : Nat, V = (a : Int) := ⟨V.toNat, by omega⟩
  have hff : 0 ≤ f ∧ f ≤ 2 := by omega
  obtain ⟨lo, N, D, h⟩ := half_at hf (a := a) (by omega) (by omega)
  have l0 := (h.lt 0 (by omega)).1
  have lD := (h.lt (2 * D) (by omega)).1
  have n2 := h.n2
  have d2 := h.d
  have e53 : (2 : Nat) ^ 53 = 9007199254740992 := by decide
  have ed : ∀ d : Nat, ((dblN lo (N + d) : Nat) : Int) = ((dblN lo N : Nat) : Int) + d := fun d => by unfold dblN; omega
  have hfl : (if V < ((2 ^ fQ f : Nat) : Int) then (5 : Int) else 1) = (if a < 2 ^ fQ f then 5 else 1) := by
    rw [ha]
    by_cases hl : a < 2 ^ fQ f
    · rw [if_pos hl, if_pos (by exact_mod_cast hl)]
    · rw [if_neg hl, if_neg (by intro hh; exact hl (by exact_mod_cast hh))]
  have odd : ∀ o : Bool, awayB 0 false (cmpN D D + 2) o = o := fun o => by rw [cmpN_eq rfl]; rfl
  simp only [Nat.add_zero] at l0
  have lt2 : ∀ d : Nat, d ≤ 2 * D → ((dblN lo (N + d) : Nat) : Int) < (infN 2 : Nat) := fun d hd => by
    have := (h.lt d hd).1
    show ((dblN lo (N + d) : Nat) : Int) < (9218868437227405312 : Nat); omega
  refine ⟨dblN lo N, D, by omega, by omega, by omega, by omega, ⟨fun w hw => ?_, fun w hw => ?_, fun w hw => ?_, fun w hw => ?_, fun w hw => ?_⟩⟩
  · refine (kprints_hex cv f V a hff ha (by omega) w hw).mono ?_
    rintro r w' ⟨T, rfl, hT, hl, hb⟩
    refine ⟨T, rfl, fun w => ?_, hl, hb⟩
    refine (parse_any cv (str T) 2 0 w).mono ?_
    rintro e w1 ⟨b, g, at', err, rfl, hb1, hp⟩
    obtain ⟨z1, z2⟩ := h.parse hf (by omega) (by omega) hT hp
    exact ⟨at', err, by rw [z1, z2], hb1⟩
  · refine (kprints_hex cv f (V + 1) (a + 1) hff (by omega) (by omega) w hw).mono ?_
    rintro r w' ⟨T, rfl, hT, hl, hb⟩
    refine ⟨T, rfl, fun w => ?_, hl, hb⟩
    refine (parse_any cv (str T) 2 0 w).mono ?_
    rintro e w1 ⟨b, g, at', err, rfl, hb1, hp⟩
    obtain ⟨z1, z2⟩ := h.parse2 hf (by omega) hT hp
    refine ⟨at', err, ?_, hb1⟩
    rw [z1, z2, ed]; rfl
  · refine (kprints_exp cv 2 _ 300 (dblN lo (N + D)) 300 (by omega) (by rw [ed]) (by rw [← ed]; exact lt2 D (by omega)) rfl (by omega) w hw).mono ?_
    rintro r w' ⟨T, rfl, hT, hl, hb⟩
    refine ⟨T, rfl, fun m X hm w => ?_, hl, hb⟩
    refine ksays_half cv T f m X _ a lo N D D h hf (by omega) (by omega) (by omega) (by omega) ?_ hfl hT w
    rcases hm with ⟨rfl, rfl⟩ | ⟨rfl, rfl⟩ | ⟨rfl, rfl⟩ | ⟨rfl, rfl⟩
    · rw [odd, ha]
      by_cases ho : a % 2 = 1
      · rw [if_pos (by simpa using ho)]; omega
      · rw [if_neg (by simpa using ho)]; omega
    · rw [cmpN_eq rfl, show awayB 1 false (0 + 2) (a % 2 == 1) = true from rfl, if_pos rfl, ha]
    · rw [cmpN_eq rfl, show awayB 2 false (0 + 2) (a % 2 == 1) = false from rfl, if_neg (by decide), ha]
    · rw [cmpN_eq rfl, show awayB 3 false (0 + 2) (a % 2 == 1) = true from rfl, if_pos rfl, ha]
  · refine (kprints_exp cv 2 _ 300 (dblN lo (N + (D - 1))) 300 (by omega) (by rw [ed]; omega) (by have := lt2 (D - 1) (by omega); rw [ed] at this; omega) rfl (by omega) w hw).mono ?_
    rintro r w' ⟨T, rfl, hT, hl, hb⟩
    refine ⟨T, rfl, fun w => ?_, hl, hb⟩
    refine ksays_half cv T f 1 V _ a lo N D (D - 1) h hf (by omega) (by omega) (by omega) (by omega) ?_ hfl hT w
    rw [cmpN_lt (by omega), show awayB 1 false (-1 + 2) (a % 2 == 1) = false from rfl, if_neg (by decide), ha]
  · refine (kprints_exp cv 2 _ 300 (dblN lo (N + (D + 1))) 300 (by omega) (by rw [ed]; omega) (by have := lt2 (D + 1) (by omega); rw [ed] at this; omega) rfl (by omega) w hw).mono ?_
    rintro r w' ⟨T, rfl, hT, hl, hb⟩
    refine ⟨T, rfl, fun w => ?_, hl, hb⟩
    refine ksays_half cv T f 0 (V + 1) _ a lo N D (D + 1) h hf (by omega) (by omega) (by omega) (by omega) ?_ hfl hT w
    rw [cmpN_gt (by omega), show awayB 0 false (1 + 2) (a % 2 == 1) = true from rfl, if_pos rfl, ha]
end Go.Proofs.YtbkdaoicnobllaaGreatDoor

namespace Go.Proofs.YtbkdaoicnobllaaGreatDoor
open Go.RowKit

set_option maxRecDepth 100000 in
set_option maxHeartbeats 8000000 in
theorem half_any (cv : Value) (x b : Int) (hx : -9223372036854775808 ≤ x ∧ x ≤ 9223372036854775807) (hb : -9223372036854775808 ≤ b ∧ b ≤ 9223372036854775807) (w : World) (ht : Tab w) :
    Calls Tryz.prog 6 #[cv, .int .i64 x, .int .i64 b] w fun r w' => r = .returned (.bool true) ∧ Below w.heap.size w w' := by
  have HP := hid (pick_any b 2 (by omega) (by omega) hb w)
  have h3 : pickV b 2 < 2 := Nat.mod_lt _ (by omega)
  obtain ⟨f, hf0⟩ : ∃ f : Int, f = ((pickV b 2 : Nat) : Int) := ⟨_, rfl⟩
  have hf : f = 0 ∨ f = 1 := by omega
  rw [← hf0] at HP
  clear hf0 h3 hb
  have HX := hid (form_any f (by omega) w)
  have hpf : ((pickV f 3 : Nat) : Int) = f := by rcases hf with rfl | rfl <;> rfl
  rw [hpf] at HX
  clear hpf
  have hff : 0 ≤ f ∧ f ≤ 2 := by omega
  have HV := hid (finite_any f x hff hx w)
  have hvb := finV_bd hff x
  obtain ⟨V, hV⟩ : ∃ V : Int, V = finV f x := ⟨_, rfl⟩
  rw [← hV] at HV hvb
  clear hV hx
  obtain ⟨I, hI⟩ : ∃ I : Int, I = (infN f : Int) := ⟨_, rfl⟩
  rw [← hI] at hvb
  have HT := hid ht
  clear ht
  have HK : Hid (0 < V → V + 1 < I → ∃ P D : Int, 0 ≤ P ∧ P ≤ 5200000000000000000 ∧ 2 ≤ D ∧ D ≤ 9007199254740992 ∧ HalfK cv f V P D (if V < ((2 ^ fQ f : Nat) : Int) then 5 else 1)) := fun h0 h1 => half_k cv f V hf h0 (by rw [← hI]; exact h1)
  have hs1 : fW f = 16 ∧ (fQ f : Int) = 10 ∧ I = 31744 ∧ ((2 ^ fQ f : Nat) : Int) = 1024 ∨ fW f = 32 ∧ (fQ f : Int) = 23 ∧ I = 2139095040 ∧ ((2 ^ fQ f : Nat) : Int) = 8388608 := by
    rw [hI]
    rcases hf with rfl | rfl
    · exact .inl ⟨rfl, rfl, rfl, rfl⟩
    · exact .inr ⟨rfl, rfl, rfl, rfl⟩
  clear hI hff
  obtain ⟨fw, hfw⟩ : ∃ fw, fw = fW f := ⟨_, rfl⟩
  obtain ⟨fq, hfq⟩ : ∃ fq, fq = (fQ f : Int) := ⟨_, rfl⟩
  obtain ⟨ln, hln⟩ : ∃ ln, ln = ((2 ^ fQ f : Nat) : Int) := ⟨_, rfl⟩
  rw [← hfw, ← hfq] at HX HV
  rw [← hfw, ← hfq, ← hln] at hs1
  rw [← hln] at HK
  clear hfw hfq hln hf
  go_enter Tryz.func6, Tryz.ntmps6
  go_wp2_with fail
  refine HP.out.mono ?_
  rintro r w ⟨rfl, rfl⟩
  clear HP
  go_wp2_with fail
  refine HX.out.mono ?_
  rintro r w ⟨rfl, rfl⟩
  clear HX
  go_wp2_with fail
  refine HV.out.mono ?_
  rintro r w0 ⟨rfl, hb0⟩
  have HB0 := hid hb0
  clear HV hb0
  by_cases h0 : V = 0
  · have t1 : (V == 0) = true := by simpa using h0
    clear h0 HK
    rcases hs1 with ⟨rfl, rfl, rfl, rfl⟩ | ⟨rfl, rfl, rfl, rfl⟩
    all_goals (go_wp2_with fail; try go_quiet (fail); go_wp2; all_goals (go_ret; exact ⟨rfl, by first | exact HB0.out | exact HB0.out.trans ((((Still.refl _).drewN _).below _).mono HB0.out.size)⟩))
  have t1 : (V == 0) = false := by simpa using h0
  by_cases hl : V + 1 = I
  · have t2 : (V + 1 == I) = true := by simpa using hl
    clear h0 hl HK
    rcases hs1 with ⟨rfl, rfl, rfl, rfl⟩ | ⟨rfl, rfl, rfl, rfl⟩
    all_goals (go_wp2_with fail; try go_quiet (fail); go_wp2; all_goals (go_ret; exact ⟨rfl, by first | exact HB0.out | exact HB0.out.trans ((((Still.refl _).drewN _).below _).mono HB0.out.size)⟩))
  have t2 : (V + 1 == I) = false := by simpa using hl
  obtain ⟨P, D, hP0, hP1, hD0, hD1, hk⟩ := HK.out (by omega) (by omega)
  obtain ⟨fl, hfl⟩ : ∃ fl : Int, fl = if V < ln then 5 else 1 := ⟨_, rfl⟩
  rw [← hfl] at hk
  have HFL := hid hfl
  have HH := hid hk
  clear HK hk hfl h0 hl
  have hvv : 0 ≤ V ∧ V ≤ 2139095040 := by omega
  clear hvb
  have hd2 : P + 2 * D - P = 2 * D := by omega
  have hm2 : (2 * D) % 2 = 0 := by omega
  have hq2 : (2 * D) / 2 = D := by omega
  have hand : bits .and .i64 V 1 = V % 2 := and_mask V 1 (by omega)
  have hv2 : 0 ≤ V % 2 ∧ V % 2 ≤ 1 := by omega
  have hor : bits .or .i64 1 4 = 5 := by decide
  by_cases hlt : V < ln
  all_goals
  (first
   | (have tl : decide (V < ln) = true := by simpa using hlt
      have hfl : fl = 5 := by rw [HFL.out, if_pos hlt])
   | (have tl : decide (V < ln) = false := by simpa using hlt
      have hfl : fl = 1 := by rw [HFL.out, if_neg hlt])
   subst hfl
   clear hlt HFL
   rcases hs1 with ⟨rfl, rfl, rfl, rfl⟩ | ⟨rfl, rfl, rfl, rfl⟩)
  all_goals
  (go_wp2_with fail
   go_quiet (fail)
   go_wp2_with fail
   obtain ⟨wd, hwd⟩ : ∃ wd, wd = w0.drewN nq := ⟨_, rfl⟩
   have HBd : Hid (Below w.heap.size w wd) := by unfold Hid; rw [hwd]; exact HB0.out.trans ((((Still.refl _).drewN _).below _).mono HB0.out.size)
   rw [← hwd]
   clear hwd HB0
   refine (HH.out.h1 wd (HT.out.below HBd.out)).mono ?_
   rintro r w1 ⟨T1, rfl, hT1, hl1, hb1⟩
   have HT1 := hid hT1
   have HB1 : Hid (Below w.heap.size w w1) := HBd.out.trans (hb1.mono HBd.out.size)
   clear hT1 hb1 HBd
   go_wp2_with fail
   refine (HH.out.h2 w1 (HT.out.below HB1.out)).mono ?_
   rintro r w2 ⟨T2, rfl, hT2, hl2, hb2⟩
   have HT2 := hid hT2
   have HB2 : Hid (Below w.heap.size w w2) := HB1.out.trans (hb2.mono HB1.out.size)
   clear hT2 hb2 HB1
   go_wp2_with fail
   refine (HT1.out w2).mono ?_
   rintro r w3 ⟨at1, er1, rfl, hb3⟩
   have HB3 : Hid (Below w.heap.size w w3) := HB2.out.trans (hb3.mono HB2.out.size)
   clear hb3 HB2 HT1
   go_wp2_with fail
   refine (HT2.out w3).mono ?_
   rintro r w4 ⟨at2, er2, rfl, hb4⟩
   have HB4 : Hid (Below w.heap.size w w4) := HB3.out.trans (hb4.mono HB3.out.size)
   clear hb4 HB3 HT2
   go_wp2_with fail
   refine (HH.out.h3 w4 (HT.out.below HB4.out)).mono ?_
   rintro r w5 ⟨T3, rfl, hT3, hl3, hb5⟩
   have HT3 := hid hT3
   have HB5 : Hid (Below w.heap.size w w5) := HB4.out.trans (hb5.mono HB4.out.size)
   clear hT3 hb5 HB4
   go_wp2_with fail
   refine (HH.out.h4 w5 (HT.out.below HB5.out)).mono ?_
   rintro r w6 ⟨T4, rfl, hT4, hl4, hb6⟩
   have HT4 := hid hT4
   have HB6 : Hid (Below w.heap.size w w6) := HB5.out.trans (hb6.mono HB5.out.size)
   clear hT4 hb6 HB5
   go_wp2_with fail
   refine (HH.out.h5 w6 (HT.out.below HB6.out)).mono ?_
   rintro r w7 ⟨T5, rfl, hT5, hl5, hb7⟩
   have HT5 := hid hT5
   have HB7 : Hid (Below w.heap.size w w7) := HB6.out.trans (hb7.mono HB6.out.size)
   clear hT5 hb7 HB6 HH
   go_wp2_with fail
   refine (HT3.out 0 (V + V % 2) (.inl ⟨rfl, rfl⟩) _).mono ?_
   rintro r w8 ⟨rfl, hb8⟩
   have HB8 : Hid (Below w.heap.size w w8) := HB7.out.trans (hb8.mono HB7.out.size)
   clear hb8 HB7
   go_wp2_with fail
   refine (HT3.out 1 (V + 1) (.inr (.inl ⟨rfl, rfl⟩)) _).mono ?_
   rintro r w9 ⟨rfl, hb9⟩
   have HB9 : Hid (Below w.heap.size w w9) := HB8.out.trans (hb9.mono HB8.out.size)
   clear hb9 HB8
   go_wp2_with fail
   refine (HT3.out 2 V (.inr (.inr (.inl ⟨rfl, rfl⟩))) _).mono ?_
   rintro r wA ⟨rfl, hbA⟩
   have HBA : Hid (Below w.heap.size w wA) := HB9.out.trans (hbA.mono HB9.out.size)
   clear hbA HB9
   go_wp2_with fail
   refine (HT3.out 3 (V + 1) (.inr (.inr (.inr ⟨rfl, rfl⟩))) _).mono ?_
   rintro r wB ⟨rfl, hbB⟩
   have HBB : Hid (Below w.heap.size w wB) := HBA.out.trans (hbB.mono HBA.out.size)
   clear hbB HBA HT3
   go_wp2_with fail
   refine (HT4.out _).mono ?_
   rintro r wC ⟨rfl, hbC⟩
   have HBC : Hid (Below w.heap.size w wC) := HBB.out.trans (hbC.mono HBB.out.size)
   clear hbC HBB HT4
   go_wp2_with fail
   refine (HT5.out _).mono ?_
   rintro r wD ⟨rfl, hbD⟩
   have HBD : Hid (Below w.heap.size w wD) := HBC.out.trans (hbD.mono HBC.out.size)
   clear hbD HBC HT5
   go_wp2
   all_goals (go_ret; exact ⟨rfl, HBD.out⟩))
set_option maxRecDepth 100000 in
set_option maxHeartbeats 1000000 in
theorem half_law (x b : Int) (hx : -9223372036854775808 ≤ x ∧ x ≤ 9223372036854775807) (hb : -9223372036854775808 ≤ b ∧ b ≤ 9223372036854775807) (w : World) (ht : Tab w) :
    Calls Tryz.prog 3 #[.int .i64 x, .int .i64 b] w fun r w' => r = .returned (.bool true) ∧ Below w.heap.size w w' := by
  have HX := hid (fun (cv : Value) (w : World) (hw : Tab w) => half_any cv x b hx hb w hw)
  have HT := hid ht
  clear hx hb ht
  go_enter Tryz.func3, Tryz.ntmps3
  go_wp2_with fail
  refine (pnew_any w).mono ?_
  rintro r w1 ⟨v, rfl, hb1⟩
  have HB1 := hid hb1
  clear hb1
  go_wp2_with fail
  refine (HX.out v w1 (HT.out.below HB1.out)).mono ?_
  rintro r w2 ⟨rfl, hb2⟩
  have HB2 : Hid (Below w.heap.size w w2) := HB1.out.trans (hb2.mono HB1.out.size)
  clear hb2 HX
  go_wp2
  go_ret
  exact ⟨rfl, HB2.out⟩
end Go.Proofs.YtbkdaoicnobllaaGreatDoor
