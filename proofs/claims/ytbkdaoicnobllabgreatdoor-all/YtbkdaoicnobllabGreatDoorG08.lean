import Derived.Test.YtbkdaoicnobllabGreatDoorG07
import Derived.Test.YtbkdaoicnobllabGreatDoorG04
import Derived.Test.YtbkdaoicnobllabGreatDoorG00
import Derived.Test.YtbkdaoicnobllabGreatDoorG01

namespace Go.Proofs.YtbkdaoicnobllabGreatDoor
set_option maxRecDepth 100000
set_option maxHeartbeats 1000000
open Go.RowKit

def HexQ (f : Int) (a : Nat) (T : List UInt8) : Prop := (a = 0 ∧ T = [48, 120, 48, 112, 48]) ∨ (0 < a ∧ ∃ T0 E, HexText (mA (fQ f) a) (fE f + xA (fQ f) a) T0 E ∧ T = hexS T0 E)
theorem HexQ.same {f : Int} {a : Nat} {T T' : List UInt8} (h : HexQ f a T) (h' : HexQ f a T') : T = T' := by
 rcases h with ⟨h0, rfl⟩ | ⟨h0, T0, E, h1, rfl⟩
 ·rcases h' with ⟨_, rfl⟩ | ⟨h2, _⟩
  ·rfl
  ·omega
 ·rcases h' with ⟨h2, _⟩ | ⟨_, T1, E1, h3, rfl⟩
  ·omega
  ·obtain ⟨rfl, rfl⟩ := h1.same h3; rfl
theorem hexS_length (T : List UInt8) (E : Int) (h : T.length ≤ 13) (h1 : -4000 ≤ E) (h2 : E ≤ 4000) : (hexS T E).length ≤ 100 := by
 unfold hexS ptd
 have := Lib.itoa_length_le E (by omega) (by omega)
 split <;> simp <;> omega
theorem mA_pos (q a : Nat) (h : 0 < a) : 0 < mA q a := by
 unfold mA
 have hp : 0 < 2 ^ q := Nat.pow_pos (by omega)
 split
 ·rename_i h0
  have := Nat.div_add_mod a (2 ^ q)
  rw [h0] at this; omega
 ·omega
theorem mA_lt (q a : Nat) : mA q a < 2 * 2 ^ q := by
 unfold mA
 have hp : 0 < 2 ^ q := Nat.pow_pos (by omega)
 have := Nat.mod_lt a hp
 split <;> omega
theorem num_bd {f : Int} (hf : 0 ≤ f ∧ f ≤ 2) {a : Nat} (ha : (a : Int) < infN f) : ((xA (fQ f) a : Nat) : Int) ≤ 2100 ∧ fE f + (xA (fQ f) a : Nat) ≤ 1080 ∧ mA (fQ f) a < 9007199254740992 ∧ -1074 ≤ fE f ∧ fE f ≤ -24 := by
 have hm := mA_lt (fQ f) a
 rcases (by omega : f = 0 ∨ f = 1 ∨ f = 2) with rfl | rfl | rfl
 all_goals (unfold xA; simp [fQ, fE, infN] at *; omega)
theorem numT (A M K v prec mode F B N I G : Int) (ng : Bool) (Q : List UInt8 → Prop) (w : World) (ht : Tab w)
    (HNB : Hid (∀ w : World, Calls Tryz.prog 53 #[layV F B N I G, .int .i64 A] w fun e w' => e = .returned (.tuple #[.int .i64 M, .int .i64 K]) ∧ Below w.heap.size w w'))
    (HX : Hid ((v = 4 ∧ ∀ w1 : World, Tab w1 → Calls Tryz.prog 57 #[.int .i64 M, .int .i64 K] w1 fun r w' => TextPost w1 w' r Q) ∨ (v = 2 ∧ ∀ w1 : World, Tab w1 → Calls Tryz.prog 55 #[.int .i64 M, .int .i64 K, .bool ng, styV 2 prec mode] w1 fun r w' => TextPost w1 w' r Q) ∨ (v = 3 ∧ ∀ w1 : World, Tab w1 → Calls Tryz.prog 56 #[.int .i64 M, .int .i64 K, .bool ng, styV 3 prec mode] w1 fun r w' => TextPost w1 w' r Q) ∨ (v = 0 ∧ ∀ w1 : World, Tab w1 → Calls Tryz.prog 54 #[.int .i64 A, layV F B N I G, .int .i64 0] w1 fun r w' => TextPost w1 w' r Q) ∨ (v = 1 ∧ ∀ w1 : World, Tab w1 → Calls Tryz.prog 54 #[.int .i64 A, layV F B N I G, .int .i64 1] w1 fun r w' => TextPost w1 w' r Q))) :
    Calls Tryz.prog 37 #[.int .i64 A, layV F B N I G, .bool ng, styV v prec mode] w fun r w' => TextPost w w' r Q := by
  have HTAB := hid ht
  clear ht
  unfold layV styV at *
  go_enter Tryz.func37, Tryz.ntmps37
  go_wp2_with fail
  have d0 : ((w.alloc (.cells #[.int .i64 F, .int .i64 B, .int .i64 N, .int .i64 I, .int .i64 G] 63)).alloc (.cells #[.int .i64 v, .int .i64 prec, .int .i64 mode] 66)).cell? ⟨w.heap.size, 0, none⟩ = some (Value.int .i64 F) := by simp [go_sem]
  have d1 : ((w.alloc (.cells #[.int .i64 F, .int .i64 B, .int .i64 N, .int .i64 I, .int .i64 G] 63)).alloc (.cells #[.int .i64 v, .int .i64 prec, .int .i64 mode] 66)).cell? ⟨w.heap.size, 1, none⟩ = some (Value.int .i64 B) := by simp [go_sem]
  have d2 : ((w.alloc (.cells #[.int .i64 F, .int .i64 B, .int .i64 N, .int .i64 I, .int .i64 G] 63)).alloc (.cells #[.int .i64 v, .int .i64 prec, .int .i64 mode] 66)).cell? ⟨w.heap.size, 2, none⟩ = some (Value.int .i64 N) := by simp [go_sem]
  have d3 : ((w.alloc (.cells #[.int .i64 F, .int .i64 B, .int .i64 N, .int .i64 I, .int .i64 G] 63)).alloc (.cells #[.int .i64 v, .int .i64 prec, .int .i64 mode] 66)).cell? ⟨w.heap.size, 3, none⟩ = some (Value.int .i64 I) := by simp [go_sem]
  have d4 : ((w.alloc (.cells #[.int .i64 F, .int .i64 B, .int .i64 N, .int .i64 I, .int .i64 G] 63)).alloc (.cells #[.int .i64 v, .int .i64 prec, .int .i64 mode] 66)).cell? ⟨w.heap.size, 4, none⟩ = some (Value.int .i64 G) := by simp [go_sem]
  have s0 : ((w.alloc (.cells #[.int .i64 F, .int .i64 B, .int .i64 N, .int .i64 I, .int .i64 G] 63)).alloc (.cells #[.int .i64 v, .int .i64 prec, .int .i64 mode] 66)).cell? ⟨w.heap.size + 1, 0, none⟩ = some (Value.int .i64 v) := by simp [go_sem]
  have s1 : ((w.alloc (.cells #[.int .i64 F, .int .i64 B, .int .i64 N, .int .i64 I, .int .i64 G] 63)).alloc (.cells #[.int .i64 v, .int .i64 prec, .int .i64 mode] 66)).cell? ⟨w.heap.size + 1, 1, none⟩ = some (Value.int .i64 prec) := by simp [go_sem]
  have s2 : ((w.alloc (.cells #[.int .i64 F, .int .i64 B, .int .i64 N, .int .i64 I, .int .i64 G] 63)).alloc (.cells #[.int .i64 v, .int .i64 prec, .int .i64 mode] 66)).cell? ⟨w.heap.size + 1, 2, none⟩ = some (Value.int .i64 mode) := by simp [go_sem]
  have HB : Hid (Below w.heap.size w ((w.alloc (.cells #[.int .i64 F, .int .i64 B, .int .i64 N, .int .i64 I, .int .i64 G] 63)).alloc (.cells #[.int .i64 v, .int .i64 prec, .int .i64 mode] 66))) := ((Below.refl _ _).alloc (Nat.le_refl _) _).alloc (by simp) _
  have hw : w.heap.size + 1 < ((w.alloc (.cells #[.int .i64 F, .int .i64 B, .int .i64 N, .int .i64 I, .int .i64 G] 63)).alloc (.cells #[.int .i64 v, .int .i64 prec, .int .i64 mode] 66)).heap.size := by simp
  generalize ((w.alloc (.cells #[.int .i64 F, .int .i64 B, .int .i64 N, .int .i64 I, .int .i64 G] 63)).alloc (.cells #[.int .i64 v, .int .i64 prec, .int .i64 mode] 66)) = W at *
  refine (HNB.out W).mono ?_
  rintro r w1 ⟨rfl, hb1⟩
  have HB1 : Hid (Below w.heap.size w w1) := HB.out.trans (hb1.mono (by omega))
  have HT1 : Hid (Tab w1) := HTAB.out.below HB1.out
  have e0 := keep_cell' hb1 d0; have e1 := keep_cell' hb1 d1; have e2 := keep_cell' hb1 d2; have e3 := keep_cell' hb1 d3; have e4 := keep_cell' hb1 d4; have z0 := keep_cell' hb1 s0; have z1 := keep_cell' hb1 s1; have z2 := keep_cell' hb1 s2
  clear hb1 d0 d1 d2 d3 d4 s0 s1 s2 hw HB HNB
  rcases HX.out with ⟨rfl, h⟩ | ⟨rfl, h⟩ | ⟨rfl, h⟩ | ⟨rfl, h⟩ | ⟨rfl, h⟩
  all_goals
    (have HY := hid (h w1 HT1.out)
     clear h HX
     go_wp2_with fail
     refine HY.out.mono ?_
     rintro r w2 ⟨T, rfl, hq, hl, hb2⟩
     have HF := hid (And.intro hq (And.intro hl (HB1.out.trans (hb2.mono HB1.out.size))))
     clear hq hl hb2 HY
     go_wp2
     go_ret
     exact ⟨T, rfl, HF.out.1, HF.out.2.1, HF.out.2.2⟩)
theorem numHex_any (f : Int) (hf : 0 ≤ f ∧ f ≤ 2) (a : Nat) (ng : Bool) (prec mode : Int) (ha : (a : Int) < infN f) (w : World) (ht : Tab w) :
  Calls Tryz.prog 37 #[.int .i64 a, layOf f, .bool ng, styV 4 prec mode] w fun r w' => TextPost w w' r (HexQ f a) := by
 have HNB := hid (fun w => number_any f hf a ha w)
 obtain ⟨F, B, N, I, G, hl, hI, hN, hE, f1, f2, b1, b2, n1, n2, i2, i3⟩ := lay_num hf
 obtain ⟨p1, p2, p3, p4, p5⟩ := num_bd hf ha
 rw [hl] at HNB ⊢
 refine numT _ _ _ _ _ _ _ _ _ _ _ _ _ w ht HNB (.inl ⟨rfl, fun w1 hw => ?_⟩)
 by_cases h0 : a = 0
 ·rw [show mA (fQ f) a = 0 from by rw [h0]; simp [mA]]
  refine (whex_zero _ w1).mono ?_
  rintro r w2 ⟨rfl, rfl⟩
  exact ⟨[48, 120, 48, 112, 48], rfl, .inl ⟨h0, rfl⟩, by simp, Below.refl _ _⟩
 ·refine (whex_any (mA (fQ f) a) _ w1 hw (mA_pos _ a (by omega)) p3 (by omega) (by omega)).mono ?_
  rintro r w2 ⟨s, rfl, T0, E0, hh, rfl, hl, he1, he2, hb2⟩
  exact ⟨hexS T0 E0, rfl, .inr ⟨by omega, T0, E0, hh, rfl⟩, Nat.le_trans (hexS_length T0 E0 hl he1 he2) (by omega), hb2⟩
end Go.Proofs.YtbkdaoicnobllabGreatDoor

namespace Go.Proofs.YtbkdaoicnobllabGreatDoor

def fB (f : Int) : Int := if f = 0 then 15 else if f = 1 then 127 else 1023
structure Fmt (f : Int) : Prop where
 e : fE f = 1 - fB f - fQ f
 low : fLow f = 1 - fB f
 b1 : 15 ≤ fB f
 b2 : fB f ≤ 1023
 q : fQ f ≤ 52
 i : (infN f : Int) = (2 * fB f + 1) * ((2 ^ fQ f : Nat) : Int)
 odd : ((infN f : Int) - 1) % 2 = 1
theorem fmt_of {f : Int} (h : 0 ≤ f ∧ f ≤ 2) : Fmt f := by
 have : f = 0 ∨ f = 1 ∨ f = 2 := by omega
 rcases this with rfl | rfl | rfl
 ·exact ⟨by decide, by decide, by decide, by decide, by decide, by decide, by decide⟩
 ·exact ⟨by decide, by decide, by decide, by decide, by decide, by decide, by decide⟩
 ·exact ⟨by decide, by decide, by decide, by decide, by decide, by decide, by decide⟩

theorem valA_lt (K : Nat) (f : Int) (a : Nat) (hK : 1100 ≤ K) : valA K f a < valA K f (a + 1) := by
 have hp : 0 < 2 ^ fQ f := Nat.pow_pos (by omega)
 have ha : a = a / 2 ^ fQ f * 2 ^ fQ f + a % 2 ^ fQ f := by rw [Nat.mul_comm]; exact (Nat.div_add_mod a _).symm
 have hm : a % 2 ^ fQ f < 2 ^ fQ f := Nat.mod_lt _ hp
 rw [ha, Nat.add_assoc, valA_at K f _ _ (by omega) hK, valA_at K f _ _ (by omega) hK]
 split
 ·exact Nat.mul_lt_mul_of_pos_left (by omega) (two_pos _ _)
 ·exact Nat.mul_lt_mul_of_pos_left (by omega) (two_pos _ _)
theorem valA_mono (K : Nat) (f : Int) (hK : 1100 ≤ K) {a b : Nat} (h : a ≤ b) : valA K f a ≤ valA K f b := by
 induction b with
 | zero => rw [show a = 0 from by omega]; exact Nat.le_refl _
 | succ b ih =>
  rcases Nat.lt_or_ge a (b + 1) with h1 | h1
  ·exact Nat.le_trans (ih (by omega)) (Nat.le_of_lt (valA_lt K f b hK))
  ·rw [show a = b + 1 from by omega]; exact Nat.le_refl _
theorem valA_one {K : Nat} {f : Int} {a b X : Nat} (hK : 1100 ≤ K) (h1 : valA K f a ≤ X) (h2 : X < valA K f (a + 1)) (h3 : valA K f b ≤ X) (h4 : X < valA K f (b + 1)) : a = b := by
 rcases Nat.lt_trichotomy a b with h | h | h
 ·have := valA_mono K f hK (show a + 1 ≤ b from h); omega
 ·exact h
 ·have := valA_mono K f hK (show b + 1 ≤ a from h); omega
end Go.Proofs.YtbkdaoicnobllabGreatDoor

namespace Go.Proofs.YtbkdaoicnobllabGreatDoor

theorem num_inj : ∀ (n : Nat) (A B : List Nat), A.length = n → B.length = n → Digs A → Digs B → num A = num B → A = B := by
 intro n
 induction n with
 | zero => intro A B ha hb _ _ _; rw [List.length_eq_zero_iff.1 ha, List.length_eq_zero_iff.1 hb]
 | succ n ih =>
  intro A B ha hb hA hB h
  have nA : A ≠ [] := by intro e; rw [e] at ha; simp at ha
  have nB : B ≠ [] := by intro e; rw [e] at hb; simp at hb
  have eA := List.dropLast_concat_getLast nA
  have eB := List.dropLast_concat_getLast nB
  have dA : A.getLast nA ≤ 9 := hA _ (List.getLast_mem nA)
  have dB : B.getLast nB ≤ 9 := hB _ (List.getLast_mem nB)
  rw [← eA, ← eB, num_snoc, num_snoc] at h
  have h1 : A.getLast nA = B.getLast nB := by omega
  have h2 : num A.dropLast = num B.dropLast := by omega
  have := ih A.dropLast B.dropLast (by simp [ha]) (by simp [hb]) (fun d hd => hA d (List.dropLast_subset A hd)) (fun d hd => hB d (List.dropLast_subset B hd)) h2
  rw [← eA, ← eB, this, h1]
theorem norm_last {L : List Nat} (h : Norm L) (hl : L ≠ []) : num L % 10 ≠ 0 := by
 have e := List.dropLast_concat_getLast hl
 have hd : L.getLast hl ≤ 9 := h.digs _ (List.getLast_mem hl)
 have h0 : 0 < L.length := List.length_pos_iff.2 hl
 have hn := h.last h0
 have hg : L.getLast hl = L[L.length - 1] := List.getLast_eq_getElem hl
 rw [← e, num_snoc]
 omega
theorem norm_one_way {L1 L2 : List Nat} (h1 : Norm L1) (h2 : Norm L2) {a b : Nat} (hab : a ≤ b) (h : num L1 * 10 ^ a = num L2 * 10 ^ b) : L1 = L2 ∧ (L1 ≠ [] → a = b) := by
 have hc : num L1 = num L2 * 10 ^ (b - a) := by
  apply Nat.eq_of_mul_eq_mul_right (Nat.pow_pos (n := a) (show 0 < 10 by omega))
  rw [h, Nat.mul_assoc, ← Nat.pow_add]; congr 2; omega
 by_cases e1 : L1 = []
 ·have hz : num L2 = 0 := by
   rw [e1, num_nil] at hc
   rcases Nat.mul_eq_zero.1 hc.symm with g | g
   ·exact g
   ·have : 0 < 10 ^ (b - a) := Nat.pow_pos (by omega)
    omega
  refine ⟨?_, fun g => absurd e1 g⟩
  rcases Nat.eq_zero_or_pos L2.length with g | g
  ·rw [e1, List.length_eq_zero_iff.1 g]
  ·have h3 := num_pos h2 g
   have : 0 < 10 ^ (L2.length - 1) := Nat.pow_pos (by omega)
   omega
 ·have hd : b - a = 0 := by
   rcases Nat.eq_zero_or_pos (b - a) with g | g
   ·exact g
   ·exfalso
    apply norm_last h1 e1
    rw [hc, show b - a = (b - a - 1) + 1 from by omega, Nat.pow_succ, ← Nat.mul_assoc]
    exact Nat.mul_mod_left _ _
  rw [hd, Nat.pow_zero, Nat.mul_one] at hc
  have l1 : 0 < L1.length := List.length_pos_iff.2 e1
  have p1 := num_pos h1 l1
  have e2 : L2 ≠ [] := by
   intro g
   rw [g, num_nil] at hc
   have : 0 < 10 ^ (L1.length - 1) := Nat.pow_pos (by omega)
   omega
  have l2 : 0 < L2.length := List.length_pos_iff.2 e2
  have p2 := num_pos h2 l2
  have q1 := num_lt h1.digs
  have q2 := num_lt h2.digs
  have k1 : L1.length - 1 < L2.length := (Nat.pow_lt_pow_iff_right (a := 10) (by omega)).1 (by omega)
  have k2 : L2.length - 1 < L1.length := (Nat.pow_lt_pow_iff_right (a := 10) (by omega)).1 (by omega)
  exact ⟨num_inj L1.length L1 L2 rfl (by omega) h1.digs h2.digs hc, fun _ => by omega⟩
theorem norm_unique {L1 L2 : List Nat} (h1 : Norm L1) (h2 : Norm L2) {a b : Nat} (h : num L1 * 10 ^ a = num L2 * 10 ^ b) : L1 = L2 ∧ (L1 ≠ [] → a = b) := by
 rcases Nat.le_total a b with g | g
 ·exact norm_one_way h1 h2 g h
 ·obtain ⟨e1, e2⟩ := norm_one_way h2 h1 g h.symm
  exact ⟨e1.symm, fun hn => (e2 (by rw [e1]; exact hn)).symm⟩
end Go.Proofs.YtbkdaoicnobllabGreatDoor

namespace Go.Proofs.YtbkdaoicnobllabGreatDoor

def Hold (K : Nat) (f : Int) (a X : Nat) : Prop :=
 if a % 2 = 0 then valA K f (a - 1) + valA K f a ≤ X * 2 ∧ X * 2 ≤ valA K f a + valA K f (a + 1) else valA K f (a - 1) + valA K f a < X * 2 ∧ X * 2 < valA K f a + valA K f (a + 1)
theorem Hold.iff (K : Nat) (f : Int) (a X : Nat) : Hold K f a X ↔ (a % 2 = 0 ∧ valA K f (a - 1) + valA K f a ≤ X * 2 ∧ X * 2 ≤ valA K f a + valA K f (a + 1)) ∨ (¬ a % 2 = 0 ∧ valA K f (a - 1) + valA K f a < X * 2 ∧ X * 2 < valA K f a + valA K f (a + 1)) := by
 unfold Hold; split <;> rename_i h <;> simp [h]
theorem away_zero (half : Int) (odd : Bool) : awayB 0 false half odd = (half == 3 || (half == 2 && odd)) := rfl
theorem round_hold {K : Nat} {f : Int} {X a : Nat} {r fl : Int} (hK : 1100 ≤ K) (hX : 0 < X) (ha : 0 < a) (ha2 : a < infN f) (h : RoundSpec K f 0 false X r fl) : r = (a : Int) ↔ Hold K f a X := by
 have m1 := valA_lt K f (a - 1) hK
 rw [show a - 1 + 1 = a from by omega] at m1
 have m2 := valA_lt K f a hK
 rw [Hold.iff]
 rcases h with ⟨h0, _⟩ | ⟨_, h1, _, h2⟩ | ⟨_, _, a0, h1, h2, h3, h4⟩
 ·omega
 ·have m3 := valA_mono K f hK (show a + 1 ≤ infN f from ha2)
  have : awayB 0 false 3 true = true := rfl
  rw [if_pos this] at h2
  constructor
  ·intro h; omega
  ·intro h; omega
 ·rcases h4 with ⟨h5, h6, _⟩ | ⟨h5, h6, _⟩
  ·rcases Nat.lt_trichotomy a0 a with hl | hl | hl
   ·have m3 := valA_mono K f hK (show a0 ≤ a - 1 by omega)
    constructor <;> intro h <;> omega
   ·subst hl
    constructor
    ·intro _; by_cases he : a0 % 2 = 0
     ·exact .inl ⟨he, by omega, by omega⟩
     ·exact .inr ⟨he, by omega, by omega⟩
    ·intro _; exact h6
   ·have m3 := valA_mono K f hK (show a + 1 ≤ a0 by omega)
    constructor <;> intro h <;> omega
  ·rw [away_zero] at h6
   rcases (by omega : a0 + 1 < a ∨ a0 + 1 = a ∨ a0 = a ∨ a < a0) with hl | hl | hl | hl
   ·have m3 := valA_mono K f hK (show a0 + 1 ≤ a - 1 by omega)
    constructor
    ·intro h; split at h6 <;> omega
    ·intro h; omega
   ·subst hl
    rw [show a0 + 1 - 1 = a0 from by omega] at *
    rcases Nat.lt_trichotomy (X * 2) (valA K f a0 + valA K f (a0 + 1)) with hc | hc | hc
    ·rw [cmpN_lt hc] at h6
     have e : ((-1 + 2 : Int) == 3 || ((-1 + 2 : Int) == 2 && (a0 % 2 == 1))) = false := rfl
     rw [e] at h6
     simp at h6
     constructor <;> intro h <;> omega
    ·rw [cmpN_eq hc] at h6
     by_cases ho : a0 % 2 = 1
     ·have e : ((0 + 2 : Int) == 3 || ((0 + 2 : Int) == 2 && (a0 % 2 == 1))) = true := by rw [ho]; rfl
      rw [e] at h6
      simp at h6
      constructor <;> intro h <;> omega
     ·have e : ((0 + 2 : Int) == 3 || ((0 + 2 : Int) == 2 && (a0 % 2 == 1))) = false := by rw [show a0 % 2 = 0 from by omega]; rfl
      rw [e] at h6
      simp at h6
      constructor <;> intro h <;> omega
    ·rw [cmpN_gt hc] at h6
     have e : ((1 + 2 : Int) == 3 || ((1 + 2 : Int) == 2 && (a0 % 2 == 1))) = true := rfl
     rw [e] at h6
     simp at h6
     constructor <;> intro h <;> omega
   ·subst hl
    rcases Nat.lt_trichotomy (X * 2) (valA K f a0 + valA K f (a0 + 1)) with hc | hc | hc
    ·rw [cmpN_lt hc] at h6
     have e : ((-1 + 2 : Int) == 3 || ((-1 + 2 : Int) == 2 && (a0 % 2 == 1))) = false := rfl
     rw [e] at h6
     simp at h6
     constructor <;> intro h <;> omega
    ·rw [cmpN_eq hc] at h6
     by_cases ho : a0 % 2 = 1
     ·have e : ((0 + 2 : Int) == 3 || ((0 + 2 : Int) == 2 && (a0 % 2 == 1))) = true := by rw [ho]; rfl
      rw [e] at h6
      simp at h6
      constructor <;> intro h <;> omega
     ·have e : ((0 + 2 : Int) == 3 || ((0 + 2 : Int) == 2 && (a0 % 2 == 1))) = false := by rw [show a0 % 2 = 0 from by omega]; rfl
      rw [e] at h6
      simp at h6
      constructor <;> intro h <;> omega
    ·rw [cmpN_gt hc] at h6
     have e : ((1 + 2 : Int) == 3 || ((1 + 2 : Int) == 2 && (a0 % 2 == 1))) = true := rfl
     rw [e] at h6
     simp at h6
     constructor <;> intro h <;> omega
   ·have m3 := valA_mono K f hK (show a + 1 ≤ a0 by omega)
    constructor
    ·intro h; split at h6 <;> omega
    ·intro h; omega
end Go.Proofs.YtbkdaoicnobllabGreatDoor

namespace Go.Proofs.YtbkdaoicnobllabGreatDoor
set_option maxRecDepth 100000
set_option maxHeartbeats 1000000
open Go.RowKit

def nextP (D : List Nat) (z k : Nat) : List Nat := (if z = D.length then [1] else []) ++ (List.range k).map (nextAt D z)
theorem nextP_succ (D : List Nat) (z k : Nat) : nextP D z (k + 1) = nextP D z k ++ [nextAt D z k] := by unfold nextP; rw [List.range_succ]; simp
theorem nextP_length (D : List Nat) (z k : Nat) : (nextP D z k).length = (if z = D.length then 1 else 0) + k := by unfold nextP; split <;> simp <;> omega
theorem next_some (g off cap n : Nat) (D : List Nat) (w : World) (hn : D.length = n) (hl : n ≤ 30000) (hcap : n ≤ cap) (hc2 : cap ≤ 9223372036854775807) (hg : g < w.heap.size) (hce : ∀ j, j < n → w.cell? ⟨g, off + j, none⟩ = some (.int .i64 (D.getD j 0 : Nat))) (hd : Digs D) :
  Calls Tryz.prog 128 #[.slice (some ⟨g, off, none⟩) n cap] w fun r w' => ∃ v' : Value, r = .returned v' ∧ ∃ z : Nat, Nines D z ∧ Own w' w.heap.size v' (nextL D z) ∧ Below w.heap.size w w' := by
 have H4 := hid hce
 have HN := hid hn
 have HD := hid hd
 obtain ⟨i0, hi, hz0, hz1, hz2⟩ := info_parts Tryz.info_int
 clear hce hn hd
 go_enter Tryz.func128, Tryz.ntmps128
 go_wp2
 go_loop [3, 4] (fun zz ii => ∃ z : Nat, zz = .int .i64 z ∧ ii = .int .i64 ((n : Int) - 1 - z) ∧ z ≤ n ∧ Hid (∀ i, n - z ≤ i → i < n → D.getD i 0 = 9)) (fun zz _ => n - (intOf zz).toNat)
 case atStart => exact ⟨0, rfl, by simp, Nat.zero_le _, fun i h1 h2 => by omega⟩
 case round =>
  obtain ⟨z, rfl, rfl, hz, HZ⟩ := hrel
  by_cases hzn : z < n
  ·obtain ⟨j, hj⟩ : ∃ j : Nat, (n : Int) - 1 - z = j := ⟨n - 1 - z, by omega⟩
   rw [hj]
   obtain ⟨x, hx⟩ : ∃ x, x = D.getD j 0 := ⟨_, rfl⟩
   have cx := H4.out j (by omega)
   rw [← hx] at cx
   have hjn : j < n := by omega
   by_cases h9 : x = 9
   ·subst h9
    have HX : Hid (D.getD j 0 = 9) := hx.symm
    have HJ := hid hj
    clear hx
    go_wp2
    go_round
    case rel => exact ⟨z + 1, by go_num, by have := HJ.out; go_num, by omega, fun i h1 h2 => if h : i = j then h ▸ HX.out else HZ.out i (by have := HJ.out; omega) h2⟩
    case measure => simp [intOf]; omega
   ·have t9 : ((x : Int) == 9) = false := by rw [beq_eq_false_iff_ne]; omega
    have HNI : Hid (Nines D z) := ⟨by rw [HN.out]; exact hz, by rw [HN.out]; exact HZ.out, fun _ => by rw [HN.out, show n - 1 - z = j from by omega, ← hx]; exact h9⟩
    have tn : ((z : Int) == (n : Int)) = false := by rw [beq_eq_false_iff_ne]; omega
    have tn2 : (z == n) = false := by rw [beq_eq_false_iff_ne]; omega
    have tn3 : ¬ z = n := by omega
    have HS : Hid (Own (w.alloc (.cells #[] 3)) w.heap.size (.slice (some ⟨w.heap.size, 0, none⟩) 0 0) (nextP D z 0) ∧ Below w.heap.size w (w.alloc (.cells #[] 3))) := by
     refine ⟨?_, (Below.refl _ _).alloc (Nat.le_refl _) _⟩
     rw [show nextP D z 0 = [] from by unfold nextP; rw [HN.out, if_neg (by omega)]; rfl]
     exact Own.empty w
    clear hx h9 hj HZ
    go_wp2
    go_loopw [5, 34] (fun l ii wr => ∃ k : Nat, ii = .int .i64 k ∧ k ≤ n ∧ Own wr w.heap.size l (nextP D z k) ∧ Below w.heap.size w wr) (fun _ ii _ => n - (intOf ii).toNat)
    case atStart => exact ⟨0, rfl, Nat.zero_le _, HS.out.1, HS.out.2⟩
    case round =>
     obtain ⟨k, rfl, hk, hown, hb⟩ := hrel
     have hsz := hb.size
     by_cases hlt : k < n
     ·obtain ⟨x, hx⟩ : ∃ x, x = D.getD k 0 := ⟨_, rfl⟩
      have hx9 : x ≤ 9 := by rw [hx]; exact HD.out.getD k
      have cx : wr.cell? ⟨g, off + k, none⟩ = some (.int .i64 x) := by
       rw [hx, hb.cell (p := ⟨g, off + k, none⟩) (by show g < _; omega)]; exact H4.out k hlt
      have hlen : (nextP D z k).length = k + 0 := by rw [nextP_length, HN.out]; rw [if_neg (by omega)]; omega
      have hown' : wr.ownsRow w.heap.size 3 1 u5 (k + 0) (ints (nextP D z k)) := by have := hown; unfold Own at this; rwa [hlen] at this
      have HL := hid hlen
      clear hown hlen
      by_cases q : n ≤ k + z
      ·have q1 : (n : Int) ≤ (k : Int) + z := by omega
       have HV : Hid (nextP D z (k + 1) = nextP D z k ++ [0]) := by unfold Hid; rw [nextP_succ]; unfold nextAt; rw [HN.out]; rw [if_pos q]
       clear hx
       go_wp2_with (at_builtin; refine wpList_append_own _ rfl (.tmp 56) (.tmp 58) 69 rfl w.heap.size 3 i0 (.int .i64 0) 1 8 Tryz.underlying69 hi hz0 hz1 hz2 rfl (by decide) _ _ _ rfl (hown'.alloc _) ⟨wr.heap.size, 0, none⟩ 1 1 [.int .i64 0] rfl rfl (cell_one_new _ _ _) (by intro u hu; simp at hu; subst hu; rfl) (by unfold maxLen; omega) (by omega) (by simp; omega) ?_)
       intro v' w1 hown1 hgrow _
       have hb1 : Hid (Below w.heap.size w w1) := (hb.alloc (by omega) _).grown hgrow (by simp; omega) (fun k hk => (hown'.lt k hk).1)
       have hown2 : Hid (Own w1 w.heap.size v' (nextP D z (k + 1))) := by unfold Hid; rw [HV.out]; exact Own.snoc hown1 HL.out (by simp)
       clear hown' hgrow hown1 hb HV cx
       go_wp2
       go_roundw
       case rel => exact ⟨k + 1, by go_num, by omega, hown2.out, hb1.out⟩
       case measure => simp [intOf]; omega
      ·by_cases q2 : k + z + 1 = n
       ·have q1 : ¬ (n : Int) ≤ (k : Int) + z := by omega
        have q3 : (((k : Int) + z) == (n : Int) - 1) = true := by simp; omega
        have HV : Hid (nextP D z (k + 1) = nextP D z k ++ [x + 1]) := by unfold Hid; rw [nextP_succ]; unfold nextAt; rw [HN.out]; rw [if_neg q, if_pos q2, hx]
        clear hx
        go_wp2_with (at_builtin; refine wpList_append_own _ rfl (.tmp 56) (.tmp 58) 69 rfl w.heap.size 3 i0 (.int .i64 0) 1 8 Tryz.underlying69 hi hz0 hz1 hz2 rfl (by decide) _ _ _ rfl (hown'.alloc _) ⟨wr.heap.size, 0, none⟩ 1 1 [.int .i64 ((x : Int) + 1)] rfl rfl (cell_one_new _ _ _) (by intro u hu; simp at hu; subst hu; rfl) (by unfold maxLen; omega) (by omega) (by simp; omega) ?_)
        intro v' w1 hown1 hgrow _
        have hb1 : Hid (Below w.heap.size w w1) := (hb.alloc (by omega) _).grown hgrow (by simp; omega) (fun k hk => (hown'.lt k hk).1)
        have hown2 : Hid (Own w1 w.heap.size v' (nextP D z (k + 1))) := by unfold Hid; rw [HV.out]; exact Own.snoc hown1 HL.out (by simp)
        clear hown' hgrow hown1 hb HV cx
        go_wp2
        go_roundw
        case rel => exact ⟨k + 1, by go_num, by omega, hown2.out, hb1.out⟩
        case measure => simp [intOf]; omega
       ·have q1 : ¬ (n : Int) ≤ (k : Int) + z := by omega
        have q3 : (((k : Int) + z) == (n : Int) - 1) = false := by rw [beq_eq_false_iff_ne]; omega
        have HV : Hid (nextP D z (k + 1) = nextP D z k ++ [x]) := by unfold Hid; rw [nextP_succ]; unfold nextAt; rw [HN.out]; rw [if_neg q, if_neg q2, hx]
        clear hx
        go_wp2_with (at_builtin; refine wpList_append_own _ rfl (.tmp 56) (.tmp 58) 69 rfl w.heap.size 3 i0 (.int .i64 0) 1 8 Tryz.underlying69 hi hz0 hz1 hz2 rfl (by decide) _ _ _ rfl (hown'.alloc _) ⟨wr.heap.size, 0, none⟩ 1 1 [.int .i64 (x : Int)] rfl rfl (cell_one_new _ _ _) (by intro u hu; simp at hu; subst hu; rfl) (by unfold maxLen; omega) (by omega) (by simp; omega) ?_)
        intro v' w1 hown1 hgrow _
        have hb1 : Hid (Below w.heap.size w w1) := (hb.alloc (by omega) _).grown hgrow (by simp; omega) (fun k hk => (hown'.lt k hk).1)
        have hown2 : Hid (Own w1 w.heap.size v' (nextP D z (k + 1))) := by unfold Hid; rw [HV.out]; exact Own.snoc hown1 HL.out (by simp)
        clear hown' hgrow hown1 hb HV cx
        go_wp2
        go_roundw
        case rel => exact ⟨k + 1, by go_num, by omega, hown2.out, hb1.out⟩
        case measure => simp [intOf]; omega
     ·have hkn : k = n := by omega
      have HO : Hid (Own wr w.heap.size u5 (nextL D z) ∧ Below w.heap.size w wr) := by
       refine ⟨?_, hb⟩
       rw [hkn] at hown
       rw [show nextL D z = nextP D z n from by unfold nextL nextP; rw [HN.out]]; exact hown
      clear hown hb
      go_wp2
      go_ret
      exact ⟨_, rfl, z, HNI.out, HO.out⟩
  ·have hzn2 : z = n := by omega
   subst hzn2
   have HNI : Hid (Nines D z) := ⟨by rw [HN.out]; exact Nat.le_refl _, by rw [HN.out]; exact HZ.out, fun h => by rw [HN.out] at h; omega⟩
   have tn : (z : Int) - 1 - z = -1 := by omega
   have hown0 := Own.empty w
   have hown' : (w.alloc (.cells #[] 3)).ownsRow w.heap.size 3 1 (.slice (some ⟨w.heap.size, 0, none⟩) 0 0) 0 (ints []) := hown0
   have hb0 : Below w.heap.size w (w.alloc (.cells #[] 3)) := (Below.refl _ _).alloc (Nat.le_refl _) _
   obtain ⟨W0, hW0⟩ : ∃ W0, W0 = w.alloc (.cells #[] 3) := ⟨_, rfl⟩
   have hsz0 := hb0.size
   clear hown0 HZ hzn
   rw [tn]
   go_wp2_with (at_builtin; refine wpList_append_own _ rfl (.tmp 29) (.tmp 30) 69 rfl w.heap.size 3 i0 (.int .i64 0) 1 8 Tryz.underlying69 hi hz0 hz1 hz2 rfl (by decide) _ _ _ rfl (hown'.alloc _) ⟨w.heap.size + 1, 0, none⟩ 1 1 [.int .i64 1] rfl rfl (by simp [go_sem]) (by intro u hu; simp at hu; subst hu; rfl) (by unfold maxLen; omega) (by omega) (by simp; omega) ?_)
   intro v' w1 hown1 hgrow _
   have HS : Hid (Own w1 w.heap.size v' (nextP D z 0) ∧ Below w.heap.size w w1) := by
    refine ⟨?_, (hb0.alloc (by omega) _).grown hgrow (by simp; omega) (fun k hk => (hown'.lt k hk).1)⟩
    rw [show nextP D z 0 = [] ++ [1] from by unfold nextP; rw [HN.out, if_pos rfl]; rfl]
    exact Own.snoc hown1 rfl rfl
   clear hown' hgrow hown1 hb0 hW0 hsz0
   go_wp2
   go_loopw [5, 34] (fun l ii wr => ∃ k : Nat, ii = .int .i64 k ∧ k ≤ z ∧ Own wr w.heap.size l (nextP D z k) ∧ Below w.heap.size w wr) (fun _ ii _ => z - (intOf ii).toNat)
   case atStart => exact ⟨0, rfl, Nat.zero_le _, HS.out.1, HS.out.2⟩
   case round =>
    obtain ⟨k, rfl, hk, hown, hb⟩ := hrel
    have hsz := hb.size
    by_cases hlt : k < z
    ·obtain ⟨x, hx⟩ : ∃ x, x = D.getD k 0 := ⟨_, rfl⟩
     have hx9 : x ≤ 9 := by rw [hx]; exact HD.out.getD k
     have cx : wr.cell? ⟨g, off + k, none⟩ = some (.int .i64 x) := by
      rw [hx, hb.cell (p := ⟨g, off + k, none⟩) (by show g < _; omega)]; exact H4.out k hlt
     have hlen : (nextP D z k).length = k + 1 := by rw [nextP_length, HN.out]; simp; omega
     have hown' : wr.ownsRow w.heap.size 3 1 u5 (k + 1) (ints (nextP D z k)) := by have := hown; unfold Own at this; rwa [hlen] at this
     have HL := hid hlen
     clear hown hlen
     have q1 : (z : Int) ≤ (k : Int) + z := by omega
     have HV : Hid (nextP D z (k + 1) = nextP D z k ++ [0]) := by unfold Hid; rw [nextP_succ]; unfold nextAt; rw [HN.out]; rw [if_pos (by omega)]
     clear hx
     go_wp2_with (at_builtin; refine wpList_append_own _ rfl (.tmp 56) (.tmp 58) 69 rfl w.heap.size 3 i0 (.int .i64 0) 1 8 Tryz.underlying69 hi hz0 hz1 hz2 rfl (by decide) _ _ _ rfl (hown'.alloc _) ⟨wr.heap.size, 0, none⟩ 1 1 [.int .i64 0] rfl rfl (cell_one_new _ _ _) (by intro u hu; simp at hu; subst hu; rfl) (by unfold maxLen; omega) (by omega) (by simp; omega) ?_)
     intro v' w1 hown1 hgrow _
     have hb1 : Hid (Below w.heap.size w w1) := (hb.alloc (by omega) _).grown hgrow (by simp; omega) (fun k hk => (hown'.lt k hk).1)
     have hown2 : Hid (Own w1 w.heap.size v' (nextP D z (k + 1))) := by unfold Hid; rw [HV.out]; exact Own.snoc hown1 HL.out (by simp)
     clear hown' hgrow hown1 hb HV cx
     go_wp2
     go_roundw
     case rel => exact ⟨k + 1, by go_num, by omega, hown2.out, hb1.out⟩
     case measure => simp [intOf]; omega
    ·have hkn : k = z := by omega
     have HO : Hid (Own wr w.heap.size u5 (nextL D z) ∧ Below w.heap.size w wr) := by
      refine ⟨?_, hb⟩
      rw [hkn] at hown
      rw [show nextL D z = nextP D z z from by unfold nextL nextP; rw [HN.out]]; exact hown
     clear hown hb
     go_wp2
     go_ret
     exact ⟨_, rfl, z, HNI.out, HO.out⟩
end Go.Proofs.YtbkdaoicnobllabGreatDoor

namespace Go.Proofs.YtbkdaoicnobllabGreatDoor
set_option maxRecDepth 100000
set_option maxHeartbeats 2000000
open Go.RowKit

theorem Own.mono {w : World} {b b2 : Nat} {v : Value} {L : List Nat} (h : Own w b v L) (hb : b2 ≤ b) : Own w b2 v L := by
 refine ⟨h.1, ?_⟩
 rcases h.2 with h2 | ⟨g, cap, cur, h1, h2, h3⟩
 ·exact .inl h2
 ·exact .inr ⟨g, cap, cur, h1, Nat.le_trans hb h2, h3⟩
theorem next_ne {D : List Nat} {z : Nat} (hz : Nines D z) : nextL D z ≠ [] := by
 intro h
 have h1 := num_next D z hz
 rw [h, num_nil] at h1; omega
theorem drounded_any (b : Nat) (v : Value) (D : List Nat) (e p mode : Int) (neg : Bool) (w : World) (h : DecAt w b v D e) (hp1 : -20000 ≤ p) (hp2 : p ≤ 20000) (hc : D.length + e - p ≤ 30000) :
  Calls Tryz.prog 100 #[.pointer (some ⟨b, 0, none⟩), .int .i64 p, .int .i64 mode, .bool neg] w fun r w' => ∃ v' : Value, r = .returned v' ∧ SomeS v' ∧ ∃ R : List Nat, Rnd (awayB mode neg) D e p R ∧ Own w' w.heap.size v' R ∧ Below w.heap.size w w' := by
 obtain ⟨g, off, cap, rfl, hx1, hx2, hx3, hx4⟩ := h.form
 clear hx1 hx2 hx3 hx4
 have c0 := h.c0
 have c1 := h.c1
 have h1 := h.len
 have h2 := h.elo
 have h3 := h.ehi
 obtain ⟨n, hn⟩ : ∃ n, n = D.length := ⟨_, rfl⟩
 obtain ⟨v, hv⟩ : ∃ v, v = Value.slice (some ⟨g, off, none⟩) D.length cap := ⟨_, rfl⟩
 have HH : Hid (DecAt w b v D e) := by unfold Hid; rw [hv]; exact h
 have HV := hid hv
 obtain ⟨c, hcc⟩ : ∃ c : Int, c = (n : Int) + e - p := ⟨_, rfl⟩
 have hcl : c ≤ 30000 := by rw [hcc, hn]; exact hc
 have hcl2 : -60000 ≤ c := by omega
 have hce : (n : Int) + e - p = c := hcc.symm
 have HC : Hid (c = D.length + e - p) := by unfold Hid; rw [hcc, hn]
 rw [← hn] at c0 h1
 have HN := hid hn
 clear h hn hc hcc hv
 go_enter Tryz.func100, Tryz.ntmps100
 go_wp2
 go_quiet (fail)
 go_wp2_with fail
 refine (first_any b v D e c _ (HH.out.below (((Still.refl w).drewN _).below _)) hcl).mono ?_
 rintro r w1 ⟨v1, rfl, ⟨g1, m, cp1, rfl⟩, hown, hb⟩
 have HB1 : Hid (Below w.heap.size w w1) := (((Still.refl w).drewN _).below _).trans hb
 have HOW : Hid (Own w1 w.heap.size (.slice (some ⟨g1, 0, none⟩) m cp1) (firstL D c.toNat)) := hown
 have hm : m = c.toNat := by
  rcases hown.form with ⟨_, h2⟩ | ⟨g', cap', hv, _⟩
  ·cases h2
  ·rw [firstL_length] at hv; simp only [Value.slice.injEq] at hv; exact hv.2.1
 have HD1 : Hid (DecAt w1 b v D e) := HH.out.below HB1.out
 obtain ⟨rest, hrest⟩ : ∃ rest, rest = behL D c := ⟨_, rfl⟩
 have HR := hid hrest
 have hlf : ∀ K : Nat, -(K : Int) ≤ e → -(K : Int) ≤ p → rest = leftN (val K D e) (10 ^ (p + K).toNat) := fun K k1 k2 => by
  rw [hrest, HC.out]; exact behL_left HH.out.digs (HH.out.head.pos HH.out.pos) K e p k1 k2
 have hr0 : 0 ≤ rest := by rw [hlf 20000 (by omega) (by omega)]; exact (leftN_range _ _).1
 have hr3 : rest ≤ 3 := by rw [hlf 20000 (by omega) (by omega)]; exact (leftN_range _ _).2
 obtain ⟨od, hod⟩ : ∃ od, od = (num (firstL D c.toNat) % 2 == 1) := ⟨_, rfl⟩
 have HST : Hid (upB mode neg rest od = false → Rnd (awayB mode neg) D e p (firstL D c.toNat)) := fun hu => by
  have := Rnd.stay (aw := awayB mode neg) (K := 20000) (left := rest) (odd := od) HH.out.digs HH.out.head HH.out.pos (by omega) (by omega) (hlf 20000 (by omega) (by omega)) (by rw [hod, HC.out]) (by
   unfold upB at hu
   split at hu
   ·exact .inl (by assumption)
   ·exact .inr hu)
  rw [HC.out]; exact this
 have HUP : Hid (upB mode neg rest od = true → ∀ z, Nines (firstL D c.toNat) z → Rnd (awayB mode neg) D e p (nextL (firstL D c.toNat) z)) := fun hu z hz => by
  have := Rnd.up (aw := awayB mode neg) (K := 20000) (left := rest) (odd := od) HH.out.digs HH.out.head HH.out.pos (by omega) (by omega) (by rw [← HC.out]; exact hz) (hlf 20000 (by omega) (by omega)) (by rw [hod, HC.out]) (by
   intro h0; unfold upB at hu; rw [if_pos h0] at hu; cases hu) (by
   unfold upB at hu
   split at hu
   ·cases hu
   ·exact hu)
  rw [HC.out]; exact this
 have HNX : Hid (Calls Tryz.prog 128 #[.slice (some ⟨g1, 0, none⟩) m cp1] w1 fun r w' => ∃ v' : Value, r = .returned v' ∧ ∃ z : Nat, Nines (firstL D c.toNat) z ∧ Own w' w1.heap.size v' (nextL (firstL D c.toNat) z) ∧ Below w1.heap.size w1 w') := by
  rcases HOW.out.form with ⟨_, h2⟩ | ⟨g', cap', hv, q1, q2, q3, q4⟩
  ·cases h2
  ·simp only [Value.slice.injEq, Option.some.injEq, Addr.mk.injEq, and_true] at hv
   obtain ⟨rfl, _, rfl⟩ := hv
   unfold maxLen at q4
   rw [firstL_length] at q3
   exact next_some g1 0 cp1 m (firstL D c.toNat) w1 (by rw [firstL_length, hm]) (by omega) (by omega) (by omega) q2 (fun j hj => by rw [Nat.zero_add]; exact HOW.out.cell (by rw [firstL_length, hm]) j hj) (firstL_digs HH.out.digs _)
 have hcap1 : m ≤ cp1 ∧ cp1 ≤ 9223372036854775807 := by
  rcases HOW.out.form with ⟨_, h2⟩ | ⟨g', cap', hv, q1, q2, q3, q4⟩
  ·cases h2
  ·simp only [Value.slice.injEq] at hv
   unfold maxLen at q4
   rw [firstL_length] at q3
   omega
 have HM := hid hm
 have HBH := hid (behind_any b v D e c w1 HD1.out (by omega) (by omega))
 rw [← hrest] at HBH
 have hev := num_odd (firstL D c.toNat)
 rw [firstL_length] at hev
 by_cases hm0 : m = 0
 ·have hod0 : od = false := by rw [hod, show c.toNat = 0 from by omega]; rfl
  subst hod0
  subst hm0
  clear hown hb c0 c1 hod hrest hlf hev hm hce hcl hcl2
  cases hup : upB mode neg rest false with
  | false =>
   have HST := hid (HST.out hup)
   have HU : Hid (∀ w, Calls Tryz.prog 68 #[.int .i64 mode, .bool neg, .bool false, .int .i64 rest] w fun e w' => e = .returned (.bool false) ∧ w' = w) := fun w => by
    have := upper_any mode rest neg false hr0 hr3 w
    rw [hup] at this; exact this
   clear hup
   go_wp2_with fail
   refine HBH.out.mono ?_
   rintro r w2 ⟨rfl, rfl⟩
   go_wp2_with fail
   refine (HU.out _).mono ?_
   rintro r w3 ⟨rfl, rfl⟩
   go_wp2
   go_ret
   exact ⟨_, rfl, ⟨_, _, _, rfl⟩, _, HST.out, HOW.out, HB1.out⟩
  | true =>
   have HUP := hid (HUP.out hup)
   have HU : Hid (∀ w, Calls Tryz.prog 68 #[.int .i64 mode, .bool neg, .bool false, .int .i64 rest] w fun e w' => e = .returned (.bool true) ∧ w' = w) := fun w => by
    have := upper_any mode rest neg false hr0 hr3 w
    rw [hup] at this; exact this
   clear hup
   go_wp2_with fail
   refine HBH.out.mono ?_
   rintro r w2 ⟨rfl, rfl⟩
   go_wp2_with fail
   refine (HU.out _).mono ?_
   rintro r w3 ⟨rfl, rfl⟩
   go_wp2_with fail
   refine HNX.out.mono ?_
   rintro r w4 ⟨v4, rfl, z, hz4, ho4, hb4⟩
   have HF : Hid (SomeS v4 ∧ Rnd (awayB mode neg) D e p (nextL (firstL D c.toNat) z) ∧ Own w4 w.heap.size v4 (nextL (firstL D c.toNat) z) ∧ Below w.heap.size w w4) := ⟨ho4.someS (next_ne hz4), HUP.out z hz4, Own.mono ho4 HB1.out.size, HB1.out.trans (hb4.mono HB1.out.size)⟩
   clear hz4 ho4 hb4
   go_wp2
   go_ret
   exact ⟨_, rfl, HF.out.1, _, HF.out.2⟩
 ·obtain ⟨x, hx⟩ : ∃ x, x = (firstL D c.toNat).getD (m - 1) 0 := ⟨_, rfl⟩
  have cx : w1.cell? ⟨g1, m - 1, none⟩ = some (.int .i64 x) := by rw [hx]; exact HOW.out.cell (by rw [firstL_length, hm]) (m - 1) (by omega)
  have hm1 : (m : Int) - 1 = ((m - 1 : Nat) : Int) := by omega
  have hmp : 0 < m := by omega
  rw [show (firstL D c.toNat).getD (c.toNat - 1) 0 = x from by rw [hx, hm]] at hev
  by_cases hx2 : x % 2 = 1
  ·have hodt : od = true := by rw [hod, hev, hx2]; rfl
   subst hodt
   have hxi : (x : Int) % 2 = 1 := by omega
   clear hown hb c0 c1 hod hrest hlf hev hx hx2 hm hce
   cases hup : upB mode neg rest true with
   | false =>
    have HST := hid (HST.out hup)
    have HU : Hid (∀ w, Calls Tryz.prog 68 #[.int .i64 mode, .bool neg, .bool true, .int .i64 rest] w fun e w' => e = .returned (.bool false) ∧ w' = w) := fun w => by
     have := upper_any mode rest neg true hr0 hr3 w
     rw [hup] at this; exact this
    clear hup
    go_wp2_with fail
    refine HBH.out.mono ?_
    rintro r w2 ⟨rfl, rfl⟩
    go_wp2_with fail
    refine (HU.out _).mono ?_
    rintro r w3 ⟨rfl, rfl⟩
    go_wp2
    go_ret
    exact ⟨_, rfl, ⟨_, _, _, rfl⟩, _, HST.out, HOW.out, HB1.out⟩
   | true =>
    have HUP := hid (HUP.out hup)
    have HU : Hid (∀ w, Calls Tryz.prog 68 #[.int .i64 mode, .bool neg, .bool true, .int .i64 rest] w fun e w' => e = .returned (.bool true) ∧ w' = w) := fun w => by
     have := upper_any mode rest neg true hr0 hr3 w
     rw [hup] at this; exact this
    clear hup
    go_wp2_with fail
    refine HBH.out.mono ?_
    rintro r w2 ⟨rfl, rfl⟩
    go_wp2_with fail
    refine (HU.out _).mono ?_
    rintro r w3 ⟨rfl, rfl⟩
    go_wp2_with fail
    refine HNX.out.mono ?_
    rintro r w4 ⟨v4, rfl, z, hz4, ho4, hb4⟩
    have HF : Hid (SomeS v4 ∧ Rnd (awayB mode neg) D e p (nextL (firstL D c.toNat) z) ∧ Own w4 w.heap.size v4 (nextL (firstL D c.toNat) z) ∧ Below w.heap.size w w4) := ⟨ho4.someS (next_ne hz4), HUP.out z hz4, Own.mono ho4 HB1.out.size, HB1.out.trans (hb4.mono HB1.out.size)⟩
    clear hz4 ho4 hb4
    go_wp2
    go_ret
    exact ⟨_, rfl, HF.out.1, _, HF.out.2⟩
  ·have hx0 : x % 2 = 0 := by omega
   have hodf : od = false := by rw [hod, hev, hx0]; rfl
   subst hodf
   have hxi : (x : Int) % 2 = 0 := by omega
   clear hown hb c0 c1 hod hrest hlf hev hx hx2 hx0 hm hce
   cases hup : upB mode neg rest false with
   | false =>
    have HST := hid (HST.out hup)
    have HU : Hid (∀ w, Calls Tryz.prog 68 #[.int .i64 mode, .bool neg, .bool false, .int .i64 rest] w fun e w' => e = .returned (.bool false) ∧ w' = w) := fun w => by
     have := upper_any mode rest neg false hr0 hr3 w
     rw [hup] at this; exact this
    clear hup
    go_wp2_with fail
    refine HBH.out.mono ?_
    rintro r w2 ⟨rfl, rfl⟩
    go_wp2_with fail
    refine (HU.out _).mono ?_
    rintro r w3 ⟨rfl, rfl⟩
    go_wp2
    go_ret
    exact ⟨_, rfl, ⟨_, _, _, rfl⟩, _, HST.out, HOW.out, HB1.out⟩
   | true =>
    have HUP := hid (HUP.out hup)
    have HU : Hid (∀ w, Calls Tryz.prog 68 #[.int .i64 mode, .bool neg, .bool false, .int .i64 rest] w fun e w' => e = .returned (.bool true) ∧ w' = w) := fun w => by
     have := upper_any mode rest neg false hr0 hr3 w
     rw [hup] at this; exact this
    clear hup
    go_wp2_with fail
    refine HBH.out.mono ?_
    rintro r w2 ⟨rfl, rfl⟩
    go_wp2_with fail
    refine (HU.out _).mono ?_
    rintro r w3 ⟨rfl, rfl⟩
    go_wp2_with fail
    refine HNX.out.mono ?_
    rintro r w4 ⟨v4, rfl, z, hz4, ho4, hb4⟩
    have HF : Hid (SomeS v4 ∧ Rnd (awayB mode neg) D e p (nextL (firstL D c.toNat) z) ∧ Own w4 w.heap.size v4 (nextL (firstL D c.toNat) z) ∧ Below w.heap.size w w4) := ⟨ho4.someS (next_ne hz4), HUP.out z hz4, Own.mono ho4 HB1.out.size, HB1.out.trans (hb4.mono HB1.out.size)⟩
    clear hz4 ho4 hb4
    go_wp2
    go_ret
    exact ⟨_, rfl, HF.out.1, _, HF.out.2⟩
end Go.Proofs.YtbkdaoicnobllabGreatDoor
