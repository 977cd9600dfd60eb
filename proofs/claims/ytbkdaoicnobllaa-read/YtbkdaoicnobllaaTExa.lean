import Derived.Test.YtbkdaoicnobllaaTRead
import Derived.Test.YtbkdaoicnobllaaTPath

namespace Go.Proofs.Ytbkdaoicnobllaa
open Go.RowKit

theorem FracPost.lift {w w1 w' : World} {e : Ending} {Q Q' : Nat → Nat → Int → Prop} (hb : Below w.heap.size w w1) (h : FracPost (fun k => k < w1.heap.size) w1 w' e Q) (hQ : ∀ V U q, Q V U q → Q' V U q) : FracPost (fun k => k < w.heap.size) w w' e Q' := by
  obtain ⟨p, V, U, q, h1, ⟨bo, bu, h2⟩, h3, h4, h5, h6, h7, h8, h9⟩ := h
  have hs := hb.size
  refine ⟨p, V, U, q, h1, ⟨bo, bu, h2.c0, h2.c1, h2.c2, h2.fz, fun hh => h2.out (by omega), h2.two.set (fun k hk => ?_)⟩, h3, h4, h5, h6, h7, (Below.kept hb (fun _ h => h)).trans (h8.mono (fun k hk => by omega)), hQ _ _ _ h9⟩
  rcases hk with hk | hk
  · exact .inl (by omega)
  · exact .inr hk
theorem numB_16 (D : List Nat) : numB 16 D = num16 D := rfl
theorem num_pos_lead {D : List Nat} (h : D.getD 0 0 ≠ 0) : 0 < num D := Nat.lt_of_lt_of_le (Nat.pow_pos (by omega)) (lead_ge h)
theorem num16_pos_lead {D : List Nat} (h : D.getD 0 0 ≠ 0) : 0 < num16 D := Nat.lt_of_lt_of_le (Nat.pow_pos (by omega)) (num16_lead h)
/-- What 'exactly' makes. -/
def ExaRes (kd : Int) (D : List Nat) (pw : Int) (V U : Nat) (q : Int) : Prop := (kd = 1 ∧ SameVal (num16 D) 1 pw V U q) ∨ (kd = 0 ∧ DecFrac D pw V U q)

set_option maxRecDepth 100000 in
set_option maxHeartbeats 1000000 in
theorem exactly_any (bd cap n : Nat) (D : List Nat) (kd pw : Int) (neg : Bool) (w : World) (hn : D.length = n) (hlen : n ≤ 900) (ho : Own w 0 (.slice (some ⟨bd, 0, none⟩) n cap) D) (hD0 : D.getD 0 0 ≠ 0)
    (hk : (kd = 1 ∧ ∀ d, d ∈ D → d < 16) ∨ (kd = 0 ∧ ∀ d, d ∈ D → d < 10)) (hp1 : -100000000 ≤ pw) (hp2 : pw ≤ 100000000) :
    Calls Try.prog 42 #[.agg #[.int .i64 kd, .bool neg, .slice (some ⟨bd, 0, none⟩) n cap, .int .i64 pw]] w fun e w' => FracPost (fun k => k < w.heap.size) w w' e (ExaRes kd D pw) := by
  obtain ⟨w1, hw1⟩ : ∃ w1, w1 = w.alloc (.cells #[.int .i64 kd, .bool neg, .slice (some ⟨bd, 0, none⟩) n cap, .int .i64 pw] 53) := ⟨_, rfl⟩
  have hb : Below w.heap.size w w1 := by rw [hw1]; exact (Below.refl _ _).alloc (Nat.le_refl _) _
  have hcap : n ≤ cap ∧ cap ≤ maxLen := by
    rcases ho.form with ⟨_, h2⟩ | ⟨g', cap', hv, _, _, h3, h4⟩
    · cases h2
    · simp only [Value.slice.injEq] at hv
      obtain ⟨_, _, h5⟩ := hv
      omega
  have hbd0 : bd < w.heap.size := ho.lt' bd rfl
  have hbd : bd < w1.heap.size := by have := hb.size; omega
  have hce : ∀ j, j < n → w1.cell? ⟨bd, 0 + j, none⟩ = some (.int .i64 (D.getD j 0 : Nat)) := fun j hj => by
    rw [Nat.zero_add]; exact (hb.cell (p := ⟨bd, j, none⟩) hbd0).trans (ho.cell hn j hj)
  have k0 : w1.cell? ⟨w.heap.size, 0, none⟩ = some (.int .i64 kd) := by rw [hw1]; simp [go_sem]
  have k2 : w1.cell? ⟨w.heap.size, 2, none⟩ = some (.slice (some ⟨bd, 0, none⟩) n cap) := by rw [hw1]; simp [go_sem]
  have k3 : w1.cell? ⟨w.heap.size, 3, none⟩ = some (.int .i64 pw) := by rw [hw1]; simp [go_sem]
  have HW := hid hw1
  have HB := hid hb
  have HX : Hid (Calls Try.prog (if kd = 1 then 66 else 67) #[.slice (some ⟨bd, 0, none⟩) n cap, .int .i64 pw] w1 fun e w' => FracPost (fun k => k < w.heap.size) w w' e (ExaRes kd D pw)) := by
    unfold Hid
    rcases hk with ⟨rfl, hk⟩ | ⟨rfl, hk⟩
    · rw [if_pos rfl]
      refine (fromHex_any bd 0 cap n D pw w1 hn hlen hcap.1 hcap.2 hbd hce hk (by rw [numB_16]; exact num16_pos_lead hD0) hp1 hp2).mono ?_
      exact fun e w' h => h.lift hb (fun V U q hq => .inl ⟨rfl, hq⟩)
    · rw [if_neg (by decide)]
      by_cases hf : 400 < pw + n - 1 ∨ pw + n - 1 < -400
      · refine (fromDecimal_far bd 0 cap n pw w1 hlen hp1 hp2 hf).mono ?_
        refine fun e w' h => h.lift hb (fun V U q hq => .inr ⟨rfl, ?_⟩)
        obtain ⟨_, _, hq⟩ := hq
        by_cases h4 : 400 < pw + n - 1
        · rw [if_pos h4] at hq; exact .inl ⟨by rw [hn]; exact h4, hq⟩
        · rw [if_neg h4] at hq; exact .inr (.inl ⟨by rw [hn]; omega, hq⟩)
      · refine (fromDecimal_near bd 0 cap n D pw w1 hn hlen hcap.1 hcap.2 hbd hce hk (by rw [numB_num]; exact num_pos_lead hD0) (by omega) (by omega)).mono ?_
        refine fun e w' h => h.lift hb (fun V U q hq => .inr ⟨rfl, .inr (.inr ⟨by rw [hn]; omega, by rw [hn]; omega, ?_⟩)⟩)
        rw [numB_num] at hq; exact hq
  clear ho hce hw1 hb hn
  go_enter Try.func42, Try.ntmps42
  rcases hk with ⟨rfl, hk⟩ | ⟨rfl, hk⟩
  · rw [if_pos rfl] at HX
    go_wp2_with (rw [← HW.out])
    go_wp2_with fail
    refine HX.out.mono ?_
    rintro e w' ⟨p, V, U, q, rfl, h⟩
    have H := hid h
    clear h HX
    go_wp2
    go_ret
    exact ⟨p, V, U, q, rfl, H.out⟩
  · rw [if_neg (by decide)] at HX
    go_wp2_with (rw [← HW.out])
    go_wp2_with fail
    refine HX.out.mono ?_
    rintro e w' ⟨p, V, U, q, rfl, h⟩
    have H := hid h
    clear h HX
    go_wp2
    go_ret
    exact ⟨p, V, U, q, rfl, H.out⟩

theorem amt0 (mode : Int) (neg : Bool) (V U : Nat) (q : Int) : amtOf 0 mode neg V U q = roundP 15 1024 31744 mode neg (lowPair 10 15 1024 31744 V U q).1 (lowPair 10 15 1024 31744 V U q).2 q := rfl
theorem amt1 (mode : Int) (neg : Bool) (V U : Nat) (q : Int) : amtOf 1 mode neg V U q = roundP 127 8388608 2139095040 mode neg (lowPair 23 127 8388608 2139095040 V U q).1 (lowPair 23 127 8388608 2139095040 V U q).2 q := rfl
theorem amt2 (mode : Int) (neg : Bool) (V U : Nat) (q : Int) : amtOf 2 mode neg V U q = roundP 1023 4503599627370496 9218868437227405312 mode neg (lowPair 52 1023 4503599627370496 9218868437227405312 V U q).1 (lowPair 52 1023 4503599627370496 9218868437227405312 V U q).2 q := rfl
theorem amount_any (f : Int) (hf : 0 ≤ f ∧ f ≤ 2) (S : Nat → Prop) (p bo bu V U : Nat) (pw mode : Int) (neg : Bool) (w : World) (h : FracAt S w p bo bu V U pw 8000) (hVU : V < 2 * U) (hp1 : -110000000 ≤ pw) (hp2 : pw ≤ 110000000) :
    Calls Try.prog 43 #[.pointer (some ⟨p, 0, none⟩), layOf f, .bool neg, .int .i64 mode] w fun e w' => e = .returned (.tuple #[.int .i64 (amtOf f mode neg V U pw).1, .int .i64 (amtOf f mode neg V U pw).2]) ∧ Kept S w w' := by
  rcases (by omega : f = 0 ∨ f = 1 ∨ f = 2) with rfl | rfl | rfl
  · rw [amt0]; exact amount0 S p bo bu V U pw mode neg w h hVU hp1 hp2
  · rw [amt1]; exact amount1 S p bo bu V U pw mode neg w h hVU hp1 hp2
  · rw [amt2]; exact amount2 S p bo bu V U pw mode neg w h hVU hp1 hp2
theorem amt_bd {f mode : Int} {neg : Bool} {V U : Nat} {q : Int} (hf : Fmt f) (hVU : V < 2 * U) : 0 ≤ (amtOf f mode neg V U q).1 ∧ (amtOf f mode neg V U q).1 ≤ infN f := by
  have hb := hf.b1
  obtain ⟨h1, h2, _⟩ := lowPair_bd (fQ f) (fB f) ((2 ^ fQ f : Nat) : Int) (infN f) V U q rfl hf.i (by omega) hVU
  unfold amtOf roundP
  generalize (lowPair (fQ f) (fB f) ((2 ^ fQ f : Nat) : Int) (infN f) V U q).1 = lo at *
  generalize (lowPair (fQ f) (fB f) ((2 ^ fQ f : Nat) : Int) (infN f) V U q).2 = re at *
  split
  · exact ⟨h1, by show lo ≤ _; omega⟩
  · split
    · exact ⟨by show 0 ≤ lo + 1; omega, by show lo + 1 ≤ _; omega⟩
    · exact ⟨h1, by show lo ≤ _; omega⟩
theorem infN_max (f : Int) : (infN f : Int) ≤ 9218868437227405312 := by unfold infN; split <;> (try split) <;> decide
theorem lay_form (f : Int) (hf : 0 ≤ f ∧ f ≤ 2) : ∃ F B N G : Int, layOf f = layV F B N (infN f) G := by
  rcases (by omega : f = 0 ∨ f = 1 ∨ f = 2) with rfl | rfl | rfl
  · exact ⟨_, _, _, _, rfl⟩
  · exact ⟨_, _, _, _, rfl⟩
  · exact ⟨_, _, _, _, rfl⟩
/-- The pattern and the flags of what was read. -/
def PatRes (f mode : Int) (neg : Bool) (kd : Int) (D : List Nat) (pw : Int) (bts fl : Int) : Prop :=
  (kd = 3 ∧ bts = nanP f ∧ fl = 0) ∨ (kd = 2 ∧ bts = signedV f neg (infN f) ∧ fl = 0) ∨
  ((kd = 0 ∨ kd = 1) ∧ D = [] ∧ bts = signedV f neg 0 ∧ fl = 0) ∨
  ((kd = 0 ∨ kd = 1) ∧ D ≠ [] ∧ ∃ V U q, U ≤ V ∧ V < 2 * U ∧ ExaRes kd D pw V U q ∧ bts = signedV f neg (amtOf f mode neg V U q).1 ∧ fl = (amtOf f mode neg V U q).2)
def PatPost (w w' : World) (f mode : Int) (neg : Bool) (kd : Int) (D : List Nat) (pw : Int) (e : Ending) : Prop :=
  ∃ bts fl : Int, e = .returned (.tuple #[.int .i64 bts, .int .i64 fl]) ∧ Below w.heap.size w w' ∧ PatRes f mode neg kd D pw bts fl
end Go.Proofs.Ytbkdaoicnobllaa

namespace Go.Proofs.Ytbkdaoicnobllaa
open Go.RowKit

set_option maxRecDepth 100000 in
set_option maxHeartbeats 2000000 in
theorem patternOf_word (f mode kd pw : Int) (neg : Bool) (ao : Option Addr) (n cp : Nat) (D : List Nat) (w : World) (hf : 0 ≤ f ∧ f ≤ 2) (hk : kd = 2 ∨ kd = 3) :
    Calls Try.prog 29 #[.agg #[.int .i64 kd, .bool neg, .slice ao n cp, .int .i64 pw], layOf f, .int .i64 mode] w fun e w' => PatPost w w' f mode neg kd D pw e := by
  obtain ⟨F, B, N, G, hlay⟩ := lay_form f hf
  obtain ⟨I, hI⟩ : ∃ I : Int, I = infN f := ⟨_, rfl⟩
  rw [← hI] at hlay
  obtain ⟨w1, hw1⟩ : ∃ w1, w1 = (w.alloc (.cells #[.int .i64 kd, .bool neg, .slice ao n cp, .int .i64 pw] 53)).alloc (.cells #[.int .i64 F, .int .i64 B, .int .i64 N, .int .i64 I, .int .i64 G] 57) := ⟨_, rfl⟩
  have HB : Hid (Below w.heap.size w w1) := by unfold Hid; rw [hw1]; exact box4_below
  have hsz : w1.heap.size = w.heap.size + 2 := by rw [hw1]; simp
  have m0 : w1.cell? ⟨w.heap.size, 0, none⟩ = some (.int .i64 kd) := by rw [hw1]; simp [go_sem]
  have m1 : w1.cell? ⟨w.heap.size, 1, none⟩ = some (.bool neg) := by rw [hw1]; simp [go_sem]
  have m2 : w1.cell? ⟨w.heap.size, 2, none⟩ = some (.slice ao n cp) := by rw [hw1]; simp [go_sem]
  have m3 : w1.cell? ⟨w.heap.size, 3, none⟩ = some (.int .i64 pw) := by rw [hw1]; simp [go_sem]
  have l0 : w1.cell? ⟨w.heap.size + 1, 0, none⟩ = some (.int .i64 F) := by rw [hw1]; simp [go_sem]
  have l1 : w1.cell? ⟨w.heap.size + 1, 1, none⟩ = some (.int .i64 B) := by rw [hw1]; simp [go_sem]
  have l2 : w1.cell? ⟨w.heap.size + 1, 2, none⟩ = some (.int .i64 N) := by rw [hw1]; simp [go_sem]
  have l3 : w1.cell? ⟨w.heap.size + 1, 3, none⟩ = some (.int .i64 I) := by rw [hw1]; simp [go_sem]
  have l4 : w1.cell? ⟨w.heap.size + 1, 4, none⟩ = some (.int .i64 G) := by rw [hw1]; simp [go_sem]
  have HW := hid hw1
  have HX3 := hid (patNaN_any f hf.1 hf.2 w1)
  have HX2 := hid (patSigned_any f I neg hf.1 hf.2 (by omega) (by have := infN_max f; omega) w1)
  have HI := hid hI
  rw [hlay] at HX3 HX2 ⊢
  unfold layV at HX3 HX2 ⊢
  clear hw1 hlay hI
  go_enter Try.func29, Try.ntmps29
  rcases hk with rfl | rfl
  · go_wp2_with (rw [← HW.out])
    go_wp2_with fail
    refine HX2.out.mono ?_
    rintro e w2 ⟨rfl, h2⟩
    have HB2 := hid (HB.out.trans (h2.mono (by omega)))
    clear HX2 HX3 h2
    go_wp2
    go_ret2
    exact ⟨_, _, rfl, HB2.out, .inr (.inl ⟨rfl, by rw [← HI.out], rfl⟩)⟩
  · go_wp2_with (rw [← HW.out])
    go_wp2_with fail
    refine HX3.out.mono ?_
    rintro e w2 ⟨rfl, h2⟩
    have HB2 := hid (HB.out.trans (h2.mono (by omega)))
    clear HX2 HX3 h2
    go_wp2
    go_ret2
    exact ⟨_, _, rfl, HB2.out, .inl ⟨rfl, rfl, rfl⟩⟩

set_option maxRecDepth 100000 in
set_option maxHeartbeats 2000000 in
theorem patternOf_zero (f mode kd pw : Int) (neg : Bool) (ao : Option Addr) (cp : Nat) (w : World) (hf : 0 ≤ f ∧ f ≤ 2) (hk : kd = 0 ∨ kd = 1) :
    Calls Try.prog 29 #[.agg #[.int .i64 kd, .bool neg, .slice ao 0 cp, .int .i64 pw], layOf f, .int .i64 mode] w fun e w' => PatPost w w' f mode neg kd [] pw e := by
  obtain ⟨F, B, N, G, hlay⟩ := lay_form f hf
  obtain ⟨I, hI⟩ : ∃ I : Int, I = infN f := ⟨_, rfl⟩
  rw [← hI] at hlay
  obtain ⟨w1, hw1⟩ : ∃ w1, w1 = (w.alloc (.cells #[.int .i64 kd, .bool neg, .slice ao 0 cp, .int .i64 pw] 53)).alloc (.cells #[.int .i64 F, .int .i64 B, .int .i64 N, .int .i64 I, .int .i64 G] 57) := ⟨_, rfl⟩
  have HB : Hid (Below w.heap.size w w1) := by unfold Hid; rw [hw1]; exact box4_below
  have hsz : w1.heap.size = w.heap.size + 2 := by rw [hw1]; simp
  have m0 : w1.cell? ⟨w.heap.size, 0, none⟩ = some (.int .i64 kd) := by rw [hw1]; simp [go_sem]
  have m1 : w1.cell? ⟨w.heap.size, 1, none⟩ = some (.bool neg) := by rw [hw1]; simp [go_sem]
  have m2 : w1.cell? ⟨w.heap.size, 2, none⟩ = some (.slice ao 0 cp) := by rw [hw1]; simp [go_sem]
  have m3 : w1.cell? ⟨w.heap.size, 3, none⟩ = some (.int .i64 pw) := by rw [hw1]; simp [go_sem]
  have l0 : w1.cell? ⟨w.heap.size + 1, 0, none⟩ = some (.int .i64 F) := by rw [hw1]; simp [go_sem]
  have l1 : w1.cell? ⟨w.heap.size + 1, 1, none⟩ = some (.int .i64 B) := by rw [hw1]; simp [go_sem]
  have l2 : w1.cell? ⟨w.heap.size + 1, 2, none⟩ = some (.int .i64 N) := by rw [hw1]; simp [go_sem]
  have l3 : w1.cell? ⟨w.heap.size + 1, 3, none⟩ = some (.int .i64 I) := by rw [hw1]; simp [go_sem]
  have l4 : w1.cell? ⟨w.heap.size + 1, 4, none⟩ = some (.int .i64 G) := by rw [hw1]; simp [go_sem]
  have HW := hid hw1
  have HX2 := hid (patSigned_any f 0 neg hf.1 hf.2 (by omega) (by omega) w1)
  have HK := hid hk
  rw [hlay] at HX2 ⊢
  unfold layV at HX2 ⊢
  have t3 : (kd == 3) = false := by simp; omega
  have t2 : (kd == 2) = false := by simp; omega
  clear hw1 hlay hI hk
  go_enter Try.func29, Try.ntmps29
  go_wp2_with (rw [← HW.out])
  go_wp2_with fail
  refine HX2.out.mono ?_
  rintro e w2 ⟨rfl, h2⟩
  have HB2 := hid (HB.out.trans (h2.mono (by omega)))
  clear HX2 h2
  go_wp2
  go_ret2
  exact ⟨_, _, rfl, HB2.out, .inr (.inr (.inl ⟨HK.out, rfl, rfl, rfl⟩))⟩

set_option maxRecDepth 100000 in
set_option maxHeartbeats 2000000 in
theorem patternOf_num (f mode kd pw : Int) (neg : Bool) (bd n cp : Nat) (D : List Nat) (w : World) (hf : 0 ≤ f ∧ f ≤ 2) (hn : D.length = n) (hlen : n ≤ 900) (ho : Own w 0 (.slice (some ⟨bd, 0, none⟩) n cp) D) (hD0 : D.getD 0 0 ≠ 0)
    (hk : (kd = 1 ∧ ∀ d, d ∈ D → d < 16) ∨ (kd = 0 ∧ ∀ d, d ∈ D → d < 10)) (hp1 : -100000000 ≤ pw) (hp2 : pw ≤ 100000000) :
    Calls Try.prog 29 #[.agg #[.int .i64 kd, .bool neg, .slice (some ⟨bd, 0, none⟩) n cp, .int .i64 pw], layOf f, .int .i64 mode] w fun e w' => PatPost w w' f mode neg kd D pw e := by
  obtain ⟨F, B, N, G, hlay⟩ := lay_form f hf
  obtain ⟨I, hI⟩ : ∃ I : Int, I = infN f := ⟨_, rfl⟩
  rw [← hI] at hlay
  obtain ⟨w1, hw1⟩ : ∃ w1, w1 = (w.alloc (.cells #[.int .i64 kd, .bool neg, .slice (some ⟨bd, 0, none⟩) n cp, .int .i64 pw] 53)).alloc (.cells #[.int .i64 F, .int .i64 B, .int .i64 N, .int .i64 I, .int .i64 G] 57) := ⟨_, rfl⟩
  have HB : Hid (Below w.heap.size w w1) := by unfold Hid; rw [hw1]; exact box4_below
  have hsz : w1.heap.size = w.heap.size + 2 := by rw [hw1]; simp
  have m0 : w1.cell? ⟨w.heap.size, 0, none⟩ = some (.int .i64 kd) := by rw [hw1]; simp [go_sem]
  have m1 : w1.cell? ⟨w.heap.size, 1, none⟩ = some (.bool neg) := by rw [hw1]; simp [go_sem]
  have m2 : w1.cell? ⟨w.heap.size, 2, none⟩ = some (.slice (some ⟨bd, 0, none⟩) n cp) := by rw [hw1]; simp [go_sem]
  have m3 : w1.cell? ⟨w.heap.size, 3, none⟩ = some (.int .i64 pw) := by rw [hw1]; simp [go_sem]
  have l0 : w1.cell? ⟨w.heap.size + 1, 0, none⟩ = some (.int .i64 F) := by rw [hw1]; simp [go_sem]
  have l1 : w1.cell? ⟨w.heap.size + 1, 1, none⟩ = some (.int .i64 B) := by rw [hw1]; simp [go_sem]
  have l2 : w1.cell? ⟨w.heap.size + 1, 2, none⟩ = some (.int .i64 N) := by rw [hw1]; simp [go_sem]
  have l3 : w1.cell? ⟨w.heap.size + 1, 3, none⟩ = some (.int .i64 I) := by rw [hw1]; simp [go_sem]
  have l4 : w1.cell? ⟨w.heap.size + 1, 4, none⟩ = some (.int .i64 G) := by rw [hw1]; simp [go_sem]
  have HW := hid hw1
  have hn0 : 0 < n := by
    rcases Nat.eq_zero_or_pos n with h0 | h0
    · rw [h0] at hn; rw [List.length_eq_zero_iff.1 hn] at hD0; simp at hD0
    · exact h0
  have HD : Hid (D ≠ []) := fun h => by rw [h] at hn; simp at hn; omega
  have HX := hid (exactly_any bd cp n D kd pw neg w1 hn hlen (ho.below HB.out (Nat.le_refl _)) hD0 hk hp1 hp2)
  have HK : Hid (kd = 0 ∨ kd = 1) := by
    rcases hk with ⟨h, _⟩ | ⟨h, _⟩
    · exact .inr h
    · exact .inl h
  have t3 : (kd == 3) = false := by have := HK.out; simp; omega
  have t2 : (kd == 2) = false := by have := HK.out; simp; omega
  have t0 : ((n : Int) == 0) = false := by simp; omega
  have HL := hid hlay
  rw [hlay]
  unfold layV
  clear hw1 hI hk ho hlay hn
  go_enter Try.func29, Try.ntmps29
  go_wp2_with (rw [← HW.out])
  go_wp2_with fail
  refine HX.out.mono ?_
  rintro e w2 ⟨p, V, U, q, rfl, ⟨bo, bu, hfr⟩, hUV, hVU, hU, hq1, hq2, hkp, hex⟩
  have HE := hid hex
  have HUV := hid (And.intro hUV hVU)
  have HXA := hid (amount_any f hf _ p bo bu V U q mode neg w2 hfr hVU hq1 hq2)
  obtain ⟨A, hA⟩ : ∃ A, A = (amtOf f mode neg V U q).1 := ⟨_, rfl⟩
  obtain ⟨fl, hfl⟩ : ∃ fl, fl = (amtOf f mode neg V U q).2 := ⟨_, rfl⟩
  have hbd := amt_bd (mode := mode) (neg := neg) (q := q) (fmt_of hf) hVU
  rw [← hA] at hbd
  rw [← hA, ← hfl, HL.out] at HXA
  unfold layV at HXA
  have HAF := hid (And.intro hA hfl)
  have HKP := hid hkp
  have o1 := hkp.cell m1 (show w.heap.size < w1.heap.size by omega)
  have x0 := hkp.cell l0 (show w.heap.size + 1 < w1.heap.size by omega)
  have x1 := hkp.cell l1 (show w.heap.size + 1 < w1.heap.size by omega)
  have x2 := hkp.cell l2 (show w.heap.size + 1 < w1.heap.size by omega)
  have x3 := hkp.cell l3 (show w.heap.size + 1 < w1.heap.size by omega)
  have x4 := hkp.cell l4 (show w.heap.size + 1 < w1.heap.size by omega)
  clear HX hfr hUV hVU hU hkp hex hA hfl m0 m1 m2 m3 l0 l1 l2 l3 l4
  go_wp2_with fail
  refine HXA.out.mono ?_
  rintro e w3 ⟨rfl, hk3⟩
  have HKP3 := hid (HKP.out.trans hk3)
  have HXS := hid (patSigned_any f A neg hf.1 hf.2 hbd.1 (Int.le_trans hbd.2 (infN_max f)) w3)
  rw [HL.out] at HXS
  unfold layV at HXS
  have y1 := hk3.cell o1 (show w.heap.size < w1.heap.size by omega)
  have z0 := hk3.cell x0 (show w.heap.size + 1 < w1.heap.size by omega)
  have z1 := hk3.cell x1 (show w.heap.size + 1 < w1.heap.size by omega)
  have z2 := hk3.cell x2 (show w.heap.size + 1 < w1.heap.size by omega)
  have z3 := hk3.cell x3 (show w.heap.size + 1 < w1.heap.size by omega)
  have z4 := hk3.cell x4 (show w.heap.size + 1 < w1.heap.size by omega)
  clear HXA hk3 o1 x0 x1 x2 x3 x4 hbd HKP
  go_wp2_with fail
  refine HXS.out.mono ?_
  rintro e w4 ⟨rfl, h4⟩
  have HB4 : Hid (Below w.heap.size w w4) := HB.out.trans ((HKP3.out.below (Nat.le_refl _)).trans (h4.mono HKP3.out.size) |>.mono (by omega))
  clear HXS h4
  go_wp2
  go_ret2
  exact ⟨_, _, rfl, HB4.out, .inr (.inr (.inr ⟨HK.out, HD.out, V, U, q, HUV.out.1, HUV.out.2, HE.out, by rw [← HAF.out.1], HAF.out.2⟩))⟩
end Go.Proofs.Ytbkdaoicnobllaa
