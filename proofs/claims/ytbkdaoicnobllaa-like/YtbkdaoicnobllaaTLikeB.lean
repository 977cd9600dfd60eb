import Derived.Test.YtbkdaoicnobllaaTLike
import Derived.Test.YtbkdaoicnobllaaTKeepF

/- Plain mathematics: a decimal text by its parts. -/
namespace Go.Proofs.Ytbkdaoicnobllaa

theorem dead_stays (l : List Nat) : ∀ k j, j ≤ k → k ≤ l.length → stAt l j = 28 → stAt l k = 28 := by
  intro k
  induction k with
  | zero => intro j hj _ h; rw [show j = 0 from by omega] at h; exact h
  | succ k ih =>
    intro j hj hk h
    rcases Nat.lt_or_ge j (k + 1) with g | g
    · rw [stAt_succ l k (by omega), ih j (by omega) (by omega) h]; rfl
    · rw [show k + 1 = j from by omega]; exact h
theorem read_of_fold {l : List Nat} {st : Nat} (h : l.foldl nextS 0 = st) (he : endsB st = true) : ReadSpec l st l.length true := by
  have hs : stAt l l.length = st := by unfold stAt; rw [List.take_length]; exact h
  refine .inr ⟨fun j hj hd => ?_, hs.symm, rfl, he.symm⟩
  have := dead_stays l l.length j hj (Nat.le_refl _) hd
  rw [hs] at this
  rw [this] at he; cases he
def AllD (A : List Nat) : Prop := ∀ c, c ∈ A → isDig c = true
theorem AllD.app {A B : List Nat} (h : AllD A) (k : AllD B) : AllD (A ++ B) := fun c hc => by
  rcases List.mem_append.1 hc with g | g
  · exact h c g
  · exact k c g
theorem fold_loop (st : Nat) (hq : ∀ c, isDig c = true → nextS st c = st) (A : List Nat) (h : AllD A) : A.foldl nextS st = st := by
  induction A with
  | nil => rfl
  | cons c r ih => rw [List.foldl_cons, hq c (h c List.mem_cons_self)]; exact ih (fun x hx => h x (List.mem_cons_of_mem _ hx))
theorem fold_next (s0 st : Nat) (h0 : ∀ c, isDig c = true → nextS s0 c = st) (hq : ∀ c, isDig c = true → nextS st c = st) (A : List Nat) (h : AllD A) (hA : A ≠ []) : A.foldl nextS s0 = st := by
  cases A with
  | nil => exact absurd rfl hA
  | cons c r => rw [List.foldl_cons, h0 c (h c List.mem_cons_self)]; exact fold_loop st hq r (fun x hx => h x (List.mem_cons_of_mem _ hx))
theorem d3 (c : Nat) (h : isDig c = true) : nextS 3 c = 3 := by show (if isDig c = true then 3 else _) = 3; rw [if_pos h]
theorem d6 (c : Nat) (h : isDig c = true) : nextS 6 c = 6 := by show (if isDig c = true then 6 else _) = 6; rw [if_pos h]
theorem d4 (c : Nat) (h : isDig c = true) : nextS 4 c = 6 := by show (if isDig c = true then 6 else _) = 6; rw [if_pos h]
theorem d5 (c : Nat) (h : isDig c = true) : nextS 5 c = 6 := by show (if isDig c = true then 6 else _) = 6; rw [if_pos h]
theorem d9 (c : Nat) (h : isDig c = true) : nextS 9 c = 9 := by show (if isDig c = true then 9 else _) = 9; rw [if_pos h]
theorem d7 (c : Nat) (h : isDig c = true) : nextS 7 c = 9 := by show (if isDig c = true then 9 else _) = 9; rw [if_pos h]
theorem d8 (c : Nat) (h : isDig c = true) : nextS 8 c = 9 := by show (if isDig c = true then 9 else _) = 9; rw [if_pos h]
theorem d2 (c : Nat) (h : isDig c = true) : nextS 2 c = 3 := by
  show (if c = 120 then 10 else if isDig c = true then 3 else _) = 3
  rw [if_neg (dig_ne h).2.2.1, if_pos h]
theorem fold_first (s0 : Nat) (hs : s0 = 0 ∨ s0 = 1) (A : List Nat) (h : AllD A) (hA : A ≠ []) : A.foldl nextS s0 = 2 ∨ A.foldl nextS s0 = 3 := by
  cases A with
  | nil => exact absurd rfl hA
  | cons c r =>
    have hc := h c List.mem_cons_self
    have hr : AllD r := fun x hx => h x (List.mem_cons_of_mem _ hx)
    have hsg : sgn c = false := by
      cases hh : sgn c
      · rfl
      · rw [sgn_notDig hh] at hc; cases hc
    have hb : nextS s0 c = beginS c := by
      rcases hs with rfl | rfl
      · show (if sgn c = true then 1 else beginS c) = _; rw [hsg]; rfl
      · rfl
    rw [List.foldl_cons, hb]
    unfold beginS
    by_cases h48 : c = 48
    · rw [if_pos h48]
      by_cases hr0 : r = []
      · rw [hr0]; exact .inl rfl
      · exact .inr (fold_next 2 3 d2 d3 r hr hr0)
    · rw [if_neg h48, if_pos hc]; exact .inr (fold_loop 3 d3 r hr)
/-- A power's sign and digits. -/
def PowT (pw : List Nat) : Prop := ∃ sg E, pw = sg ++ E ∧ (sg = [] ∨ sg = [43] ∨ sg = [45]) ∧ AllD E ∧ E ≠ []
theorem fold_pow {pw : List Nat} (h : PowT pw) : pw.foldl nextS 7 = 9 := by
  obtain ⟨sg, E, rfl, hs, hE, hne⟩ := h
  rw [List.foldl_append]
  rcases hs with rfl | rfl | rfl
  · exact fold_next 7 9 d7 d9 E hE hne
  · exact fold_next 8 9 d8 d9 E hE hne
  · exact fold_next 8 9 d8 d9 E hE hne
def ptL (pt : Bool) : List Nat := if pt = true then [46] else []
theorem fold_mant (s0 : Nat) (hs : s0 = 0 ∨ s0 = 1) (A B : List Nat) (pt : Bool) (hA : AllD A) (hB : AllD B) (hne : A ++ B ≠ []) (hpt : pt = false → B = []) : (A ++ ptL pt ++ B ++ [101]).foldl nextS s0 = 7 := by
  rw [List.foldl_append, List.foldl_append, List.foldl_append]
  cases pt
  · have hB0 := hpt rfl
    subst hB0
    have hA0 : A ≠ [] := by simpa using hne
    show nextS (A.foldl nextS s0) 101 = 7
    rcases fold_first s0 hs A hA hA0 with e | e <;> (rw [e]; rfl)
  · show nextS (B.foldl nextS (nextS (A.foldl nextS s0) 46)) 101 = 7
    by_cases hA0 : A = []
    · have hB0 : B ≠ [] := by rw [hA0] at hne; simpa using hne
      have e1 : nextS (A.foldl nextS s0) 46 = 5 := by
        rw [hA0]
        rcases hs with rfl | rfl <;> rfl
      rw [e1, fold_next 5 6 d5 d6 B hB hB0]; rfl
    · have e1 : nextS (A.foldl nextS s0) 46 = 4 := by
        rcases fold_first s0 hs A hA hA0 with e | e <;> (rw [e]; rfl)
      rw [e1]
      by_cases hB0 : B = []
      · rw [hB0]; rfl
      · rw [fold_next 4 6 d4 d6 B hB hB0]; rfl
theorem ahead_app (X Y : List Nat) (h : ∀ c, c ∈ X → c ≠ 101) : ahead (X ++ 101 :: Y) 101 = X := by
  unfold ahead
  induction X with
  | nil => simp
  | cons c r ih =>
    rw [List.cons_append, List.takeWhile_cons_of_pos (by simpa using h c List.mem_cons_self), ih (fun x hx => h x (List.mem_cons_of_mem _ hx))]
theorem expOf_app (X Y : List Nat) (h : ∀ c, c ∈ X → c ≠ 101) : expOf (X ++ 101 :: Y) 101 = expVal Y := by
  unfold expOf
  have e : (X ++ 101 :: Y).dropWhile (fun c => c != 101) = 101 :: Y := by
    induction X with
    | nil => simp
    | cons c r ih => rw [List.cons_append, List.dropWhile_cons_of_pos (by simpa using h c List.mem_cons_self), ih (fun x hx => h x (List.mem_cons_of_mem _ hx))]
  rw [e]
theorem decScan_parts (A B : List Nat) (pt : Bool) (hA : AllD A) (hB : AllD B) (hpt : pt = false → B = []) : decScan (A ++ ptL pt ++ B) = (vals (A ++ B), B.length, pt) := by
  unfold decScan
  rw [List.foldl_append, List.foldl_append, dec_fold A hA]
  cases pt
  · have hB0 := hpt rfl
    subst hB0
    simp [ptL]
  · have e : (ptL true).foldl decStep ([] ++ vals A, (if false = true then 0 + A.length else 0), false) = (vals A, 0, true) := by simp [ptL, decStep]
    rw [e, dec_fold B hB]
    simp [vals]
/-- A decimal text: its state, its number. -/
theorem text_num {pre A B pw l : List Nat} {pt : Bool} (K : Nat) (hl : l = pre ++ (A ++ ptL pt ++ B ++ 101 :: pw)) (hpre : pre = [] ∨ pre = [43]) (hA : AllD A) (hB : AllD B) (hne : A ++ B ≠ []) (hpt : pt = false → B = []) (hpw : PowT pw) :
    ReadSpec l 9 l.length true ∧ numX K (body l) 9 = heldV K (normL (vals (A ++ B))) (normE (vals (A ++ B)) (expVal pw - (B.length : Int))) ∧ decide (l.getD 0 0 = 45) = false := by
  have hX : ∀ c, c ∈ A ++ ptL pt ++ B → c ≠ 101 := by
    intro c hc
    rcases List.mem_append.1 hc with hc | hc
    · rcases List.mem_append.1 hc with hc | hc
      · exact (dig_ne (hA c hc)).2.1
      · cases pt
        · simp [ptL] at hc
        · simp [ptL] at hc; omega
    · exact (dig_ne (hB c hc)).2.1
  -- the first byte is no sign
  have hfst : ∃ x r, A ++ ptL pt ++ B ++ 101 :: pw = x :: r ∧ sgn x = false := by
    have ds : ∀ c, isDig c = true → sgn c = false := fun c hc => by
      cases hh : sgn c
      · rfl
      · rw [sgn_notDig hh] at hc; cases hc
    cases A with
    | cons c r => exact ⟨c, r ++ ptL pt ++ B ++ 101 :: pw, by simp, ds c (hA c List.mem_cons_self)⟩
    | nil =>
      cases pt
      · have := hpt rfl; subst this; simp at hne
      · exact ⟨46, B ++ 101 :: pw, by simp [ptL], rfl⟩
  have hbody : body l = A ++ ptL pt ++ B ++ 101 :: pw := by
    rw [hl]
    rcases hpre with rfl | rfl
    · obtain ⟨x, r, e, hx⟩ := hfst
      rw [List.nil_append, e]; simp [body, hx]
    · rfl
  refine ⟨read_of_fold ?_ rfl, ?_, ?_⟩
  · rw [hl, List.foldl_append]
    have hs : pre.foldl nextS 0 = 0 ∨ pre.foldl nextS 0 = 1 := by
      rcases hpre with rfl | rfl
      · exact .inl rfl
      · exact .inr rfl
    have hm := fold_mant _ hs A B pt hA hB hne hpt
    rw [show A ++ ptL pt ++ B ++ 101 :: pw = (A ++ ptL pt ++ B ++ [101]) ++ pw from by simp, List.foldl_append, hm]
    exact fold_pow hpw
  · unfold numX
    rw [if_neg (by decide), hbody, ahead_app _ _ hX, expOf_app _ _ hX, decScan_parts A B pt hA hB hpt]
  · rw [decide_eq_false_iff_not, hl]
    rcases hpre with rfl | rfl
    · obtain ⟨x, r, e, hx⟩ := hfst
      rw [List.nil_append, e]
      intro hh
      simp at hh
      rw [hh] at hx; exact absurd hx (by decide)
    · simp
end Go.Proofs.Ytbkdaoicnobllaa

/- Other texts of the same number. -/
namespace Go.Proofs.Ytbkdaoicnobllaa

theorem chs_app (a b : ByteArray) : chs (a ++ b) = chs a ++ chs b := by
  unfold chs
  rw [ByteArray.data_append]; simp
theorem expVal_dig {E : List Nat} (h : AllD E) : expVal E = expNum E := by
  unfold expVal
  rw [if_neg (fun h45 => absurd (h 45 h45) (by decide))]
theorem expNum_skip (c : Nat) (E : List Nat) (h : isDig c = false) : expNum (c :: E) = expNum E := by
  unfold expNum; rw [List.foldl_cons]; congr 1; unfold expStep; rw [h]; simp
theorem expNum_nought (E : List Nat) : expNum (48 :: E) = expNum E := by
  unfold expNum; rw [List.foldl_cons]; rfl
/-- What a power's text says. -/
theorem int_text {x : Int} {d : ByteArray} (h : IntText x d) : PowT (chs d) ∧ expVal (chs d) = x := by
  rcases h with ⟨h0, h1, h2, h3, _⟩ | ⟨h0, d', rfl, h1, h2, h3, _⟩
  · exact ⟨⟨[], chs d, rfl, .inl rfl, h1, h2⟩, by rw [expVal_dig h1, h3]; omega⟩
  · rw [chs_minus]
    refine ⟨⟨[45], chs d', rfl, .inr (.inr rfl), h1, h2⟩, ?_⟩
    unfold expVal
    rw [if_pos List.mem_cons_self, expNum_skip 45 _ rfl, h3]; omega
theorem int_text_plus {x : Int} {d : ByteArray} (h : IntText x d) (hx : 0 ≤ x) : PowT (43 :: chs d) ∧ expVal (43 :: chs d) = x := by
  rcases h with ⟨h0, h1, h2, h3, _⟩ | ⟨h0, _⟩
  · refine ⟨⟨[43], chs d, rfl, .inr (.inl rfl), h1, h2⟩, ?_⟩
    unfold expVal
    rw [if_neg (fun h45 => by
      rcases List.mem_cons.1 h45 with g | g
      · omega
      · exact absurd (h1 45 g) (by decide)), expNum_skip 43 _ rfl, h3]; omega
  · omega
theorem int_text_noughts {x : Int} {d : ByteArray} (h : IntText x d) (hx : 0 ≤ x) : PowT (48 :: 48 :: chs d) ∧ expVal (48 :: 48 :: chs d) = x := by
  rcases h with ⟨h0, h1, h2, h3, _⟩ | ⟨h0, _⟩
  · have ha : AllD (48 :: 48 :: chs d) := fun c hc => by
      rcases List.mem_cons.1 hc with g | g
      · rw [g]; rfl
      · rcases List.mem_cons.1 g with g | g
        · rw [g]; rfl
        · exact h1 c g
    exact ⟨⟨[], _, rfl, .inl rfl, ha, by simp⟩, by rw [expVal_dig ha, expNum_nought, expNum_nought, h3]; omega⟩
  · omega
theorem vals_digs {S : List Nat} (h : AllD S) : Digs (vals S) := by
  intro d hd
  unfold vals at hd
  obtain ⟨c, hc, rfl⟩ := List.mem_map.1 hd
  have := h c hc
  unfold isDig at this; simp at this; omega
/-- The number S times 10^e, as it is held. -/
def likeX (S : List Nat) (e : Int) : Nat := heldV 30000 (normL (vals S)) (normE (vals S) e)
theorem like_text {l pre A B pw S : List Nat} {pt : Bool} {e : Int} {f m b g a err : Int} (hl : l = pre ++ (A ++ ptL pt ++ B ++ 101 :: pw)) (hpre : pre = [] ∨ pre = [43]) (hA : AllD A) (hB : AllD B) (hne : A ++ B ≠ []) (hpt : pt = false → B = []) (hpw : PowT pw)
    (hS : AllD S) (he : -2000 ≤ e) (hx : -2000 ≤ expVal pw - (B.length : Int)) (hval : num (vals (A ++ B)) * 10 ^ (expVal pw - (B.length : Int) + (2000 : Nat)).toNat = num (vals S) * 10 ^ (e + (2000 : Nat)).toNat)
    (hv : 0 ≤ f ∧ f ≤ 2 ∧ 0 ≤ m ∧ m ≤ 4) (hlen : l.length ≤ 900) (hp : ProgSpec 30000 l f m b g a err) : a = 0 ∧ err = 0 ∧ ∃ r, RoundSpec 30000 f m false (likeX S e) r g ∧ b = signedV f false r := by
  obtain ⟨hr, hX, hn⟩ := text_num 30000 hl hpre hA hB hne hpt hpw
  obtain ⟨e1, e2⟩ := held_same (M := 2000) (vals_digs (hA.app hB)) (vals_digs hS) hx he hval
  rcases hp with ⟨gv, _⟩ | ⟨_, gl, _⟩ | ⟨_, _, st, x, ok, hr2, hc⟩
  · exact absurd hv gv
  · omega
  · obtain ⟨q1, q2, q3⟩ := ReadSpec.one hr hr2
    subst q1 q3
    rcases hc with ⟨c0, _⟩ | ⟨_, c1, c2, ho⟩
    · cases c0
    · rcases ho with ⟨o1, _⟩ | ⟨o1, _⟩ | ⟨_, r, o1, o2⟩
      · omega
      · omega
      · rw [hn, hX, e1, e2] at o1
        rw [hn] at o2
        exact ⟨c1, c2, r, o1, o2⟩
/-- Not 0, if a digit isn't, and the power is not below 0. -/
theorem like_pos {S : List Nat} {e : Int} {f m r g : Int} (hf : 0 ≤ f ∧ f ≤ 2) (hS : AllD S) (he : 0 ≤ e) (hn : 0 < num (vals S)) (h : RoundSpec 30000 f m false (likeX S e) r g) : signedV f false r ≠ 0 := by
  have hF := fmt_of hf
  have hd := vals_digs hS
  have hN := normL_norm hd
  have hv := norm_val (vals S) e 30000 (by omega)
  obtain ⟨E, hE⟩ : ∃ E : Nat, E = 30000 := ⟨_, rfl⟩
  obtain ⟨P, hP⟩ : ∃ P : Nat, P = 10 ^ E := ⟨_, rfl⟩
  have hT : two 30000 0 = P := by rw [hP, hE]; exact two_zero 30000
  have hP0 : 0 < P := by rw [hP]; exact Nat.pow_pos (by omega)
  have hX : P ≤ likeX S e := by
    have h1 : P ≤ val 30000 (vals S) e := by
      unfold val
      have h2 : P ≤ 10 ^ (e + (30000 : Nat)).toNat := by rw [hP]; exact Nat.pow_le_pow_right (by omega) (by omega)
      have h3 : 1 * 10 ^ (e + (30000 : Nat)).toNat ≤ num (vals S) * 10 ^ (e + (30000 : Nat)).toNat := Nat.mul_le_mul_right _ hn
      rw [Nat.one_mul] at h3
      exact Nat.le_trans h2 h3
    unfold likeX heldV
    have hne : normL (vals S) ≠ [] := by
      intro hh
      rw [hh, val_nil] at hv
      rw [← hv] at h1
      omega
    rw [if_neg (fun hh => hne (List.length_eq_zero_iff.1 hh))]
    have hge := normE_ge (vals S) e hne
    split
    · rw [hP]; exact Nat.pow_le_pow_right (by omega) (by omega)
    · rw [if_neg (by omega), hv]; exact h1
  generalize likeX S e = X at *
  have hv1 : valA 30000 f 1 ≤ P := by
    have hva := valA_at 30000 f 0 1 Nat.one_le_two_pow (by omega)
    rw [Nat.zero_mul, Nat.zero_add, if_pos rfl, Nat.mul_one] at hva
    rw [hva, ← hT]
    have hb := hF.b1
    have hb2 := hF.b2
    have hq := hF.q
    exact two_le (by rw [hF.e]; omega) (by rw [hF.e]; omega)
  show r ≠ 0
  have hinf : 2 < infN f := by
    rcases (by omega : f = 0 ∨ f = 1 ∨ f = 2) with rfl | rfl | rfl <;> decide
  rcases h with ⟨h0, _⟩ | ⟨_, _, _, h3⟩ | ⟨_, _, a, _, h2, h3, h4⟩
  · omega
  · rw [h3]; split <;> omega
  · have ha : a ≠ 0 := by
      intro ha
      rw [ha, Nat.zero_add] at h3
      omega
    rcases h4 with ⟨_, h5, _⟩ | ⟨_, h5, _⟩
    · omega
    · rw [h5]; split <;> omega
end Go.Proofs.Ytbkdaoicnobllaa

/- The texts that 'like' asks for. -/
namespace Go.Proofs.Ytbkdaoicnobllaa

theorem vals_app (A B : List Nat) : vals (A ++ B) = vals A ++ vals B := by unfold vals; simp
theorem num_lead3 (A : List Nat) : num (vals (48 :: 48 :: 48 :: A)) = num (vals A) := by
  show num (0 :: 0 :: 0 :: vals A) = _
  rw [num_zero_cons, num_zero_cons, num_zero_cons]
theorem num_lead1 (A : List Nat) : num (vals (48 :: A)) = num (vals A) := by
  show num (0 :: vals A) = _
  rw [num_zero_cons]
theorem num_trail (A : List Nat) : num (vals (A ++ [48, 48, 48])) = num (vals A) * 1000 := by
  have e : vals [48, 48, 48] = [0, 0, 0] := rfl
  rw [vals_app, num_append, e, num_zero_cons, num_zero_cons, num_zero_cons, num_nil, Nat.add_zero]
  rfl
theorem num_zero_all : ∀ (A : List Nat), num A = 0 → ∀ d, d ∈ A → d = 0 := by
  intro A
  induction A with
  | nil => intro _ d hd; cases hd
  | cons x r ih =>
    intro h d hd
    rw [num_cons] at h
    have h1 : x * 10 ^ r.length = 0 := by omega
    have h2 : num r = 0 := by omega
    have hx : x = 0 := by
      rcases Nat.mul_eq_zero.1 h1 with g | g
      · exact g
      · have : 0 < 10 ^ r.length := Nat.pow_pos (by omega)
        omega
    rcases List.mem_cons.1 hd with g | g
    · rw [g]; exact hx
    · exact ih h2 d g
theorem num_vals_pos {S : List Nat} {c : Nat} (hS : AllD S) (hc : c ∈ S) (h : c ≠ 48) : 0 < num (vals S) := by
  rcases Nat.eq_zero_or_pos (num (vals S)) with g | g
  · exfalso
    have h1 := num_zero_all _ g (c - 48) (List.mem_map.2 ⟨c, hc, rfl⟩)
    have h2 := hS c hc
    unfold isDig at h2; simp at h2; omega
  · exact g
theorem allD_48 : AllD [48, 48, 48] := fun c hc => by simp at hc; subst hc; rfl
theorem pow_1000 (x y : Int) (hy : 0 ≤ x) (h : y = x + 3) (n : Nat) : n * 1000 * 10 ^ x.toNat = n * 10 ^ y.toNat := by
  rw [Nat.mul_assoc, show y.toNat = 3 + x.toNat from by omega, Nat.pow_add]
/-- What the texts have in common. -/
def LikeOk (S : List Nat) (e f m b g a err : Int) : Prop := a = 0 ∧ err = 0 ∧ ∃ r, RoundSpec 30000 f m false (likeX S e) r g ∧ b = signedV f false r
theorem like_t0 {s d : ByteArray} {e f m b g a err : Int} (hS : AllD (chs s)) (hne : chs s ≠ []) (hs : s.size ≤ 300) (he1 : -350 ≤ e) (he2 : e ≤ 349) (hd : IntText (e) d) (hds : d.size ≤ 6) (hv : 0 ≤ f ∧ f ≤ 2 ∧ 0 ≤ m ∧ m ≤ 4) (hp : ProgSpec 30000 (chs (s ++ ⟨#[101]⟩ ++ d)) f m b g a err) : LikeOk (chs s) e f m b g a err := by
  obtain ⟨q1, q2⟩ := int_text hd
  have hl := chs_length s
  have hdl := chs_length d
  have hT : chs (s ++ ⟨#[101]⟩ ++ d) = chs s ++ 101 :: chs d := by simp [chs]
  have hE : (e) - (([] : List Nat).length : Int) = e := by simp
  refine like_text (pre := []) (A := chs s) (B := []) (pt := false) (pw := chs d) ?_ (.inl rfl) ?_ ?_ ?_ ?_ q1 hS (by omega) (by rw [q2, hE]; omega) ?_ hv ?_ hp
  · rw [hT]; simp [ptL]
  · exact hS
  · intro c hc; cases hc
  · simp [hne]
  · intro _; rfl
  · rw [q2, hE, show chs s ++ [] = chs s from by simp]
  · rw [hT]; simp only [List.length_append, List.length_cons]; omega
theorem like_t1 {s d : ByteArray} {e f m b g a err : Int} (hS : AllD (chs s)) (_hne : chs s ≠ []) (hs : s.size ≤ 300) (he1 : -350 ≤ e) (he2 : e ≤ 349) (hd : IntText (e) d) (hds : d.size ≤ 6) (hv : 0 ≤ f ∧ f ≤ 2 ∧ 0 ≤ m ∧ m ≤ 4) (hp : ProgSpec 30000 (chs (⟨#[48, 48, 48]⟩ ++ s ++ ⟨#[101]⟩ ++ d)) f m b g a err) : LikeOk (chs s) e f m b g a err := by
  obtain ⟨q1, q2⟩ := int_text hd
  have hl := chs_length s
  have hdl := chs_length d
  have hT : chs (⟨#[48, 48, 48]⟩ ++ s ++ ⟨#[101]⟩ ++ d) = 48 :: 48 :: 48 :: (chs s ++ 101 :: chs d) := by simp [chs]
  have hE : (e) - (([] : List Nat).length : Int) = e := by simp
  refine like_text (pre := []) (A := 48 :: 48 :: 48 :: chs s) (B := []) (pt := false) (pw := chs d) ?_ (.inl rfl) ?_ ?_ ?_ ?_ q1 hS (by omega) (by rw [q2, hE]; omega) ?_ hv ?_ hp
  · rw [hT]; simp [ptL]
  · exact allD_48.app hS
  · intro c hc; cases hc
  · simp
  · intro _; rfl
  · rw [q2, hE, List.append_nil, num_lead3]
  · rw [hT]; simp only [List.length_append, List.length_cons]; omega
theorem like_t2 {s d : ByteArray} {e f m b g a err : Int} (hS : AllD (chs s)) (hne : chs s ≠ []) (hs : s.size ≤ 300) (he1 : -350 ≤ e) (he2 : e ≤ 349) (hd : IntText (e) d) (hds : d.size ≤ 6) (hv : 0 ≤ f ∧ f ≤ 2 ∧ 0 ≤ m ∧ m ≤ 4) (hp : ProgSpec 30000 (chs (⟨#[43]⟩ ++ s ++ ⟨#[46, 101]⟩ ++ d)) f m b g a err) : LikeOk (chs s) e f m b g a err := by
  obtain ⟨q1, q2⟩ := int_text hd
  have hl := chs_length s
  have hdl := chs_length d
  have hT : chs (⟨#[43]⟩ ++ s ++ ⟨#[46, 101]⟩ ++ d) = 43 :: (chs s ++ 46 :: 101 :: chs d) := by simp [chs]
  have hE : (e) - (([] : List Nat).length : Int) = e := by simp
  refine like_text (pre := [43]) (A := chs s) (B := []) (pt := true) (pw := chs d) ?_ (.inr rfl) ?_ ?_ ?_ ?_ q1 hS (by omega) (by rw [q2, hE]; omega) ?_ hv ?_ hp
  · rw [hT]; simp [ptL]
  · exact hS
  · intro c hc; cases hc
  · simp [hne]
  · intro h; cases h
  · rw [q2, hE, show chs s ++ [] = chs s from by simp]
  · rw [hT]; simp only [List.length_append, List.length_cons]; omega
theorem like_t3 {s d : ByteArray} {e f m b g a err : Int} (hS : AllD (chs s)) (hne : chs s ≠ []) (hs : s.size ≤ 300) (he1 : -350 ≤ e) (he2 : e ≤ 349) (hd : IntText (e) d) (hds : d.size ≤ 6) (hv : 0 ≤ f ∧ f ≤ 2 ∧ 0 ≤ m ∧ m ≤ 4) (hp : ProgSpec 30000 (chs (s ++ ⟨#[46, 48, 48, 48, 101]⟩ ++ d)) f m b g a err) : LikeOk (chs s) e f m b g a err := by
  obtain ⟨q1, q2⟩ := int_text hd
  have hl := chs_length s
  have hdl := chs_length d
  have hT : chs (s ++ ⟨#[46, 48, 48, 48, 101]⟩ ++ d) = chs s ++ 46 :: 48 :: 48 :: 48 :: 101 :: chs d := by simp [chs]
  have hE : (e) - (([48, 48, 48] : List Nat).length : Int) = e - 3 := by simp
  refine like_text (pre := []) (A := chs s) (B := [48, 48, 48]) (pt := true) (pw := chs d) ?_ (.inl rfl) ?_ ?_ ?_ ?_ q1 hS (by omega) (by rw [q2, hE]; omega) ?_ hv ?_ hp
  · rw [hT]; simp [ptL]
  · exact hS
  · exact allD_48
  · simp [hne]
  · intro h; cases h
  · rw [q2, hE, show chs s ++ [48, 48, 48] = chs s ++ [48, 48, 48] from by simp, num_trail]
    exact pow_1000 _ _ (by omega) (by omega) _
  · rw [hT]; simp only [List.length_append, List.length_cons]; omega
theorem like_t4 {s d : ByteArray} {e f m b g a err : Int} (hS : AllD (chs s)) (hne : chs s ≠ []) (hs : s.size ≤ 300) (he1 : -350 ≤ e) (he2 : e ≤ 349) (hd : IntText (e - 3) d) (hds : d.size ≤ 6) (hv : 0 ≤ f ∧ f ≤ 2 ∧ 0 ≤ m ∧ m ≤ 4) (hp : ProgSpec 30000 (chs (s ++ ⟨#[48, 48, 48, 101]⟩ ++ d)) f m b g a err) : LikeOk (chs s) e f m b g a err := by
  obtain ⟨q1, q2⟩ := int_text hd
  have hl := chs_length s
  have hdl := chs_length d
  have hT : chs (s ++ ⟨#[48, 48, 48, 101]⟩ ++ d) = chs s ++ 48 :: 48 :: 48 :: 101 :: chs d := by simp [chs]
  have hE : (e - 3) - (([] : List Nat).length : Int) = e - 3 := by simp
  refine like_text (pre := []) (A := chs s ++ [48, 48, 48]) (B := []) (pt := false) (pw := chs d) ?_ (.inl rfl) ?_ ?_ ?_ ?_ q1 hS (by omega) (by rw [q2, hE]; omega) ?_ hv ?_ hp
  · rw [hT]; simp [ptL]
  · exact hS.app allD_48
  · intro c hc; cases hc
  · simp [hne]
  · intro _; rfl
  · rw [q2, hE, show chs s ++ [48, 48, 48] ++ [] = chs s ++ [48, 48, 48] from by simp, num_trail]
    exact pow_1000 _ _ (by omega) (by omega) _
  · rw [hT]; simp only [List.length_append, List.length_cons]; omega
theorem like_t5 {s d : ByteArray} {e f m b g a err : Int} (hS : AllD (chs s)) (hne : chs s ≠ []) (hs : s.size ≤ 300) (he1 : -350 ≤ e) (he2 : e ≤ 349) (hd : IntText (e + s.size) d) (hds : d.size ≤ 6) (hv : 0 ≤ f ∧ f ≤ 2 ∧ 0 ≤ m ∧ m ≤ 4) (hp : ProgSpec 30000 (chs (⟨#[46]⟩ ++ s ++ ⟨#[101]⟩ ++ d)) f m b g a err) : LikeOk (chs s) e f m b g a err := by
  obtain ⟨q1, q2⟩ := int_text hd
  have hl := chs_length s
  have hdl := chs_length d
  have hT : chs (⟨#[46]⟩ ++ s ++ ⟨#[101]⟩ ++ d) = 46 :: (chs s ++ 101 :: chs d) := by simp [chs]
  have hE : (e + s.size) - ((chs s : List Nat).length : Int) = e := by rw [hl]; omega
  refine like_text (pre := []) (A := []) (B := chs s) (pt := true) (pw := chs d) ?_ (.inl rfl) ?_ ?_ ?_ ?_ q1 hS (by omega) (by rw [q2, hE]; omega) ?_ hv ?_ hp
  · rw [hT]; simp [ptL]
  · intro c hc; cases hc
  · exact hS
  · simp [hne]
  · intro h; cases h
  · rw [q2, hE, show [] ++ chs s = chs s from by simp]
  · rw [hT]; simp only [List.length_append, List.length_cons]; omega
theorem like_t6 {s d : ByteArray} {e f m b g a err : Int} (hS : AllD (chs s)) (_hne : chs s ≠ []) (hs : s.size ≤ 300) (he1 : -350 ≤ e) (he2 : e ≤ 349) (hd : IntText (e + s.size) d) (hds : d.size ≤ 6) (hv : 0 ≤ f ∧ f ≤ 2 ∧ 0 ≤ m ∧ m ≤ 4) (hp : ProgSpec 30000 (chs (⟨#[48, 46]⟩ ++ s ++ ⟨#[48, 48, 48, 101]⟩ ++ d)) f m b g a err) : LikeOk (chs s) e f m b g a err := by
  obtain ⟨q1, q2⟩ := int_text hd
  have hl := chs_length s
  have hdl := chs_length d
  have hT : chs (⟨#[48, 46]⟩ ++ s ++ ⟨#[48, 48, 48, 101]⟩ ++ d) = 48 :: 46 :: (chs s ++ 48 :: 48 :: 48 :: 101 :: chs d) := by simp [chs]
  have hE : (e + s.size) - ((chs s ++ [48, 48, 48] : List Nat).length : Int) = e - 3 := by rw [List.length_append, hl]; simp; omega
  refine like_text (pre := []) (A := [48]) (B := chs s ++ [48, 48, 48]) (pt := true) (pw := chs d) ?_ (.inl rfl) ?_ ?_ ?_ ?_ q1 hS (by omega) (by rw [q2, hE]; omega) ?_ hv ?_ hp
  · rw [hT]; simp [ptL]
  · intro c hc; rw [List.mem_singleton.1 hc]; rfl
  · exact hS.app allD_48
  · simp
  · intro h; cases h
  · rw [q2, hE, show [48] ++ (chs s ++ [48, 48, 48]) = 48 :: (chs s ++ [48, 48, 48]) from by simp, num_lead1, num_trail]
    exact pow_1000 _ _ (by omega) (by omega) _
  · rw [hT]; simp only [List.length_append, List.length_cons]; omega
theorem like_t7 {s d : ByteArray} {e f m b g a err : Int} (hS : AllD (chs s)) (hne : chs s ≠ []) (hs : s.size ≤ 300) (he1 : -350 ≤ e) (he2 : e ≤ 349) (hd : IntText (e) d) (hds : d.size ≤ 6) (hv : 0 ≤ f ∧ f ≤ 2 ∧ 0 ≤ m ∧ m ≤ 4) (h0 : 0 ≤ e) (hp : ProgSpec 30000 (chs (s ++ ⟨#[101, 43]⟩ ++ d)) f m b g a err) : LikeOk (chs s) e f m b g a err := by
  obtain ⟨q1, q2⟩ := int_text_plus hd h0
  have hl := chs_length s
  have hdl := chs_length d
  have hT : chs (s ++ ⟨#[101, 43]⟩ ++ d) = chs s ++ 101 :: 43 :: chs d := by simp [chs]
  have hE : (e) - (([] : List Nat).length : Int) = e := by simp
  refine like_text (pre := []) (A := chs s) (B := []) (pt := false) (pw := 43 :: chs d) ?_ (.inl rfl) ?_ ?_ ?_ ?_ q1 hS (by omega) (by rw [q2, hE]; omega) ?_ hv ?_ hp
  · rw [hT]; simp [ptL]
  · exact hS
  · intro c hc; cases hc
  · simp [hne]
  · intro _; rfl
  · rw [q2, hE, show chs s ++ [] = chs s from by simp]
  · rw [hT]; simp only [List.length_append, List.length_cons]; omega
theorem like_t8 {s d : ByteArray} {e f m b g a err : Int} (hS : AllD (chs s)) (hne : chs s ≠ []) (hs : s.size ≤ 300) (he1 : -350 ≤ e) (he2 : e ≤ 349) (hd : IntText (e) d) (hds : d.size ≤ 6) (hv : 0 ≤ f ∧ f ≤ 2 ∧ 0 ≤ m ∧ m ≤ 4) (h0 : 0 ≤ e) (hp : ProgSpec 30000 (chs (s ++ ⟨#[101, 48, 48]⟩ ++ d)) f m b g a err) : LikeOk (chs s) e f m b g a err := by
  obtain ⟨q1, q2⟩ := int_text_noughts hd h0
  have hl := chs_length s
  have hdl := chs_length d
  have hT : chs (s ++ ⟨#[101, 48, 48]⟩ ++ d) = chs s ++ 101 :: 48 :: 48 :: chs d := by simp [chs]
  have hE : (e) - (([] : List Nat).length : Int) = e := by simp
  refine like_text (pre := []) (A := chs s) (B := []) (pt := false) (pw := 48 :: 48 :: chs d) ?_ (.inl rfl) ?_ ?_ ?_ ?_ q1 hS (by omega) (by rw [q2, hE]; omega) ?_ hv ?_ hp
  · rw [hT]; simp [ptL]
  · exact hS
  · intro c hc; cases hc
  · simp [hne]
  · intro _; rfl
  · rw [q2, hE, show chs s ++ [] = chs s from by simp]
  · rw [hT]; simp only [List.length_append, List.length_cons]; omega
end Go.Proofs.Ytbkdaoicnobllaa
