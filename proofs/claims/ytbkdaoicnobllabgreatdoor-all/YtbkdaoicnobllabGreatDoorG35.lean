import Derived.Test.YtbkdaoicnobllabGreatDoorG34

namespace Go.Proofs.YtbkdaoicnobllabGreatDoor

theorem mem_cut_of {l : List Nat} {a k c : Nat} (h : c ∈ cut l a k) : ∃ j, a ≤ j ∧ j < k ∧ j < l.length ∧ l.getD j 0 = c := by
 unfold cut at h
 rw [List.mem_iff_getElem?] at h
 obtain ⟨i, hi⟩ := h
 rw [List.getElem?_drop] at hi
 have h1 : a + i < (l.take k).length := by
  rcases Nat.lt_or_ge (a + i) (l.take k).length with g | g
  ·exact g
  ·rw [List.getElem?_eq_none g] at hi; cases hi
 rw [List.length_take] at h1
 rw [List.getElem?_take_of_lt (by omega)] at hi
 exact ⟨a + i, by omega, by omega, by omega, by rw [List.getD_eq_getElem?_getD, hi]; rfl⟩
theorem cut_len {l : List Nat} {a k : Nat} (h : k ≤ l.length) : (cut l a k).length = k - a := by
 unfold cut; rw [List.length_drop, List.length_take, Nat.min_eq_left h]
theorem cut_join {l : List Nat} {a k1 k2 : Nat} (h1 : a ≤ k1) (h2 : k1 < k2) (h3 : k2 ≤ l.length) : cut l a k2 = cut l a k1 ++ l.getD k1 0 :: cut l (k1 + 1) k2 := by
 unfold cut
 have e : l.take k2 = l.take k1 ++ (l.take k2).drop k1 := by
  conv => lhs; rw [← List.take_append_drop k1 (l.take k2)]
  rw [List.take_take, Nat.min_eq_left (by omega)]
 have e2 : (l.take k2).drop k1 = l.getD k1 0 :: (l.take k2).drop (k1 + 1) := by
  rw [List.drop_eq_getElem_cons (by rw [List.length_take]; omega)]
  congr 1
  rw [List.getElem_take, List.getD_eq_getElem?_getD, List.getElem?_eq_getElem (by omega)]; rfl
 conv => lhs; rw [e]
 rw [List.drop_append_of_le_length (by rw [List.length_take]; omega), e2]
structure MantF (q : Nat → Bool) (l : List Nat) (a k2 : Nat) (X : List Nat) (b : Nat) : Prop where
 all : ∀ c, c ∈ X → q c = true
 len : X.length ≤ l.length
 b : b ≤ l.length
 ge : a ≤ k2
 le : k2 ≤ l.length
 mem : ∀ c, c ∈ cut l a k2 → c = 46 ∨ q c = true
theorem mant_facts {q : Nat → Bool} {l : List Nat} {a k2 : Nat} {X : List Nat} {b : Nat} {pt : Bool} (h : Mant q l a k2 X b pt) : MantF q l a k2 X b := by
 rcases h with ⟨_, hr, _, rfl, rfl⟩ | ⟨_, k1, hr, hk1, h46, hr2, rfl, rfl⟩
 ·exact ⟨hr.all, by rw [cut_len hr.le]; have := hr.le; omega, Nat.zero_le _, hr.ge, hr.le, fun c hc => .inr (hr.all c hc)⟩
 ·have g1 := hr.ge
  have g2 := hr2.ge
  have g3 := hr2.le
  refine ⟨fun c hc => ?_, by rw [List.length_append, cut_len hr.le, cut_len hr2.le]; omega, by omega, by omega, g3, fun c hc => ?_⟩
  ·rcases List.mem_append.1 hc with hc | hc
   ·exact hr.all c hc
   ·exact hr2.all c hc
  ·rw [cut_join g1 (by omega) g3] at hc
   rcases List.mem_append.1 hc with hc | hc
   ·exact .inr (hr.all c hc)
   ·rcases List.mem_cons.1 hc with hc | hc
    ·exact .inl (by rw [hc]; exact h46)
    ·exact .inr (hr2.all c hc)
theorem drop_getD (l : List Nat) (a j : Nat) : (l.drop a).getD j 0 = l.getD (a + j) 0 := by
 rw [List.getD_eq_getElem?_getD, List.getElem?_drop, ← List.getD_eq_getElem?_getD]
theorem mant_ahead {q : Nat → Bool} {l : List Nat} {a k2 : Nat} {X : List Nat} {b : Nat} {pt : Bool} (h : Mant q l a k2 X b pt) (letter : Nat) (hq : ∀ c, q c = true → c ≠ letter) (h46 : letter ≠ 46) (he : k2 < l.length → l.getD k2 0 = letter) : ahead (l.drop a) letter = cut l a k2 := by
 have f := mant_facts h
 have g1 := f.ge
 have g2 := f.le
 rw [ahead_take (l.drop a) letter (k2 - a) (by rw [List.length_drop]; omega) (fun j hj => ?_) (fun hj => ?_)]
 ·unfold cut; rw [List.drop_take]
 ·rw [drop_getD]
  rcases f.mem _ (mem_cut (j := a + j) (by omega) (by omega) g2) with e | e
  ·rw [e]; exact fun h => h46 h.symm
  ·exact hq _ e
 ·rw [List.length_drop] at hj
  rw [drop_getD, show a + (k2 - a) = k2 from by omega]; exact he (by omega)
def vals (X : List Nat) : List Nat := X.map (fun c => c - 48)
theorem dec_fold (X : List Nat) (h : ∀ c, c ∈ X → isDig c = true) (D : List Nat) (b : Nat) (sn : Bool) : X.foldl decStep (D, b, sn) = (D ++ vals X, (if sn = true then b + X.length else b), sn) := by
 induction X generalizing D b with
 | nil => simp [vals]
 | cons c r ih =>
  have hc := dig_ne (h c List.mem_cons_self)
  have e : decStep (D, b, sn) c = (D ++ [c - 48], (if sn = true then b + 1 else b), sn) := by unfold decStep; rw [if_neg hc.1]
  rw [List.foldl_cons, e, ih (fun x hx => h x (List.mem_cons_of_mem _ hx))]
  cases sn
  ·simp [vals]
  ·simp [vals]; omega
theorem hex_fold (X : List Nat) (h : ∀ c, c ∈ X → isHexc c = true) (D : List Nat) (b : Nat) (sn : Bool) : X.foldl hexStep (D, b, sn) = (pushes 16 D X, (if sn = true then b + X.length else b), sn) := by
 induction X generalizing D b with
 | nil => simp [pushes]
 | cons c r ih =>
  have hc := hexc_ne (h c List.mem_cons_self)
  have hv := (digV_isHexc c).2.2 (h c List.mem_cons_self)
  have ep : push 16 D c = if 0 < D.length ∨ 0 < hexv c then D ++ [hexv c] else D := by
   unfold push; rw [hv]
   by_cases g : 0 < D.length ∨ 0 < hexv c
   ·rw [if_pos g, if_pos (by omega)]; simp
   ·rw [if_neg g, if_neg (by omega)]
  have e : hexStep (D, b, sn) c = (push 16 D c, (if sn = true then b + 1 else b), sn) := by unfold hexStep; rw [if_neg hc.1, ep]
  rw [List.foldl_cons, e, ih (fun x hx => h x (List.mem_cons_of_mem _ hx))]
  show (pushes 16 (push 16 D c) r, _, _) = (pushes 16 D (c :: r), _, _)
  cases sn
  ·simp [pushes]
  ·simp [pushes]; omega
theorem mant_dec {l : List Nat} {a k2 : Nat} {X : List Nat} {b : Nat} {pt : Bool} (h : Mant isDig l a k2 X b pt) : decScan (cut l a k2) = (vals X, b, pt) := by
 rcases h with ⟨rfl, hr, _, rfl, rfl⟩ | ⟨rfl, k1, hr, hk1, h46, hr2, rfl, rfl⟩
 ·unfold decScan; rw [dec_fold _ hr.all]; simp
 ·have g1 := hr.ge
  have g2 := hr2.ge
  unfold decScan
  rw [cut_join g1 (by omega) hr2.le, List.foldl_append, dec_fold _ hr.all, List.foldl_cons, h46]
  have e : decStep ([] ++ vals (cut l a k1), (if false = true then 0 + (cut l a k1).length else 0), false) 46 = (vals (cut l a k1), 0, true) := by unfold decStep; simp
  rw [e, dec_fold _ hr2.all, cut_len hr2.le]
  simp [vals]
theorem mant_hex {l : List Nat} {a k2 : Nat} {X : List Nat} {b : Nat} {pt : Bool} (h : Mant isHexc l a k2 X b pt) : hexScan (cut l a k2) = (pushes 16 [] X, b, pt) := by
 rcases h with ⟨rfl, hr, _, rfl, rfl⟩ | ⟨rfl, k1, hr, hk1, h46, hr2, rfl, rfl⟩
 ·unfold hexScan; rw [hex_fold _ hr.all]; simp
 ·have g1 := hr.ge
  have g2 := hr2.ge
  unfold hexScan
  rw [cut_join g1 (by omega) hr2.le, List.foldl_append, hex_fold _ hr.all, List.foldl_cons, h46]
  have e : hexStep (pushes 16 [] (cut l a k1), (if false = true then 0 + (cut l a k1).length else 0), false) 46 = (pushes 16 [] (cut l a k1), 0, true) := by unfold hexStep; simp
  rw [e, hex_fold _ hr2.all, cut_len hr2.le, pushes_append]
  simp
theorem pushes_ok (base M : Nat) (X : List Nat) : ∀ D : List Nat, (∀ c, c ∈ X → 0 ≤ digV c base ∧ digV c base < M) → (∀ d, d ∈ D → d < M) → (D = [] ∨ D.getD 0 0 ≠ 0) → (∀ d, d ∈ pushes base D X → d < M) ∧ (pushes base D X = [] ∨ (pushes base D X).getD 0 0 ≠ 0) := by
 induction X with
 | nil => intro D _ h1 h2; exact ⟨h1, h2⟩
 | cons c r ih =>
  intro D hx h1 h2
  have hc := hx c List.mem_cons_self
  refine ih (push base D c) (fun x hm => hx x (List.mem_cons_of_mem _ hm)) (fun d hd => ?_) ?_
  ·unfold push at hd; split at hd
   ·rcases List.mem_append.1 hd with hd | hd
    ·exact h1 d hd
    ·rw [List.mem_singleton.1 hd]; omega
   ·exact h1 d hd
  ·unfold push; split
   ·rename_i hp
    rcases h2 with rfl | h2
    ·refine .inr ?_; simp at hp ⊢; omega
    ·refine .inr ?_
     cases D with
     | nil => simp at h2
     | cons x y => simpa using h2
   ·exact h2
theorem pushes_num (X : List Nat) : ∀ D : List Nat, (∀ c, c ∈ X → isDig c = true) → num (pushes 10 D X) = num (D ++ vals X) := by
 induction X with
 | nil => intro D _; simp [pushes, vals]
 | cons c r ih =>
  intro D hx
  have hc := (digV_isDig c).2.2 (hx c List.mem_cons_self)
  show num (pushes 10 (push 10 D c) r) = _
  rw [ih (push 10 D c) (fun x hm => hx x (List.mem_cons_of_mem _ hm))]
  unfold push
  rw [hc]
  split
  ·simp [vals]
  ·rename_i hp
   have hD : D = [] := List.length_eq_zero_iff.1 (by omega)
   have h0 : c - 48 = 0 := by omega
   rw [hD]
   simp only [List.nil_append, vals, List.map_cons, h0]
   rw [num_zero_cons]
theorem cap_like (X : List Nat) (h : ∀ c, c ∈ X → isDig c = true) : (capPow X = expNum X ∧ expNum X < 20000) ∨ (20000 ≤ capPow X ∧ 20000 ≤ expNum X) := by
 have : ∀ n, ∀ X : List Nat, X.length = n → (∀ c, c ∈ X → isDig c = true) → (capPow X = expNum X ∧ expNum X < 20000) ∨ (20000 ≤ capPow X ∧ 20000 ≤ expNum X) := by
  intro n; induction n with
  | zero => intro X h _; rw [List.length_eq_zero_iff.1 h]; exact .inl ⟨rfl, by decide⟩
  | succ n ih =>
   intro X h hd
   have hne : X ≠ [] := by intro e; rw [e] at h; simp at h
   have h9 : isDig (X.getLast hne) = true := hd _ (List.getLast_mem hne)
   have hi := ih X.dropLast (by simp [h]) (fun c hc => hd c (List.dropLast_subset X hc))
   rw [← List.dropLast_concat_getLast hne, capPow_snoc, expNum_snoc]
   generalize X.getLast hne = c at *
   generalize X.dropLast = Y at *
   unfold expStep
   rcases hi with ⟨e1, e2⟩ | ⟨e1, e2⟩
   ·rw [if_pos (show capPow Y < 1000000 by omega), if_pos (show isDig c = true ∧ expNum Y < 20000 from ⟨h9, e2⟩), e1]
    rcases Nat.lt_or_ge (10 * expNum Y + (c - 48)) 20000 with g | g
    ·exact .inl ⟨by omega, g⟩
    ·exact .inr ⟨by omega, g⟩
   ·rw [if_neg (show ¬ (isDig c = true ∧ expNum Y < 20000) from fun h => by omega)]
    refine .inr ⟨?_, e2⟩
    split <;> omega
 exact this _ X rfl h
theorem powr_like {l : List Nat} {a k : Nat} {x : Int} (h : Powr l a k true x) (hk : k = l.length) : PowLike x (expVal (l.drop a)) := by
 obtain ⟨a1, ng, hs, hr, _, rfl⟩ := h
 have hle := hr.le
 have hge := hr.ge
 have ec : cut l a1 k = l.drop a1 := cut_all l a1 k (by omega)
 have hn45 : ∀ c, c ∈ cut l a1 k → c ≠ 45 := fun c hc => (dig_ne (hr.all c hc)).2.2.2.2.2.1
 have hcap := cap_like (cut l a1 k) hr.all
 have key : expNum (l.drop a) = expNum (cut l a1 k) ∧ (hasMinus (l.drop a) = ng) := by
  rcases hs with ⟨g1, g2, g3, g4⟩ | ⟨g1, g2, g3⟩
  ·have e : l.drop a = l.getD a 0 :: l.drop a1 := by
    rw [g3, List.drop_eq_getElem_cons g1]; congr 1
    rw [List.getD_eq_getElem?_getD, List.getElem?_eq_getElem g1]; rfl
   refine ⟨?_, ?_⟩
   ·rw [e, ec]
    unfold expNum
    rw [List.foldl_cons]
    congr 1
    unfold expStep
    rw [sgn_notDig g2]; simp
   ·rw [e, g4, ← ec]
    unfold hasMinus
    rw [Bool.eq_iff_iff]
    simp only [decide_eq_true_eq, List.mem_cons, beq_iff_eq]
    constructor
    ·rintro (h | h)
     ·exact h.symm
     ·exact absurd rfl (hn45 45 h)
    ·intro h; exact .inl h.symm
  ·rw [← g2, ← ec]
   refine ⟨rfl, ?_⟩
   rw [g3]
   unfold hasMinus
   simp only [decide_eq_false_iff_not]
   exact fun h => absurd rfl (hn45 45 h)
 rw [expVal_eq, key.1, key.2]
 unfold sgnI PowLike
 cases ng
 ·simp only [Bool.false_eq_true, if_false]; omega
 ·simp only [if_true]; omega
theorem expOf_mant {q : Nat → Bool} {l : List Nat} {a k2 : Nat} {X : List Nat} {b : Nat} {pt : Bool} (h : Mant q l a k2 X b pt) (a0 : Nat) (ha0 : a0 ≤ a) (letter : Nat) (hpre : ∀ j, a0 ≤ j → j < a → l.getD j 0 ≠ letter) (hq : ∀ c, q c = true → c ≠ letter) (h46 : letter ≠ 46) :
  (k2 = l.length → expOf (l.drop a0) letter = 0) ∧ (k2 < l.length → l.getD k2 0 = letter → expOf (l.drop a0) letter = expVal (l.drop (k2 + 1))) := by
 have f := mant_facts h
 have g1 := f.ge
 have g2 := f.le
 have hne : ∀ j, a0 + j < k2 → (l.drop a0).getD j 0 ≠ letter := fun j hj => by
  rw [drop_getD]
  rcases Nat.lt_or_ge (a0 + j) a with g | g
  ·exact hpre _ (by omega) g
  ·rcases f.mem _ (mem_cut (j := a0 + j) g hj g2) with e | e
   ·rw [e]; exact fun h => h46 h.symm
   ·exact hq _ e
 refine ⟨fun hk => expOf_none _ _ (fun j hj => hne j (by rw [List.length_drop] at hj; omega)), fun hk he => ?_⟩
 rw [expOf_at (l.drop a0) letter (k2 - a0) (by rw [List.length_drop]; omega) (fun j hj => hne j (by omega)) (by rw [drop_getD, show a0 + (k2 - a0) = k2 from by omega]; exact he), List.drop_drop]
 congr 2; omega

theorem dec_nums {l : List Nat} {a k : Nat} {D : List Nat} {pw : Int} (h : DecRes l a k true D pw) (hk : k = l.length) :
  num (decScan (ahead (l.drop a) 101)).1 = num D ∧ (decScan (ahead (l.drop a) 101)).2.1 ≤ l.length ∧ ∃ x, pw = x - ((decScan (ahead (l.drop a) 101)).2.1 : Nat) ∧ PowLike x (expOf (l.drop a) 101) := by
 obtain ⟨k2, X, b, pt, hm, rfl, hc⟩ := h
 have f := mant_facts hm
 have hq : ∀ c, isDig c = true → c ≠ 101 := fun c hc => (dig_ne hc).2.1
 have hE := expOf_mant hm a (Nat.le_refl _) 101 (fun j h1 h2 => by omega) hq (by decide)
 have hnum : num (vals X) = num (pushes 10 [] X) := by rw [pushes_num X [] f.all]; rfl
 rcases hc with ⟨_, h0, _⟩ | ⟨_, _, hk2, hp, _⟩ | ⟨_, hk2, h101, x, hpw, hp⟩
 ·cases h0
 ·have ha := mant_ahead hm 101 hq (by decide) (fun g => by omega)
  rw [ha, mant_dec hm]
  exact ⟨hnum, f.b, 0, by rw [hp]; simp, by rw [hE.1 (by omega)]; exact .inl ⟨rfl, by decide, by decide⟩⟩
 ·have ha := mant_ahead hm 101 hq (by decide) (fun _ => h101)
  rw [ha, mant_dec hm]
  exact ⟨hnum, f.b, x, by rw [hp]; show -(b : Int) + x = x - (b : Int); omega, by rw [hE.2 hk2 h101]; exact powr_like hpw hk⟩
theorem hex_nums {l : List Nat} {a0 k : Nat} {D : List Nat} {pw : Int} (h : HexRes l (a0 + 2) k true D pw) (hk : k = l.length) (h0 : l.getD a0 0 = 48) (h1 : l.getD (a0 + 1) 0 = 120) :
  (hexScan (ahead (l.drop (a0 + 2)) 112)).1 = D ∧ (hexScan (ahead (l.drop (a0 + 2)) 112)).2.1 ≤ l.length ∧ ∃ x, pw = x - 4 * ((hexScan (ahead (l.drop (a0 + 2)) 112)).2.1 : Nat) ∧ PowLike x (expOf (l.drop a0) 112) := by
 rcases h with ⟨_, h0, _⟩ | ⟨k2, X, b, pt, hm, _, rfl, hc⟩
 ·cases h0
 ·have hq : ∀ c, isHexc c = true → c ≠ 112 := fun c hc => (hexc_ne hc).2.1
  have hE := expOf_mant hm a0 (by omega) 112 (fun j g1 g2 => by
   rcases (by omega : j = a0 ∨ j = a0 + 1) with rfl | rfl
   ·rw [h0]; decide
   ·rw [h1]; decide) hq (by decide)
  rcases hc with ⟨g0, _⟩ | ⟨hk2, h112, x, hpw, hp⟩
  ·cases g0
  ·have ha := mant_ahead hm 112 hq (by decide) (fun _ => h112)
   rw [ha, mant_hex hm]
   exact ⟨rfl, (mant_facts hm).b, x, by rw [hp]; show -4 * (b : Int) + x = x - 4 * (b : Int); omega, by rw [hE.2 hk2 h112]; exact powr_like hpw hk⟩
structure NumsOk (D : List Nat) (M n : Nat) (pw : Int) : Prop where
 lt : ∀ d, d ∈ D → d < M
 lead : D = [] ∨ D.getD 0 0 ≠ 0
 len : D.length ≤ n
 p1 : -100000000 ≤ pw
 p2 : pw ≤ 100000000
theorem powr_bd {l : List Nat} {a k : Nat} {ok : Bool} {x : Int} (h : Powr l a k ok x) : -20000000 ≤ x ∧ x ≤ 20000000 := by
 obtain ⟨a1, ng, _, hr, _, rfl⟩ := h
 have hc : capPow (cut l a1 k) ≤ 20000000 := by
  have : ∀ n, ∀ X : List Nat, X.length = n → (∀ c, c ∈ X → isDig c = true) → capPow X ≤ 20000000 := by
   intro n; induction n with
   | zero => intro X h _; rw [List.length_eq_zero_iff.1 h]; exact Nat.zero_le _
   | succ n ih =>
    intro X h hd
    have hne : X ≠ [] := by intro e; rw [e] at h; simp at h
    have h9 : isDig (X.getLast hne) = true := hd _ (List.getLast_mem hne)
    have hi := ih X.dropLast (by simp [h]) (fun c hc => hd c (List.dropLast_subset X hc))
    rw [← List.dropLast_concat_getLast hne, capPow_snoc]
    unfold isDig at h9
    simp at h9
    split <;> omega
  exact this _ _ rfl hr.all
 unfold sgnI
 cases ng
 ·simp only [Bool.false_eq_true, if_false]; omega
 ·simp only [if_true]; omega
theorem dec_ok' {l : List Nat} {a k : Nat} {D : List Nat} {pw : Int} (h : DecRes l a k true D pw) (hl : l.length ≤ 900) : NumsOk D 10 l.length pw := by
 obtain ⟨k2, X, b, pt, hm, rfl, hc⟩ := h
 have f := mant_facts hm
 have hd : ∀ c, c ∈ X → 0 ≤ digV c 10 ∧ digV c 10 < (10 : Nat) := fun c hc => by
  have h1 := f.all c hc
  have h2 := (digV_isDig c).2.2 h1
  unfold isDig at h1; simp at h1
  omega
 obtain ⟨p1, p2⟩ := pushes_ok 10 10 X [] hd (fun d hd => by cases hd) (.inl rfl)
 have hlen := pushes_len 10 [] X
 have hX := f.len
 have hb := f.b
 simp at hlen
 have hpw : -100000000 ≤ pw ∧ pw ≤ 100000000 := by
  rcases hc with ⟨_, h0, _⟩ | ⟨_, _, _, hp, _⟩ | ⟨_, _, _, x, hpw, hp⟩
  ·cases h0
  ·omega
  ·have := powr_bd hpw; omega
 exact ⟨p1, p2, by omega, hpw.1, hpw.2⟩
theorem hex_ok' {l : List Nat} {a k : Nat} {D : List Nat} {pw : Int} (h : HexRes l a k true D pw) (hl : l.length ≤ 900) : NumsOk D 16 l.length pw := by
 rcases h with ⟨_, h0, _⟩ | ⟨k2, X, b, pt, hm, _, rfl, hc⟩
 ·cases h0
 ·have f := mant_facts hm
  have hd : ∀ c, c ∈ X → 0 ≤ digV c 16 ∧ digV c 16 < (16 : Nat) := fun c hc => by
   have h1 := f.all c hc
   have h2 := (digV_isHexc c).2.2 h1
   have h3 : hexv c ≤ 15 := by unfold isHexc isDig at h1; unfold hexv; simp at h1; split <;> omega
   omega
  obtain ⟨p1, p2⟩ := pushes_ok 16 16 X [] hd (fun d hd => by cases hd) (.inl rfl)
  have hlen := pushes_len 16 [] X
  have hX := f.len
  have hb := f.b
  simp at hlen
  have hpw : -100000000 ≤ pw ∧ pw ≤ 100000000 := by
   rcases hc with ⟨g0, _⟩ | ⟨_, _, x, hpw, hp⟩
   ·cases g0
   ·have := powr_bd hpw; omega
  exact ⟨p1, p2, by omega, hpw.1, hpw.2⟩
end Go.Proofs.YtbkdaoicnobllabGreatDoor

namespace Go.Proofs.YtbkdaoicnobllabGreatDoor
set_option maxRecDepth 100000
set_option maxHeartbeats 4000000
open Go.RowKit

theorem qisFormat_any (f : Int) (w : World) : Calls Tryz.prog 26 #[.int .i64 f] w fun e w' => e = .returned (.bool (decide (0 ≤ f ∧ f ≤ 2))) ∧ w' = w := by
 go_enter Tryz.func26, Tryz.ntmps26
 by_cases h0 : 0 ≤ f
 ·by_cases h2 : f ≤ 2
  ·have e : decide (0 ≤ f ∧ f ≤ 2) = true := by simp; omega
   have t1 : decide (0 ≤ f) = true := by simpa using h0
   have t2 : decide (f ≤ 2) = true := by simpa using h2
   rw [e]
   go_wp2
   all_goals (go_ret; exact ⟨rfl, rfl⟩)
  ·have e : decide (0 ≤ f ∧ f ≤ 2) = false := by simp; omega
   have t1 : decide (0 ≤ f) = true := by simpa using h0
   have t2 : decide (f ≤ 2) = false := by simpa using h2
   rw [e]
   go_wp2
   all_goals (go_ret; exact ⟨rfl, rfl⟩)
 ·have e : decide (0 ≤ f ∧ f ≤ 2) = false := by simp; omega
  have t1 : decide (0 ≤ f) = false := by simpa using h0
  rw [e]
  go_wp2
  all_goals (go_ret; exact ⟨rfl, rfl⟩)
theorem qisMode_any (f : Int) (w : World) : Calls Tryz.prog 31 #[.int .i64 f] w fun e w' => e = .returned (.bool (decide (0 ≤ f ∧ f ≤ 4))) ∧ w' = w := by
 go_enter Tryz.func31, Tryz.ntmps31
 by_cases h0 : 0 ≤ f
 ·by_cases h2 : f ≤ 4
  ·have e : decide (0 ≤ f ∧ f ≤ 4) = true := by simp; omega
   have t1 : decide (0 ≤ f) = true := by simpa using h0
   have t2 : decide (f ≤ 4) = true := by simpa using h2
   rw [e]
   go_wp2
   all_goals (go_ret; exact ⟨rfl, rfl⟩)
  ·have e : decide (0 ≤ f ∧ f ≤ 4) = false := by simp; omega
   have t1 : decide (0 ≤ f) = true := by simpa using h0
   have t2 : decide (f ≤ 4) = false := by simpa using h2
   rw [e]
   go_wp2
   all_goals (go_ret; exact ⟨rfl, rfl⟩)
 ·have e : decide (0 ≤ f ∧ f ≤ 4) = false := by simp; omega
  have t1 : decide (0 ≤ f) = false := by simpa using h0
  rw [e]
  go_wp2
  all_goals (go_ret; exact ⟨rfl, rfl⟩)
def PParse (s : ByteArray) (f mode : Int) (bts fl at' err : Int) : Prop :=
 (¬ (0 ≤ f ∧ f ≤ 2 ∧ 0 ≤ mode ∧ mode ≤ 4) ∧ bts = 0 ∧ fl = 0 ∧ at' = 0 ∧ err = 1) ∨
 ((0 ≤ f ∧ f ≤ 2 ∧ 0 ≤ mode ∧ mode ≤ 4) ∧ 900 < s.size ∧ bts = 0 ∧ fl = 0 ∧ at' = 0 ∧ err = 2) ∨
 ((0 ≤ f ∧ f ≤ 2 ∧ 0 ≤ mode ∧ mode ≤ 4) ∧ s.size ≤ 900 ∧ ∃ (k : Nat) (uok : Bool) (kd : Int) (D : List Nat) (pw : Int), UnsRes s (sgnL s 0) k uok kd D pw ∧
  (((uok = false ∨ k < s.size) ∧ bts = 0 ∧ fl = 0 ∧ at' = k ∧ err = 3) ∨ ((uok = true ∧ ¬ k < s.size) ∧ at' = 0 ∧ err = 0 ∧ PatRes f mode (atB s 0 45) kd D pw bts fl)))
def ParsePost (w w' : World) (s : ByteArray) (f mode : Int) (e : Ending) : Prop :=
 ∃ bts fl at' err : Int, e = .returned (.tuple #[.int .i64 bts, .int .i64 fl, .int .i64 at', .int .i64 err]) ∧ Below w.heap.size w w' ∧ PParse s f mode bts fl at' err
theorem patternOf_any (s : ByteArray) (a k : Nat) (f mode kd pw : Int) (neg : Bool) (ao : Option Addr) (n cp : Nat) (D : List Nat) (w : World) (hf : 0 ≤ f ∧ f ≤ 2) (hs : s.size ≤ 900) (hu : UnsRes s a k true kd D pw) (ho : Own w 0 (.slice ao n cp) D) (hn : D.length = n) :
  Calls Tryz.prog 33 #[.agg #[.int .i64 kd, .bool neg, .slice ao n cp, .int .i64 pw], layOf f, .int .i64 mode] w fun e w' => PatPost w w' f mode neg kd D pw e := by
 have hl : (chs s).length ≤ 900 := by rw [chs_length]; exact hs
 have key : ∀ M : Nat, NumsOk D M (chs s).length pw → ((kd = 1 ∧ M = 16) ∨ (kd = 0 ∧ M = 10)) → Calls Tryz.prog 33 #[.agg #[.int .i64 kd, .bool neg, .slice ao n cp, .int .i64 pw], layOf f, .int .i64 mode] w fun e w' => PatPost w w' f mode neg kd D pw e := by
  intro M hN hk
  rcases hN.lead with h0 | h0
  ·have hn0 : n = 0 := by rw [← hn, h0]; rfl
   subst hn0 h0
   exact patternOf_zero f mode kd pw neg ao cp w hf (by omega)
  ·have hne : n ≠ 0 := fun h => by rw [h] at hn; rw [List.length_eq_zero_iff.1 hn] at h0; simp at h0
   rcases ho.form with ⟨e, _⟩ | ⟨g, cap, hv, _⟩
   ·rw [e] at h0; simp at h0
   ·simp only [Value.slice.injEq] at hv
    obtain ⟨e1, _, _⟩ := hv
    subst e1
    refine patternOf_num f mode kd pw neg g n cp D w hf hn (by have := hN.len; omega) ho h0 ?_ hN.p1 hN.p2
    rcases hk with ⟨rfl, rfl⟩ | ⟨rfl, rfl⟩
    ·exact .inl ⟨rfl, hN.lt⟩
    ·exact .inr ⟨rfl, hN.lt⟩
 rcases hu with ⟨_, rfl, _⟩ | ⟨_, rfl, _⟩ | ⟨_, _, _, rfl, hx⟩ | ⟨_, _, _, rfl, hx⟩
 ·exact patternOf_word f mode 2 pw neg ao n cp D w hf (.inl rfl)
 ·exact patternOf_word f mode 3 pw neg ao n cp D w hf (.inr rfl)
 ·exact key 16 (hex_ok' hx hl) (.inl ⟨rfl, rfl⟩)
 ·exact key 10 (dec_ok' hx hl) (.inr ⟨rfl, rfl⟩)
theorem results_tmp4 {fn : Func} {t u v x : Tmp} (h : fn.results = #[.tmp t, .tmp u, .tmp v, .tmp x]) (tmps : Array Value) (P : Program) (w : World) :
  (results fn tmps).run P w = .ok (.tuple #[tmps.getD t undef, tmps.getD u undef, tmps.getD v undef, tmps.getD x undef]) w := by
 simp [results, h]

theorem parse_any (cv : Value) (s : ByteArray) (f mode : Int) (w : World) :
  Calls Tryz.prog 22 #[cv, .string s, .int .i64 f, .int .i64 mode] w fun e w' => ParsePost w w' s f mode e := by
 have HF := hid (qisFormat_any f w)
 have HM := hid (qisMode_any mode w)
 go_enter Tryz.func22, Tryz.ntmps22
 by_cases hf : 0 ≤ f ∧ f ≤ 2
 ·have ef : decide (0 ≤ f ∧ f ≤ 2) = true := by simpa using hf
  rw [ef] at HF
  by_cases hm : 0 ≤ mode ∧ mode ≤ 4
  ·have em : decide (0 ≤ mode ∧ mode ≤ 4) = true := by simpa using hm
   rw [em] at HM
   have HV : Hid (0 ≤ f ∧ f ≤ 2 ∧ 0 ≤ mode ∧ mode ≤ 4) := ⟨hf.1, hf.2, hm.1, hm.2⟩
   have HHF := hid hf
   clear ef em hf hm
   go_wp2_with fail
   refine HF.out.mono ?_
   rintro e w' ⟨rfl, rfl⟩
   go_wp2_with fail
   refine HM.out.mono ?_
   rintro e w' ⟨rfl, rfl⟩
   clear HF HM
   by_cases hlong : 900 < s.size
   ·go_wp2
    try simp only [Exit.inBlock, Exit.then]
    refine bodyPost_ret (results_tmp4 rfl _ _ _) rfl ?_
    exact ⟨0, 0, 0, 2, rfl, Below.refl _ _, .inr (.inl ⟨HV.out, hlong, rfl, rfl, rfl, rfl⟩)⟩
   ·have HXS := hid (scan_any s w' (by omega))
    go_wp2_with fail
    refine HXS.out.mono ?_
    rintro e w1 ⟨k, uok, kd, v, D, pw, hu, hb, hc⟩
    have HU := hid hu
    have HB := hid hb
    clear HXS hu hb
    rcases hc with ⟨hfail, rfl⟩ | ⟨⟨huok, hk⟩, ho, hfr, rfl⟩
    ·have HFL := hid hfail
     have HB1 := hid (HB.out.alloc HB.out.size (.cells #[.int .i64 0, .bool false, .slice none 0 0, .int .i64 0] 71))
     clear hfail HB
     go_wp2
     try simp only [Exit.inBlock, Exit.then]
     refine bodyPost_ret (results_tmp4 rfl _ _ _) rfl ?_
     exact ⟨0, 0, k, 3, rfl, HB1.out, .inr (.inr ⟨HV.out, by omega, k, uok, kd, D, pw, HU.out, .inl ⟨HFL.out, rfl, rfl, rfl, rfl⟩⟩)⟩
    ·subst huok
     obtain ⟨ao, cp, hv⟩ := ho.row.isSlice
     obtain ⟨n, hn⟩ : ∃ n, n = D.length := ⟨_, rfl⟩
     rw [← hn] at hv
     subst hv
     have HN : Hid (D.length = n) := hn.symm
     have HK := hid hk
     obtain ⟨C, hC⟩ : ∃ C, C = w1.heap.size := ⟨_, rfl⟩
     obtain ⟨w2, hw2⟩ : ∃ w2, w2 = w1.alloc (.cells #[.int .i64 kd, .bool (atB s 0 45), .slice ao n cp, .int .i64 pw] 71) := ⟨_, rfl⟩
     have hb12 : Below w1.heap.size w1 w2 := by rw [hw2]; exact (Below.refl _ _).alloc (Nat.le_refl _) _
     have hC2 : C < w2.heap.size := by rw [hw2, hC]; simp
     have m0 : w2.cell? ⟨C, 0, none⟩ = some (.int .i64 kd) := by rw [hw2, hC]; simp [go_sem]
     have m1 : w2.cell? ⟨C, 1, none⟩ = some (.bool (atB s 0 45)) := by rw [hw2, hC]; simp [go_sem]
     have m2 : w2.cell? ⟨C, 2, none⟩ = some (.slice ao n cp) := by rw [hw2, hC]; simp [go_sem]
     have m3 : w2.cell? ⟨C, 3, none⟩ = some (.int .i64 pw) := by rw [hw2, hC]; simp [go_sem]
     have HO2 := hid (ho.below hb12 (Nat.le_refl _))
     have HB2 : Hid (Below w'.heap.size w' w2) := HB.out.trans (hb12.mono HB.out.size)
     have HW2 := hid hw2
     have HC := hid hC
     have HXL := hid (patOf_any f HHF.out.1 HHF.out.2 w2)
     clear ho hfr hn hk hw2 hC HB hb12
     go_wp2_with (rw [← HW2.out, ← HC.out])
     go_wp2_with fail
     refine HXL.out.mono ?_
     rintro e w3 ⟨rfl, hb3⟩
     have p0 := keep_cell' hb3 m0
     have p1 := keep_cell' hb3 m1
     have p2 := keep_cell' hb3 m2
     have p3 := keep_cell' hb3 m3
     have HO3 := hid (HO2.out.below hb3 (Nat.le_refl _))
     have HB3 : Hid (Below w'.heap.size w' w3) := HB2.out.trans (hb3.mono HB2.out.size)
     have hC3 : C < w3.heap.size := by have := hb3.size; omega
     obtain ⟨F, B, N, G, hlay⟩ := lay_form f HHF.out
     have HLY := hid hlay
     rw [hlay]
     unfold layV
     obtain ⟨I, hI⟩ : ∃ I : Int, I = infN f := ⟨_, rfl⟩
     rw [← hI]
     have HI := hid hI
     obtain ⟨E, hE⟩ : ∃ E, E = w3.heap.size := ⟨_, rfl⟩
     obtain ⟨w4, hw4⟩ : ∃ w4, w4 = w3.alloc (.cells #[.int .i64 F, .int .i64 B, .int .i64 N, .int .i64 I, .int .i64 G] 63) := ⟨_, rfl⟩
     have hb34 : Below w3.heap.size w3 w4 := by rw [hw4]; exact (Below.refl _ _).alloc (Nat.le_refl _) _
     have l0 : w4.cell? ⟨E, 0, none⟩ = some (.int .i64 F) := by rw [hw4, hE]; simp [go_sem]
     have l1 : w4.cell? ⟨E, 1, none⟩ = some (.int .i64 B) := by rw [hw4, hE]; simp [go_sem]
     have l2 : w4.cell? ⟨E, 2, none⟩ = some (.int .i64 N) := by rw [hw4, hE]; simp [go_sem]
     have l3 : w4.cell? ⟨E, 3, none⟩ = some (.int .i64 I) := by rw [hw4, hE]; simp [go_sem]
     have l4 : w4.cell? ⟨E, 4, none⟩ = some (.int .i64 G) := by rw [hw4, hE]; simp [go_sem]
     have q0 := keep_cell' hb34 p0
     have q1 := keep_cell' hb34 p1
     have q2 := keep_cell' hb34 p2
     have q3 := keep_cell' hb34 p3
     have HB4 : Hid (Below w'.heap.size w' w4) := HB3.out.trans (hb34.mono HB3.out.size)
     have HXP := hid (patternOf_any s (sgnL s 0) k f mode kd pw (atB s 0 45) ao n cp D w4 HHF.out (by omega) HU.out (HO3.out.below hb34 (Nat.le_refl _)) HN.out)
     rw [hlay] at HXP
     unfold layV at HXP
     rw [← hI] at HXP
     have HW4 := hid hw4
     have HE := hid hE
     clear HXL hb3 m0 m1 m2 m3 p0 p1 p2 p3 hb34 hw4 hE hI hlay HO2 HO3 HB2 HB3
     go_wp2_with (rw [← HW4.out, ← HE.out])
     go_wp2_with fail
     refine HXP.out.mono ?_
     rintro e w5 ⟨bts, fl, rfl, hb5, hr⟩
     have HB5 : Hid (Below w'.heap.size w' w5) := HB4.out.trans (hb5.mono HB4.out.size)
     have HR := hid hr
     clear HXP hb5 hr
     go_wp2
     try simp only [Exit.inBlock, Exit.then]
     refine bodyPost_ret (results_tmp4 rfl _ _ _) rfl ?_
     exact ⟨bts, fl, 0, 0, rfl, HB5.out, .inr (.inr ⟨HV.out, by omega, k, true, kd, D, pw, HU.out, .inr ⟨⟨rfl, HK.out⟩, rfl, rfl, HR.out⟩⟩)⟩
  ·have em : decide (0 ≤ mode ∧ mode ≤ 4) = false := by simpa using hm
   rw [em] at HM
   have HV : Hid (¬ (0 ≤ f ∧ f ≤ 2 ∧ 0 ≤ mode ∧ mode ≤ 4)) := fun h => hm ⟨h.2.2.1, h.2.2.2⟩
   clear ef em hf hm
   go_wp2_with fail
   refine HF.out.mono ?_
   rintro e w' ⟨rfl, rfl⟩
   go_wp2_with fail
   refine HM.out.mono ?_
   rintro e w' ⟨rfl, rfl⟩
   clear HF HM
   go_wp2
   try simp only [Exit.inBlock, Exit.then]
   refine bodyPost_ret (results_tmp4 rfl _ _ _) rfl ?_
   exact ⟨0, 0, 0, 1, rfl, Below.refl _ _, .inl ⟨HV.out, rfl, rfl, rfl, rfl⟩⟩
 ·have ef : decide (0 ≤ f ∧ f ≤ 2) = false := by simpa using hf
  rw [ef] at HF
  have HV : Hid (¬ (0 ≤ f ∧ f ≤ 2 ∧ 0 ≤ mode ∧ mode ≤ 4)) := fun h => hf ⟨h.1, h.2.1⟩
  clear ef hf
  go_wp2_with fail
  refine HF.out.mono ?_
  rintro e w' ⟨rfl, rfl⟩
  clear HF HM
  go_wp2
  try simp only [Exit.inBlock, Exit.then]
  refine bodyPost_ret (results_tmp4 rfl _ _ _) rfl ?_
  exact ⟨0, 0, 0, 1, rfl, Below.refl _ _, .inl ⟨HV.out, rfl, rfl, rfl, rfl⟩⟩
end Go.Proofs.YtbkdaoicnobllabGreatDoor

namespace Go.Proofs.YtbkdaoicnobllabGreatDoor

theorem getD_out {l : List Nat} {a : Nat} (h : ¬ a < l.length) : l.getD a 0 = 0 := by
 rw [List.getD_eq_getElem?_getD, List.getElem?_eq_none (by omega)]; rfl
theorem atB_of {s : ByteArray} {a x : Nat} (h : (chs s).getD a 0 = x) (hx : x ≠ 0) : atB s a x = true := by
 have hl : a < (chs s).length := by
  rcases Nat.lt_or_ge a (chs s).length with g | g
  ·exact g
  ·rw [getD_out (by omega)] at h; exact absurd h.symm hx
 unfold atB; rw [chs_length] at hl; simp [hl]; simpa using h
theorem sign_path (s : ByteArray) : ∃ st0, Path (chs s) (sgnL s 0) st0 ∧ endsB st0 = false ∧ (sgnL s 0 < (chs s).length → nextS st0 ((chs s).getD (sgnL s 0) 0) = beginS ((chs s).getD (sgnL s 0) 0)) ∧ body (chs s) = (chs s).drop (sgnL s 0) := by
 have hz := Path.zero (chs s)
 by_cases h : atB s 0 45 = true ∨ atB s 0 43 = true
 ·have e : sgnL s 0 = 1 := by unfold sgnL; rw [if_pos h]
  have hs : 0 < (chs s).length ∧ sgn ((chs s).getD 0 0) = true := by
   rcases h with h | h
   ·have := atB_yes h; exact ⟨this.1, by rw [this.2]; rfl⟩
   ·have := atB_yes h; exact ⟨this.1, by rw [this.2]; rfl⟩
  rw [e]
  refine ⟨1, hz.step hs.1 (by show (if sgn _ = true then 1 else _) = 1; rw [if_pos hs.2]) (by omega), rfl, fun _ => rfl, ?_⟩
  cases hl : chs s with
  | nil => rw [hl] at hs; simp at hs
  | cons c r => rw [hl] at hs; simp at hs; simp [body, hs]
 ·have e : sgnL s 0 = 0 := by unfold sgnL; rw [if_neg h]
  have hn : 0 < (chs s).length → sgn ((chs s).getD 0 0) = false := fun hl => by
   have h1 : atB s 0 45 = false := by cases g : atB s 0 45; rfl; exact absurd (.inl g) h
   have h2 : atB s 0 43 = false := by cases g : atB s 0 43; rfl; exact absurd (.inr g) h
   have e1 := atB_no h1 hl
   have e2 := atB_no h2 hl
   unfold sgn; simp; exact ⟨e2, e1⟩
  rw [e]
  refine ⟨0, hz, rfl, fun hl => ?_, ?_⟩
  ·show (if sgn _ = true then 1 else beginS _) = _
   rw [hn hl]; rfl
  ·cases hl : chs s with
   | nil => rfl
   | cons c r => rw [hl] at hn; simp at hn; simp [body, hn]
theorem word_path {s : ByteArray} (tail : List Nat) : ∀ (a q : Nat), Path (chs s) a q → (∀ i, i < tail.length → ∀ c, nextS (q + i) c = if c = tail.getD i 0 then q + i + 1 else 28) → q + tail.length < 28 → (∀ c, nextS (q + tail.length) c = 28) →
  Path (chs s) (a + wordN s a tail) (q + wordN s a tail) ∧ (a + wordN s a tail < (chs s).length → nextS (q + wordN s a tail) ((chs s).getD (a + wordN s a tail) 0) = 28) ∧ wordN s a tail ≤ tail.length := by
 induction tail with
 | nil => intro a q hp _ _ hend; exact ⟨hp, fun _ => hend _, Nat.le_refl _⟩
 | cons x r ih =>
  intro a q hp hst hlt hend
  have h0 := hst 0 (by simp)
  simp at h0
  cases hx : atB s a x
  ·have e : wordN s a (x :: r) = 0 := by simp [wordN, hx]
   rw [e]
   refine ⟨hp, fun hl => ?_, Nat.zero_le _⟩
   simp only [Nat.add_zero] at hl ⊢
   show nextS q _ = 28
   rw [h0, if_neg (atB_no hx hl)]
  ·have e : wordN s a (x :: r) = 1 + wordN s (a + 1) r := by simp [wordN, hx]
   obtain ⟨hl, hv⟩ := atB_yes hx
   have hp1 : Path (chs s) (a + 1) (q + 1) := hp.step hl (by rw [h0, hv, if_pos rfl]) (by simp at hlt; omega)
   have := ih (a + 1) (q + 1) hp1 (fun i hi c => by have := hst (i + 1) (by simp; omega) c; rw [show q + 1 + i = q + (i + 1) from by omega, this]; simp) (by simp at hlt; omega) (fun c => by have := hend c; rw [show q + 1 + r.length = q + (x :: r).length from by simp; omega]; exact this)
   rw [e, show a + (1 + wordN s (a + 1) r) = a + 1 + wordN s (a + 1) r from by omega, show q + (1 + wordN s (a + 1) r) = q + 1 + wordN s (a + 1) r from by omega]
   exact ⟨this.1, this.2.1, by have := this.2.2; simp; omega⟩
theorem inf_steps : ∀ i, i < [110, 102, 105, 110, 105, 116, 121].length → ∀ c, nextS (16 + i) c = if c = [110, 102, 105, 110, 105, 116, 121].getD i 0 then 16 + i + 1 else 28 := by
 intro i hi c
 simp only [List.length_cons, List.length_nil] at hi
 rcases (by omega : i = 0 ∨ i = 1 ∨ i = 2 ∨ i = 3 ∨ i = 4 ∨ i = 5 ∨ i = 6) with rfl | rfl | rfl | rfl | rfl | rfl | rfl <;> rfl
theorem nan_steps : ∀ i, i < [97, 110].length → ∀ c, nextS (25 + i) c = if c = [97, 110].getD i 0 then 25 + i + 1 else 28 := by
 intro i hi c
 simp only [List.length_cons, List.length_nil] at hi
 rcases (by omega : i = 0 ∨ i = 1) with rfl | rfl <;> rfl
def KindSt (kd : Int) (st : Nat) : Prop :=
 (kd = 3 ∧ st = 27) ∨ (kd = 2 ∧ (st = 18 ∨ st = 23)) ∨ (kd = 1 ∧ st = 15) ∨ (kd = 0 ∧ (st = 2 ∨ st = 3 ∨ st = 4 ∨ st = 6 ∨ st = 9))
theorem uns_stop {s : ByteArray} {k : Nat} {uok : Bool} {kd : Int} {D : List Nat} {pw : Int} (h : UnsRes s (sgnL s 0) k uok kd D pw) : ∃ st, Stop (chs s) k uok st ∧ (uok = true → KindSt kd st) := by
 obtain ⟨st0, hp, he, hb, _⟩ := sign_path s
 generalize sgnL s 0 = a at *
 rcases h with ⟨h1, rfl, rfl, rfl⟩ | ⟨h1, rfl, rfl, rfl⟩ | ⟨h1, h2, h3, rfl, hx⟩ | ⟨h1, h2, h3, rfl, hx⟩
 ·have ha := atB_of h1 (by decide)
  obtain ⟨hl, _⟩ := atB_yes ha
  have p1 : Path (chs s) (a + 1) 16 := hp.step hl (by rw [hb hl, h1]; rfl) (by omega)
  obtain ⟨w1, w2, w3⟩ := word_path [110, 102, 105, 110, 105, 116, 121] (a + 1) 16 p1 inf_steps (by decide) (fun c => rfl)
  have e : wordN s a wInf = 1 + wordN s (a + 1) [110, 102, 105, 110, 105, 116, 121] := by unfold wInf; simp only [wordN, ha]; simp
  rw [e]
  generalize wordN s (a + 1) [110, 102, 105, 110, 105, 116, 121] = m at *
  rw [show a + (1 + m) = a + 1 + m from by omega]
  simp only [List.length_cons, List.length_nil] at w3
  refine ⟨16 + m, ⟨w1, w2, ?_⟩, fun hh => .inr (.inl ⟨rfl, ?_⟩)⟩
  ·rcases (by omega : m = 0 ∨ m = 1 ∨ m = 2 ∨ m = 3 ∨ m = 4 ∨ m = 5 ∨ m = 6 ∨ m = 7) with rfl | rfl | rfl | rfl | rfl | rfl | rfl | rfl <;> rfl
  ·simp at hh; omega
 ·have ha := atB_of h1 (by decide)
  obtain ⟨hl, _⟩ := atB_yes ha
  have p1 : Path (chs s) (a + 1) 25 := hp.step hl (by rw [hb hl, h1]; rfl) (by omega)
  obtain ⟨w1, w2, w3⟩ := word_path [97, 110] (a + 1) 25 p1 nan_steps (by decide) (fun c => rfl)
  have e : wordN s a wNan = 1 + wordN s (a + 1) [97, 110] := by unfold wNan; simp only [wordN, ha]; simp
  rw [e]
  generalize wordN s (a + 1) [97, 110] = m at *
  rw [show a + (1 + m) = a + 1 + m from by omega]
  simp only [List.length_cons, List.length_nil] at w3
  refine ⟨25 + m, ⟨w1, w2, ?_⟩, fun hh => .inl ⟨rfl, ?_⟩⟩
  ·rcases (by omega : m = 0 ∨ m = 1 ∨ m = 2) with rfl | rfl | rfl <;> rfl
  ·simp at hh; omega
 ·unfold hexB at h3
  simp at h3
  obtain ⟨hl, hv⟩ := atB_yes h3.1
  obtain ⟨hl1, hv1⟩ := atB_yes h3.2
  have p1 : Path (chs s) (a + 1) 2 := hp.step hl (by rw [hb hl, hv]; rfl) (by omega)
  have p2 : Path (chs s) (a + 2) 10 := p1.step hl1 (by rw [hv1]; rfl) (by omega)
  obtain ⟨st, g1, g2⟩ := hex_stop p2 hx
  exact ⟨st, g1, fun hh => .inr (.inr (.inl ⟨rfl, g2 hh⟩))⟩
 ·obtain ⟨st, g1, g2⟩ := dec_stop hp hb he (fun ⟨x1, x2, x3⟩ => by
   have e1 := atB_of x2 (by decide)
   have e2 := atB_of x3 (by decide)
   unfold hexB at h3; rw [e1, e2] at h3; cases h3) (fun _ => ⟨h1, h2⟩) hx
  exact ⟨st, g1, fun hh => .inr (.inr (.inr ⟨rfl, g2 hh⟩))⟩
theorem ReadSpec.one {l : List Nat} {s a s' a' : Nat} {ok ok' : Bool} (h : ReadSpec l s a ok) (h' : ReadSpec l s' a' ok') : s = s' ∧ a = a' ∧ ok = ok' := by
 rcases h with ⟨k, h1, h2, h3, h4, h5, h6⟩ | ⟨h1, h2, h3, h4⟩
 ·rcases h' with ⟨k', g1, g2, g3, g4, g5, g6⟩ | ⟨g1, g2, g3, g4⟩
  ·have hk : k = k' := by
    rcases Nat.lt_trichotomy k k' with g | g | g
    ·exact absurd h3 (g2 _ g)
    ·exact g
    ·exact absurd g3 (h2 _ g)
   exact ⟨h4.trans g4.symm, by omega, h6.trans g6.symm⟩
  ·exact absurd h3 (g1 _ h1)
 ·rcases h' with ⟨k', g1, g2, g3, g4, g5, g6⟩ | ⟨g1, g2, g3, g4⟩
  ·exact absurd g3 (h1 _ g1)
  ·have : s = s' := h2.trans g2.symm
   exact ⟨this, by omega, by rw [h4, g4, this]⟩
theorem RoundSpec.zero {K : Nat} {f mode : Int} {neg : Bool} {r fl : Int} (h : RoundSpec K f mode neg 0 r fl) : r = 0 ∧ fl = 0 := by
 rcases h with ⟨_, h1, h2⟩ | ⟨h, _⟩ | ⟨h, _⟩
 ·exact ⟨h1, h2⟩
 ·omega
 ·omega
theorem neg_eq (s : ByteArray) (h : 0 < (chs s).length) : decide ((chs s).getD 0 0 = 45) = atB s 0 45 := by
 rw [chs_length] at h
 unfold atB
 rw [Bool.eq_iff_iff]; simp [h]

theorem sixV_nil (K : Nat) (e : Int) : sixV K [] e = 0 := by unfold sixV; simp
theorem num_join {K : Nat} (hK : 30000 ≤ K) {s : ByteArray} {f mode bts fl b2 f2 kd pw : Int} {D : List Nat} {st : Nat} (hf : 0 ≤ f ∧ f ≤ 2) (hl : s.size ≤ 900) (hne : 0 < (chs s).length) (hu : UnsRes s (sgnL s 0) (chs s).length true kd D pw) (hk : KindSt kd st)
  (hp : PatRes f mode (atB s 0 45) kd D pw bts fl) (hn : NumSpec K (chs s) f mode st b2 f2) : bts = b2 ∧ fl = f2 := by
 have hlen := chs_length s
 have hF := fmt_of hf
 obtain ⟨_, _, _, _, hbody⟩ := sign_path s
 unfold NumSpec at hn
 rw [neg_eq s hne, hbody] at hn
 generalize atB s 0 45 = neg at *
 unfold KindSt at hk
 rcases hn with ⟨h1, h2, h3⟩ | ⟨h1, h2, h3⟩ | ⟨h1, r, hr, h2⟩ | ⟨h1, r, L, e, hL, hL0, hLe, hLv, hr, h2⟩
 ·have hkd : kd = 3 := by omega
  subst hkd
  rcases hp with ⟨_, g1, g2⟩ | ⟨g, _⟩ | ⟨g, _⟩ | ⟨g, _⟩
  ·exact ⟨g1.trans h2.symm, g2.trans h3.symm⟩
  ·omega
  ·omega
  ·omega
 ·have hkd : kd = 2 := by omega
  subst hkd
  rcases hp with ⟨g, _⟩ | ⟨_, g1, g2⟩ | ⟨g, _⟩ | ⟨g, _⟩
  ·omega
  ·exact ⟨g1.trans h2.symm, g2.trans h3.symm⟩
  ·omega
  ·omega
 ·have hkd : kd = 1 := by omega
  subst hkd
  rcases hu with ⟨_, g, _⟩ | ⟨_, g, _⟩ | ⟨_, _, hB, _, hx⟩ | ⟨_, _, _, g, _⟩
  ·omega
  ·omega
  ·unfold hexB at hB
   simp at hB
   obtain ⟨n1, n2, x, n3, n4⟩ := hex_nums hx rfl (atB_yes hB.1).2 (atB_yes hB.2).2
   have hN := hex_ok' hx (by omega)
   rw [List.drop_drop, n1] at hr
   rcases hp with ⟨g, _⟩ | ⟨g, _⟩ | ⟨_, g0, g1, g2⟩ | ⟨_, g0, V, U, q, hUV, hVU, hE, g1, g2⟩
   ·omega
   ·omega
   ·rw [g0, sixV_nil] at hr
    obtain ⟨z1, z2⟩ := hr.zero
    rw [g1, g2, h2, z1, z2]; exact ⟨rfl, rfl⟩
   ·rcases hE with ⟨_, hE⟩ | ⟨g, _⟩
    ·have hD0 : D.getD 0 0 ≠ 0 := by
      rcases hN.lead with h | h
      ·exact absurd h g0
      ·exact h
     have hlenD := hN.len
     have hj := hex_joinJ (mode := mode) (neg := neg) hF hK (fun d hd => by have := hN.lt d hd; omega) hD0 (by omega) (b := 4 * ((hexScan (ahead ((chs s).drop (sgnL s 0 + 2)) 112)).2.1 : Nat)) ⟨by omega, by omega⟩ n3 rfl n4 hUV hVU hE
     obtain ⟨z1, z2⟩ := RoundSpec.one (by omega) hj hr
     rw [g1, g2, h2, z1, z2]; exact ⟨rfl, rfl⟩
    ·omega
  ·omega
 ·have hkd : kd = 0 := by omega
  subst hkd
  rcases hu with ⟨_, g, _⟩ | ⟨_, g, _⟩ | ⟨_, _, _, g, _⟩ | ⟨_, _, _, _, hx⟩
  ·omega
  ·omega
  ·omega
  ·obtain ⟨n1, n2, x, n3, n4⟩ := dec_nums hx rfl
   have hN := dec_ok' hx (by omega)
   rcases hp with ⟨g, _⟩ | ⟨g, _⟩ | ⟨_, g0, g1, g2⟩ | ⟨_, g0, V, U, q, hUV, hVU, hE, g1, g2⟩
   ·omega
   ·omega
   ·have hz : L = [] := by
     rcases Nat.eq_zero_or_pos L.length with h | h
     ·exact List.length_eq_zero_iff.1 h
     ·exfalso
      have hv := hLv (-(expOf ((chs s).drop (sgnL s 0)) 101 - ((decScan (ahead ((chs s).drop (sgnL s 0)) 101)).2.1 : Nat))).toNat (by omega)
      have hpos := val_pos hL h (-(expOf ((chs s).drop (sgnL s 0)) 101 - ((decScan (ahead ((chs s).drop (sgnL s 0)) 101)).2.1 : Nat))).toNat e
      rw [hv] at hpos
      unfold val at hpos
      rw [n1, g0, num_nil] at hpos
      simp at hpos
    have e0 : heldV K L e = 0 := by unfold heldV; rw [hz]; simp
    rw [e0] at hr
    obtain ⟨z1, z2⟩ := hr.zero
    rw [g1, g2, h2, z1, z2]; exact ⟨rfl, rfl⟩
   ·rcases hE with ⟨g, _⟩ | ⟨_, hE⟩
    ·omega
    ·have hD0 : D.getD 0 0 ≠ 0 := by
      rcases hN.lead with h | h
      ·exact absurd h g0
      ·exact h
     have hlenD := hN.len
     have hj := dec_join (mode := mode) (neg := neg) hF hK hL (fun d hd => by have := hN.lt d hd; omega) hD0 (by omega) n1 hLe hLv (b := ((decScan (ahead ((chs s).drop (sgnL s 0)) 101)).2.1 : Nat)) ⟨by omega, by omega⟩ n3 rfl n4 hUV hVU hE
     obtain ⟨z1, z2⟩ := RoundSpec.one (by omega) hj hr
     rw [g1, g2, h2, z1, z2]; exact ⟨rfl, rfl⟩

theorem parse_join {K : Nat} (hK : 30000 ≤ K) {s : ByteArray} {f mode bts fl at' err b2 f2 a2 e2 : Int} (hp : PParse s f mode bts fl at' err) (hr : ParseSpec K (chs s) f mode b2 f2 a2 e2) : bts = b2 ∧ fl = f2 ∧ at' = a2 ∧ err = e2 := by
 have hlen := chs_length s
 rcases hp with ⟨hv, h1, h2, h3, h4⟩ | ⟨hv, hl, h1, h2, h3, h4⟩ | ⟨hv, hl, k, uok, kd, D, pw, hu, hc⟩
 ·rcases hr with ⟨_, g1, g2, g3, g4⟩ | ⟨gv, _⟩ | ⟨gv, _⟩
  ·omega
  ·exact absurd gv hv
  ·exact absurd gv hv
 ·rcases hr with ⟨gv, _⟩ | ⟨_, _, g1, g2, g3, g4⟩ | ⟨_, gl, _⟩
  ·exact absurd hv gv
  ·omega
  ·omega
 ·rcases hr with ⟨gv, _⟩ | ⟨_, gl, _⟩ | ⟨_, _, st2, a3, ok2, hrs, hd⟩
  ·exact absurd hv gv
  ·omega
  ·obtain ⟨st, hst, hks⟩ := uns_stop hu
   obtain ⟨st', hrd, hst'⟩ := read_of hst
   obtain ⟨e1, e2, e3⟩ := ReadSpec.one hrd hrs
   have hkl := hst.path.le
   rcases hc with ⟨hfail, h1, h2, h3, h4⟩ | ⟨⟨huok, hk⟩, h3, h4, hpat⟩
   ·have ho : ok2 = false := by
     rw [← e3]
     rcases hfail with h | h
     ·rw [h]; rfl
     ·rw [show decide (k = (chs s).length) = false from by simp; omega]; simp
    rcases hd with ⟨_, g1, g2, g3, g4⟩ | ⟨g, _⟩
    ·omega
    ·rw [ho] at g; cases g
   ·subst huok
    have hkk : k = (chs s).length := by omega
    have ho : ok2 = true := by rw [← e3, hkk]; simp
    rcases hd with ⟨g, _⟩ | ⟨_, g3, g4, hnum⟩
    ·rw [ho] at g; cases g
    ·have hst2 : st2 = st := by rw [← e1]; exact hst' rfl hkk
     have hKS := hks rfl
     rw [← hst2] at hKS
     have hne : 0 < (chs s).length := by
      rcases Nat.eq_zero_or_pos (chs s).length with h | h
      ·exfalso
       have h5 := hst.ok
       have h6 := hst.path.st
       have hnil := List.length_eq_zero_iff.1 h
       rw [hkk, h] at h6
       rw [← h6] at h5
       simp [stAt, endsB] at h5
      ·exact h
     rw [hkk] at hu
     obtain ⟨z1, z2⟩ := num_join hK ⟨hv.1, hv.2.1⟩ hl hne hu hKS hpat hnum
     exact ⟨z1, z2, by omega, by omega⟩
end Go.Proofs.YtbkdaoicnobllabGreatDoor
