import Derived.Test.YtbkdaoicnobllaaTScan

/- Plain mathematics: where the parts of a text end, and what number they say. -/
namespace Go.Proofs.Ytbkdaoicnobllaa

theorem sgn_notDig {c : Nat} (h : sgn c = true) : isDig c = false := by
  unfold sgn at h; simp at h; rcases h with rfl | rfl <;> rfl
theorem dig_ne {c : Nat} (h : isDig c = true) : c ≠ 46 ∧ c ≠ 101 ∧ c ≠ 120 ∧ c ≠ 105 ∧ c ≠ 110 ∧ c ≠ 45 ∧ c ≠ 43 ∧ c ≠ 112 := by
  unfold isDig at h; simp at h; omega
theorem hexc_ne {c : Nat} (h : isHexc c = true) : c ≠ 46 ∧ c ≠ 112 ∧ c ≠ 120 := by
  unfold isHexc isDig at h; simp at h; omega
theorem first_dig {l : List Nat} {a k1 st0 : Nat} (hp : Path l a st0) (hb : a < l.length → nextS st0 (l.getD a 0) = beginS (l.getD a 0)) (hr : LRun isDig l a k1) (hlt : a < k1) :
    ∃ e, Path l k1 e ∧ ((e = 2 ∧ k1 = a + 1 ∧ l.getD a 0 = 48) ∨ e = 3) := by
  have hal : a < l.length := Nat.lt_of_lt_of_le hlt hr.le
  have hd := hr.all _ (mem_cut (Nat.le_refl a) hlt hr.le)
  have hr2 : LRun isDig l (a + 1) k1 := ⟨hlt, hr.le, fun c hc => hr.all c (by unfold cut at hc ⊢; rw [← List.drop_drop] at hc; exact List.mem_of_mem_drop hc), hr.fin⟩
  have h3 : ∀ c, isDig c = true → nextS 3 c = 3 := fun c hc => by show (if isDig c = true then 3 else _) = 3; rw [if_pos hc]
  by_cases h48 : l.getD a 0 = 48
  · have p1 : Path l (a + 1) 2 := hp.step hal (by rw [hb hal, h48]; rfl) (by omega)
    rcases Nat.lt_or_ge (a + 1) k1 with g | g
    · refine ⟨3, p1.run1 (by omega) isDig (fun c hc => ?_) h3 hr2 g, .inr rfl⟩
      show (if c = 120 then 10 else if isDig c = true then 3 else _) = 3
      rw [if_neg (dig_ne hc).2.2.1, if_pos hc]
    · exact ⟨2, by rw [show k1 = a + 1 from by omega]; exact p1, .inl ⟨rfl, by omega, h48⟩⟩
  · have p1 : Path l (a + 1) 3 := hp.step hal (by rw [hb hal]; unfold beginS; rw [if_neg h48, if_pos hd]) (by omega)
    exact ⟨3, p1.run (by omega) isDig h3 k1 hlt hr.le hr2.all, .inr rfl⟩
theorem nxs7 (c : Nat) : nextS 7 c = if isDig c = true then 9 else if sgn c = true then 8 else 28 := rfl
theorem nxs8 (c : Nat) : nextS 8 c = if isDig c = true then 9 else 28 := rfl
theorem nxs9 (c : Nat) : nextS 9 c = if isDig c = true then 9 else 28 := rfl
theorem nxs13 (c : Nat) : nextS 13 c = if isDig c = true then 15 else if sgn c = true then 14 else 28 := rfl
theorem nxs14 (c : Nat) : nextS 14 c = if isDig c = true then 15 else 28 := rfl
theorem nxs15 (c : Nat) : nextS 15 c = if isDig c = true then 15 else 28 := rfl

theorem dec_stop {l : List Nat} {a k st0 : Nat} {ok : Bool} {D : List Nat} {pw : Int} (hp : Path l a st0) (hb : a < l.length → nextS st0 (l.getD a 0) = beginS (l.getD a 0)) (he0 : endsB st0 = false)
    (hx : ¬ (a + 1 < l.length ∧ l.getD a 0 = 48 ∧ l.getD (a + 1) 0 = 120)) (hi : a < l.length → l.getD a 0 ≠ 105 ∧ l.getD a 0 ≠ 110) (h : DecRes l a k ok D pw) :
    ∃ st, Stop l k ok st ∧ (ok = true → st = 2 ∨ st = 3 ∨ st = 4 ∨ st = 6 ∨ st = 9) := by
  obtain ⟨k2, X, b, pt, hm, _, hc⟩ := h
  -- the states behind the part ahead of the power
  have key : (X = [] ∧ ∃ e, Path l k2 e ∧ endsB e = false ∧ (k2 < l.length → nextS e (l.getD k2 0) = 28)) ∨
      (X ≠ [] ∧ ∃ e, Path l k2 e ∧ endsB e = true ∧ (e = 2 ∨ e = 3 ∨ e = 4 ∨ e = 6) ∧ nextS e 101 = 7 ∧ (k2 < l.length → l.getD k2 0 ≠ 101 → nextS e (l.getD k2 0) = 28)) := by
    rcases hm with ⟨_, hr, h46, hX, _⟩ | ⟨_, k1, hr, hk1, h46, hr2, hX, _⟩
    · rcases Nat.lt_or_ge a k2 with hlt | hge
      · refine .inr ⟨by rw [hX]; exact fun h => by have := (cut_nil hr.ge hr.le).1 h; omega, ?_⟩
        obtain ⟨e, p, he⟩ := first_dig hp hb hr hlt
        rcases he with ⟨rfl, hk, h48⟩ | rfl
        · refine ⟨2, p, rfl, .inl rfl, rfl, fun hl hn => ?_⟩
          show (if l.getD k2 0 = 120 then 10 else if isDig (l.getD k2 0) = true then 3 else if l.getD k2 0 = 46 then 4 else if l.getD k2 0 = 101 then 7 else 28) = 28
          rw [if_neg (fun g => hx ⟨by omega, h48, by rw [← hk]; exact g⟩), hr.fin hl, if_neg (by simp), if_neg (h46 hl), if_neg hn]
        · refine ⟨3, p, rfl, .inr (.inl rfl), rfl, fun hl hn => ?_⟩
          show (if isDig (l.getD k2 0) = true then 3 else if l.getD k2 0 = 46 then 4 else if l.getD k2 0 = 101 then 7 else 28) = 28
          rw [hr.fin hl, if_neg (by simp), if_neg (h46 hl), if_neg hn]
      · have hk : k2 = a := Nat.le_antisymm hge hr.ge
        refine .inl ⟨by rw [hX]; exact (cut_nil hr.ge hr.le).2 hk, st0, by rw [hk]; exact hp, he0, fun hl => ?_⟩
        rw [hk] at hl ⊢
        rw [hb hl]
        have hf := hr.fin (by rw [hk]; exact hl)
        have h46' := h46 (by rw [hk]; exact hl)
        rw [hk] at hf h46'
        unfold beginS
        rw [if_neg (fun g => by rw [g] at hf; exact absurd hf (by decide)), hf, if_neg (by simp), if_neg h46', if_neg (hi hl).1, if_neg (hi hl).2]
    · have six : ∀ c, isDig c = true → nextS 6 c = 6 := fun c hc => by show (if isDig c = true then 6 else _) = 6; rw [if_pos hc]
      rcases Nat.lt_or_ge a k1 with hlt | hge
      · obtain ⟨e, p, he⟩ := first_dig hp hb hr hlt
        have hne : cut l a k1 ≠ [] := fun h => by have := (cut_nil hr.ge hr.le).1 h; omega
        refine .inr ⟨by rw [hX]; simp [hne], ?_⟩
        have p4 : Path l (k1 + 1) 4 := by
          refine p.step hk1 ?_ (by omega)
          rw [h46]
          rcases he with ⟨rfl, _⟩ | rfl <;> rfl
        rcases Nat.lt_or_ge (k1 + 1) k2 with g | g
        · have p6 : Path l k2 6 := p4.run1 (by omega) isDig (fun c hc => by show (if isDig c = true then 6 else _) = 6; rw [if_pos hc]) six hr2 g
          refine ⟨6, p6, rfl, .inr (.inr (.inr rfl)), rfl, fun hl hn => ?_⟩
          show (if isDig (l.getD k2 0) = true then 6 else if l.getD k2 0 = 101 then 7 else 28) = 28
          rw [hr2.fin hl, if_neg (by simp), if_neg hn]
        · have hk : k2 = k1 + 1 := Nat.le_antisymm g hr2.ge
          refine ⟨4, by rw [hk]; exact p4, rfl, .inr (.inr (.inl rfl)), rfl, fun hl hn => ?_⟩
          show (if isDig (l.getD k2 0) = true then 6 else if l.getD k2 0 = 101 then 7 else 28) = 28
          rw [hr2.fin hl, if_neg (by simp), if_neg hn]
      · have hk1a : k1 = a := Nat.le_antisymm hge hr.ge
        have hc1 : cut l a k1 = [] := (cut_nil hr.ge hr.le).2 hk1a
        have p5 : Path l (k1 + 1) 5 := by
          subst hk1a
          exact hp.step hk1 (by rw [hb hk1, h46]; rfl) (by omega)
        rcases Nat.lt_or_ge (k1 + 1) k2 with g | g
        · have p6 : Path l k2 6 := p5.run1 (by omega) isDig (fun c hc => by show (if isDig c = true then 6 else _) = 6; rw [if_pos hc]) six hr2 g
          have hne : cut l (k1 + 1) k2 ≠ [] := fun h => by have := (cut_nil hr2.ge hr2.le).1 h; omega
          refine .inr ⟨by rw [hX]; simp [hne], 6, p6, rfl, .inr (.inr (.inr rfl)), rfl, fun hl hn => ?_⟩
          show (if isDig (l.getD k2 0) = true then 6 else if l.getD k2 0 = 101 then 7 else 28) = 28
          rw [hr2.fin hl, if_neg (by simp), if_neg hn]
        · have hk : k2 = k1 + 1 := Nat.le_antisymm g hr2.ge
          refine .inl ⟨by rw [hX, hc1, (cut_nil hr2.ge hr2.le).2 hk]; rfl, 5, by rw [hk]; exact p5, rfl, fun hl => ?_⟩
          show (if isDig (l.getD k2 0) = true then 6 else 28) = 28
          rw [hr2.fin hl, if_neg (by simp)]
  rcases key with ⟨hX, e, p, h1, h2⟩ | ⟨hX, e, p, h1, h2, h3, h4⟩
  · rcases hc with ⟨_, g2, g3⟩ | ⟨g1, _⟩ | ⟨g1, _⟩
    · exact ⟨e, ⟨by rw [g3]; exact p, by rw [g3]; exact h2, by rw [g2, h1]⟩, fun h => by rw [g2] at h; cases h⟩
    · exact absurd hX g1
    · exact absurd hX g1
  · rcases hc with ⟨g1, _⟩ | ⟨_, g2, g3, _, g4⟩ | ⟨_, g2, g3, x, hpw, _⟩
    · exact absurd g1 hX
    · refine ⟨e, ⟨by rw [g3]; exact p, by rw [g3]; exact fun hl => h4 hl (g4 hl), by rw [g2, h1]⟩, fun _ => ?_⟩
      rcases h2 with h2 | h2 | h2 | h2
      · exact .inl h2
      · exact .inr (.inl h2)
      · exact .inr (.inr (.inl h2))
      · exact .inr (.inr (.inr (.inl h2)))
    · have p7 : Path l (k2 + 1) 7 := p.step g2 (by rw [g3]; exact h3) (by omega)
      obtain ⟨st, s1, s2⟩ := powr_stop 7 8 9 p7 nxs7 nxs8 nxs9 (by omega) (by omega) rfl rfl rfl hpw
      exact ⟨st, s1, fun h => .inr (.inr (.inr (.inr (s2 h))))⟩

theorem hex_stop {l : List Nat} {a k : Nat} {ok : Bool} {D : List Nat} {pw : Int} (hp : Path l a 10) (h : HexRes l a k ok D pw) : ∃ st, Stop l k ok st ∧ (ok = true → st = 15) := by
  have n10 : ∀ c, nextS 10 c = if isHexc c = true then 11 else 28 := fun _ => rfl
  have n11 : ∀ c, nextS 11 c = if isHexc c = true then 11 else if c = 46 then 12 else if c = 112 then 13 else 28 := fun _ => rfl
  have n12 : ∀ c, nextS 12 c = if isHexc c = true then 12 else if c = 112 then 13 else 28 := fun _ => rfl
  rcases h with ⟨hr, hok, hk⟩ | ⟨k2, X, b, pt, hm, ⟨hal, hah⟩, _, hc⟩
  · subst hk
    exact ⟨10, ⟨hp, fun hl => by rw [n10, hr.fin hl]; rfl, hok⟩, fun h => by rw [hok] at h; cases h⟩
  · have key : ∃ e, Path l k2 e ∧ endsB e = false ∧ nextS e 112 = 13 ∧ (k2 < l.length → l.getD k2 0 ≠ 112 → nextS e (l.getD k2 0) = 28) := by
      have first : ∀ k1, LRun isHexc l a k1 → a < k1 := fun k1 hr => by
        rcases Nat.lt_or_ge a k1 with g | g
        · exact g
        · have hk : k1 = a := Nat.le_antisymm g hr.ge
          have := hr.fin (by omega)
          rw [hk, hah] at this; cases this
      have r11 : ∀ k1, LRun isHexc l a k1 → Path l k1 11 := fun k1 hr => hp.run1 (by omega) isHexc (fun c hc => by rw [n10, if_pos hc]) (fun c hc => by rw [n11, if_pos hc]) hr (first k1 hr)
      rcases hm with ⟨_, hr, h46, _, _⟩ | ⟨_, k1, hr, hk1, h46, hr2, _, _⟩
      · exact ⟨11, r11 k2 hr, rfl, rfl, fun hl hn => by rw [n11, hr.fin hl, if_neg (by simp), if_neg (h46 hl), if_neg hn]⟩
      · have p12 : Path l (k1 + 1) 12 := (r11 k1 hr).step hk1 (by rw [h46]; rfl) (by omega)
        exact ⟨12, p12.run (by omega) isHexc (fun c hc => by rw [n12, if_pos hc]) k2 hr2.ge hr2.le hr2.all, rfl, rfl, fun hl hn => by rw [n12, hr2.fin hl, if_neg (by simp), if_neg hn]⟩
    obtain ⟨e, p, h1, h2, h3⟩ := key
    rcases hc with ⟨g1, g2, g3⟩ | ⟨g1, g2, x, hpw, _⟩
    · exact ⟨e, ⟨by rw [g2]; exact p, by rw [g2]; exact fun hl => h3 hl (g3 hl), by rw [g1, h1]⟩, fun h => by rw [g1] at h; cases h⟩
    · have p13 : Path l (k2 + 1) 13 := p.step g1 (by rw [g2]; exact h2) (by omega)
      exact powr_stop 13 14 15 p13 nxs13 nxs14 nxs15 (by omega) (by omega) rfl rfl rfl hpw

/-- What was read, as the document's reader says it. -/
theorem read_of {l : List Nat} {k st : Nat} {ok : Bool} (h : Stop l k ok st) : ∃ st', ReadSpec l st' k (ok && decide (k = l.length)) ∧ (ok = true → k = l.length → st' = st) := by
  have hle := h.path.le
  rcases Nat.lt_or_ge k l.length with g | g
  · refine ⟨28, .inl ⟨k, g, h.path.ok, ?_, rfl, rfl, ?_⟩, fun _ hk => by omega⟩
    · rw [stAt_succ l k g, h.path.st]; exact h.fin g
    · rw [show decide (k = l.length) = false from by simp; omega]; simp
  · have hk : k = l.length := Nat.le_antisymm hle g
    refine ⟨st, .inr ⟨fun j hj => h.path.ok j (by omega), ?_, hk, ?_⟩, fun _ _ => rfl⟩
    · rw [← hk]; exact h.path.st.symm
    · rw [h.ok, hk]; simp
end Go.Proofs.Ytbkdaoicnobllaa

/- Plain mathematics: the numbers that a text's parts say. -/
namespace Go.Proofs.Ytbkdaoicnobllaa

theorem mem_cut_of {l : List Nat} {a k c : Nat} (h : c ∈ cut l a k) : ∃ j, a ≤ j ∧ j < k ∧ j < l.length ∧ l.getD j 0 = c := by
  unfold cut at h
  rw [List.mem_iff_getElem?] at h
  obtain ⟨i, hi⟩ := h
  rw [List.getElem?_drop] at hi
  have h1 : a + i < (l.take k).length := by
    rcases Nat.lt_or_ge (a + i) (l.take k).length with g | g
    · exact g
    · rw [List.getElem?_eq_none g] at hi; cases hi
  rw [List.length_take] at h1
  rw [List.getElem?_take_of_lt (by omega)] at hi
  exact ⟨a + i, by omega, by omega, by omega, by rw [List.getD_eq_getElem?_getD, hi]; rfl⟩
theorem cut_len {l : List Nat} {a k : Nat} (h : k ≤ l.length) : (cut l a k).length = k - a := by
  unfold cut; rw [List.length_drop, List.length_take, Nat.min_eq_left h]
theorem cut_join {l : List Nat} {a k1 k2 : Nat} (h1 : a ≤ k1) (h2 : k1 < k2) (h3 : k2 ≤ l.length) : cut l a k2 = cut l a k1 ++ l.getD k1 0 :: cut l (k1 + 1) k2 := by
  unfold cut
  have e : l.take k2 = l.take k1 ++ (l.take k2).drop k1 := by
    conv => lhs; rw [← List.take_append_drop k1 (l.take k2)]
    rw [List.take_take, Nat.min_eq_left (by omega)]
  have e2 : (l.take k2).drop k1 = l.getD k1 0 :: (l.take k2).drop (k1 + 1) := by
    rw [List.drop_eq_getElem_cons (by rw [List.length_take]; omega)]
    congr 1
    rw [List.getElem_take, List.getD_eq_getElem?_getD, List.getElem?_eq_getElem (by omega)]; rfl
  conv => lhs; rw [e]
  rw [List.drop_append_of_le_length (by rw [List.length_take]; omega), e2]
structure MantF (q : Nat → Bool) (l : List Nat) (a k2 : Nat) (X : List Nat) (b : Nat) : Prop where
  all : ∀ c, c ∈ X → q c = true
  len : X.length ≤ l.length
  b : b ≤ l.length
  ge : a ≤ k2
  le : k2 ≤ l.length
  mem : ∀ c, c ∈ cut l a k2 → c = 46 ∨ q c = true
theorem mant_facts {q : Nat → Bool} {l : List Nat} {a k2 : Nat} {X : List Nat} {b : Nat} {pt : Bool} (h : Mant q l a k2 X b pt) : MantF q l a k2 X b := by
  rcases h with ⟨_, hr, _, rfl, rfl⟩ | ⟨_, k1, hr, hk1, h46, hr2, rfl, rfl⟩
  · exact ⟨hr.all, by rw [cut_len hr.le]; have := hr.le; omega, Nat.zero_le _, hr.ge, hr.le, fun c hc => .inr (hr.all c hc)⟩
  · have g1 := hr.ge
    have g2 := hr2.ge
    have g3 := hr2.le
    refine ⟨fun c hc => ?_, by rw [List.length_append, cut_len hr.le, cut_len hr2.le]; omega, by omega, by omega, g3, fun c hc => ?_⟩
    · rcases List.mem_append.1 hc with hc | hc
      · exact hr.all c hc
      · exact hr2.all c hc
    · rw [cut_join g1 (by omega) g3] at hc
      rcases List.mem_append.1 hc with hc | hc
      · exact .inr (hr.all c hc)
      · rcases List.mem_cons.1 hc with hc | hc
        · exact .inl (by rw [hc]; exact h46)
        · exact .inr (hr2.all c hc)
theorem drop_getD (l : List Nat) (a j : Nat) : (l.drop a).getD j 0 = l.getD (a + j) 0 := by
  rw [List.getD_eq_getElem?_getD, List.getElem?_drop, ← List.getD_eq_getElem?_getD]
theorem mant_ahead {q : Nat → Bool} {l : List Nat} {a k2 : Nat} {X : List Nat} {b : Nat} {pt : Bool} (h : Mant q l a k2 X b pt) (letter : Nat) (hq : ∀ c, q c = true → c ≠ letter) (h46 : letter ≠ 46) (he : k2 < l.length → l.getD k2 0 = letter) : ahead (l.drop a) letter = cut l a k2 := by
  have f := mant_facts h
  have g1 := f.ge
  have g2 := f.le
  rw [ahead_take (l.drop a) letter (k2 - a) (by rw [List.length_drop]; omega) (fun j hj => ?_) (fun hj => ?_)]
  · unfold cut; rw [List.drop_take]
  · rw [drop_getD]
    rcases f.mem _ (mem_cut (j := a + j) (by omega) (by omega) g2) with e | e
    · rw [e]; exact fun h => h46 h.symm
    · exact hq _ e
  · rw [List.length_drop] at hj
    rw [drop_getD, show a + (k2 - a) = k2 from by omega]; exact he (by omega)
def vals (X : List Nat) : List Nat := X.map (fun c => c - 48)
theorem dec_fold (X : List Nat) (h : ∀ c, c ∈ X → isDig c = true) (D : List Nat) (b : Nat) (sn : Bool) : X.foldl decStep (D, b, sn) = (D ++ vals X, (if sn = true then b + X.length else b), sn) := by
  induction X generalizing D b with
  | nil => simp [vals]
  | cons c r ih =>
    have hc := dig_ne (h c List.mem_cons_self)
    have e : decStep (D, b, sn) c = (D ++ [c - 48], (if sn = true then b + 1 else b), sn) := by unfold decStep; rw [if_neg hc.1]
    rw [List.foldl_cons, e, ih (fun x hx => h x (List.mem_cons_of_mem _ hx))]
    cases sn
    · simp [vals]
    · simp [vals]; omega
theorem hex_fold (X : List Nat) (h : ∀ c, c ∈ X → isHexc c = true) (D : List Nat) (b : Nat) (sn : Bool) : X.foldl hexStep (D, b, sn) = (pushes 16 D X, (if sn = true then b + X.length else b), sn) := by
  induction X generalizing D b with
  | nil => simp [pushes]
  | cons c r ih =>
    have hc := hexc_ne (h c List.mem_cons_self)
    have hv := (digV_isHexc c).2.2 (h c List.mem_cons_self)
    have ep : push 16 D c = if 0 < D.length ∨ 0 < hexv c then D ++ [hexv c] else D := by
      unfold push; rw [hv]
      by_cases g : 0 < D.length ∨ 0 < hexv c
      · rw [if_pos g, if_pos (by omega)]; simp
      · rw [if_neg g, if_neg (by omega)]
    have e : hexStep (D, b, sn) c = (push 16 D c, (if sn = true then b + 1 else b), sn) := by unfold hexStep; rw [if_neg hc.1, ep]
    rw [List.foldl_cons, e, ih (fun x hx => h x (List.mem_cons_of_mem _ hx))]
    show (pushes 16 (push 16 D c) r, _, _) = (pushes 16 D (c :: r), _, _)
    cases sn
    · simp [pushes]
    · simp [pushes]; omega
theorem mant_dec {l : List Nat} {a k2 : Nat} {X : List Nat} {b : Nat} {pt : Bool} (h : Mant isDig l a k2 X b pt) : decScan (cut l a k2) = (vals X, b, pt) := by
  rcases h with ⟨rfl, hr, _, rfl, rfl⟩ | ⟨rfl, k1, hr, hk1, h46, hr2, rfl, rfl⟩
  · unfold decScan; rw [dec_fold _ hr.all]; simp
  · have g1 := hr.ge
    have g2 := hr2.ge
    unfold decScan
    rw [cut_join g1 (by omega) hr2.le, List.foldl_append, dec_fold _ hr.all, List.foldl_cons, h46]
    have e : decStep ([] ++ vals (cut l a k1), (if false = true then 0 + (cut l a k1).length else 0), false) 46 = (vals (cut l a k1), 0, true) := by unfold decStep; simp
    rw [e, dec_fold _ hr2.all, cut_len hr2.le]
    simp [vals]
theorem mant_hex {l : List Nat} {a k2 : Nat} {X : List Nat} {b : Nat} {pt : Bool} (h : Mant isHexc l a k2 X b pt) : hexScan (cut l a k2) = (pushes 16 [] X, b, pt) := by
  rcases h with ⟨rfl, hr, _, rfl, rfl⟩ | ⟨rfl, k1, hr, hk1, h46, hr2, rfl, rfl⟩
  · unfold hexScan; rw [hex_fold _ hr.all]; simp
  · have g1 := hr.ge
    have g2 := hr2.ge
    unfold hexScan
    rw [cut_join g1 (by omega) hr2.le, List.foldl_append, hex_fold _ hr.all, List.foldl_cons, h46]
    have e : hexStep (pushes 16 [] (cut l a k1), (if false = true then 0 + (cut l a k1).length else 0), false) 46 = (pushes 16 [] (cut l a k1), 0, true) := by unfold hexStep; simp
    rw [e, hex_fold _ hr2.all, cut_len hr2.le, pushes_append]
    simp
/-- The digits that are kept: none that is too great, the first not 0. -/
theorem pushes_ok (base M : Nat) (X : List Nat) : ∀ D : List Nat, (∀ c, c ∈ X → 0 ≤ digV c base ∧ digV c base < M) → (∀ d, d ∈ D → d < M) → (D = [] ∨ D.getD 0 0 ≠ 0) → (∀ d, d ∈ pushes base D X → d < M) ∧ (pushes base D X = [] ∨ (pushes base D X).getD 0 0 ≠ 0) := by
  induction X with
  | nil => intro D _ h1 h2; exact ⟨h1, h2⟩
  | cons c r ih =>
    intro D hx h1 h2
    have hc := hx c List.mem_cons_self
    refine ih (push base D c) (fun x hm => hx x (List.mem_cons_of_mem _ hm)) (fun d hd => ?_) ?_
    · unfold push at hd; split at hd
      · rcases List.mem_append.1 hd with hd | hd
        · exact h1 d hd
        · rw [List.mem_singleton.1 hd]; omega
      · exact h1 d hd
    · unfold push; split
      · rename_i hp
        rcases h2 with rfl | h2
        · refine .inr ?_; simp at hp ⊢; omega
        · refine .inr ?_
          cases D with
          | nil => simp at h2
          | cons x y => simpa using h2
      · exact h2
theorem pushes_num (X : List Nat) : ∀ D : List Nat, (∀ c, c ∈ X → isDig c = true) → num (pushes 10 D X) = num (D ++ vals X) := by
  induction X with
  | nil => intro D _; simp [pushes, vals]
  | cons c r ih =>
    intro D hx
    have hc := (digV_isDig c).2.2 (hx c List.mem_cons_self)
    show num (pushes 10 (push 10 D c) r) = _
    rw [ih (push 10 D c) (fun x hm => hx x (List.mem_cons_of_mem _ hm))]
    unfold push
    rw [hc]
    split
    · simp [vals]
    · rename_i hp
      have hD : D = [] := List.length_eq_zero_iff.1 (by omega)
      have h0 : c - 48 = 0 := by omega
      rw [hD]
      simp only [List.nil_append, vals, List.map_cons, h0]
      rw [num_zero_cons]
/-- Powers: both readers hold great ones, each in its way. -/
theorem cap_like (X : List Nat) (h : ∀ c, c ∈ X → isDig c = true) : (capPow X = expNum X ∧ expNum X < 20000) ∨ (20000 ≤ capPow X ∧ 20000 ≤ expNum X) := by
  have : ∀ n, ∀ X : List Nat, X.length = n → (∀ c, c ∈ X → isDig c = true) → (capPow X = expNum X ∧ expNum X < 20000) ∨ (20000 ≤ capPow X ∧ 20000 ≤ expNum X) := by
    intro n; induction n with
    | zero => intro X h _; rw [List.length_eq_zero_iff.1 h]; exact .inl ⟨rfl, by decide⟩
    | succ n ih =>
      intro X h hd
      have hne : X ≠ [] := by intro e; rw [e] at h; simp at h
      have h9 : isDig (X.getLast hne) = true := hd _ (List.getLast_mem hne)
      have hi := ih X.dropLast (by simp [h]) (fun c hc => hd c (List.dropLast_subset X hc))
      rw [← List.dropLast_concat_getLast hne, capPow_snoc, expNum_snoc]
      generalize X.getLast hne = c at *
      generalize X.dropLast = Y at *
      unfold expStep
      rcases hi with ⟨e1, e2⟩ | ⟨e1, e2⟩
      · rw [if_pos (show capPow Y < 1000000 by omega), if_pos (show isDig c = true ∧ expNum Y < 20000 from ⟨h9, e2⟩), e1]
        rcases Nat.lt_or_ge (10 * expNum Y + (c - 48)) 20000 with g | g
        · exact .inl ⟨by omega, g⟩
        · exact .inr ⟨by omega, g⟩
      · rw [if_neg (show ¬ (isDig c = true ∧ expNum Y < 20000) from fun h => by omega)]
        refine .inr ⟨?_, e2⟩
        split <;> omega
  exact this _ X rfl h
theorem powr_like {l : List Nat} {a k : Nat} {x : Int} (h : Powr l a k true x) (hk : k = l.length) : PowLike x (expVal (l.drop a)) := by
  obtain ⟨a1, ng, hs, hr, _, rfl⟩ := h
  have hle := hr.le
  have hge := hr.ge
  have ec : cut l a1 k = l.drop a1 := cut_all l a1 k (by omega)
  have hn45 : ∀ c, c ∈ cut l a1 k → c ≠ 45 := fun c hc => (dig_ne (hr.all c hc)).2.2.2.2.2.1
  have hcap := cap_like (cut l a1 k) hr.all
  have key : expNum (l.drop a) = expNum (cut l a1 k) ∧ (hasMinus (l.drop a) = ng) := by
    rcases hs with ⟨g1, g2, g3, g4⟩ | ⟨g1, g2, g3⟩
    · have e : l.drop a = l.getD a 0 :: l.drop a1 := by
        rw [g3, List.drop_eq_getElem_cons g1]; congr 1
        rw [List.getD_eq_getElem?_getD, List.getElem?_eq_getElem g1]; rfl
      refine ⟨?_, ?_⟩
      · rw [e, ec]
        unfold expNum
        rw [List.foldl_cons]
        congr 1
        unfold expStep
        rw [sgn_notDig g2]; simp
      · rw [e, g4, ← ec]
        unfold hasMinus
        rw [Bool.eq_iff_iff]
        simp only [decide_eq_true_eq, List.mem_cons, beq_iff_eq]
        constructor
        · rintro (h | h)
          · exact h.symm
          · exact absurd rfl (hn45 45 h)
        · intro h; exact .inl h.symm
    · rw [← g2, ← ec]
      refine ⟨rfl, ?_⟩
      rw [g3]
      unfold hasMinus
      simp only [decide_eq_false_iff_not]
      exact fun h => absurd rfl (hn45 45 h)
  rw [expVal_eq, key.1, key.2]
  unfold sgnI PowLike
  cases ng
  · simp only [Bool.false_eq_true, if_false]; omega
  · simp only [if_true]; omega
theorem expOf_mant {q : Nat → Bool} {l : List Nat} {a k2 : Nat} {X : List Nat} {b : Nat} {pt : Bool} (h : Mant q l a k2 X b pt) (a0 : Nat) (ha0 : a0 ≤ a) (letter : Nat) (hpre : ∀ j, a0 ≤ j → j < a → l.getD j 0 ≠ letter) (hq : ∀ c, q c = true → c ≠ letter) (h46 : letter ≠ 46) :
    (k2 = l.length → expOf (l.drop a0) letter = 0) ∧ (k2 < l.length → l.getD k2 0 = letter → expOf (l.drop a0) letter = expVal (l.drop (k2 + 1))) := by
  have f := mant_facts h
  have g1 := f.ge
  have g2 := f.le
  have hne : ∀ j, a0 + j < k2 → (l.drop a0).getD j 0 ≠ letter := fun j hj => by
    rw [drop_getD]
    rcases Nat.lt_or_ge (a0 + j) a with g | g
    · exact hpre _ (by omega) g
    · rcases f.mem _ (mem_cut (j := a0 + j) g hj g2) with e | e
      · rw [e]; exact fun h => h46 h.symm
      · exact hq _ e
  refine ⟨fun hk => expOf_none _ _ (fun j hj => hne j (by rw [List.length_drop] at hj; omega)), fun hk he => ?_⟩
  rw [expOf_at (l.drop a0) letter (k2 - a0) (by rw [List.length_drop]; omega) (fun j hj => hne j (by omega)) (by rw [drop_getD, show a0 + (k2 - a0) = k2 from by omega]; exact he), List.drop_drop]
  congr 2; omega

/-- A decimal that ends well: what was read, against the document's reader. -/
theorem dec_nums {l : List Nat} {a k : Nat} {D : List Nat} {pw : Int} (h : DecRes l a k true D pw) (hk : k = l.length) :
    num (decScan (ahead (l.drop a) 101)).1 = num D ∧ (decScan (ahead (l.drop a) 101)).2.1 ≤ l.length ∧ ∃ x, pw = x - ((decScan (ahead (l.drop a) 101)).2.1 : Nat) ∧ PowLike x (expOf (l.drop a) 101) := by
  obtain ⟨k2, X, b, pt, hm, rfl, hc⟩ := h
  have f := mant_facts hm
  have hq : ∀ c, isDig c = true → c ≠ 101 := fun c hc => (dig_ne hc).2.1
  have hE := expOf_mant hm a (Nat.le_refl _) 101 (fun j h1 h2 => by omega) hq (by decide)
  have hnum : num (vals X) = num (pushes 10 [] X) := by rw [pushes_num X [] f.all]; rfl
  rcases hc with ⟨_, h0, _⟩ | ⟨_, _, hk2, hp, _⟩ | ⟨_, hk2, h101, x, hpw, hp⟩
  · cases h0
  · have ha := mant_ahead hm 101 hq (by decide) (fun g => by omega)
    rw [ha, mant_dec hm]
    exact ⟨hnum, f.b, 0, by rw [hp]; simp, by rw [hE.1 (by omega)]; exact .inl ⟨rfl, by decide, by decide⟩⟩
  · have ha := mant_ahead hm 101 hq (by decide) (fun _ => h101)
    rw [ha, mant_dec hm]
    exact ⟨hnum, f.b, x, by rw [hp]; show -(b : Int) + x = x - (b : Int); omega, by rw [hE.2 hk2 h101]; exact powr_like hpw hk⟩
theorem hex_nums {l : List Nat} {a0 k : Nat} {D : List Nat} {pw : Int} (h : HexRes l (a0 + 2) k true D pw) (hk : k = l.length) (h0 : l.getD a0 0 = 48) (h1 : l.getD (a0 + 1) 0 = 120) :
    (hexScan (ahead (l.drop (a0 + 2)) 112)).1 = D ∧ (hexScan (ahead (l.drop (a0 + 2)) 112)).2.1 ≤ l.length ∧ ∃ x, pw = x - 4 * ((hexScan (ahead (l.drop (a0 + 2)) 112)).2.1 : Nat) ∧ PowLike x (expOf (l.drop a0) 112) := by
  rcases h with ⟨_, h0, _⟩ | ⟨k2, X, b, pt, hm, _, rfl, hc⟩
  · cases h0
  · have hq : ∀ c, isHexc c = true → c ≠ 112 := fun c hc => (hexc_ne hc).2.1
    have hE := expOf_mant hm a0 (by omega) 112 (fun j g1 g2 => by
      rcases (by omega : j = a0 ∨ j = a0 + 1) with rfl | rfl
      · rw [h0]; decide
      · rw [h1]; decide) hq (by decide)
    rcases hc with ⟨g0, _⟩ | ⟨hk2, h112, x, hpw, hp⟩
    · cases g0
    · have ha := mant_ahead hm 112 hq (by decide) (fun _ => h112)
      rw [ha, mant_hex hm]
      exact ⟨rfl, (mant_facts hm).b, x, by rw [hp]; show -4 * (b : Int) + x = x - 4 * (b : Int); omega, by rw [hE.2 hk2 h112]; exact powr_like hpw hk⟩
/-- What the program needs to know of the digits and the power. -/
structure NumsOk (D : List Nat) (M n : Nat) (pw : Int) : Prop where
  lt : ∀ d, d ∈ D → d < M
  lead : D = [] ∨ D.getD 0 0 ≠ 0
  len : D.length ≤ n
  p1 : -100000000 ≤ pw
  p2 : pw ≤ 100000000
theorem powr_bd {l : List Nat} {a k : Nat} {ok : Bool} {x : Int} (h : Powr l a k ok x) : -20000000 ≤ x ∧ x ≤ 20000000 := by
  obtain ⟨a1, ng, _, hr, _, rfl⟩ := h
  have hc : capPow (cut l a1 k) ≤ 20000000 := by
    have : ∀ n, ∀ X : List Nat, X.length = n → (∀ c, c ∈ X → isDig c = true) → capPow X ≤ 20000000 := by
      intro n; induction n with
      | zero => intro X h _; rw [List.length_eq_zero_iff.1 h]; exact Nat.zero_le _
      | succ n ih =>
        intro X h hd
        have hne : X ≠ [] := by intro e; rw [e] at h; simp at h
        have h9 : isDig (X.getLast hne) = true := hd _ (List.getLast_mem hne)
        have hi := ih X.dropLast (by simp [h]) (fun c hc => hd c (List.dropLast_subset X hc))
        rw [← List.dropLast_concat_getLast hne, capPow_snoc]
        unfold isDig at h9
        simp at h9
        split <;> omega
    exact this _ _ rfl hr.all
  unfold sgnI
  cases ng
  · simp only [Bool.false_eq_true, if_false]; omega
  · simp only [if_true]; omega
theorem dec_ok' {l : List Nat} {a k : Nat} {D : List Nat} {pw : Int} (h : DecRes l a k true D pw) (hl : l.length ≤ 900) : NumsOk D 10 l.length pw := by
  obtain ⟨k2, X, b, pt, hm, rfl, hc⟩ := h
  have f := mant_facts hm
  have hd : ∀ c, c ∈ X → 0 ≤ digV c 10 ∧ digV c 10 < (10 : Nat) := fun c hc => by
    have h1 := f.all c hc
    have h2 := (digV_isDig c).2.2 h1
    unfold isDig at h1; simp at h1
    omega
  obtain ⟨p1, p2⟩ := pushes_ok 10 10 X [] hd (fun d hd => by cases hd) (.inl rfl)
  have hlen := pushes_len 10 [] X
  have hX := f.len
  have hb := f.b
  simp at hlen
  have hpw : -100000000 ≤ pw ∧ pw ≤ 100000000 := by
    rcases hc with ⟨_, h0, _⟩ | ⟨_, _, _, hp, _⟩ | ⟨_, _, _, x, hpw, hp⟩
    · cases h0
    · omega
    · have := powr_bd hpw; omega
  exact ⟨p1, p2, by omega, hpw.1, hpw.2⟩
theorem hex_ok' {l : List Nat} {a k : Nat} {D : List Nat} {pw : Int} (h : HexRes l a k true D pw) (hl : l.length ≤ 900) : NumsOk D 16 l.length pw := by
  rcases h with ⟨_, h0, _⟩ | ⟨k2, X, b, pt, hm, _, rfl, hc⟩
  · cases h0
  · have f := mant_facts hm
    have hd : ∀ c, c ∈ X → 0 ≤ digV c 16 ∧ digV c 16 < (16 : Nat) := fun c hc => by
      have h1 := f.all c hc
      have h2 := (digV_isHexc c).2.2 h1
      have h3 : hexv c ≤ 15 := by unfold isHexc isDig at h1; unfold hexv; simp at h1; split <;> omega
      omega
    obtain ⟨p1, p2⟩ := pushes_ok 16 16 X [] hd (fun d hd => by cases hd) (.inl rfl)
    have hlen := pushes_len 16 [] X
    have hX := f.len
    have hb := f.b
    simp at hlen
    have hpw : -100000000 ≤ pw ∧ pw ≤ 100000000 := by
      rcases hc with ⟨g0, _⟩ | ⟨_, _, x, hpw, hp⟩
      · cases g0
      · have := powr_bd hpw; omega
    exact ⟨p1, p2, by omega, hpw.1, hpw.2⟩
end Go.Proofs.Ytbkdaoicnobllaa
