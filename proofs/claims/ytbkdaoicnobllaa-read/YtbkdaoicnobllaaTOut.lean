import Derived.Test.YtbkdaoicnobllaaTPar

/- What the program's Parse tells, by the text alone: the state where it ends and the number, for all modes and formats. -/
namespace Go.Proofs.Ytbkdaoicnobllaa

def dropZ (L : List Nat) : List Nat := L.dropWhile (fun d => d == 0)
theorem dropZ_head (L : List Nat) : dropZ L = [] ∨ (dropZ L).getD 0 0 ≠ 0 := by
  induction L with
  | nil => exact .inl rfl
  | cons d r ih =>
    unfold dropZ at *
    by_cases h : d = 0
    · rw [List.dropWhile_cons_of_pos (by simpa using h)]; exact ih
    · rw [List.dropWhile_cons_of_neg (by simpa using h)]; exact .inr (by simpa using h)
theorem dropZ_split (L : List Nat) : ∃ z, L = List.replicate z 0 ++ dropZ L := by
  induction L with
  | nil => exact ⟨0, rfl⟩
  | cons d r ih =>
    unfold dropZ at *
    by_cases h : d = 0
    · obtain ⟨z, hz⟩ := ih
      rw [List.dropWhile_cons_of_pos (by simpa using h)]
      exact ⟨z + 1, by rw [List.replicate_succ, List.cons_append, ← hz, h]⟩
    · rw [List.dropWhile_cons_of_neg (by simpa using h)]; exact ⟨0, rfl⟩
theorem num_zeros (z : Nat) : num (List.replicate z 0) = 0 := num_all_zero _ (fun j hj => by
  rw [List.length_replicate] at hj
  rw [List.getD_eq_getElem?_getD, List.getElem?_replicate, if_pos hj]; rfl)
/-- Without noughts at either end; the power of the last digit that stays. -/
def normL (L : List Nat) : List Nat := (dropZ (dropZ L).reverse).reverse
def normE (L : List Nat) (er : Int) : Int := if normL L = [] then 0 else er + ((dropZ L).length - (normL L).length : Nat)
theorem normL_split (L : List Nat) : ∃ z, dropZ L = normL L ++ List.replicate z 0 := by
  obtain ⟨z, hz⟩ := dropZ_split (dropZ L).reverse
  refine ⟨z, ?_⟩
  have := congrArg List.reverse hz
  rw [List.reverse_reverse, List.reverse_append, List.reverse_replicate] at this
  exact this
theorem normL_norm {L : List Nat} (h : Digs L) : Norm (normL L) := by
  have hd : Digs (dropZ L) := fun x hx => h x (List.dropWhile_subset _ hx)
  obtain ⟨z, hz⟩ := normL_split L
  refine ⟨fun x hx => hd x (by rw [hz]; exact List.mem_append_left _ hx), fun hl => ?_, fun hl => ?_⟩
  · have h1 : (dropZ L).getD 0 0 ≠ 0 := by
      rcases dropZ_head L with e | e
      · rw [e] at hz
        have := congrArg List.length hz
        simp at this; omega
      · exact e
    rw [hz, List.getD_eq_getElem?_getD, List.getElem?_append_left hl, List.getElem?_eq_getElem hl] at h1
    exact h1
  · have h1 : (dropZ (dropZ L).reverse).getD 0 0 ≠ 0 := by
      rcases dropZ_head (dropZ L).reverse with e | e
      · unfold normL at hl; rw [e] at hl; simp at hl
      · exact e
    have hl2 : 0 < (dropZ (dropZ L).reverse).length := by unfold normL at hl; simpa using hl
    rw [List.getD_eq_getElem?_getD, List.getElem?_eq_getElem hl2] at h1
    unfold normL
    rw [List.getElem_reverse]
    simp only [List.length_reverse]
    have e : (dropZ (dropZ L).reverse).length - 1 - ((dropZ (dropZ L).reverse).length - 1) = 0 := by omega
    simp only [e]
    exact h1
theorem norm_val (L : List Nat) (er : Int) (K : Nat) (hK : -(K : Int) ≤ er) : val K (normL L) (normE L er) = val K L er := by
  obtain ⟨z1, h1⟩ := dropZ_split L
  obtain ⟨z2, h2⟩ := normL_split L
  have e1 : num L = num (dropZ L) := by conv => lhs; rw [h1]
                                        rw [num_append, num_zeros]; simp
  have e2 : num (dropZ L) = num (normL L) * 10 ^ z2 := by
    conv => lhs; rw [h2]
    rw [num_append, num_zeros, List.length_replicate]; simp
  have hl : (dropZ L).length = (normL L).length + z2 := by
    have := congrArg List.length h2
    simpa using this
  unfold val normE
  rw [e1, e2]
  by_cases hn : normL L = []
  · rw [if_pos hn, hn, num_nil]; simp
  · rw [if_neg hn, Nat.mul_assoc, ← Nat.pow_add, hl]
    congr 2; omega
theorem normE_ge (L : List Nat) (er : Int) (h : normL L ≠ []) : er ≤ normE L er := by unfold normE; rw [if_neg h]; omega

/-- The number, times 10^K, that a text without its sign says if it ends in the state. -/
def numX (K : Nat) (B : List Nat) (st : Nat) : Nat :=
  if st = 15 then sixV K (hexScan (ahead (B.drop 2) 112)).1 (expOf B 112 - 4 * (hexScan (ahead (B.drop 2) 112)).2.1)
  else heldV K (normL (decScan (ahead B 101)).1) (normE (decScan (ahead B 101)).1 (expOf B 101 - (decScan (ahead B 101)).2.1))
/-- Pattern and flags of a text that ends well. -/
def Outcome (K : Nat) (l : List Nat) (st : Nat) (f mode bts fl : Int) : Prop :=
  (st = 27 ∧ bts = nanP f ∧ fl = 0) ∨ ((st = 18 ∨ st = 23) ∧ bts = signedV f (decide (l.getD 0 0 = 45)) (infN f) ∧ fl = 0) ∨
  ((st = 15 ∨ st = 2 ∨ st = 3 ∨ st = 4 ∨ st = 6 ∨ st = 9) ∧ ∃ r, RoundSpec K f mode (decide (l.getD 0 0 = 45)) (numX K (body l) st) r fl ∧ bts = signedV f (decide (l.getD 0 0 = 45)) r)
theorem outcome_num {K : Nat} (hK : 30000 ≤ K) {s : ByteArray} {f mode bts fl kd pw : Int} {D : List Nat} {st : Nat} (hf : 0 ≤ f ∧ f ≤ 2) (hl : s.size ≤ 900) (hne : 0 < (chs s).length) (hu : UnsRes s (sgnL s 0) (chs s).length true kd D pw) (hk : KindSt kd st) (hst : st = stAt (chs s) (chs s).length)
    (hp : PatRes f mode (atB s 0 45) kd D pw bts fl) : Outcome K (chs s) st f mode bts fl := by
  have hlen := chs_length s
  have hF := fmt_of hf
  obtain ⟨_, _, _, _, hbody⟩ := sign_path s
  unfold Outcome
  rw [neg_eq s hne, hbody]
  generalize atB s 0 45 = neg at *
  unfold KindSt at hk
  rcases hp with ⟨g, g1, g2⟩ | ⟨g, g1, g2⟩ | ⟨g, g0, g1, g2⟩ | ⟨g, g0, V, U, q, hUV, hVU, hE, g1, g2⟩
  · exact .inl ⟨by omega, g1, g2⟩
  · exact .inr (.inl ⟨by omega, g1, g2⟩)
  · refine .inr (.inr ⟨by omega, 0, ?_, g1⟩)
    rw [g2]
    refine .inl ⟨?_, rfl, rfl⟩
    unfold numX
    by_cases h15 : st = 15
    · rw [if_pos h15]
      have hkd : kd = 1 := by omega
      rcases hu with ⟨_, u, _⟩ | ⟨_, u, _⟩ | ⟨_, _, hB, _, hx⟩ | ⟨_, _, _, u, _⟩
      · omega
      · omega
      · unfold hexB at hB
        simp at hB
        obtain ⟨n1, _⟩ := hex_nums hx rfl (atB_yes hB.1).2 (atB_yes hB.2).2
        rw [List.drop_drop, n1, g0, sixV_nil]
      · omega
    · rw [if_neg h15]
      have hkd : kd = 0 := by omega
      rcases hu with ⟨_, u, _⟩ | ⟨_, u, _⟩ | ⟨_, _, _, u, _⟩ | ⟨_, _, _, _, hx⟩
      · omega
      · omega
      · omega
      · obtain ⟨n1, n2, x, n3, n4⟩ := dec_nums hx rfl
        rw [g0, num_nil] at n1
        have hd : Digs (decScan (ahead ((chs s).drop (sgnL s 0)) 101)).1 := by
          have := dec_ok (chs s) st hst (by omega)
          rw [hbody] at this
          exact decScan_digs _ this
        have hN := normL_norm hd
        have hz : normL (decScan (ahead ((chs s).drop (sgnL s 0)) 101)).1 = [] := by
          rcases Nat.eq_zero_or_pos (normL (decScan (ahead ((chs s).drop (sgnL s 0)) 101)).1).length with h | h
          · exact List.length_eq_zero_iff.1 h
          · exfalso
            have hv := norm_val (decScan (ahead ((chs s).drop (sgnL s 0)) 101)).1 0 0 (by omega)
            have hpos := val_pos hN h 0 (normE (decScan (ahead ((chs s).drop (sgnL s 0)) 101)).1 0)
            rw [hv] at hpos
            unfold val at hpos
            rw [n1] at hpos
            simp at hpos
        unfold heldV; rw [hz]; simp
  · refine .inr (.inr ⟨by omega, _, ?_, g1⟩)
    rw [g2]
    unfold numX
    by_cases h15 : st = 15
    · rw [if_pos h15]
      have hkd : kd = 1 := by omega
      rcases hu with ⟨_, u, _⟩ | ⟨_, u, _⟩ | ⟨_, _, hB, _, hx⟩ | ⟨_, _, _, u, _⟩
      · omega
      · omega
      · unfold hexB at hB
        simp at hB
        obtain ⟨n1, n2, x, n3, n4⟩ := hex_nums hx rfl (atB_yes hB.1).2 (atB_yes hB.2).2
        have hN := hex_ok' hx (by omega)
        rcases hE with ⟨_, hE⟩ | ⟨u, _⟩
        · have hD0 : D.getD 0 0 ≠ 0 := by
            rcases hN.lead with h | h
            · exact absurd h g0
            · exact h
          have hlenD := hN.len
          rw [List.drop_drop, n1]
          exact hex_join (mode := mode) (neg := neg) hF hK (fun d hd => by have := hN.lt d hd; omega) hD0 (by omega) (b := 4 * ((hexScan (ahead ((chs s).drop (sgnL s 0 + 2)) 112)).2.1 : Nat)) ⟨by omega, by omega⟩ n3 rfl n4 hUV hVU hE
        · omega
      · omega
    · rw [if_neg h15]
      have hkd : kd = 0 := by omega
      rcases hu with ⟨_, u, _⟩ | ⟨_, u, _⟩ | ⟨_, _, _, u, _⟩ | ⟨_, _, _, _, hx⟩
      · omega
      · omega
      · omega
      · obtain ⟨n1, n2, x, n3, n4⟩ := dec_nums hx rfl
        have hN := dec_ok' hx (by omega)
        have hd : Digs (decScan (ahead ((chs s).drop (sgnL s 0)) 101)).1 := by
          have := dec_ok (chs s) st hst (by omega)
          rw [hbody] at this
          exact decScan_digs _ this
        rcases hE with ⟨u, _⟩ | ⟨_, hE⟩
        · omega
        · have hD0 : D.getD 0 0 ≠ 0 := by
            rcases hN.lead with h | h
            · exact absurd h g0
            · exact h
          have hlenD := hN.len
          exact dec_join (mode := mode) (neg := neg) hF hK (normL_norm hd) (fun d hd => by have := hN.lt d hd; omega) hD0 (by omega) n1 (normE_ge _ _) (fun K2 h2 => norm_val _ _ K2 h2) (b := ((decScan (ahead ((chs s).drop (sgnL s 0)) 101)).2.1 : Nat)) ⟨by omega, by omega⟩ n3 rfl n4 hUV hVU hE
/-- All that the program's Parse tells. -/
def ProgSpec (K : Nat) (l : List Nat) (f mode : Int) (bts fl at' err : Int) : Prop :=
  (¬ (0 ≤ f ∧ f ≤ 2 ∧ 0 ≤ mode ∧ mode ≤ 4) ∧ bts = 0 ∧ fl = 0 ∧ at' = 0 ∧ err = 1) ∨
  ((0 ≤ f ∧ f ≤ 2 ∧ 0 ≤ mode ∧ mode ≤ 4) ∧ 900 < l.length ∧ bts = 0 ∧ fl = 0 ∧ at' = 0 ∧ err = 2) ∨
  ((0 ≤ f ∧ f ≤ 2 ∧ 0 ≤ mode ∧ mode ≤ 4) ∧ l.length ≤ 900 ∧ ∃ (st a : Nat) (ok : Bool), ReadSpec l st a ok ∧
    ((ok = false ∧ bts = 0 ∧ fl = 0 ∧ at' = a ∧ err = 3) ∨ (ok = true ∧ at' = 0 ∧ err = 0 ∧ Outcome K l st f mode bts fl)))
theorem prog_spec {K : Nat} (hK : 30000 ≤ K) {s : ByteArray} {f mode bts fl at' err : Int} (hp : PParse s f mode bts fl at' err) : ProgSpec K (chs s) f mode bts fl at' err := by
  have hlen := chs_length s
  rcases hp with ⟨hv, h1⟩ | ⟨hv, hl, h1⟩ | ⟨hv, hl, k, uok, kd, D, pw, hu, hc⟩
  · exact .inl ⟨hv, h1⟩
  · exact .inr (.inl ⟨hv, by omega, h1⟩)
  · refine .inr (.inr ⟨hv, by omega, ?_⟩)
    obtain ⟨st, hst, hks⟩ := uns_stop hu
    obtain ⟨st', hrd, hst'⟩ := read_of hst
    have hkl := hst.path.le
    refine ⟨st', k, _, hrd, ?_⟩
    rcases hc with ⟨hfail, h1, h2, h3, h4⟩ | ⟨⟨huok, hk⟩, h3, h4, hpat⟩
    · refine .inl ⟨?_, h1, h2, h3, h4⟩
      rcases hfail with h | h
      · rw [h]; rfl
      · rw [show decide (k = (chs s).length) = false from by simp; omega]; simp
    · subst huok
      have hkk : k = (chs s).length := by omega
      have hss : st' = st := hst' rfl hkk
      have hne : 0 < (chs s).length := by
        rcases Nat.eq_zero_or_pos (chs s).length with h | h
        · exfalso
          have h5 := hst.ok
          have h6 := hst.path.st
          rw [hkk, h] at h6
          rw [← h6] at h5
          simp [stAt, endsB] at h5
        · exact h
      refine .inr ⟨by rw [hkk]; simp, h3, h4, ?_⟩
      rw [hkk] at hu
      rw [hss]
      refine outcome_num hK ⟨hv.1, hv.2.1⟩ hl hne hu (hks rfl) ?_ hpat
      rw [← hkk]; exact hst.path.st.symm
end Go.Proofs.Ytbkdaoicnobllaa

/- Known texts: what is told of them, by reckoning. -/
namespace Go.Proofs.Ytbkdaoicnobllaa

/-- Where a number lies, the amount below it being known. -/
def RoundAt (K : Nat) (f mode : Int) (neg : Bool) (X : Nat) (r fl : Int) (a : Nat) : Prop :=
  (X = 0 ∧ r = 0 ∧ fl = 0) ∨
  (0 < X ∧ valA K f (infN f) ≤ X ∧ fl = 3 ∧ r = if awayB mode neg 3 true = true then (infN f : Int) else (infN f : Int) - 1) ∨
  (0 < X ∧ X < valA K f (infN f) ∧ a < infN f ∧ valA K f a ≤ X ∧ X < valA K f (a + 1) ∧
    ((X = valA K f a ∧ r = a ∧ fl = 0) ∨
     (X ≠ valA K f a ∧ r = (if awayB mode neg (cmpN (X * 2) (valA K f a + valA K f (a + 1)) + 2) (a % 2 == 1) = true then (a : Int) + 1 else (a : Int)) ∧
      fl = 1 + (if X < two K (fLow f) then 4 else 0) + (if r = infN f then 2 else 0))))
instance (K : Nat) (f mode : Int) (neg : Bool) (X : Nat) (r fl : Int) (a : Nat) : Decidable (RoundAt K f mode neg X r fl a) := by unfold RoundAt; infer_instance
theorem RoundAt.spec {K : Nat} {f mode : Int} {neg : Bool} {X : Nat} {r fl : Int} {a : Nat} (h : RoundAt K f mode neg X r fl a) : RoundSpec K f mode neg X r fl := by
  rcases h with h | h | ⟨h1, h2, h3, h4, h5, h6⟩
  · exact .inl h
  · exact .inr (.inl h)
  · exact .inr (.inr ⟨h1, h2, a, h3, h4, h5, h6⟩)
/-- No state on the way is the dead one. -/
def liveB (l : List Nat) (k : Nat) : Bool := (List.range (k + 1)).all (fun j => stAt l j != 28)
theorem liveB_of {l : List Nat} {k : Nat} (h : liveB l k = true) : ∀ j, j ≤ k → stAt l j ≠ 28 := by
  intro j hj
  unfold liveB at h
  rw [List.all_eq_true] at h
  have := h j (List.mem_range.2 (by omega))
  simpa using this
/-- The text says a number; r and fl are what it comes to. -/
def numOK (l : List Nat) (f mode : Int) (st a : Nat) (r fl : Int) : Bool :=
  decide (l.length ≤ 900) && liveB l l.length && (stAt l l.length == st) && (st == 15 || st == 2 || st == 3 || st == 4 || st == 6 || st == 9) && decide (RoundAt 30000 f mode (decide (l.getD 0 0 = 45)) (numX 30000 (body l) st) r fl a)
/-- The text is none, and it is told where. -/
def failOK (l : List Nat) (k : Nat) : Bool :=
  decide (l.length ≤ 900) && liveB l k && ((decide (k < l.length) && stAt l (k + 1) == 28) || (k == l.length && !(endsB (stAt l k))))
theorem num_eval {l : List Nat} {f mode : Int} {st a : Nat} {r fl b g at' err : Int} (hv : 0 ≤ f ∧ f ≤ 2 ∧ 0 ≤ mode ∧ mode ≤ 4) (h : numOK l f mode st a r fl = true) (hp : ProgSpec 30000 l f mode b g at' err) :
    b = signedV f (decide (l.getD 0 0 = 45)) r ∧ g = fl ∧ at' = 0 ∧ err = 0 := by
  unfold numOK at h
  simp only [Bool.and_eq_true, decide_eq_true_eq, beq_iff_eq, Bool.or_eq_true] at h
  obtain ⟨⟨⟨⟨h1, h2⟩, h3⟩, h4⟩, h5⟩ := h
  have he : endsB st = true := by
    rcases h4 with ((((h | h) | h) | h) | h) | h <;> (subst h; rfl)
  have hr : ReadSpec l st l.length true := .inr ⟨liveB_of h2, h3.symm, rfl, he.symm⟩
  rcases hp with ⟨gv, _⟩ | ⟨_, gl, _⟩ | ⟨_, _, st2, a2, ok2, hr2, hc⟩
  · exact absurd hv gv
  · omega
  · obtain ⟨e1, e2, e3⟩ := ReadSpec.one hr hr2
    subst e1 e3
    rcases hc with ⟨g0, _⟩ | ⟨_, g1, g2, ho⟩
    · cases g0
    · rcases ho with ⟨o1, _⟩ | ⟨o1, _⟩ | ⟨_, r2, o1, o2⟩
      · omega
      · omega
      · obtain ⟨z1, z2⟩ := RoundSpec.one (by decide) h5.spec o1
        exact ⟨by rw [o2, z1], z2.symm, g1, g2⟩
theorem fail_eval {l : List Nat} {f mode : Int} {k : Nat} {b g at' err : Int} (hv : 0 ≤ f ∧ f ≤ 2 ∧ 0 ≤ mode ∧ mode ≤ 4) (h : failOK l k = true) (hp : ProgSpec 30000 l f mode b g at' err) :
    b = 0 ∧ g = 0 ∧ at' = k ∧ err = 3 := by
  unfold failOK at h
  simp only [Bool.and_eq_true, decide_eq_true_eq, beq_iff_eq, Bool.or_eq_true, Bool.not_eq_true'] at h
  obtain ⟨⟨h1, h2⟩, h3⟩ := h
  have hr : ∃ st, ReadSpec l st k false := by
    rcases h3 with ⟨h3, h4⟩ | ⟨h3, h4⟩
    · exact ⟨28, .inl ⟨k, h3, liveB_of h2, h4, rfl, rfl, rfl⟩⟩
    · exact ⟨_, .inr ⟨by rw [← h3]; exact liveB_of h2, rfl, h3, by rw [← h3, h4]⟩⟩
  obtain ⟨st, hr⟩ := hr
  rcases hp with ⟨gv, _⟩ | ⟨_, gl, _⟩ | ⟨_, _, st2, a2, ok2, hr2, hc⟩
  · exact absurd hv gv
  · omega
  · obtain ⟨e1, e2, e3⟩ := ReadSpec.one hr hr2
    subst e3
    rcases hc with ⟨_, g1, g2, g3, g4⟩ | ⟨g0, _⟩
    · exact ⟨g1, g2, by omega, g4⟩
    · cases g0
theorem one_half : numOK [49] 0 0 3 15360 15360 0 = true := by decide +kernel
theorem known_tiny : numOK [49, 101, 45, 57, 57, 57, 57, 57, 57, 57, 57, 57, 57, 57, 57, 57, 57, 57, 57, 57, 57, 57, 57] 0 3 9 0 1 5 = true := by decide +kernel
end Go.Proofs.Ytbkdaoicnobllaa
