import Derived.Test.YtbkdaoicnobllabDoorGMath
import GoSem.Op.String
import Derived.Lib.ItoaLen
import Derived.Test.YtbkdaoicnobllabDoorGPlain
import Derived.Test.YtbkdaoicnobllabDoorGValA
import Derived.Test.YtbkdaoicnobllabDoorGNumDig

/- Plain mathematics: rounding keeps the order; rows of digits in the order of texts. -/
namespace Go.Proofs.YtbkdaoicnobllabDoor

/-- A rounding that goes up goes up, too, where more is left. -/
def AwMono (aw : Int → Bool → Bool) : Prop := ∀ l l' o, 1 ≤ l → l ≤ l' → l' ≤ 3 → aw l o = true → aw l' o = true
theorem leftN_mono {V V' P : Nat} (h : V % P ≤ V' % P) : leftN V P ≤ leftN V' P := by
  unfold leftN; (repeat' split) <;> omega
theorem rndN_mono {aw : Int → Bool → Bool} (ha : AwMono aw) {V V' P : Nat} (h : V ≤ V') : rndN aw V P ≤ rndN aw V' P := by
  have hq : V / P ≤ V' / P := Nat.div_le_div_right h
  rcases Nat.lt_or_ge (V / P) (V' / P) with hlt | hge
  · have h1 : rndN aw V P ≤ V / P + 1 := by unfold rndN; split <;> omega
    have h2 := rndN_ge aw V' P
    omega
  · have he : V / P = V' / P := Nat.le_antisymm hq hge
    have hr : V % P ≤ V' % P := by
      have a := Nat.div_add_mod V P
      have b := Nat.div_add_mod V' P
      rw [he] at a
      omega
    have hl := leftN_mono hr
    have r1 := leftN_range V P
    have r2 := leftN_range V' P
    unfold rndN
    rw [he]
    by_cases g : leftN V P ≠ 0 ∧ aw (leftN V P) (V' / P % 2 == 1) = true
    · rw [if_pos g, if_pos ⟨by omega, ha _ _ _ (by omega) hl r2.2 g.2⟩]; exact Nat.le_refl _
    · rw [if_neg g]; split <;> omega
theorem rndN_aw {aw aw' : Int → Bool → Bool} (h : ∀ l o, 1 ≤ l → l ≤ 3 → aw l o = true → aw' l o = true) (V P : Nat) : rndN aw V P ≤ rndN aw' V P := by
  have r := leftN_range V P
  unfold rndN
  by_cases g : leftN V P ≠ 0 ∧ aw (leftN V P) (V / P % 2 == 1) = true
  · rw [if_pos g, if_pos ⟨g.1, h _ _ (by omega) r.2 g.2⟩]; exact Nat.le_refl _
  · rw [if_neg g]; split <;> omega
theorem rndN_hi (aw : Int → Bool → Bool) {V k m : Nat} (hk : k ≤ m) (h : V < 10 ^ m) : rndN aw V (10 ^ k) * 10 ^ k ≤ 10 ^ m := by
  have hp : 0 < 10 ^ k := Nat.pow_pos (by omega)
  have e : 10 ^ m = 10 ^ (m - k) * 10 ^ k := by rw [← Nat.pow_add]; congr 1; omega
  rw [e] at h ⊢
  exact Nat.mul_le_mul_right _ (rndN_le aw V _ _ h hp)
theorem rndN_lo (aw : Int → Bool → Bool) {V k m : Nat} (hk : k ≤ m) (h : 10 ^ m ≤ V) : 10 ^ m ≤ rndN aw V (10 ^ k) * 10 ^ k := by
  have hp : 0 < 10 ^ k := Nat.pow_pos (by omega)
  have e : 10 ^ m = 10 ^ (m - k) * 10 ^ k := by rw [← Nat.pow_add]; congr 1; omega
  rw [e] at h ⊢
  refine Nat.mul_le_mul_right _ (Nat.le_trans ?_ (rndN_ge aw V _))
  exact (Nat.le_div_iff_mul_le hp).2 h
theorem val_lt {L : List Nat} (h : Digs L) (K : Nat) (e : Int) (he : -(K : Int) ≤ e) : val K L e < 10 ^ (e + L.length + K).toNat := by
  have := val_hi h K e (e + L.length) (by omega) he
  rcases Nat.div_eq_zero_iff.1 this with g | g
  · have : 0 < 10 ^ (e + L.length + K).toNat := Nat.pow_pos (by omega)
    omega
  · exact g
theorem val_ge {L : List Nat} (h : Headed L) (hl : 0 < L.length) (K : Nat) (e : Int) (he : -(K : Int) ≤ e) : 10 ^ (e + L.length - 1 + K).toNat ≤ val K L e := by
  unfold val
  refine Nat.le_trans ?_ (Nat.mul_le_mul_right _ (h.lo hl))
  rw [← Nat.pow_add]
  exact Nat.pow_le_pow_right (by omega) (by omega)
theorem top_leq {L M : List Nat} {e g : Int} {K : Nat} (h2 : Digs M) (d1 : Headed L) (l1 : 0 < L.length) (k1 : -(K : Int) ≤ e) (k2 : -(K : Int) ≤ g) (h : val K L e ≤ val K M g) : e + L.length ≤ g + M.length := by
  have a := val_ge d1 l1 K e k1
  have b := val_lt h2 K g k2
  apply Int.not_lt.1
  intro hlt
  have : 10 ^ (g + M.length + K).toNat ≤ 10 ^ (e + L.length - 1 + K).toNat := Nat.pow_le_pow_right (by omega) (by omega)
  omega
/-- The rounded numbers are in the order of the numbers. -/
theorem rnd_order {aw : Int → Bool → Bool} (ha : AwMono aw) {K n : Nat} {D D' : List Nat} {e e' : Int} (h1 : Digs D) (h2 : Digs D') (d1 : Headed D) (d2 : Headed D') (l1 : 0 < D.length) (l2 : 0 < D'.length) (k1 : -(K : Int) ≤ e) (k2 : -(K : Int) ≤ e') (h : val K D e ≤ val K D' e') :
    rndN aw (val K D e) (10 ^ (e + D.length - 1 - n + K).toNat) * 10 ^ (e + D.length - 1 - n + K).toNat ≤ rndN aw (val K D' e') (10 ^ (e' + D'.length - 1 - n + K).toNat) * 10 ^ (e' + D'.length - 1 - n + K).toNat := by
  have ht := top_leq h2 d1 l1 k1 k2 h
  rcases (by omega : e + D.length = e' + D'.length ∨ e + D.length < e' + D'.length) with he | hlt
  · rw [he]
    exact Nat.mul_le_mul_right _ (rndN_mono ha h)
  · refine Nat.le_trans (rndN_hi aw (m := (e + D.length + K).toNat) (by omega) (val_lt h1 K e k1)) ?_
    refine Nat.le_trans ?_ (rndN_lo aw (m := (e' + D'.length - 1 + K).toNat) (by omega) (val_ge d2 l2 K e' k2))
    exact Nat.pow_le_pow_right (by omega) (by omega)

/-- The lower m digits of a number, as bytes. -/
def rowB : Nat → Nat → List UInt8
  | _, 0 => []
  | X, m + 1 => rowB (X / 10) m ++ [UInt8.ofNat (48 + X % 10)]
theorem rowB_length (X m : Nat) : (rowB X m).length = m := by
  induction m generalizing X with
  | zero => rfl
  | succ m ih => simp [rowB, ih]
theorem row_num {L : List Nat} (h : Digs L) (K : Nat) (e hi : Int) (he : -(K : Int) ≤ e) (m : Nat) (hm : -(K : Int) ≤ hi + 1 - m) : rowT L e hi m = rowB (val K L e / 10 ^ (hi + 1 - m + K).toNat) m := by
  induction m with
  | zero => rfl
  | succ m ih =>
    rw [rowT, rowB, ih (by omega), Nat.div_div_eq_div_mul, ← Nat.pow_succ, ← dig_val h K e (hi - m) he (by omega)]
    rw [show (hi + 1 - ((m + 1 : Nat) : Int) + K).toNat.succ = (hi + 1 - m + K).toNat from by omega, show hi + 1 - ((m + 1 : Nat) : Int) + K = hi - m + K from by omega]
theorem less_snoc (a b : List UInt8) (x y : UInt8) (h : a.length = b.length) : Op.bytesLess (a ++ [x]) (b ++ [y]) = (Op.bytesLess a b || (decide (a = b) && decide (x < y))) := by
  induction a generalizing b with
  | nil =>
    have : b = [] := List.length_eq_zero_iff.1 h.symm
    subst this
    simp [Op.bytesLess]
  | cons c a ih =>
    cases b with
    | nil => simp at h
    | cons d b =>
      simp only [List.cons_append, Op.bytesLess]
      rw [ih b (by simpa using h)]
      by_cases hcd : c = d
      · subst hcd; simp
      · have : (c == d) = false := by simpa using hcd
        rw [this]; simp [hcd]
theorem rowB_order (m X Y : Nat) (hX : X < 10 ^ m) (hY : Y < 10 ^ m) (h : X ≤ Y) : Op.bytesLess (rowB Y m) (rowB X m) = false ∧ (rowB Y m = rowB X m → Y = X) := by
  induction m generalizing X Y with
  | zero =>
    rw [Nat.pow_zero] at hX hY
    exact ⟨rfl, fun _ => by omega⟩
  | succ m ih =>
    rw [Nat.pow_succ] at hX hY
    have h10 : X / 10 ≤ Y / 10 := Nat.div_le_div_right h
    obtain ⟨i1, i2⟩ := ih (X / 10) (Y / 10) (by omega) (by omega) h10
    have hb : ∀ a b : Nat, a < 10 → b < 10 → (UInt8.ofNat (48 + a) < UInt8.ofNat (48 + b) ↔ a < b) := by
      intro a b ha hb
      rw [UInt8.lt_iff_toNat_lt]
      simp
      omega
    have hb2 : ∀ a b : Nat, a < 10 → b < 10 → UInt8.ofNat (48 + a) = UInt8.ofNat (48 + b) → a = b := by
      intro a b ha hb hab
      have := congrArg UInt8.toNat hab
      simp at this
      omega
    constructor
    · rw [rowB, rowB, less_snoc _ _ _ _ (by rw [rowB_length, rowB_length]), i1]
      simp only [Bool.false_or, Bool.and_eq_false_iff, decide_eq_false_iff_not]
      by_cases hq : rowB (Y / 10) m = rowB (X / 10) m
      · refine .inr (fun hlt => ?_)
        have h3 := i2 hq
        have h4 := (hb _ _ (by omega) (by omega)).1 hlt
        omega
      · exact .inl hq
    · intro hq
      rw [rowB, rowB] at hq
      have h5 := List.append_inj hq (by rw [rowB_length, rowB_length])
      have h6 := i2 h5.1
      have h7 := hb2 (Y % 10) (X % 10) (by omega) (by omega) (List.cons.inj h5.2).1
      omega
/-- Rows of as many digits, in the order of the numbers. -/
theorem rows_order {L M : List Nat} {e g top : Int} {K n : Nat} (h1 : Digs L) (h2 : Digs M) (k1 : -(K : Int) ≤ e) (k2 : -(K : Int) ≤ g) (t1 : e + L.length = top + 1) (t2 : g + M.length = top + 1) (hn : -(K : Int) ≤ top - n) (h : val K L e ≤ val K M g) :
    Op.bytesLess (rowT M g top (n + 1)) (rowT L e top (n + 1)) = false := by
  rw [row_num h1 K e top k1 (n + 1) (by omega), row_num h2 K g top k2 (n + 1) (by omega)]
  have b1 := val_lt h1 K e k1
  have b2 := val_lt h2 K g k2
  rw [t1] at b1
  rw [t2] at b2
  have hs : (top + 1 + K).toNat = (n + 1) + (top + 1 - ((n + 1 : Nat) : Int) + K).toNat := by omega
  rw [hs, Nat.pow_add] at b1 b2
  have hp : 0 < 10 ^ (top + 1 - ((n + 1 : Nat) : Int) + K).toNat := Nat.pow_pos (by omega)
  exact (rowB_order (n + 1) _ _ ((Nat.div_lt_iff_lt_mul hp).2 b1) ((Nat.div_lt_iff_lt_mul hp).2 b2) (Nat.div_le_div_right h)).1
end Go.Proofs.YtbkdaoicnobllabDoor

/- Plain mathematics: digits and power of a text with a power of ten. -/
namespace Go.Proofs.YtbkdaoicnobllabDoor

def stepE (s : Nat × Bool) (c : UInt8) : Nat × Bool := if c = 45 then (s.1, true) else (10 * s.1 + (c.toNat - 48), s.2)
/-- The power behind the e, so many bytes of it. -/
def foldE (B : List UInt8) (k : Nat) : Nat × Bool := (B.take k).foldl stepE (0, false)
theorem take_next (B : List UInt8) (k : Nat) (h : k < B.length) : B.take (k + 1) = B.take k ++ [B[k]] := by simp
theorem foldE_succ (B : List UInt8) (k : Nat) (h : k < B.length) : foldE B (k + 1) = stepE (foldE B k) B[k] := by
  unfold foldE; rw [take_next B k h, List.foldl_append]; rfl
def PowB (B : List UInt8) : Prop := ∀ c ∈ B, c = 45 ∨ (48 ≤ c.toNat ∧ c.toNat ≤ 57)
theorem foldE_bd (B : List UInt8) (hB : PowB B) (k : Nat) (h : k ≤ B.length) : (foldE B k).1 < 10 ^ k := by
  induction k with
  | zero => simp [foldE]
  | succ k ih =>
    have := ih (by omega)
    rw [foldE_succ B k (by omega), Nat.pow_succ]
    unfold stepE
    split
    · omega
    · rcases hB B[k] (List.getElem_mem _) with h | h
      · contradiction
      · simp only; omega
def expV (s : Nat × Bool) : Int := if s.2 = true then -(s.1 : Int) else s.1
/-- The digits ahead of the e, of so many bytes. -/
def keptD (A : List UInt8) (k : Nat) : List UInt8 := (A.take k).filter (fun c => c != 46)
theorem keptD_point (A : List UInt8) (k : Nat) (h : k < A.length) (hc : A[k] = 46) : keptD A (k + 1) = keptD A k := by
  unfold keptD; rw [take_next A k h, List.filter_append, hc]; simp
theorem keptD_digit (A : List UInt8) (k : Nat) (h : k < A.length) (hc : A[k] ≠ 46) : keptD A (k + 1) = keptD A k ++ [A[k]] := by
  unfold keptD; rw [take_next A k h, List.filter_append]; simp [hc]
theorem keptD_len (A : List UInt8) (k : Nat) (h : k ≤ A.length) : (keptD A k).length ≤ k := by
  unfold keptD
  refine Nat.le_trans (List.length_filter_le _ _) ?_
  rw [List.length_take]; omega
theorem rowT_byte {L : List Nat} (h : Digs L) (e hi : Int) (m : Nat) : ∀ c ∈ rowT L e hi m, 48 ≤ c.toNat ∧ c.toNat ≤ 57 := by
  induction m with
  | zero => intro c hc; simp [rowT] at hc
  | succ m ih =>
    intro c hc
    rw [rowT] at hc
    rcases List.mem_append.1 hc with g | g
    · exact ih c g
    · have := dig_le h e (hi - m)
      rw [List.mem_singleton.1 g]
      simp; omega
theorem row_filter {L : List Nat} (h : Digs L) (e hi : Int) (m : Nat) : (rowT L e hi m).filter (fun c => c != 46) = rowT L e hi m := by
  rw [List.filter_eq_self]
  intro c hc
  have := rowT_byte h e hi m c hc
  simp only [bne_iff_ne, ne_eq]
  rintro rfl
  simp at this
theorem sci_kept {L : List Nat} (h : Digs L) (e top : Int) (n : Nat) : keptD (sciT L e top n) (sciT L e top n).length = rowT L e top (n + 1) := by
  unfold keptD
  rw [List.take_length]
  unfold sciT
  rw [List.filter_append, row_filter h, rowT_cons L e top n]
  have h1 : rowT L e top 1 = [UInt8.ofNat (48 + dig L e top)] := by simp [rowT]
  rw [h1]
  by_cases hn : n = 0
  · subst hn; simp [rowT]
  · rw [if_neg hn, List.filter_cons]
    simp [row_filter h]
theorem sci_noe {L : List Nat} (h : Digs L) (e top : Int) (n : Nat) : ∀ c ∈ sciT L e top n, c ≠ 101 := by
  intro c hc
  unfold sciT at hc
  rcases List.mem_append.1 hc with g | g
  · have := rowT_byte h _ _ _ c g
    rintro rfl; simp at this
  · by_cases hn : n = 0
    · rw [if_pos hn] at g; simp at g
    · rw [if_neg hn] at g
      rcases List.mem_cons.1 g with rfl | g
      · decide
      · have := rowT_byte h _ _ _ c g
        rintro rfl; simp at this
def powOK (t : Int) : Bool := ((Lib.itoa t).all fun c => c == 45 || (decide (48 ≤ c.toNat) && decide (c.toNat ≤ 57))) && decide ((Lib.itoa t).length ≤ 8) && decide (expV (foldE (Lib.itoa t) (Lib.itoa t).length) = t)
theorem pow_all : ∀ i : Fin 2001, powOK ((i.val : Int) - 1000) = true := by decide +kernel
theorem itoa_pow (t : Int) (h1 : -1000 ≤ t) (h2 : t ≤ 1000) : PowB (Lib.itoa t) ∧ (Lib.itoa t).length ≤ 8 ∧ expV (foldE (Lib.itoa t) (Lib.itoa t).length) = t := by
  have h := pow_all ⟨(t + 1000).toNat, by omega⟩
  rw [show (((⟨(t + 1000).toNat, by omega⟩ : Fin 2001).val : Nat) : Int) - 1000 = t from by simp; omega] at h
  unfold powOK at h
  simp only [Bool.and_eq_true, decide_eq_true_eq, List.all_eq_true, Bool.or_eq_true, beq_iff_eq] at h
  exact ⟨h.1.1, h.1.2, h.2⟩
end Go.Proofs.YtbkdaoicnobllabDoor

/- Plain mathematics: the texts of numbers in their order. -/
namespace Go.Proofs.YtbkdaoicnobllabDoor

theorem ExpR.order {aw : Int → Bool → Bool} {V V' n : Nat} {D L D' L' : List Nat} {e g e' g' : Int} {T T' : List UInt8} (ha : AwMono aw) (h : ExpR aw V n D e L g T) (h' : ExpR aw V' n D' e' L' g' T') (hv : V ≤ V') : Go.Proofs.YtbkdaoicnobllabDoor.val 3000 L g ≤ Go.Proofs.YtbkdaoicnobllabDoor.val 3000 L' g' := by
  have := rnd_order ha (n := n) (K := 3000) h.digs h'.digs h.headed h'.headed h.pos h'.pos h.lo h'.lo (by rw [h.val, h'.val]; exact hv)
  rw [h.val, h'.val] at this
  rw [h.val', h'.val']; exact this
theorem ExpR.modes {aw aw' : Int → Bool → Bool} {V n : Nat} {D L D' L' : List Nat} {e g e' g' : Int} {T T' : List UInt8} (ha : ∀ l o, 1 ≤ l → l ≤ 3 → aw l o = true → aw' l o = true) (h : ExpR aw V n D e L g T) (h' : ExpR aw' V n D' e' L' g' T') : Go.Proofs.YtbkdaoicnobllabDoor.val 3000 L g ≤ Go.Proofs.YtbkdaoicnobllabDoor.val 3000 L' g' := by
  have ht := top_same h.digs h'.digs h.headed h'.headed h.pos h'.pos (K := 3000) h.lo h'.lo (h.val.trans h'.val.symm)
  rw [h.val', h'.val', show e' + (D'.length : Int) - 1 - n + (3000 : Nat) = e + D.length - 1 - n + (3000 : Nat) from by omega]
  exact Nat.mul_le_mul_right _ (rndN_aw ha _ _)
/-- What 'parts' makes of a text. -/
structure Parted (T : List UInt8) (d : List UInt8) (e : Int) : Prop where
  ex : ∃ A B, T = A ++ 101 :: B ∧ (∀ c ∈ A, c ≠ 101) ∧ A.length ≤ 3000 ∧ PowB B ∧ B.length ≤ 8 ∧ d = keptD A A.length ∧ e = expV (foldE B B.length) - ((keptD A A.length).length - 1 : Nat)
/-- The text is not below the other. -/
def Above (T S : List UInt8) : Prop := ∃ a e b f, Parted T a e ∧ Parted S b f ∧ (f < e ∨ (e = f ∧ Op.bytesLess a b = false))
theorem ExpR.parted {aw : Int → Bool → Bool} {V n : Nat} {D L : List Nat} {e g : Int} {T : List UInt8} (h : ExpR aw V n D e L g T) (hn : n ≤ 800) (h1 : -1000 ≤ g + L.length - 1) (h2 : g + L.length - 1 ≤ 1000) : Parted T (rowT L g (g + L.length - 1) (n + 1)) (g + L.length - 1 - n) := by
  obtain ⟨p1, p2, p3⟩ := itoa_pow _ h1 h2
  have hk := sci_kept h.digs' g (g + L.length - 1) n
  refine ⟨sciT L g (g + L.length - 1) n, Lib.itoa (g + L.length - 1), h.text, sci_noe h.digs' _ _ _, by have := sciT_length L g (g + L.length - 1) n; omega, p1, p2, hk.symm, ?_⟩
  rw [hk, p3, rowT_length]; omega
theorem Parted.above {aw aw' : Int → Bool → Bool} {V V' n : Nat} {D L D' L' : List Nat} {e g e' g' : Int} {T T' : List UInt8} (h : ExpR aw V n D e L g T) (h' : ExpR aw' V' n D' e' L' g' T') (hn : n ≤ 800) (h1 : -1000 ≤ g + L.length - 1) (h2 : g + L.length - 1 ≤ 1000) (h1' : -1000 ≤ g' + L'.length - 1) (h2' : g' + L'.length - 1 ≤ 1000) (hv : val 3000 L g ≤ val 3000 L' g') : Above T' T := by
  refine ⟨_, _, _, _, h'.parted hn h1' h2', h.parted hn h1 h2, ?_⟩
  have ht := top_leq h'.digs' h.headed' h.pos' h.lo' h'.lo' hv
  rcases (by omega : g + L.length - 1 < g' + L'.length - 1 ∨ g + (L.length : Int) - 1 = g' + L'.length - 1) with hlt | he
  · exact .inl (by omega)
  · refine .inr ⟨by omega, ?_⟩
    rw [← he]
    exact rows_order h.digs' h'.digs' h.lo' h'.lo' (by omega) (by omega) h.lon hv
/-- Where the first digit of a number rounded stands. -/
theorem ExpR.tops {aw : Int → Bool → Bool} {V n : Nat} {D L : List Nat} {e g : Int} {T : List UInt8} (h : ExpR aw V n D e L g T) : e + D.length ≤ g + L.length ∧ g + L.length ≤ e + D.length + 1 := by
  have a := val_lt h.digs 3000 e h.lo
  have b := val_ge h.headed h.pos 3000 e h.lo
  rw [h.val] at a b
  have c := rndN_hi aw (k := (e + D.length - 1 - n + (3000 : Nat)).toNat) (m := (e + D.length + (3000 : Nat)).toNat) (by omega) a
  have d := rndN_lo aw (k := (e + D.length - 1 - n + (3000 : Nat)).toNat) (m := (e + D.length - 1 + (3000 : Nat)).toNat) (by omega) b
  rw [← h.val'] at c d
  have c' := val_ge h.headed' h.pos' 3000 g h.lo'
  have d' := val_lt h.digs' 3000 g h.lo'
  have hl := h.lo
  have hl' := h.lo'
  have hp := h.pos
  have hp' := h.pos'
  constructor
  · apply Int.not_lt.1; intro hlt
    have : 10 ^ (g + L.length + (3000 : Nat)).toNat ≤ 10 ^ (e + D.length - 1 + (3000 : Nat)).toNat := Nat.pow_le_pow_right (by omega) (by omega)
    omega
  · apply Int.not_lt.1; intro hlt
    have : 10 ^ (e + D.length + (3000 : Nat)).toNat < 10 ^ (g + L.length - 1 + (3000 : Nat)).toNat := Nat.pow_lt_pow_right (by omega) (by omega)
    omega
end Go.Proofs.YtbkdaoicnobllabDoor

namespace Go.Proofs.YtbkdaoicnobllabDoor
set_option exponentiation.threshold 5000

theorem valA_low {f : Int} (hf : 0 ≤ f ∧ f ≤ 2) {a : Nat} (ha : 0 < a) : 10 ^ 2600 ≤ valA 3000 f a := by
  refine Nat.le_trans ?_ (valA_mono 3000 f (by omega) (show 1 ≤ a from ha))
  rcases (by omega : f = 0 ∨ f = 1 ∨ f = 2) with rfl | rfl | rfl <;> decide +kernel
theorem infA_N0 (f : Int) : infA f = (infN f : Int) := by unfold infA infN; split <;> (try split) <;> rfl
theorem ExpQ.some {aw : Int → Bool → Bool} {V n : Nat} {T : List UInt8} (h : ExpQ aw V n T) (h0 : 0 < V) : ∃ D e L g, ExpR aw V n D e L g T := by
  rcases h with ⟨h1, _⟩ | h
  · omega
  · exact h
theorem ExpR.range {f : Int} {a : Nat} {aw : Int → Bool → Bool} {n : Nat} {D L : List Nat} {e g : Int} {T : List UInt8} (hf : 0 ≤ f ∧ f ≤ 2) (h0 : 0 < a) (h1 : (a : Int) < infN f) (h : ExpR aw (valA 3000 f a) n D e L g T) : -1000 ≤ g + L.length - 1 ∧ g + L.length - 1 ≤ 1000 := by
  have ht := h.tops
  have hu := valA_top hf (by rw [infA_N0 f]; exact h1) h.headed h.pos h.lo h.val
  have hlo := valA_low hf h0
  have hv := val_lt h.digs 3000 e h.lo
  rw [h.val] at hv
  have : -400 ≤ e + D.length := by
    apply Int.not_lt.1; intro hlt
    have : 10 ^ (e + D.length + (3000 : Nat)).toNat ≤ 10 ^ 2600 := Nat.pow_le_pow_right (by omega) (by omega)
    omega
  omega
theorem aw_mono (m : Int) (hm : m = 4 ∨ m = 0 ∨ m = 1 ∨ m = 3) : AwMono (awayB m false) := by
  intro l l' o h1 h2 h3 h
  rcases hm with rfl | rfl | rfl | rfl
  · simp [awayB] at h
  · simp [awayB] at h ⊢
    rcases h with h | ⟨h, ho⟩
    · left; omega
    · rcases (by omega : l' = 2 ∨ l' = 3) with g | g
      · right; exact ⟨g, ho⟩
      · left; exact g
  · simp [awayB] at h ⊢; omega
  · simp [awayB]
theorem aw_next (m m' : Int) (hm : (m = 4 ∧ m' = 0) ∨ (m = 0 ∧ m' = 1) ∨ (m = 1 ∧ m' = 3)) (l : Int) (o : Bool) (h1 : 1 ≤ l) (h2 : l ≤ 3) (h : awayB m false l o = true) : awayB m' false l o = true := by
  rcases hm with ⟨rfl, rfl⟩ | ⟨rfl, rfl⟩ | ⟨rfl, rfl⟩
  · simp [awayB] at h
  · simp [awayB] at h ⊢; omega
  · simp [awayB]
theorem rise_one {f : Int} {a n : Nat} {m : Int} {S T : List UInt8} (hf : 0 ≤ f ∧ f ≤ 2) (h0 : 0 < a) (h1 : ((a + 1 : Nat) : Int) < infN f) (hn : n ≤ 800) (hm : m = 4 ∨ m = 0 ∨ m = 1 ∨ m = 3) (hS : ExpQ (awayB m false) (valA 3000 f a) n S) (hT : ExpQ (awayB m false) (valA 3000 f (a + 1)) n T) : Above T S := by
  have p0 : 0 < valA 3000 f a := Nat.lt_of_lt_of_le (Nat.pow_pos (by omega)) (valA_low hf h0)
  have hle := valA_mono 3000 f (by omega) (show a ≤ a + 1 by omega)
  obtain ⟨D, e, L, g, h⟩ := hS.some p0
  obtain ⟨D', e', L', g', h'⟩ := hT.some (by omega)
  obtain ⟨a1, a2⟩ := h.range hf h0 (by omega)
  obtain ⟨b1, b2⟩ := h'.range hf (by omega) h1
  exact Parted.above h h' hn a1 a2 b1 b2 (ExpR.order (aw_mono m hm) h h' hle)
theorem rise_mode {f : Int} {a n : Nat} {m m' : Int} {S T : List UInt8} (hf : 0 ≤ f ∧ f ≤ 2) (h0 : 0 < a) (h1 : (a : Int) < infN f) (hn : n ≤ 800) (hm : (m = 4 ∧ m' = 0) ∨ (m = 0 ∧ m' = 1) ∨ (m = 1 ∧ m' = 3)) (hS : ExpQ (awayB m false) (valA 3000 f a) n S) (hT : ExpQ (awayB m' false) (valA 3000 f a) n T) : Above T S := by
  have p0 : 0 < valA 3000 f a := Nat.lt_of_lt_of_le (Nat.pow_pos (by omega)) (valA_low hf h0)
  obtain ⟨D, e, L, g, h⟩ := hS.some p0
  obtain ⟨D', e', L', g', h'⟩ := hT.some p0
  obtain ⟨a1, a2⟩ := h.range hf h0 h1
  obtain ⟨b1, b2⟩ := h'.range hf h0 h1
  exact Parted.above h h' hn a1 a2 b1 b2 (ExpR.modes (aw_next m m' hm) h h')
theorem exp_some {f : Int} {a n : Nat} {m : Int} {S : List UInt8} (h : ExpQ (awayB m false) (valA 3000 f a) n S) : S ≠ [] := by
  rcases h with ⟨_, rfl⟩ | ⟨D, e, L, g, h⟩
  · simp
  · rw [h.text]; simp
end Go.Proofs.YtbkdaoicnobllabDoor
