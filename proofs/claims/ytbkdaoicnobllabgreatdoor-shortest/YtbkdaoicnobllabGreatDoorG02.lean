import Derived.Test.YtbkdaoicnobllabGreatDoorG01
import GoSem.Op.String
import Derived.Lib.ItoaLen
import Derived.WalkKit
import Derived.Test.YtbkdaoicnobllabGreatDoorG00
import Derived.Test.YtbkdaoicnobllabGreatDoorProg
import Derived.WalkSpells
import Derived.WalkLawsBesides
import Derived.Deep.QuietTactic
import Derived.BigQuiet

/- Plain mathematics: rounding keeps the order; rows of digits in the order of texts. -/
namespace Go.Proofs.YtbkdaoicnobllabGreatDoor

/-- A rounding that goes up goes up, too, where more is left. -/
def AwMono (aw : Int → Bool → Bool) : Prop := ∀ l l' o, 1 ≤ l → l ≤ l' → l' ≤ 3 → aw l o = true → aw l' o = true
theorem leftN_mono {V V' P : Nat} (h : V % P ≤ V' % P) : leftN V P ≤ leftN V' P := by
  unfold leftN; (repeat' split) <;> omega
theorem rndN_mono {aw : Int → Bool → Bool} (ha : AwMono aw) {V V' P : Nat} (h : V ≤ V') : rndN aw V P ≤ rndN aw V' P := by
  have hq : V / P ≤ V' / P := Nat.div_le_div_right h
  rcases Nat.lt_or_ge (V / P) (V' / P) with hlt | hge
  · have h1 : rndN aw V P ≤ V / P + 1 := by unfold rndN; split <;> omega
    have h2 := rndN_ge aw V' P
    omega
  · have he : V / P = V' / P := Nat.le_antisymm hq hge
    have hr : V % P ≤ V' % P := by
      have a := Nat.div_add_mod V P
      have b := Nat.div_add_mod V' P
      rw [he] at a
      omega
    have hl := leftN_mono hr
    have r1 := leftN_range V P
    have r2 := leftN_range V' P
    unfold rndN
    rw [he]
    by_cases g : leftN V P ≠ 0 ∧ aw (leftN V P) (V' / P % 2 == 1) = true
    · rw [if_pos g, if_pos ⟨by omega, ha _ _ _ (by omega) hl r2.2 g.2⟩]; exact Nat.le_refl _
    · rw [if_neg g]; split <;> omega
theorem rndN_aw {aw aw' : Int → Bool → Bool} (h : ∀ l o, 1 ≤ l → l ≤ 3 → aw l o = true → aw' l o = true) (V P : Nat) : rndN aw V P ≤ rndN aw' V P := by
  have r := leftN_range V P
  unfold rndN
  by_cases g : leftN V P ≠ 0 ∧ aw (leftN V P) (V / P % 2 == 1) = true
  · rw [if_pos g, if_pos ⟨g.1, h _ _ (by omega) r.2 g.2⟩]; exact Nat.le_refl _
  · rw [if_neg g]; split <;> omega
theorem rndN_hi (aw : Int → Bool → Bool) {V k m : Nat} (hk : k ≤ m) (h : V < 10 ^ m) : rndN aw V (10 ^ k) * 10 ^ k ≤ 10 ^ m := by
  have hp : 0 < 10 ^ k := Nat.pow_pos (by omega)
  have e : 10 ^ m = 10 ^ (m - k) * 10 ^ k := by rw [← Nat.pow_add]; congr 1; omega
  rw [e] at h ⊢
  exact Nat.mul_le_mul_right _ (rndN_le aw V _ _ h hp)
theorem rndN_lo (aw : Int → Bool → Bool) {V k m : Nat} (hk : k ≤ m) (h : 10 ^ m ≤ V) : 10 ^ m ≤ rndN aw V (10 ^ k) * 10 ^ k := by
  have hp : 0 < 10 ^ k := Nat.pow_pos (by omega)
  have e : 10 ^ m = 10 ^ (m - k) * 10 ^ k := by rw [← Nat.pow_add]; congr 1; omega
  rw [e] at h ⊢
  refine Nat.mul_le_mul_right _ (Nat.le_trans ?_ (rndN_ge aw V _))
  exact (Nat.le_div_iff_mul_le hp).2 h
theorem val_lt {L : List Nat} (h : Digs L) (K : Nat) (e : Int) (he : -(K : Int) ≤ e) : val K L e < 10 ^ (e + L.length + K).toNat := by
  have := val_hi h K e (e + L.length) (by omega) he
  rcases Nat.div_eq_zero_iff.1 this with g | g
  · have : 0 < 10 ^ (e + L.length + K).toNat := Nat.pow_pos (by omega)
    omega
  · exact g
theorem val_ge {L : List Nat} (h : Headed L) (hl : 0 < L.length) (K : Nat) (e : Int) (he : -(K : Int) ≤ e) : 10 ^ (e + L.length - 1 + K).toNat ≤ val K L e := by
  unfold val
  refine Nat.le_trans ?_ (Nat.mul_le_mul_right _ (h.lo hl))
  rw [← Nat.pow_add]
  exact Nat.pow_le_pow_right (by omega) (by omega)
theorem top_leq {L M : List Nat} {e g : Int} {K : Nat} (h2 : Digs M) (d1 : Headed L) (l1 : 0 < L.length) (k1 : -(K : Int) ≤ e) (k2 : -(K : Int) ≤ g) (h : val K L e ≤ val K M g) : e + L.length ≤ g + M.length := by
  have a := val_ge d1 l1 K e k1
  have b := val_lt h2 K g k2
  apply Int.not_lt.1
  intro hlt
  have : 10 ^ (g + M.length + K).toNat ≤ 10 ^ (e + L.length - 1 + K).toNat := Nat.pow_le_pow_right (by omega) (by omega)
  omega
/-- The rounded numbers are in the order of the numbers. -/
theorem rnd_order {aw : Int → Bool → Bool} (ha : AwMono aw) {K n : Nat} {D D' : List Nat} {e e' : Int} (h1 : Digs D) (h2 : Digs D') (d1 : Headed D) (d2 : Headed D') (l1 : 0 < D.length) (l2 : 0 < D'.length) (k1 : -(K : Int) ≤ e) (k2 : -(K : Int) ≤ e') (h : val K D e ≤ val K D' e') :
    rndN aw (val K D e) (10 ^ (e + D.length - 1 - n + K).toNat) * 10 ^ (e + D.length - 1 - n + K).toNat ≤ rndN aw (val K D' e') (10 ^ (e' + D'.length - 1 - n + K).toNat) * 10 ^ (e' + D'.length - 1 - n + K).toNat := by
  have ht := top_leq h2 d1 l1 k1 k2 h
  rcases (by omega : e + D.length = e' + D'.length ∨ e + D.length < e' + D'.length) with he | hlt
  · rw [he]
    exact Nat.mul_le_mul_right _ (rndN_mono ha h)
  · refine Nat.le_trans (rndN_hi aw (m := (e + D.length + K).toNat) (by omega) (val_lt h1 K e k1)) ?_
    refine Nat.le_trans ?_ (rndN_lo aw (m := (e' + D'.length - 1 + K).toNat) (by omega) (val_ge d2 l2 K e' k2))
    exact Nat.pow_le_pow_right (by omega) (by omega)

/-- The lower m digits of a number, as bytes. -/
def rowB : Nat → Nat → List UInt8
  | _, 0 => []
  | X, m + 1 => rowB (X / 10) m ++ [UInt8.ofNat (48 + X % 10)]
theorem rowB_length (X m : Nat) : (rowB X m).length = m := by
  induction m generalizing X with
  | zero => rfl
  | succ m ih => simp [rowB, ih]
theorem row_num {L : List Nat} (h : Digs L) (K : Nat) (e hi : Int) (he : -(K : Int) ≤ e) (m : Nat) (hm : -(K : Int) ≤ hi + 1 - m) : rowT L e hi m = rowB (val K L e / 10 ^ (hi + 1 - m + K).toNat) m := by
  induction m with
  | zero => rfl
  | succ m ih =>
    rw [rowT, rowB, ih (by omega), Nat.div_div_eq_div_mul, ← Nat.pow_succ, ← dig_val h K e (hi - m) he (by omega)]
    rw [show (hi + 1 - ((m + 1 : Nat) : Int) + K).toNat.succ = (hi + 1 - m + K).toNat from by omega, show hi + 1 - ((m + 1 : Nat) : Int) + K = hi - m + K from by omega]
theorem less_snoc (a b : List UInt8) (x y : UInt8) (h : a.length = b.length) : Op.bytesLess (a ++ [x]) (b ++ [y]) = (Op.bytesLess a b || (decide (a = b) && decide (x < y))) := by
  induction a generalizing b with
  | nil =>
    have : b = [] := List.length_eq_zero_iff.1 h.symm
    subst this
    simp [Op.bytesLess]
  | cons c a ih =>
    cases b with
    | nil => simp at h
    | cons d b =>
      simp only [List.cons_append, Op.bytesLess]
      rw [ih b (by simpa using h)]
      by_cases hcd : c = d
      · subst hcd; simp
      · have : (c == d) = false := by simpa using hcd
        rw [this]; simp [hcd]
theorem rowB_order (m X Y : Nat) (hX : X < 10 ^ m) (hY : Y < 10 ^ m) (h : X ≤ Y) : Op.bytesLess (rowB Y m) (rowB X m) = false ∧ (rowB Y m = rowB X m → Y = X) := by
  induction m generalizing X Y with
  | zero =>
    rw [Nat.pow_zero] at hX hY
    exact ⟨rfl, fun _ => by omega⟩
  | succ m ih =>
    rw [Nat.pow_succ] at hX hY
    have h10 : X / 10 ≤ Y / 10 := Nat.div_le_div_right h
    obtain ⟨i1, i2⟩ := ih (X / 10) (Y / 10) (by omega) (by omega) h10
    have hb : ∀ a b : Nat, a < 10 → b < 10 → (UInt8.ofNat (48 + a) < UInt8.ofNat (48 + b) ↔ a < b) := by
      intro a b ha hb
      rw [UInt8.lt_iff_toNat_lt]
      simp
      omega
    have hb2 : ∀ a b : Nat, a < 10 → b < 10 → UInt8.ofNat (48 + a) = UInt8.ofNat (48 + b) → a = b := by
      intro a b ha hb hab
      have := congrArg UInt8.toNat hab
      simp at this
      omega
    constructor
    · rw [rowB, rowB, less_snoc _ _ _ _ (by rw [rowB_length, rowB_length]), i1]
      simp only [Bool.false_or, Bool.and_eq_false_iff, decide_eq_false_iff_not]
      by_cases hq : rowB (Y / 10) m = rowB (X / 10) m
      · refine .inr (fun hlt => ?_)
        have h3 := i2 hq
        have h4 := (hb _ _ (by omega) (by omega)).1 hlt
        omega
      · exact .inl hq
    · intro hq
      rw [rowB, rowB] at hq
      have h5 := List.append_inj hq (by rw [rowB_length, rowB_length])
      have h6 := i2 h5.1
      have h7 := hb2 (Y % 10) (X % 10) (by omega) (by omega) (List.cons.inj h5.2).1
      omega
/-- Rows of as many digits, in the order of the numbers. -/
theorem rows_order {L M : List Nat} {e g top : Int} {K n : Nat} (h1 : Digs L) (h2 : Digs M) (k1 : -(K : Int) ≤ e) (k2 : -(K : Int) ≤ g) (t1 : e + L.length = top + 1) (t2 : g + M.length = top + 1) (hn : -(K : Int) ≤ top - n) (h : val K L e ≤ val K M g) :
    Op.bytesLess (rowT M g top (n + 1)) (rowT L e top (n + 1)) = false := by
  rw [row_num h1 K e top k1 (n + 1) (by omega), row_num h2 K g top k2 (n + 1) (by omega)]
  have b1 := val_lt h1 K e k1
  have b2 := val_lt h2 K g k2
  rw [t1] at b1
  rw [t2] at b2
  have hs : (top + 1 + K).toNat = (n + 1) + (top + 1 - ((n + 1 : Nat) : Int) + K).toNat := by omega
  rw [hs, Nat.pow_add] at b1 b2
  have hp : 0 < 10 ^ (top + 1 - ((n + 1 : Nat) : Int) + K).toNat := Nat.pow_pos (by omega)
  exact (rowB_order (n + 1) _ _ ((Nat.div_lt_iff_lt_mul hp).2 b1) ((Nat.div_lt_iff_lt_mul hp).2 b2) (Nat.div_le_div_right h)).1
end Go.Proofs.YtbkdaoicnobllabGreatDoor

/- Plain mathematics: digits and power of a text with a power of ten. -/
namespace Go.Proofs.YtbkdaoicnobllabGreatDoor

def stepE (s : Nat × Bool) (c : UInt8) : Nat × Bool := if c = 45 then (s.1, true) else (10 * s.1 + (c.toNat - 48), s.2)
/-- The power behind the e, so many bytes of it. -/
def foldE (B : List UInt8) (k : Nat) : Nat × Bool := (B.take k).foldl stepE (0, false)
theorem take_next (B : List UInt8) (k : Nat) (h : k < B.length) : B.take (k + 1) = B.take k ++ [B[k]] := by simp
theorem foldE_succ (B : List UInt8) (k : Nat) (h : k < B.length) : foldE B (k + 1) = stepE (foldE B k) B[k] := by
  unfold foldE; rw [take_next B k h, List.foldl_append]; rfl
def PowB (B : List UInt8) : Prop := ∀ c ∈ B, c = 45 ∨ (48 ≤ c.toNat ∧ c.toNat ≤ 57)
theorem foldE_bd (B : List UInt8) (hB : PowB B) (k : Nat) (h : k ≤ B.length) : (foldE B k).1 < 10 ^ k := by
  induction k with
  | zero => simp [foldE]
  | succ k ih =>
    have := ih (by omega)
    rw [foldE_succ B k (by omega), Nat.pow_succ]
    unfold stepE
    split
    · omega
    · rcases hB B[k] (List.getElem_mem _) with h | h
      · contradiction
      · simp only; omega
def expV (s : Nat × Bool) : Int := if s.2 = true then -(s.1 : Int) else s.1
/-- The digits ahead of the e, of so many bytes. -/
def keptD (A : List UInt8) (k : Nat) : List UInt8 := (A.take k).filter (fun c => c != 46)
theorem keptD_point (A : List UInt8) (k : Nat) (h : k < A.length) (hc : A[k] = 46) : keptD A (k + 1) = keptD A k := by
  unfold keptD; rw [take_next A k h, List.filter_append, hc]; simp
theorem keptD_digit (A : List UInt8) (k : Nat) (h : k < A.length) (hc : A[k] ≠ 46) : keptD A (k + 1) = keptD A k ++ [A[k]] := by
  unfold keptD; rw [take_next A k h, List.filter_append]; simp [hc]
theorem keptD_len (A : List UInt8) (k : Nat) (h : k ≤ A.length) : (keptD A k).length ≤ k := by
  unfold keptD
  refine Nat.le_trans (List.length_filter_le _ _) ?_
  rw [List.length_take]; omega
theorem rowT_byte {L : List Nat} (h : Digs L) (e hi : Int) (m : Nat) : ∀ c ∈ rowT L e hi m, 48 ≤ c.toNat ∧ c.toNat ≤ 57 := by
  induction m with
  | zero => intro c hc; simp [rowT] at hc
  | succ m ih =>
    intro c hc
    rw [rowT] at hc
    rcases List.mem_append.1 hc with g | g
    · exact ih c g
    · have := dig_le h e (hi - m)
      rw [List.mem_singleton.1 g]
      simp; omega
theorem row_filter {L : List Nat} (h : Digs L) (e hi : Int) (m : Nat) : (rowT L e hi m).filter (fun c => c != 46) = rowT L e hi m := by
  rw [List.filter_eq_self]
  intro c hc
  have := rowT_byte h e hi m c hc
  simp only [bne_iff_ne, ne_eq]
  rintro rfl
  simp at this
theorem sci_kept {L : List Nat} (h : Digs L) (e top : Int) (n : Nat) : keptD (sciT L e top n) (sciT L e top n).length = rowT L e top (n + 1) := by
  unfold keptD
  rw [List.take_length]
  unfold sciT
  rw [List.filter_append, row_filter h, rowT_cons L e top n]
  have h1 : rowT L e top 1 = [UInt8.ofNat (48 + dig L e top)] := by simp [rowT]
  rw [h1]
  by_cases hn : n = 0
  · subst hn; simp [rowT]
  · rw [if_neg hn, List.filter_cons]
    simp [row_filter h]
theorem sci_noe {L : List Nat} (h : Digs L) (e top : Int) (n : Nat) : ∀ c ∈ sciT L e top n, c ≠ 101 := by
  intro c hc
  unfold sciT at hc
  rcases List.mem_append.1 hc with g | g
  · have := rowT_byte h _ _ _ c g
    rintro rfl; simp at this
  · by_cases hn : n = 0
    · rw [if_pos hn] at g; simp at g
    · rw [if_neg hn] at g
      rcases List.mem_cons.1 g with rfl | g
      · decide
      · have := rowT_byte h _ _ _ c g
        rintro rfl; simp at this
def powOK (t : Int) : Bool := ((Lib.itoa t).all fun c => c == 45 || (decide (48 ≤ c.toNat) && decide (c.toNat ≤ 57))) && decide ((Lib.itoa t).length ≤ 8) && decide (expV (foldE (Lib.itoa t) (Lib.itoa t).length) = t)
theorem pow_all : ∀ i : Fin 2001, powOK ((i.val : Int) - 1000) = true := by decide +kernel
theorem itoa_pow (t : Int) (h1 : -1000 ≤ t) (h2 : t ≤ 1000) : PowB (Lib.itoa t) ∧ (Lib.itoa t).length ≤ 8 ∧ expV (foldE (Lib.itoa t) (Lib.itoa t).length) = t := by
  have h := pow_all ⟨(t + 1000).toNat, by omega⟩
  rw [show (((⟨(t + 1000).toNat, by omega⟩ : Fin 2001).val : Nat) : Int) - 1000 = t from by simp; omega] at h
  unfold powOK at h
  simp only [Bool.and_eq_true, decide_eq_true_eq, List.all_eq_true, Bool.or_eq_true, beq_iff_eq] at h
  exact ⟨h.1.1, h.1.2, h.2⟩
end Go.Proofs.YtbkdaoicnobllabGreatDoor

/- Plain mathematics: the texts of numbers in their order. -/
namespace Go.Proofs.YtbkdaoicnobllabGreatDoor

theorem ExpR.order {aw : Int → Bool → Bool} {V V' n : Nat} {D L D' L' : List Nat} {e g e' g' : Int} {T T' : List UInt8} (ha : AwMono aw) (h : ExpR aw V n D e L g T) (h' : ExpR aw V' n D' e' L' g' T') (hv : V ≤ V') : Go.Proofs.YtbkdaoicnobllabGreatDoor.val 3000 L g ≤ Go.Proofs.YtbkdaoicnobllabGreatDoor.val 3000 L' g' := by
  have := rnd_order ha (n := n) (K := 3000) h.digs h'.digs h.headed h'.headed h.pos h'.pos h.lo h'.lo (by rw [h.val, h'.val]; exact hv)
  rw [h.val, h'.val] at this
  rw [h.val', h'.val']; exact this
theorem ExpR.modes {aw aw' : Int → Bool → Bool} {V n : Nat} {D L D' L' : List Nat} {e g e' g' : Int} {T T' : List UInt8} (ha : ∀ l o, 1 ≤ l → l ≤ 3 → aw l o = true → aw' l o = true) (h : ExpR aw V n D e L g T) (h' : ExpR aw' V n D' e' L' g' T') : Go.Proofs.YtbkdaoicnobllabGreatDoor.val 3000 L g ≤ Go.Proofs.YtbkdaoicnobllabGreatDoor.val 3000 L' g' := by
  have ht := top_same h.digs h'.digs h.headed h'.headed h.pos h'.pos (K := 3000) h.lo h'.lo (h.val.trans h'.val.symm)
  rw [h.val', h'.val', show e' + (D'.length : Int) - 1 - n + (3000 : Nat) = e + D.length - 1 - n + (3000 : Nat) from by omega]
  exact Nat.mul_le_mul_right _ (rndN_aw ha _ _)
/-- What 'parts' makes of a text. -/
structure Parted (T : List UInt8) (d : List UInt8) (e : Int) : Prop where
  ex : ∃ A B, T = A ++ 101 :: B ∧ (∀ c ∈ A, c ≠ 101) ∧ A.length ≤ 3000 ∧ PowB B ∧ B.length ≤ 8 ∧ d = keptD A A.length ∧ e = expV (foldE B B.length) - ((keptD A A.length).length - 1 : Nat)
/-- The text is not below the other. -/
def Above (T S : List UInt8) : Prop := ∃ a e b f, Parted T a e ∧ Parted S b f ∧ (f < e ∨ (e = f ∧ Op.bytesLess a b = false))
theorem ExpR.parted {aw : Int → Bool → Bool} {V n : Nat} {D L : List Nat} {e g : Int} {T : List UInt8} (h : ExpR aw V n D e L g T) (hn : n ≤ 800) (h1 : -1000 ≤ g + L.length - 1) (h2 : g + L.length - 1 ≤ 1000) : Parted T (rowT L g (g + L.length - 1) (n + 1)) (g + L.length - 1 - n) := by
  obtain ⟨p1, p2, p3⟩ := itoa_pow _ h1 h2
  have hk := sci_kept h.digs' g (g + L.length - 1) n
  refine ⟨sciT L g (g + L.length - 1) n, Lib.itoa (g + L.length - 1), h.text, sci_noe h.digs' _ _ _, by have := sciT_length L g (g + L.length - 1) n; omega, p1, p2, hk.symm, ?_⟩
  rw [hk, p3, rowT_length]; omega
theorem Parted.above {aw aw' : Int → Bool → Bool} {V V' n : Nat} {D L D' L' : List Nat} {e g e' g' : Int} {T T' : List UInt8} (h : ExpR aw V n D e L g T) (h' : ExpR aw' V' n D' e' L' g' T') (hn : n ≤ 800) (h1 : -1000 ≤ g + L.length - 1) (h2 : g + L.length - 1 ≤ 1000) (h1' : -1000 ≤ g' + L'.length - 1) (h2' : g' + L'.length - 1 ≤ 1000) (hv : val 3000 L g ≤ val 3000 L' g') : Above T' T := by
  refine ⟨_, _, _, _, h'.parted hn h1' h2', h.parted hn h1 h2, ?_⟩
  have ht := top_leq h'.digs' h.headed' h.pos' h.lo' h'.lo' hv
  rcases (by omega : g + L.length - 1 < g' + L'.length - 1 ∨ g + (L.length : Int) - 1 = g' + L'.length - 1) with hlt | he
  · exact .inl (by omega)
  · refine .inr ⟨by omega, ?_⟩
    rw [← he]
    exact rows_order h.digs' h'.digs' h.lo' h'.lo' (by omega) (by omega) h.lon hv
/-- Where the first digit of a number rounded stands. -/
theorem ExpR.tops {aw : Int → Bool → Bool} {V n : Nat} {D L : List Nat} {e g : Int} {T : List UInt8} (h : ExpR aw V n D e L g T) : e + D.length ≤ g + L.length ∧ g + L.length ≤ e + D.length + 1 := by
  have a := val_lt h.digs 3000 e h.lo
  have b := val_ge h.headed h.pos 3000 e h.lo
  rw [h.val] at a b
  have c := rndN_hi aw (k := (e + D.length - 1 - n + (3000 : Nat)).toNat) (m := (e + D.length + (3000 : Nat)).toNat) (by omega) a
  have d := rndN_lo aw (k := (e + D.length - 1 - n + (3000 : Nat)).toNat) (m := (e + D.length - 1 + (3000 : Nat)).toNat) (by omega) b
  rw [← h.val'] at c d
  have c' := val_ge h.headed' h.pos' 3000 g h.lo'
  have d' := val_lt h.digs' 3000 g h.lo'
  have hl := h.lo
  have hl' := h.lo'
  have hp := h.pos
  have hp' := h.pos'
  constructor
  · apply Int.not_lt.1; intro hlt
    have : 10 ^ (g + L.length + (3000 : Nat)).toNat ≤ 10 ^ (e + D.length - 1 + (3000 : Nat)).toNat := Nat.pow_le_pow_right (by omega) (by omega)
    omega
  · apply Int.not_lt.1; intro hlt
    have : 10 ^ (e + D.length + (3000 : Nat)).toNat < 10 ^ (g + L.length - 1 + (3000 : Nat)).toNat := Nat.pow_lt_pow_right (by omega) (by omega)
    omega
end Go.Proofs.YtbkdaoicnobllabGreatDoor

/- Rows of small numbers in memory. Nothing of the program but the model. -/
namespace Go.Proofs.YtbkdaoicnobllabGreatDoor
open Go.RowKit

theorem hid {p : Prop} (h : p) : Hid p := h
theorem ret_int {k : IntKind} {a b : Int} (h : a = b) : Ending.returned (.int k a) = .returned (.int k b) := by rw [h]

/-- A slice value that reads as the row L. -/
def Row (w : World) (v : Value) (L : List Nat) : Prop :=
  (L = [] ∧ v = .slice none 0 0) ∨
  ∃ b off cap, v = .slice (some ⟨b, off, none⟩) L.length cap ∧ L.length ≤ cap ∧ cap ≤ maxLen ∧ b < w.heap.size ∧ ∀ j, j < L.length → w.cell? ⟨b, off + j, none⟩ = some (.int .i64 (L.getD j 0 : Nat))

theorem Row.nil (w : World) : Row w (.slice none 0 0) [] := .inl ⟨rfl, rfl⟩
theorem Row.below {w w' : World} {v : Value} {L : List Nat} {B : Nat} (h : Row w v L) (hb : Below B w w') (hB : w.heap.size ≤ B) : Row w' v L := by
  rcases h with h | ⟨b, off, cap, rfl, h1, h2, h3, h4⟩
  · exact .inl h
  · exact .inr ⟨b, off, cap, rfl, h1, h2, by have := hb.size; omega, fun j hj => (hb.cell (p := ⟨b, off + j, none⟩) (by show b < B; omega)).trans (h4 j hj)⟩

def ints (O : List Nat) : List Value := O.map fun d => Value.int .i64 (d : Nat)
theorem ints_getElem? (O : List Nat) (j : Nat) : (ints O)[j]? = if j < O.length then some (.int .i64 (O.getD j 0 : Nat)) else none := by
  unfold ints
  rw [List.getElem?_map]
  split
  · rename_i h; rw [List.getElem?_eq_getElem h, List.getD_eq_getElem?_getD, List.getElem?_eq_getElem h]; rfl
  · rename_i h; rw [List.getElem?_eq_none (by omega)]; rfl
theorem ints_append (a b : List Nat) : ints (a ++ b) = ints a ++ ints b := by simp [ints]
theorem ints_length (a : List Nat) : (ints a).length = a.length := by simp [ints]
theorem ints_one (d : Nat) : ints [d] = [Value.int .i64 (d : Nat)] := rfl
theorem ints_oneCell (a : List Nat) : ∀ u ∈ ints a, u.oneCell' = true := by
  intro u hu; simp [ints] at hu; obtain ⟨d, _, rfl⟩ := hu; rfl
theorem ints_set (a : List Nat) (j d : Nat) : (ints a).set j (.int .i64 (d : Nat)) = ints (a.set j d) := by simp [ints, List.map_set]
theorem ints_replicate (n : Nat) : List.replicate n (Value.int .i64 0) = ints (List.replicate n 0) := by simp [ints]
/-- A row that the call owns. -/
def Own (w : World) (base : Nat) (v : Value) (O : List Nat) : Prop := w.ownsRow base 3 1 v O.length (ints O)
theorem Own.nil (w : World) (base : Nat) : Own w base (.slice none 0 0) [] := World.ownsRow_nil w base _ _
theorem Own.row {w : World} {base : Nat} {v : Value} {O : List Nat} (h : Own w base v O) : Row w v O := by
  unfold Own at h
  rcases h.2 with ⟨rfl, h0⟩ | ⟨g, cap, cur, rfl, hb, hg, h1, h2, h3, h4⟩
  · exact .inl ⟨List.length_eq_zero_iff.1 h0, rfl⟩
  · refine .inr ⟨g, 0, cap, rfl, h1, h2, (Array.getElem?_eq_some_iff.1 hg).1, fun j hj => ?_⟩
    rw [Nat.zero_add, h.cellAt j (by omega), ints_getElem?, if_pos hj]

theorem Own.snoc {w : World} {base : Nat} {v : Value} {O : List Nat} {k : Nat} {z : Int} {d : Nat} (h : w.ownsRow base 3 1 v (k + 1) (ints O ++ [.int .i64 z])) (hO : O.length = k) (hz : z = (d : Nat)) : Own w base v (O ++ [d]) := by
  subst hz; unfold Own; rw [ints_append]; simp only [List.length_append, List.length_singleton]; rw [hO]; exact h
theorem Own.owns {w : World} {base : Nat} {v : Value} {O : List Nat} (h : Own w base v O) : w.ownsRow base 3 1 v O.length (ints O) := h
theorem Own.below {w w' : World} {base : Nat} {v : Value} {O : List Nat} (h : Own w base v O) {B : Nat} (hb : Below B w w') (hB : w.heap.size ≤ B) : Own w' base v O := by
  refine ⟨h.1, ?_⟩
  rcases h.2 with h2 | ⟨g, cap, cur, hv, hg, hh, r⟩
  · exact .inl h2
  · exact .inr ⟨g, cap, cur, hv, hg, by rw [hb.block g (Nat.lt_of_lt_of_le (Array.getElem?_eq_some_iff.1 hh).1 hB)]; exact hh, r⟩

theorem Own.form {w : World} {base : Nat} {v : Value} {O : List Nat} (h : Own w base v O) :
    (O = [] ∧ v = .slice none 0 0) ∨ ∃ g cap, v = .slice (some ⟨g, 0, none⟩) O.length cap ∧ base ≤ g ∧ g < w.heap.size ∧ O.length ≤ cap ∧ cap ≤ maxLen := by
  rcases h.2 with ⟨rfl, h0⟩ | ⟨g, cap, cur, rfl, hb, hg, h1, h2, _⟩
  · exact .inl ⟨List.length_eq_zero_iff.1 h0, rfl⟩
  · exact .inr ⟨g, cap, rfl, hb, (Array.getElem?_eq_some_iff.1 hg).1, h1, h2⟩
theorem Own.cell {w : World} {base g cap n : Nat} {O : List Nat} (h : Own w base (.slice (some ⟨g, 0, none⟩) n cap) O) (hn : O.length = n) (j : Nat) (hj : j < n) : w.cell? ⟨g, j, none⟩ = some (.int .i64 (O.getD j 0 : Nat)) := by
  unfold Own at h; rw [hn] at h
  rw [h.cellAt j (by omega), ints_getElem?, if_pos (by omega)]
theorem Own.frozen {w : World} {base g cap n : Nat} {O : List Nat} (h : Own w base (.slice (some ⟨g, 0, none⟩) n cap) O) (hn : O.length = n) (j : Nat) : w.frozen? ⟨g, j, none⟩ = false := by
  unfold Own at h; rw [hn] at h
  exact h.frozenAt j
theorem Own.store {w : World} {base g cap n : Nat} {O : List Nat} (h : Own w base (.slice (some ⟨g, 0, none⟩) n cap) O) (hn : O.length = n) (j d : Nat) : Own (w.setCell ⟨g, j, none⟩ (.int .i64 (d : Nat))) base (.slice (some ⟨g, 0, none⟩) n cap) (O.set j d) := by
  unfold Own at h ⊢; rw [hn] at h; rw [List.length_set, hn, ← ints_set]
  exact (h.stored j _).1

theorem Row.setCell {w : World} {v : Value} {L : List Nat} (h : Row w v L) (a : Addr) (u : Value) (hne : v.ownBlock ≠ some a.block) : Row (w.setCell a u) v L := by
  rcases h with h | ⟨b, off, cap, rfl, h1, h2, h3, h4⟩
  · exact .inl h
  · refine .inr ⟨b, off, cap, rfl, h1, h2, by simpa [World.setCell] using h3, fun j hj => ?_⟩
    rw [← h4 j hj]
    exact World.cell?_of_block (Below.heap_setCell w a u b (fun e => hne (by simp [Value.ownBlock, e])))
theorem Row.form {w : World} {v : Value} {L : List Nat} (h : Row w v L) : (L = [] ∧ v = .slice none 0 0) ∨ ∃ b off cap, v = .slice (some ⟨b, off, none⟩) L.length cap ∧ L.length ≤ cap ∧ cap ≤ maxLen ∧ b < w.heap.size := by
  rcases h with h | ⟨b, off, cap, rfl, h1, h2, h3, h4⟩
  · exact .inl h
  · exact .inr ⟨b, off, cap, rfl, h1, h2, h3⟩
theorem Row.isSlice {w : World} {v : Value} {L : List Nat} (h : Row w v L) : ∃ ao cap, v = .slice ao L.length cap := by
  rcases h.form with ⟨rfl, rfl⟩ | ⟨b, off, cap, rfl, _⟩
  · exact ⟨_, _, rfl⟩
  · exact ⟨_, _, rfl⟩
theorem Row.lt {w : World} {v : Value} {L : List Nat} (h : Row w v L) (g : Nat) (hg : v.ownBlock = some g) : g < w.heap.size := by
  rcases h.form with ⟨rfl, rfl⟩ | ⟨b, off, cap, rfl, _, _, h3⟩
  · simp [Value.ownBlock] at hg
  · simp [Value.ownBlock] at hg; omega

/-- A decimal that a call hands back: of at most 'len' digits, its places from 'lo' to below 'hi', its row in a block of which 'own' holds, its number times 10^K being V K. -/
structure Out (w : World) (v : Value) (L : List Nat) (e : Int) (len : Nat) (lo hi : Int) (own : Nat → Prop) (V : Nat → Nat) : Prop where
  row : Row w v L
  own : ∀ g, v.ownBlock = some g → own g
  norm : Norm L
  len : L.length ≤ len
  nil : L = [] → e = 0
  ne : L ≠ [] → lo ≤ e ∧ e + L.length ≤ hi
  val : ∀ K : Nat, -(K : Int) ≤ lo → val K L e = V K
theorem Out.setCell {w : World} {v : Value} {L : List Nat} {e : Int} {len : Nat} {lo hi : Int} {own : Nat → Prop} {V : Nat → Nat} (h : Out w v L e len lo hi own V) (a : Addr) (u : Value) (hne : ¬ own a.block) : Out (w.setCell a u) v L e len lo hi own V :=
  ⟨h.row.setCell a u (fun hh => hne (h.own _ hh)), h.own, h.norm, h.len, h.nil, h.ne, h.val⟩
theorem Out.below {w w' : World} {v : Value} {L : List Nat} {e : Int} {len : Nat} {lo hi : Int} {own : Nat → Prop} {V : Nat → Nat} (h : Out w v L e len lo hi own V) {B : Nat} (hb : Below B w w') (hB : w.heap.size ≤ B) : Out w' v L e len lo hi own V :=
  ⟨h.row.below hb hB, h.own, h.norm, h.len, h.nil, h.ne, h.val⟩
theorem Out.mono {w : World} {v : Value} {L : List Nat} {e : Int} {len len' : Nat} {lo hi lo' hi' : Int} {own own' : Nat → Prop} {V V' : Nat → Nat} (h : Out w v L e len lo hi own V) (h1 : len ≤ len') (h2 : lo' ≤ lo) (h3 : hi ≤ hi') (h4 : ∀ g, own g → own' g) (h5 : ∀ K : Nat, -(K : Int) ≤ lo' → V K = V' K) : Out w v L e len' lo' hi' own' V' :=
  ⟨h.row, fun g hg => h4 g (h.own g hg), h.norm, Nat.le_trans h.len h1, h.nil, fun hh => ⟨Int.le_trans h2 (h.ne hh).1, Int.le_trans (h.ne hh).2 h3⟩, fun K hK => (h.val K (Int.le_trans hK h2)).trans (h5 K hK)⟩
theorem Out.bounds {w : World} {v : Value} {L : List Nat} {e : Int} {len : Nat} {lo hi : Int} {own : Nat → Prop} {V : Nat → Nat} (h : Out w v L e len lo hi own V) (M : Int) (hl : -M ≤ lo) (hh : hi ≤ M) (h0 : 0 ≤ M) : -M ≤ e ∧ e ≤ M := by
  by_cases hL : L = []
  · rw [h.nil hL]; omega
  · have := h.ne hL; omega

theorem keep_cell {w w' : World} {a : Addr} {v : Value} (hb : Below w.heap.size w w') (h : w.cell? a = some v) : w'.cell? a = some v :=
  (hb.cell (p := a) (World.block_lt_of_cell? w a h)).trans h
end Go.Proofs.YtbkdaoicnobllabGreatDoor

namespace Go.Proofs.YtbkdaoicnobllabGreatDoor
open Go.RowKit

theorem Tryz.info_int : (Tryz.prog.info? 3).map (fun i => (i.zero, i.size, i.bytes)) = some (some (.int .i64 0), 1, 8) := by kernel_rfl
theorem two_cells {w : World} {B : Nat} {x y x0 y0 : Value} (c0 : w.cell? ⟨B, 0, none⟩ = some x0) (c1 : w.cell? ⟨B, 1, none⟩ = some y0) :
    ((w.setCell ⟨B, 0, none⟩ x).setCell ⟨B, 1, none⟩ y).cell? ⟨B, 0, none⟩ = some x ∧ ((w.setCell ⟨B, 0, none⟩ x).setCell ⟨B, 1, none⟩ y).cell? ⟨B, 1, none⟩ = some y := by
  constructor
  · rw [World.cell?_setCell_other _ _ _ _ (by simp)]
    exact World.cell?_setCell_same' _ _ _ (by rw [c0]; rfl)
  · exact World.cell?_setCell_same' _ _ _ (by rw [World.cell?_setCell_other _ _ _ _ (by simp), c1]; rfl)
theorem box4_below {w : World} {o1 o2 : Obj} : Below w.heap.size w ((w.alloc o1).alloc o2) := ((Below.refl _ _).alloc (Nat.le_refl _) _).alloc (by simp) _
/-- Two stores into one block. -/
theorem below_two {B : Nat} {a w : World} (h : Below B a w) {b : Nat} (hb : B ≤ b) (x y : Value) : Below B a ((w.setCell ⟨b, 0, none⟩ x).setCell ⟨b, 1, none⟩ y) := (h.setCell (p := ⟨b, 0, none⟩) hb x).setCell (p := ⟨b, 1, none⟩) hb y
end Go.Proofs.YtbkdaoicnobllabGreatDoor

/- Plain mathematics: the bit of the sign. -/
namespace Go.Proofs.YtbkdaoicnobllabGreatDoor
open Go.RowKit

theorem and_top (i y : Nat) (h : y < 2 ^ i) : y &&& 2 ^ i = 0 := by
  apply Nat.eq_of_testBit_eq
  intro j
  rw [Nat.testBit_and, Nat.testBit_two_pow, Nat.zero_testBit]
  by_cases hj : i = j
  · subst hj; rw [Nat.testBit_lt_two_pow h]; rfl
  · simp [hj]
theorem and_top2 (i y : Nat) (h : y < 2 ^ i) : (2 ^ i + y) &&& 2 ^ i = 2 ^ i := by
  apply Nat.eq_of_testBit_eq
  intro j
  rw [Nat.testBit_and, Nat.testBit_two_pow]
  by_cases hj : i = j
  · subst hj; rw [Nat.testBit_two_pow_add_eq, Nat.testBit_lt_two_pow h]; rfl
  · simp [hj]
theorem xor_top (i y : Nat) (h : y < 2 ^ i) : (2 ^ i + y) ^^^ 2 ^ i = y := by
  apply Nat.eq_of_testBit_eq
  intro j
  rw [Nat.testBit_xor, Nat.testBit_two_pow]
  rcases Nat.lt_trichotomy j i with hj | hj | hj
  · rw [Nat.testBit_two_pow_add_gt hj, show decide (i = j) = false from by simp; omega]; simp
  · subst hj; rw [Nat.testBit_two_pow_add_eq, Nat.testBit_lt_two_pow h]; simp
  · have h1 : 2 ^ i + y < 2 ^ j := by
      have : 2 ^ (i + 1) ≤ 2 ^ j := Nat.pow_le_pow_right (by omega) hj
      rw [Nat.pow_succ] at this; omega
    rw [Nat.testBit_lt_two_pow h1, Nat.testBit_lt_two_pow (x := y) (by omega)]; simp; omega
theorem ofInt_nat (n : Nat) (h : n < 18446744073709551616) : (BitVec.ofInt 64 (n : Int)).toNat = n := by
  rw [BitVec.ofInt_natCast, BitVec.toNat_ofNat]; exact Nat.mod_eq_of_lt h
theorem ofInt_neg (x : Int) (h1 : -9223372036854775808 ≤ x) (h2 : x < 0) : (BitVec.ofInt 64 x).toNat = (x + 18446744073709551616).toNat := by
  rw [BitVec.toNat_ofInt]
  have : x % ((2 ^ 64 : Nat) : Int) = x + 18446744073709551616 := by
    rw [show ((2 ^ 64 : Nat) : Int) = 18446744073709551616 from rfl]; omega
  rw [this]
/-- Neither the sign's bit nor what lies above it is set. -/
theorem sign_off (i : Nat) (hi : i ≤ 62) (x : Int) (h0 : 0 ≤ x) (h : x < ((2 ^ i : Nat) : Int)) : bits .and .i64 x ((2 ^ i : Nat) : Int) = 0 := by
  have hp : 2 ^ i ≤ 2 ^ 62 := Nat.pow_le_pow_right (by omega) hi
  obtain ⟨y, rfl⟩ : ∃ y : Nat, x = y := ⟨x.toNat, by omega⟩
  show IntKind.i64.wrap ((BitVec.ofInt 64 (y : Int) &&& BitVec.ofInt 64 ((2 ^ i : Nat) : Int)).toNat : Int) = _
  rw [BitVec.toNat_and, ofInt_nat y (by omega), ofInt_nat _ (by omega), and_top i y (by omega)]; rfl
theorem sign_on (i : Nat) (hi : i ≤ 62) (x : Int) (h0 : ((2 ^ i : Nat) : Int) ≤ x) (h : x < 2 * ((2 ^ i : Nat) : Int)) : bits .and .i64 x ((2 ^ i : Nat) : Int) = ((2 ^ i : Nat) : Int) ∧ bits .xor .i64 x ((2 ^ i : Nat) : Int) = x - ((2 ^ i : Nat) : Int) := by
  have hp : 2 ^ i ≤ 2 ^ 62 := Nat.pow_le_pow_right (by omega) hi
  obtain ⟨y, rfl⟩ : ∃ y : Nat, x = ((2 ^ i + y : Nat) : Int) := ⟨(x - ((2 ^ i : Nat) : Int)).toNat, by omega⟩
  have hy : y < 2 ^ i := by omega
  constructor
  · show IntKind.i64.wrap ((BitVec.ofInt 64 ((2 ^ i + y : Nat) : Int) &&& BitVec.ofInt 64 ((2 ^ i : Nat) : Int)).toNat : Int) = _
    rw [BitVec.toNat_and, ofInt_nat _ (by omega), ofInt_nat _ (by omega), and_top2 i y hy, IntKind.wrap_i64]
    generalize 2 ^ i = P at *
    omega
  · show IntKind.i64.wrap ((BitVec.ofInt 64 ((2 ^ i + y : Nat) : Int) ^^^ BitVec.ofInt 64 ((2 ^ i : Nat) : Int)).toNat : Int) = _
    rw [BitVec.toNat_xor, ofInt_nat _ (by omega), ofInt_nat _ (by omega), xor_top i y hy, IntKind.wrap_i64]
    generalize 2 ^ i = P at *
    omega
/-- The same of 64 bits. -/
theorem min_off (x : Int) (h0 : 0 ≤ x) (h : x ≤ 9223372036854775807) : bits .and .i64 x (-9223372036854775808) = 0 := by
  obtain ⟨y, rfl⟩ : ∃ y : Nat, x = y := ⟨x.toNat, by omega⟩
  show IntKind.i64.wrap ((BitVec.ofInt 64 (y : Int) &&& BitVec.ofInt 64 (-9223372036854775808)).toNat : Int) = _
  rw [BitVec.toNat_and, ofInt_nat y (by omega), show (BitVec.ofInt 64 (-9223372036854775808)).toNat = 2 ^ 63 from by decide, and_top 63 y (by omega)]; rfl
theorem min_on (x : Int) (h0 : -9223372036854775808 ≤ x) (h : x < 0) : bits .and .i64 x (-9223372036854775808) = -9223372036854775808 ∧ bits .xor .i64 x (-9223372036854775808) = x + 9223372036854775808 := by
  obtain ⟨y, hy⟩ : ∃ y : Nat, (y : Int) = x + 9223372036854775808 := ⟨(x + 9223372036854775808).toNat, by omega⟩
  have e1 : (BitVec.ofInt 64 x).toNat = 2 ^ 63 + y := by rw [ofInt_neg x h0 h]; omega
  have e2 : (BitVec.ofInt 64 (-9223372036854775808)).toNat = 2 ^ 63 := by decide
  constructor
  · show IntKind.i64.wrap ((BitVec.ofInt 64 x &&& BitVec.ofInt 64 (-9223372036854775808)).toNat : Int) = _
    rw [BitVec.toNat_and, e1, e2, and_top2 63 y (by omega)]; decide
  · show IntKind.i64.wrap ((BitVec.ofInt 64 x ^^^ BitVec.ofInt 64 (-9223372036854775808)).toNat : Int) = _
    rw [BitVec.toNat_xor, e1, e2, xor_top 63 y (by omega), IntKind.wrap_i64]
    omega
end Go.Proofs.YtbkdaoicnobllabGreatDoor

/- Natural numbers as rows of limbs, the lowest first. -/
namespace Go.Proofs.YtbkdaoicnobllabGreatDoor
open Go.RowKit

def nv : List Nat → Nat
  | [] => 0
  | d :: r => d + 1073741824 * nv r
def Lim (L : List Nat) : Prop := ∀ d, d ∈ L → d < 1073741824
theorem nv_append (a b : List Nat) : nv (a ++ b) = nv a + 1073741824 ^ a.length * nv b := by
  induction a with
  | nil => simp [nv]
  | cons d r ih =>
    simp only [List.cons_append, nv, ih, List.length_cons, Nat.pow_succ]
    rw [Nat.mul_add, Nat.mul_comm (1073741824 ^ r.length) 1073741824, Nat.mul_assoc, Nat.add_assoc]
theorem nv_snoc (a : List Nat) (d : Nat) : nv (a ++ [d]) = nv a + 1073741824 ^ a.length * d := by rw [nv_append]; simp [nv]
theorem nv_take_succ (L : List Nat) (i : Nat) (h : i < L.length) : nv (L.take (i + 1)) = nv (L.take i) + 1073741824 ^ i * L.getD i 0 := by
  rw [take_succ_getD L i h, nv_snoc, List.length_take, Nat.min_eq_left (by omega)]
theorem Lim.getD {L : List Nat} (h : Lim L) (i : Nat) : L.getD i 0 < 1073741824 := by
  rw [List.getD_eq_getElem?_getD]
  cases hi : L[i]? with
  | none => simp
  | some d => simpa using h d (List.mem_of_getElem? hi)
theorem Lim.set {L : List Nat} (h : Lim L) (i d : Nat) (hd : d < 1073741824) : Lim (L.set i d) := by
  intro x hx
  rcases List.mem_or_eq_of_mem_set hx with hx | rfl
  · exact h x hx
  · exact hd
theorem Lim.snoc {L : List Nat} (h : Lim L) (d : Nat) (hd : d < 1073741824) : Lim (L ++ [d]) := by
  intro x hx; rcases List.mem_append.1 hx with hx | hx
  · exact h x hx
  · rw [List.mem_singleton.1 hx]; exact hd
theorem Lim.take {L : List Nat} (h : Lim L) (n : Nat) : Lim (L.take n) := fun x hx => h x (List.mem_of_mem_take hx)
theorem nv_lt {L : List Nat} (h : Lim L) : nv L < 1073741824 ^ L.length := by
  induction L with
  | nil => simp [nv]
  | cons d r ih =>
    have h1 := ih (fun x hx => h x (List.mem_cons_of_mem _ hx))
    have h2 := h d List.mem_cons_self
    simp only [nv, List.length_cons, Nat.pow_succ]; omega
theorem nv_take_zeros (L : List Nat) (z : Nat) (h : ∀ j, z ≤ j → j < L.length → L.getD j 0 = 0) : nv (L.take z) = nv L := by
  induction L generalizing z with
  | nil => simp
  | cons d r ih =>
    cases z with
    | zero =>
      have h0 := h 0 (by omega) (by simp)
      simp at h0
      have := ih 0 (fun j _ hj => by have := h (j + 1) (by omega) (by simp; omega); simpa using this)
      simp [nv] at this ⊢
      rw [← this, h0]
    | succ z =>
      rw [List.take_succ_cons]
      simp only [nv]
      rw [ih z (fun j h1 hj => by have := h (j + 1) (by omega) (by simp; omega); simpa using this)]
/-- A limb's step of a product. -/
theorem mul_step (L M : List Nat) (i f c : Nat) (a : Nat) (hi : i < L.length) (hM : M.length = L.length)
    (h : nv (M.take i) + c * 1073741824 ^ i = nv (L.take i) * f + a) :
    nv ((M.set i ((L.getD i 0 * f + c) % 1073741824)).take (i + 1)) + (L.getD i 0 * f + c) / 1073741824 * 1073741824 ^ (i + 1) = nv (L.take (i + 1)) * f + a := by
  have e1 : (M.set i ((L.getD i 0 * f + c) % 1073741824)).take i = M.take i := by rw [List.take_set]; exact List.set_eq_of_length_le (by rw [List.length_take]; omega)
  rw [nv_take_succ _ i (by simp; omega), e1, getD_set M i i _ (by omega), if_pos rfl, nv_take_succ L i hi, Nat.pow_succ]
  generalize L.getD i 0 = x at *
  generalize 1073741824 ^ i = P at *
  have hs : P * ((x * f + c) % 1073741824) + (x * f + c) / 1073741824 * (P * 1073741824) = P * (x * f + c) := by
    have h2 : (x * f + c) % 1073741824 + 1073741824 * ((x * f + c) / 1073741824) = x * f + c := Nat.mod_add_div _ _
    calc P * ((x * f + c) % 1073741824) + (x * f + c) / 1073741824 * (P * 1073741824) = P * ((x * f + c) % 1073741824 + 1073741824 * ((x * f + c) / 1073741824)) := by grind
      _ = _ := by rw [h2]
  rw [Nat.add_assoc, hs, Nat.add_mul]
  have e3 : nv (M.take i) + P * (x * f + c) = (nv (M.take i) + c * P) + P * x * f := by grind
  rw [e3, h]; omega

/-- All blocks but those of S are as they were. -/
structure Turn (S : Nat → Prop) (w w' : World) : Prop where
  os : w'.os = w.os
  tape : w'.tape = w.tape
  output : w'.output = w.output
  size : w.heap.size ≤ w'.heap.size
  block : ∀ k, k < w.heap.size → ¬ S k → w'.heap[k]? = w.heap[k]?
theorem Turn.refl (S : Nat → Prop) (w : World) : Turn S w w := ⟨rfl, rfl, rfl, Nat.le_refl _, fun _ _ _ => rfl⟩
theorem Turn.trans {S S2 : Nat → Prop} {w w1 w2 : World} (h : Turn S w w1) (k : Turn S2 w1 w2) (hs : ∀ j, j < w.heap.size → S2 j → S j) : Turn S w w2 :=
  ⟨k.os.trans h.os, k.tape.trans h.tape, k.output.trans h.output, Nat.le_trans h.size k.size, fun j hj hn => (k.block j (Nat.lt_of_lt_of_le hj h.size) (fun h2 => hn (hs j hj h2))).trans (h.block j hj hn)⟩
theorem Turn.mono {S S2 : Nat → Prop} {w w1 : World} (h : Turn S w w1) (hs : ∀ j, j < w.heap.size → S j → S2 j) : Turn S2 w w1 :=
  ⟨h.os, h.tape, h.output, h.size, fun j hj hn => h.block j hj (fun h2 => hn (hs j hj h2))⟩
theorem Turn.setCell {S : Nat → Prop} {w w1 : World} (h : Turn S w w1) (a : Addr) (u : Value) (ha : S a.block) : Turn S w (w1.setCell a u) :=
  ⟨h.os, h.tape, h.output, by simpa [World.setCell] using h.size, fun j hj hn => (Below.heap_setCell w1 a u j (fun e => hn (e ▸ ha))).trans (h.block j hj hn)⟩
theorem Turn.below {S : Nat → Prop} {w w1 w2 : World} (h : Turn S w w1) (hb : Below w1.heap.size w1 w2) : Turn S w w2 :=
  ⟨hb.os.trans h.os, hb.tape.trans h.tape, hb.output.trans h.output, Nat.le_trans h.size hb.size, fun j hj hn => (hb.block j (Nat.lt_of_lt_of_le hj h.size)).trans (h.block j hj hn)⟩
theorem Turn.grown {S : Nat → Prop} {w w1 w2 : World} {row : Option Nat} (h : Turn S w w1) (hg : w1.grownBy w2 row) (hr : ∀ k, row = some k → k < w.heap.size → S k) : Turn S w w2 :=
  ⟨hg.os.trans h.os, hg.tape.trans h.tape, hg.output.trans h.output, Nat.le_trans h.size hg.size, fun j hj hn => (hg.block j (Nat.lt_of_lt_of_le hj h.size) (fun e => hn (hr j e.symm hj))).trans (h.block j hj hn)⟩

/-- A Nat of package nat at block b. -/
structure NatAt (w : World) (b : Nat) (v : Value) (L : List Nat) : Prop where
  cell : w.cell? ⟨b, 0, none⟩ = some v
  frozen : w.frozen? ⟨b, 0, none⟩ = false
  own : Own w 0 v L
  apart : v.ownBlock ≠ some b
  lim : Lim L
  nrm : 0 < L.length → L.getD (L.length - 1) 0 ≠ 0
/-- The blocks of a Nat. -/
def Foot (b : Nat) (v : Value) (k : Nat) : Prop := k = b ∨ v.ownBlock = some k
theorem keep_cell' {w w' : World} {a : Addr} {v : Value} (hb : Below w.heap.size w w') (h : w.cell? a = some v) : w'.cell? a = some v :=
  (hb.cell (p := a) (World.block_lt_of_cell? w a h)).trans h
theorem cell_of_turn {S : Nat → Prop} {w w1 : World} (h : Turn S w w1) {a : Addr} {v : Value} (hc : w.cell? a = some v) (hn : ¬ S a.block) : w1.cell? a = some v :=
  (World.cell?_of_block (w := w) (h.block a.block (World.block_lt_of_cell? w a hc) hn)).trans hc
theorem NatAt.turn {S : Nat → Prop} {w w1 : World} {b : Nat} {v : Value} {L : List Nat} (h : NatAt w b v L) (ht : Turn S w w1) (hs : ∀ k, Foot b v k → ¬ S k) : NatAt w1 b v L := by
  have hb := World.block_lt_of_cell? w _ h.cell
  refine ⟨cell_of_turn ht h.cell (hs _ (.inl rfl)), ?_, ?_, h.apart, h.lim, h.nrm⟩
  · rw [World.frozen?_of_block (w := w) (ht.block b hb (hs _ (.inl rfl)))]; exact h.frozen
  · refine ⟨h.own.1, ?_⟩
    rcases h.own.2 with h2 | ⟨g, cap, cur, hv, hg, hh, r⟩
    · exact .inl h2
    · exact .inr ⟨g, cap, cur, hv, hg, by rw [ht.block g (Array.getElem?_eq_some_iff.1 hh).1 (hs _ (.inr (by rw [hv]; rfl)))]; exact hh, r⟩

theorem NatAt.mk_set {w : World} {b : Nat} {v v' : Value} {L : List Nat} (hc : w.cell? ⟨b, 0, none⟩ = some v) (hf : w.frozen? ⟨b, 0, none⟩ = false) (ho : Own w 0 v' L) (hap : v'.ownBlock ≠ some b) (hl : Lim L) (hn : 0 < L.length → L.getD (L.length - 1) 0 ≠ 0) : NatAt (w.setCell ⟨b, 0, none⟩ v') b v' L := by
  refine ⟨World.cell?_setCell_same' _ _ _ (by rw [hc]; rfl), by rw [show (w.setCell ⟨b, 0, none⟩ v').frozen? ⟨b, 0, none⟩ = w.frozen? ⟨b, 0, none⟩ from by simp [go_sem]]; exact hf, ?_, hap, hl, hn⟩
  refine ⟨ho.1, ?_⟩
  rcases ho.2 with h2 | ⟨g, cap, cur, hv, hg, hh, r⟩
  · exact .inl h2
  · exact .inr ⟨g, cap, cur, hv, hg, by rw [Below.heap_setCell _ _ _ _ (fun e => hap (by rw [hv, e]; rfl))]; exact hh, r⟩
theorem Own.cutTo {w : World} {g n cap : Nat} {L : List Nat} (h : Own w 0 (.slice (some ⟨g, 0, none⟩) n cap) L) (hn : L.length = n) (m : Nat) (hm : m ≤ n) : Own w 0 (.slice (some ⟨g, 0, none⟩) m cap) (L.take m) := by
  unfold Own at *
  have hlen : (L.take m).length = m := by rw [List.length_take]; omega
  rw [hlen]
  refine ⟨by rw [ints_length, hlen]; omega, .inr ?_⟩
  rcases h.2 with ⟨h2, _⟩ | ⟨g', cap', cur, hv, hg, hh, h1, h3, h4, h5⟩
  · cases h2
  · rw [hn] at hv h1 h5
    simp only [Value.slice.injEq, Option.some.injEq, Addr.mk.injEq, and_true, true_and] at hv
    obtain ⟨rfl, rfl⟩ := hv
    refine ⟨g, cap, cur, rfl, hg, hh, by omega, h3, h4, ?_⟩
    rw [Nat.mul_one] at *
    have : ints (L.take m) = (ints L).take m := by unfold ints; rw [List.map_take]
    rw [this, ← h5, List.take_take, Nat.min_eq_left hm]

/-- What an operation on a Nat leaves: the Nat, with the number V, of at most 'len' limbs; nothing else has turned; its row is the old one or new. -/
def NatPost (w w' : World) (b : Nat) (v : Value) (V len : Nat) : Prop :=
  ∃ v' L', NatAt w' b v' L' ∧ nv L' = V ∧ L'.length ≤ len ∧ Turn (Foot b v) w w' ∧ (v'.ownBlock = v.ownBlock ∨ ∃ g, v'.ownBlock = some g ∧ w.heap.size ≤ g)
theorem NatPost.of_set {w : World} {b : Nat} {v v' : Value} {L : List Nat} {V len : Nat} (h : NatAt (w.setCell ⟨b, 0, none⟩ v') b v' L) (hv : nv L = V) (hl : L.length ≤ len) (ho : v'.ownBlock = v.ownBlock) : NatPost w (w.setCell ⟨b, 0, none⟩ v') b v V len :=
  ⟨v', L, h, hv, hl, (Turn.refl _ _).setCell _ _ (.inl rfl), .inl ho⟩

end Go.Proofs.YtbkdaoicnobllabGreatDoor
