import Derived.Test.YtbkdaoicnobllabGreatDoorG00
import Derived.Test.YtbkdaoicnobllabGreatDoorG11
import Derived.Test.YtbkdaoicnobllabGreatDoorG22

/- Plain mathematics: what is written with a power of ten, read. -/
namespace Go.Proofs.YtbkdaoicnobllabGreatDoor
set_option exponentiation.threshold 40000

theorem num_row {L : List Nat} (h : Digs L) (K : Nat) (e hi : Int) (he : -(K : Int) ≤ e) (m : Nat) (hm : -(K : Int) ≤ hi + 1 - m) : num (vals ((rowT L e hi m).map UInt8.toNat)) = val K L e / 10 ^ (hi + 1 - m + K).toNat % 10 ^ m := by
  induction m with
  | zero => rw [Nat.pow_zero, Nat.mod_one]; simp [rowT, vals, num_nil]
  | succ m ih =>
    rw [rowT, List.map_append, vals_app]
    have hd := dig_le h e (hi - m)
    have e1 : vals ([UInt8.ofNat (48 + dig L e (hi - m))].map UInt8.toNat) = [dig L e (hi - m)] := by
      unfold vals; simp; omega
    rw [e1, num_snoc, ih (by omega), ← dig_val h K e (hi - m) he (by omega)]
    rw [show (hi + 1 - (m : Int) + K).toNat = (hi + 1 - ((m + 1 : Nat) : Int) + K).toNat + 1 from by omega, show hi - (m : Int) + K = hi + 1 - ((m + 1 : Nat) : Int) + K from by omega, Nat.pow_succ, ← Nat.div_div_eq_div_mul]
    generalize val K L e / 10 ^ (hi + 1 - ((m + 1 : Nat) : Int) + K).toNat = q
    rw [Nat.pow_succ, Nat.mul_comm (10 ^ m) 10, Nat.mod_mul]; omega
theorem row_all {L : List Nat} (h : Digs L) (e hi : Int) (m : Nat) : AllD ((rowT L e hi m).map UInt8.toNat) := by
  intro c hc
  obtain ⟨b, hb, rfl⟩ := List.mem_map.1 hc
  have := rowT_byte h e hi m b hb
  unfold isDig; simp; omega
/-- What is written holds all of the number that was rounded. -/
theorem ExpR.whole {aw : Int → Bool → Bool} {V n : Nat} {D L : List Nat} {e g : Int} {T : List UInt8} (h : ExpR aw V n D e L g T) : Go.Proofs.YtbkdaoicnobllabGreatDoor.val 3000 L g % 10 ^ (g + L.length - 1 - n + (3000 : Nat)).toNat = 0 := by
  have ht := h.tops
  rcases (by omega : g + L.length = e + D.length ∨ g + L.length = e + D.length + 1) with he | he
  · rw [he, h.val', Nat.mul_mod_left]
  · have a := val_lt h.digs 3000 e h.lo
    rw [h.val] at a
    have c := rndN_hi aw (k := (e + D.length - 1 - n + (3000 : Nat)).toNat) (m := (e + D.length + (3000 : Nat)).toNat) (by have := h.lo; omega) a
    rw [← h.val'] at c
    have c' := val_ge h.headed' h.pos' 3000 g h.lo'
    rw [he, show e + (D.length : Int) + 1 - 1 + (3000 : Nat) = e + D.length + (3000 : Nat) from by omega] at c'
    have hv : Go.Proofs.YtbkdaoicnobllabGreatDoor.val 3000 L g = 10 ^ (e + D.length + (3000 : Nat)).toNat := by omega
    rw [hv, he]
    obtain ⟨k, hk⟩ : ∃ k, (e + D.length + (3000 : Nat)).toNat = (e + D.length + 1 - 1 - n + (3000 : Nat)).toNat + k := ⟨(e + D.length + (3000 : Nat)).toNat - (e + D.length + 1 - 1 - n + (3000 : Nat)).toNat, by omega⟩
    rw [hk, Nat.pow_add, Nat.mul_mod_right]
def powC (t : Int) : Bool := decide (((Lib.itoa t).map UInt8.toNat) ≠ []) && (decide (0 ≤ t) && ((Lib.itoa t).map UInt8.toNat).all isDig || decide (t < 0) && decide ((Lib.itoa t).map UInt8.toNat = 45 :: ((Lib.itoa t).map UInt8.toNat).drop 1) && (((Lib.itoa t).map UInt8.toNat).drop 1).all isDig && decide (((Lib.itoa t).map UInt8.toNat).drop 1 ≠ [])) && decide (expVal ((Lib.itoa t).map UInt8.toNat) = t)
theorem powC_all : ∀ i : Fin 2001, powC ((i.val : Int) - 1000) = true := by decide +kernel
theorem itoa_powT (t : Int) (h1 : -1000 ≤ t) (h2 : t ≤ 1000) : PowT ((Lib.itoa t).map UInt8.toNat) ∧ expVal ((Lib.itoa t).map UInt8.toNat) = t := by
  have h := powC_all ⟨(t + 1000).toNat, by omega⟩
  rw [show (((⟨(t + 1000).toNat, by omega⟩ : Fin 2001).val : Nat) : Int) - 1000 = t from by simp; omega] at h
  unfold powC at h
  simp only [Bool.and_eq_true, Bool.or_eq_true, decide_eq_true_eq, List.all_eq_true] at h
  obtain ⟨⟨g0, g1⟩, g2⟩ := h
  refine ⟨?_, g2⟩
  rcases g1 with ⟨_, g⟩ | ⟨⟨⟨_, gc⟩, g⟩, gn⟩
  · exact ⟨[], _, rfl, .inl rfl, g, g0⟩
  · exact ⟨[45], _, gc, .inr (.inr rfl), g, gn⟩
theorem chs_str (T : List UInt8) : chs (str T) = T.map UInt8.toNat := by unfold chs str; simp
/-- A text d.ddde.. by its parts. -/
theorem sci_parts (L : List Nat) (g top : Int) (n : Nat) (pw : List UInt8) : chs (str (sciT L g top n ++ 101 :: pw)) = [] ++ ((rowT L g top 1).map UInt8.toNat ++ ptL (decide (n ≠ 0)) ++ (rowT L g (top - 1) n).map UInt8.toNat ++ 101 :: pw.map UInt8.toNat) := by
  rw [chs_str]
  unfold sciT
  by_cases hn : n = 0
  · subst hn; simp [ptL, rowT]
  · rw [if_neg hn]; simp [ptL, hn]
theorem held_in {K : Nat} {L : List Nat} {e : Int} (hn : Norm L) (hl : L ≠ []) (he : -(K : Int) ≤ e) (hK : 400 ≤ K) (h1 : 10 ^ (K - 390) ≤ val K L e) (h2 : val K L e < 10 ^ (K + 390)) : heldV K L e = val K L e := by
  have hp := List.length_pos_iff.2 hl
  have a := val_lt hn.digs K e he
  have b := val_ge hn.headed hp K e he
  unfold heldV
  rw [if_neg (by omega), if_neg, if_neg]
  · intro hlt
    have : 10 ^ (e + L.length + K).toNat ≤ 10 ^ (K - 390) := Nat.pow_le_pow_right (by omega) (by omega)
    omega
  · intro hlt
    have : 10 ^ (K + 390) ≤ 10 ^ (e + L.length - 1 + K).toNat := Nat.pow_le_pow_right (by omega) (by omega)
    omega
theorem like_val {S : List Nat} {e : Int} {W : Nat} (hS : AllD S) (he : -2000 ≤ e) (hv : val 3000 (vals S) e = W) (h1 : 10 ^ 2610 ≤ W) (h2 : W < 10 ^ 3390) : likeX S e = W * 10 ^ 27000 := by
  have hN := normL_norm (vals_digs hS)
  have hnv := norm_val (vals S) e 30000 (by omega)
  have hm : val 30000 (vals S) e = W * 10 ^ 27000 := by
    have := val_more 3000 27000 (vals S) e (by omega)
    rw [hv] at this; exact this
  have hp : 0 < W := Nat.lt_of_lt_of_le (Nat.pow_pos (by omega)) h1
  have hP : 0 < 10 ^ 27000 := Nat.pow_pos (by omega)
  have hne : normL (vals S) ≠ [] := fun h0 => by
    rw [h0, hm] at hnv
    have hz : val 30000 [] (normE (vals S) e) = 0 := by unfold val; rw [num_nil, Nat.zero_mul]
    rw [hz] at hnv
    have := Nat.mul_pos hp hP
    omega
  have hge := normE_ge (vals S) e hne
  unfold likeX
  rw [held_in hN hne (by omega) (by omega), hnv, hm]
  · rw [hnv, hm, show 30000 - 390 = 2610 + 27000 from by omega, Nat.pow_add]
    exact Nat.mul_le_mul_right _ h1
  · rw [hnv, hm, show 30000 + 390 = 3390 + 27000 from by omega, Nat.pow_add]
    exact Nat.mul_lt_mul_of_pos_right h2 hP
theorem sci_val {L : List Nat} {g top : Int} {n : Nat} (hd : Digs L) (hg : -(3000 : Int) ≤ g) (ht : g + L.length = top + 1) (hn : -(3000 : Int) ≤ top - n) (hw : val 3000 L g % 10 ^ (top - n + (3000 : Nat)).toNat = 0) : val 3000 (vals ((rowT L g top 1).map UInt8.toNat ++ (rowT L g (top - 1) n).map UInt8.toNat)) (top - n) = val 3000 L g := by
  have e1 : (rowT L g top 1).map UInt8.toNat ++ (rowT L g (top - 1) n).map UInt8.toNat = (rowT L g top (n + 1)).map UInt8.toNat := by
    rw [← List.map_append, rowT_cons L g top n]; simp [rowT]
  rw [e1]
  have h1 := num_row hd 3000 g top hg (n + 1) (by omega)
  rw [show top + 1 - ((n + 1 : Nat) : Int) + (3000 : Nat) = top - n + (3000 : Nat) from by omega] at h1
  have b := val_lt hd 3000 g hg
  rw [ht, show (top + 1 + (3000 : Nat)).toNat = (n + 1) + (top - n + (3000 : Nat)).toNat from by omega, Nat.pow_add] at b
  have hP : 0 < 10 ^ (top - n + (3000 : Nat)).toNat := Nat.pow_pos (by omega)
  rw [Nat.mod_eq_of_lt ((Nat.div_lt_iff_lt_mul hP).2 b)] at h1
  show num (vals ((rowT L g top (n + 1)).map UInt8.toNat)) * 10 ^ (top - n + (3000 : Nat)).toNat = _
  rw [h1]
  have := Nat.div_add_mod (val 3000 L g) (10 ^ (top - n + (3000 : Nat)).toNat)
  rw [hw, Nat.add_zero, Nat.mul_comm] at this
  exact this
/-- What Parse says of a text that is written with a power of ten. -/
theorem sci_read {L : List Nat} {g top : Int} {n : Nat} {f m b fl at' err : Int} (hd : Digs L) (hg : -(3000 : Int) ≤ g) (ht : g + L.length = top + 1) (h1 : -1000 ≤ top) (h2 : top ≤ 1000) (hn : n ≤ 880) (hw : val 3000 L g % 10 ^ (top - n + (3000 : Nat)).toNat = 0)
    (hlo : 10 ^ 2610 ≤ val 3000 L g) (hhi : val 3000 L g < 10 ^ 3390) (hv : 0 ≤ f ∧ f ≤ 2 ∧ 0 ≤ m ∧ m ≤ 4) (hlen : (sciT L g top n ++ 101 :: Lib.itoa top).length ≤ 900) (hp : ProgSpec 30000 (chs (str (sciT L g top n ++ 101 :: Lib.itoa top))) f m b fl at' err) :
    at' = 0 ∧ err = 0 ∧ ∃ r, RoundSpec 3000 f m false (val 3000 L g) r fl ∧ b = signedV f false r := by
  obtain ⟨p1, p2⟩ := itoa_powT top h1 h2
  have hA := row_all hd g top 1
  have hB := row_all hd g (top - 1) n
  have hBl : ((rowT L g (top - 1) n).map UInt8.toNat).length = n := by rw [List.length_map, rowT_length]
  have hval := sci_val hd hg ht (by omega) hw
  have hpl := sci_parts L g top n (Lib.itoa top)
  obtain ⟨q1, q2, r, q3, q4⟩ := like_text (S := (rowT L g top 1).map UInt8.toNat ++ (rowT L g (top - 1) n).map UInt8.toNat) (e := top - n) hpl (.inl rfl) hA hB (by simp [rowT]) (fun h => by
      have hn0 : n = 0 := by simpa using h
      subst hn0; rfl) p1 (hA.app hB) (by omega) (by rw [p2, hBl]; omega) (by rw [p2, hBl]) hv (by rw [chs_str, List.length_map]; exact hlen) hp
  rw [like_val (hA.app hB) (by omega) hval hlo hhi] at q3
  exact ⟨q1, q2, r, round_scale (K := 3000) (c := 27000) (by omega) q3, q4⟩
end Go.Proofs.YtbkdaoicnobllabGreatDoor

/- Plain mathematics: all digits of a number, written and read. -/
namespace Go.Proofs.YtbkdaoicnobllabGreatDoor
set_option exponentiation.threshold 40000

theorem mod_key {x M j n : Nat} {t : Int} (hM : M < 10 ^ (n + 1)) (hx : x = M * 10 ^ j) (_ht : 0 ≤ t) (hk : 10 ^ t.toNat ≤ x) : x % 10 ^ (t - n).toNat = 0 := by
  have a : x < 10 ^ (n + 1 + j) := by rw [hx, Nat.pow_add]; exact Nat.mul_lt_mul_of_pos_right hM (Nat.pow_pos (by omega))
  have b : t.toNat < n + 1 + j := (Nat.pow_lt_pow_iff_right (by omega)).1 (Nat.lt_of_le_of_lt hk a)
  obtain ⟨c, hc⟩ : ∃ c, j = (t - n).toNat + c := ⟨j - (t - n).toNat, by omega⟩
  rw [hx, hc, Nat.pow_add, Nat.mul_left_comm]; exact Nat.mul_mod_right _ _
/-- N times 2^s has no more than n + 1 digits. -/
theorem two_exact {K : Nat} {s k : Int} {N n : Nat} (h1 : s < 0 → N * 5 ^ (-s).toNat < 10 ^ (n + 1)) (h2 : 0 ≤ s → N * 2 ^ s.toNat < 10 ^ (n + 1)) (hk0 : -(K : Int) ≤ k) (hk : 10 ^ (k + K).toNat ≤ two K s * N) : two K s * N % 10 ^ (k - n + K).toNat = 0 := by
  rw [show k - n + (K : Int) = (k + K) - n from by omega]
  by_cases h : 0 ≤ s
  · exact mod_key (M := N * 2 ^ s.toNat) (j := K) (h2 h) (by unfold two; rw [if_pos h, Nat.mul_right_comm, Nat.mul_comm N]) (by omega) hk
  · exact mod_key (M := N * 5 ^ (-s).toNat) (j := (K + s).toNat) (h1 (by omega)) (by unfold two; rw [if_neg h, Nat.mul_right_comm, Nat.mul_comm N]) (by omega) hk
theorem sx_bd {f : Int} (hf : 0 ≤ f ∧ f ≤ 2) {a : Nat} (h1 : (a : Int) < infN f) : -1074 ≤ fE f + (xA (fQ f) a : Nat) ∧ fE f + (xA (fQ f) a : Nat) ≤ 971 ∧ mA (fQ f) a ≤ 9007199254740992 := by
  have hl := mA_lt (fQ f) a
  rcases (by omega : f = 0 ∨ f = 1 ∨ f = 2) with rfl | rfl | rfl
  · have hai : (a : Int) < 31744 := h1
    rw [pQ0] at hl
    have e : fE 0 = -24 := rfl
    have x : xA (fQ 0) a = a / 1024 - 1 := by unfold xA; rw [pQ0]
    rw [e, x]; omega
  · have hai : (a : Int) < 2139095040 := h1
    rw [pQ1] at hl
    have e : fE 1 = -149 := rfl
    have x : xA (fQ 1) a = a / 8388608 - 1 := by unfold xA; rw [pQ1]
    rw [e, x]; omega
  · have hai : (a : Int) < 9218868437227405312 := h1
    rw [pQ2] at hl
    have e : fE 2 = -1074 := rfl
    have x : xA (fQ 2) a = a / 4503599627370496 - 1 := by unfold xA; rw [pQ2]
    rw [e, x]; omega
theorem valA_all {f : Int} (hf : 0 ≤ f ∧ f ≤ 2) {a : Nat} (h1 : (a : Int) < infN f) {k : Int} (hk0 : -(3000 : Nat) ≤ k) (hk : 10 ^ (k + (3000 : Nat)).toNat ≤ valA 3000 f a) : valA 3000 f a % 10 ^ (k - (770 : Nat) + (3000 : Nat)).toNat = 0 := by
  obtain ⟨b1, b2, b3⟩ := sx_bd hf h1
  unfold valA at hk ⊢
  generalize fE f + (xA (fQ f) a : Nat) = s at *
  generalize mA (fQ f) a = N at *
  refine two_exact (fun h => ?_) (fun h => ?_) hk0 hk
  · have h5 : 5 ^ (-s).toNat ≤ 5 ^ 1074 := Nat.pow_le_pow_right (by omega) (by omega)
    exact Nat.lt_of_le_of_lt (Nat.mul_le_mul b3 h5) (by decide +kernel)
  · have h5 : 2 ^ s.toNat ≤ 2 ^ 971 := Nat.pow_le_pow_right (by omega) (by omega)
    exact Nat.lt_of_le_of_lt (Nat.mul_le_mul b3 h5) (by decide +kernel)
theorem valA_bd {f : Int} (hf : 0 ≤ f ∧ f ≤ 2) {a : Nat} (h0 : 0 < a) (h1 : (a : Int) < infN f) : 10 ^ 2620 ≤ valA 3000 f a ∧ valA 3000 f a < 10 ^ 3380 := by
  constructor
  · refine Nat.le_trans ?_ (valA_mono 3000 f (by omega) (show 1 ≤ a from h0))
    rcases (by omega : f = 0 ∨ f = 1 ∨ f = 2) with rfl | rfl | rfl <;> decide +kernel
  · refine Nat.lt_of_le_of_lt (valA_mono 3000 f (by omega) (show a ≤ infN f by omega)) ?_
    rcases (by omega : f = 0 ∨ f = 1 ∨ f = 2) with rfl | rfl | rfl <;> decide +kernel
theorem rnd_whole (aw : Int → Bool → Bool) (V P : Nat) (h : V % P = 0) : rndN aw V P * P = V := by
  unfold rndN
  rw [if_neg (fun hh => hh.1 (by unfold leftN; rw [if_pos h]))]
  have := Nat.div_add_mod V P
  rw [h, Nat.add_zero, Nat.mul_comm] at this; exact this
/-- All digits are written. -/
def Fits (V n : Nat) : Prop := ∀ k : Int, -(3000 : Nat) ≤ k → 10 ^ (k + (3000 : Nat)).toNat ≤ V → V % 10 ^ (k - n + (3000 : Nat)).toNat = 0
theorem ExpR.fit {aw : Int → Bool → Bool} {V n : Nat} {D L : List Nat} {e g : Int} {T : List UInt8} (h : ExpR aw V n D e L g T) (hx : Fits V n) : V % 10 ^ (e + D.length - 1 - n + (3000 : Nat)).toNat = 0 := by
  have hlo := h.lo
  have hp := h.pos
  have hg := val_ge h.headed hp 3000 e hlo
  rw [h.val] at hg
  exact hx (e + D.length - 1) (by omega) hg
theorem ExpR.all {aw : Int → Bool → Bool} {V n : Nat} {D L : List Nat} {e g : Int} {T : List UInt8} (h : ExpR aw V n D e L g T) (hx : Fits V n) : Go.Proofs.YtbkdaoicnobllabGreatDoor.val 3000 L g = V := by
  rw [h.val']; exact rnd_whole aw _ _ (h.fit hx)
theorem ExpQ.other {aw aw' : Int → Bool → Bool} {V n : Nat} {T : List UInt8} (hx : Fits V n) (h : ExpQ aw V n T) : ExpQ aw' V n T := by
  rcases h with h | ⟨D, e, L, g, h⟩
  · exact .inl h
  · refine .inr ⟨D, e, L, g, ⟨h.digs, h.headed, h.pos, h.lo, h.val, h.digs', h.headed', h.pos', h.lo', h.lon, ?_, h.text⟩⟩
    rw [h.all hx, rnd_whole aw' _ _ (h.fit hx)]
theorem row_range {L : List Nat} {g : Int} (hd : Digs L) (hh : Headed L) (hl : 0 < L.length) (hg : -(3000 : Nat) ≤ g) (h1 : 10 ^ 2610 ≤ val 3000 L g) (h2 : val 3000 L g < 10 ^ 3390) : -391 ≤ g + L.length - 1 ∧ g + L.length - 1 ≤ 390 := by
  have a := val_lt hd 3000 g hg
  have b := val_ge hh hl 3000 g hg
  have c := (Nat.pow_lt_pow_iff_right (a := 10) (by omega)).1 (Nat.lt_of_le_of_lt h1 a)
  have d := (Nat.pow_lt_pow_iff_right (a := 10) (by omega)).1 (Nat.lt_of_le_of_lt b h2)
  omega
/-- What Parse says of a text that Exp writes. -/
theorem ExpR.reads {aw : Int → Bool → Bool} {V n : Nat} {D L : List Nat} {e g : Int} {T : List UInt8} {f m b fl at' err : Int} (h : ExpR aw V n D e L g T) (hn : n ≤ 880) (h1 : 10 ^ 2610 ≤ Go.Proofs.YtbkdaoicnobllabGreatDoor.val 3000 L g) (h2 : Go.Proofs.YtbkdaoicnobllabGreatDoor.val 3000 L g < 10 ^ 3390) (hv : 0 ≤ f ∧ f ≤ 2 ∧ 0 ≤ m ∧ m ≤ 4) (hp : ProgSpec 30000 (chs (str T)) f m b fl at' err) :
    at' = 0 ∧ err = 0 ∧ ∃ r, RoundSpec 3000 f m false (Go.Proofs.YtbkdaoicnobllabGreatDoor.val 3000 L g) r fl ∧ b = signedV f false r := by
  obtain ⟨r1, r2⟩ := row_range h.digs' h.headed' h.pos' h.lo' h1 h2
  have hlen := (itoa_pow (g + L.length - 1) (by omega) (by omega)).2.1
  have hsl := sciT_length L g (g + L.length - 1) n
  have hT := h.text
  rw [hT] at hp
  exact sci_read h.digs' h.lo' (by omega) (by omega) (by omega) hn (h.whole) h1 h2 hv (by rw [List.length_append, List.length_cons]; omega) hp
theorem num_zero_row (m : Nat) (e hi : Int) : num (vals ((rowT [] e hi m).map UInt8.toNat)) = 0 := by
  induction m with
  | zero => rfl
  | succ m ih =>
    rw [rowT, List.map_append, vals_app, num_append, ih]
    have hd : dig [] e (hi - m) = 0 := by
      by_cases h : hi - m < e
      · exact dig_lo _ h
      · exact dig_hi _ (by simp; omega)
    rw [hd]; rfl
theorem held_zero {S : List Nat} {e : Int} (hS : AllD S) (h : num (vals S) = 0) (he : -2000 ≤ e) : likeX S e = 0 := by
  have hN := normL_norm (vals_digs hS)
  have hv := norm_val (vals S) e 3000 (by omega)
  have : normL (vals S) = [] := by
    rcases Nat.eq_zero_or_pos (normL (vals S)).length with g | g
    · exact List.length_eq_zero_iff.1 g
    · exfalso
      have hp := val_pos hN g 3000 (normE (vals S) e)
      rw [hv] at hp
      unfold val at hp
      rw [h, Nat.zero_mul] at hp
      omega
  unfold likeX heldV
  rw [this, if_pos List.length_nil]
/-- Noughts are read as nothing. -/
theorem zero_reads {n : Nat} {f m b fl at' err : Int} (hn : n ≤ 880) (hv : 0 ≤ f ∧ f ≤ 2 ∧ 0 ≤ m ∧ m ≤ 4) (hp : ProgSpec 30000 (chs (str (fixT [] 0 0 n ++ [101, 48]))) f m b fl at' err) : at' = 0 ∧ err = 0 ∧ b = 0 ∧ fl = 0 := by
  have hs : fixT [] 0 0 n ++ [101, 48] = sciT [] 0 0 n ++ 101 :: [48] := by unfold fixT sciT; rfl
  rw [hs] at hp
  have hA := row_all Digs.nil 0 0 1
  have hB := row_all Digs.nil 0 (0 - 1) n
  have hBl : ((rowT [] 0 (0 - 1) n).map UInt8.toNat).length = n := by rw [List.length_map, rowT_length]
  have hpw : PowT (([48] : List UInt8).map UInt8.toNat) := ⟨[], [48], rfl, .inl rfl, fun c hc => by rw [List.mem_singleton.1 hc]; rfl, by simp⟩
  have hpv : expVal (([48] : List UInt8).map UInt8.toNat) = 0 := by decide
  have hsl := sciT_length [] 0 0 n
  obtain ⟨q1, q2, r, q3, q4⟩ := like_text (S := (rowT [] 0 0 1).map UInt8.toNat ++ (rowT [] 0 (0 - 1) n).map UInt8.toNat) (e := 0 - n) (sci_parts [] 0 0 n [48]) (.inl rfl) hA hB (by simp [rowT]) (fun h => by
      have hn0 : n = 0 := by simpa using h
      subst hn0; rfl) hpw (hA.app hB) (by omega) (by rw [hpv, hBl]; omega) (by rw [hpv, hBl]) hv (by rw [chs_str, List.length_map, List.length_append, List.length_cons, List.length_singleton]; omega) hp
  rw [held_zero (hA.app hB) (by rw [vals_app, num_append, num_zero_row, num_zero_row, Nat.zero_mul]) (by omega)] at q3
  obtain ⟨z1, z2⟩ := RoundSpec.zero q3
  exact ⟨q1, q2, by rw [q4, z1]; rfl, z2⟩
/-- All digits of a number are read as it. -/
theorem fit_reads {aw : Int → Bool → Bool} {n : Nat} {T : List UInt8} {f m b fl at' err : Int} {V : Nat} (hn : n ≤ 880) (hx : Fits V n) (h1 : 10 ^ 2610 ≤ V) (h2 : V < 10 ^ 3390) (hv : 0 ≤ f ∧ f ≤ 2 ∧ 0 ≤ m ∧ m ≤ 4) (hT : ExpQ aw V n T) (hp : ProgSpec 30000 (chs (str T)) f m b fl at' err) : at' = 0 ∧ err = 0 ∧ RoundSpec 3000 f m false V b fl := by
  obtain ⟨D, e, L, g, h⟩ := hT.some (Nat.lt_of_lt_of_le (Nat.pow_pos (by omega)) h1)
  have ha := h.all hx
  obtain ⟨q1, q2, r, q3, q4⟩ := h.reads hn (by rw [ha]; exact h1) (by rw [ha]; exact h2) hv hp
  rw [ha] at q3
  refine ⟨q1, q2, ?_⟩
  rw [q4]; exact q3
theorem whole_fits {f : Int} (hf : 0 ≤ f ∧ f ≤ 2) {a : Nat} (h1 : (a : Int) < infN f) : Fits (valA 3000 f a) 770 := fun _ hk0 hk => valA_all hf h1 hk0 hk
theorem whole_reads {f m b fl at' err : Int} {a : Nat} {T : List UInt8} (hf : 0 ≤ f ∧ f ≤ 2) (h1 : (a : Int) < infN f) (hm : 0 ≤ m ∧ m ≤ 4) (hT : ExpQ (awayB 0 false) (valA 3000 f a) 770 T) (hp : PParse (str T) f m b fl at' err) : b = a ∧ fl = 0 ∧ at' = 0 ∧ err = 0 := by
  have hs := prog_spec (K := 30000) (by omega) hp
  have hv : 0 ≤ f ∧ f ≤ 2 ∧ 0 ≤ m ∧ m ≤ 4 := ⟨hf.1, hf.2, hm.1, hm.2⟩
  rcases Nat.eq_zero_or_pos a with h0 | h0
  · subst h0
    rcases hT with ⟨_, rfl⟩ | ⟨D, e, L, g, h⟩
    · obtain ⟨q1, q2, q3, q4⟩ := zero_reads (by omega) hv hs
      exact ⟨by rw [q3]; rfl, q4, q1, q2⟩
    · exact absurd (valA_none 3000 f) h.ne
  · obtain ⟨b1, b2⟩ := valA_bd hf h0 h1
    have e1 : 10 ^ 2610 ≤ valA 3000 f a := Nat.le_trans (Nat.pow_le_pow_right (by omega) (by omega)) b1
    have e2 : valA 3000 f a < 10 ^ 3390 := Nat.lt_of_lt_of_le b2 (Nat.pow_le_pow_right (by omega) (by omega))
    obtain ⟨q1, q2, q3⟩ := fit_reads (by omega) (whole_fits hf h1) e1 e2 hv hT hs
    obtain ⟨z1, z2⟩ := round_self (by omega) (by omega) q3
    exact ⟨z1, z2, q1, q2⟩
theorem whole_same {f m : Int} {a : Nat} {S T : List UInt8} (hf : 0 ≤ f ∧ f ≤ 2) (h1 : (a : Int) < infN f) (hT : ExpQ (awayB 0 false) (valA 3000 f a) 770 T) (hS : ExpQ (awayB m false) (valA 3000 f a) 770 S) : S = T :=
  (hS.other (whole_fits hf h1)).same hT
end Go.Proofs.YtbkdaoicnobllabGreatDoor

/- Plain mathematics: what a text without a sign says, and what Parse makes of it, with a minus ahead or without. -/
namespace Go.Proofs.YtbkdaoicnobllabGreatDoor
set_option exponentiation.threshold 40000

/-- The text, without a sign, says the number X, times 10^30000. -/
def Says (l : List Nat) (X : Nat) : Prop := ∃ c r st, l = c :: r ∧ sgn c = false ∧ l.foldl nextS 0 = st ∧ (st = 15 ∨ st = 2 ∨ st = 3 ∨ st = 4 ∨ st = 6 ∨ st = 9) ∧ numX 30000 l st = X
/-- A minus ahead. -/
def minusL (neg : Bool) (l : List Nat) : List Nat := if neg = true then 45 :: l else l
theorem Says.reads {l : List Nat} {X : Nat} {neg : Bool} {f m b fl at' err : Int} (h : Says l X) (hl : (minusL neg l).length ≤ 900) (hv : 0 ≤ f ∧ f ≤ 2 ∧ 0 ≤ m ∧ m ≤ 4) (hp : ProgSpec 30000 (minusL neg l) f m b fl at' err) :
    at' = 0 ∧ err = 0 ∧ ∃ r, RoundSpec 30000 f m neg X r fl ∧ b = signedV f neg r := by
  obtain ⟨c, r0, st, hc, hs, hf, hst, hx⟩ := h
  have he : endsB st = true := by
    rcases hst with h | h | h | h | h | h <;> (subst h; rfl)
  have h45 : c ≠ 45 := fun h => by rw [h] at hs; cases hs
  have key : ReadSpec (minusL neg l) st (minusL neg l).length true ∧ body (minusL neg l) = l ∧ decide ((minusL neg l).getD 0 0 = 45) = neg := by
    cases neg
    · refine ⟨read_of_fold hf he, ?_, ?_⟩
      · show body l = l
        rw [hc]; simp [body, hs]
      · show decide (l.getD 0 0 = 45) = false
        rw [hc]; simpa using h45
    · refine ⟨read_of_fold (l := 45 :: l) ?_ he, rfl, rfl⟩
      rw [List.foldl_cons]
      have e : nextS (nextS 0 45) c = nextS 0 c := by
        show beginS c = if sgn c = true then 1 else beginS c
        rw [hs]; rfl
      rw [hc] at hf ⊢
      rw [List.foldl_cons] at hf ⊢
      rw [e]; exact hf
  obtain ⟨k1, k2, k3⟩ := key
  rcases hp with ⟨gv, _⟩ | ⟨_, gl, _⟩ | ⟨_, _, st2, x, ok, hr2, hc2⟩
  · exact absurd hv gv
  · omega
  · obtain ⟨q1, q2, q3⟩ := ReadSpec.one k1 hr2
    subst q1 q3
    rcases hc2 with ⟨c0, _⟩ | ⟨_, c1, c2, ho⟩
    · cases c0
    · rcases ho with ⟨o1, _⟩ | ⟨o1, _⟩ | ⟨_, r, o1, o2⟩
      · omega
      · omega
      · rw [k3, k2, hx] at o1
        rw [k3] at o2
        exact ⟨c1, c2, r, o1, o2⟩
theorem digit_sgn {c : Nat} (h : isDig c = true) : sgn c = false := by
  cases hh : sgn c
  · rfl
  · rw [sgn_notDig hh] at h; cases h
theorem held_vals {S : List Nat} {e : Int} {W : Nat} (hS : AllD S) (he : -2000 ≤ e) (hv : val 3000 (vals S) e = W) (h1 : 10 ^ 2610 ≤ W) (h2 : W < 10 ^ 3390) : heldV 30000 (normL (vals S)) (normE (vals S) e) = W * 10 ^ 27000 := like_val hS he hv h1 h2
/-- What is written with a power of ten. -/
theorem sci_says {L : List Nat} {g top : Int} {n : Nat} (hd : Digs L) (hg : -(3000 : Int) ≤ g) (ht : g + L.length = top + 1) (h1 : -1000 ≤ top) (h2 : top ≤ 1000) (hn : n ≤ 880) (hw : val 3000 L g % 10 ^ (top - n + (3000 : Nat)).toNat = 0)
    (hlo : 10 ^ 2610 ≤ val 3000 L g) (hhi : val 3000 L g < 10 ^ 3390) : Says (chs (str (sciT L g top n ++ 101 :: Lib.itoa top))) (val 3000 L g * 10 ^ 27000) := by
  obtain ⟨p1, p2⟩ := itoa_powT top h1 h2
  have hA := row_all hd g top 1
  have hB := row_all hd g (top - 1) n
  have hBl : ((rowT L g (top - 1) n).map UInt8.toNat).length = n := by rw [List.length_map, rowT_length]
  have hval := sci_val hd hg ht (by omega) hw
  have hpl := sci_parts L g top n (Lib.itoa top)
  obtain ⟨t1, t2, t3⟩ := text_num 30000 hpl (.inl rfl) hA hB (by simp [rowT]) (fun h => by
      have hn0 : n = 0 := by simpa using h
      subst hn0; rfl) p1
  have hc : ∃ c r, chs (str (sciT L g top n ++ 101 :: Lib.itoa top)) = c :: r ∧ isDig c = true := by
    rw [hpl]
    refine ⟨_, _, rfl, ?_⟩
    exact hA _ (by simp [rowT])
  obtain ⟨c, r, hc, hcd⟩ := hc
  have hs := digit_sgn hcd
  have hbody : body (chs (str (sciT L g top n ++ 101 :: Lib.itoa top))) = chs (str (sciT L g top n ++ 101 :: Lib.itoa top)) := by
    rw [hc]; simp [body, hs]
  refine ⟨c, r, 9, hc, hs, ?_, by omega, ?_⟩
  · rcases t1 with ⟨_, _, _, _, _, _, h⟩ | ⟨_, h, _, _⟩
    · cases h
    · unfold stAt at h; rw [List.take_length] at h; exact h.symm
  · rw [hbody] at t2
    rw [t2, p2, hBl]
    exact held_vals (hA.app hB) (by omega) hval hlo hhi
theorem ahead_all (l : List Nat) (x : Nat) (h : ∀ c, c ∈ l → c ≠ x) : ahead l x = l := by
  unfold ahead
  induction l with
  | nil => rfl
  | cons c r ih => rw [List.takeWhile_cons_of_pos (by simpa using h c List.mem_cons_self), ih (fun y hy => h y (List.mem_cons_of_mem _ hy))]
theorem expOf_all (l : List Nat) (x : Nat) (h : ∀ c, c ∈ l → c ≠ x) : expOf l x = 0 := by
  unfold expOf
  have : l.dropWhile (fun c => c != x) = [] := by
    induction l with
    | nil => rfl
    | cons c r ih => rw [List.dropWhile_cons_of_pos (by simpa using h c List.mem_cons_self), ih (fun y hy => h y (List.mem_cons_of_mem _ hy))]
  rw [this]
/-- A decimal without a power. -/
theorem plain_says {A B : List Nat} {pt : Bool} {e : Int} {W : Nat} (hA : AllD A) (hB : AllD B) (hA0 : A ≠ []) (hpt : pt = false → B = []) (hpt2 : pt = true → B ≠ []) (he : e = -(B.length : Int)) (hl : B.length ≤ 2000) (hv : val 3000 (vals (A ++ B)) e = W) (h1 : 10 ^ 2610 ≤ W) (h2 : W < 10 ^ 3390) :
    Says (A ++ ptL pt ++ B) (W * 10 ^ 27000) := by
  have hX : ∀ c, c ∈ A ++ ptL pt ++ B → c ≠ 101 := by
    intro c hc
    rcases List.mem_append.1 hc with hc | hc
    · rcases List.mem_append.1 hc with hc | hc
      · exact (dig_ne (hA c hc)).2.1
      · cases pt
        · simp [ptL] at hc
        · simp [ptL] at hc; omega
    · exact (dig_ne (hB c hc)).2.1
  obtain ⟨c, r, rfl⟩ : ∃ c r, A = c :: r := by
    cases A with
    | nil => exact absurd rfl hA0
    | cons c r => exact ⟨c, r, rfl⟩
  have hst : ((c :: r) ++ ptL pt ++ B).foldl nextS 0 = 2 ∨ ((c :: r) ++ ptL pt ++ B).foldl nextS 0 = 3 ∨ ((c :: r) ++ ptL pt ++ B).foldl nextS 0 = 6 := by
    rw [List.foldl_append, List.foldl_append]
    have hf := fold_first 0 (.inl rfl) (c :: r) hA (by simp)
    cases pt
    · have hB0 := hpt rfl
      subst hB0
      rcases hf with e | e
      · exact .inl e
      · exact .inr (.inl e)
    · have e1 : nextS ((c :: r).foldl nextS 0) 46 = 4 := by
        rcases hf with e | e <;> (rw [e]; rfl)
      refine .inr (.inr ?_)
      show B.foldl nextS (nextS ((c :: r).foldl nextS 0) 46) = 6
      rw [e1]
      exact fold_next 4 6 d4 d6 B hB (hpt2 rfl)
  refine ⟨c, r ++ ptL pt ++ B, _, by simp, digit_sgn (hA c List.mem_cons_self), rfl, by omega, ?_⟩
  unfold numX
  rw [if_neg (by omega), ahead_all _ _ hX, expOf_all _ _ hX, decScan_parts (c :: r) B pt hA hB hpt]
  show heldV 30000 (normL (vals (c :: r ++ B))) (normE (vals (c :: r ++ B)) (0 - (B.length : Int))) = _
  rw [show (0 : Int) - B.length = e from by omega]
  exact held_vals (hA.app hB) (by omega) hv h1 h2
end Go.Proofs.YtbkdaoicnobllabGreatDoor

/- Plain mathematics: what is written in base 16, read. -/
namespace Go.Proofs.YtbkdaoicnobllabGreatDoor
set_option exponentiation.threshold 40000

theorem num16_from (L : List Nat) : ∀ a, L.foldl (fun a d => a * 16 + d) a = a * 16 ^ L.length + num16 L := by
  induction L with
  | nil => intro a; simp [num16]
  | cons d r ih =>
    intro a
    have e : num16 (d :: r) = d * 16 ^ r.length + num16 r := by
      show r.foldl (fun a d => a * 16 + d) (0 * 16 + d) = _
      rw [ih, Nat.zero_mul, Nat.zero_add]
    rw [List.foldl_cons, ih, e, List.length_cons, Nat.pow_succ]
    grind
theorem num16_cons (d : Nat) (L : List Nat) : num16 (d :: L) = d * 16 ^ L.length + num16 L := by
  show L.foldl (fun a d => a * 16 + d) (0 * 16 + d) = _
  rw [num16_from, Nat.zero_mul, Nat.zero_add]
theorem hexD_val (d : Nat) (h : d < 16) : isHexc (hexD d).toNat = true ∧ hexv (hexD d).toNat = d := by
  have : ∀ i : Fin 16, isHexc (hexD i.val).toNat = true ∧ hexv (hexD i.val).toNat = i.val := by decide
  exact this ⟨d, h⟩
theorem hexP_ok (u r n : Nat) (hu : 0 < u) (hr : r < u) : (∀ c, c ∈ (hexP u r n).map UInt8.toNat → isHexc c = true) ∧ num16 (((hexP u r n).map UInt8.toNat).map hexv) = r * 16 ^ n / u := by
  induction n with
  | zero => refine ⟨fun c hc => by simp [hexP] at hc, ?_⟩; simp [hexP, num16, Nat.div_eq_of_lt hr]
  | succ n ih =>
    have hd : hexR u r n * 16 / u < 16 := by
      have := hexR_lt u r n hu
      rw [Nat.div_lt_iff_lt_mul hu]; omega
    obtain ⟨v1, v2⟩ := hexD_val _ hd
    simp only [hexP, List.map_append, List.map_cons, List.map_nil]
    refine ⟨fun c hc => ?_, ?_⟩
    · rcases List.mem_append.1 hc with h | h
      · exact ih.1 c h
      · rw [List.mem_singleton.1 h]; exact v1
    · rw [num16_snoc, ih.2, v2]
      unfold hexR
      have h1 := Nat.div_add_mod (r * 16 ^ n) u
      rw [Nat.pow_succ, ← Nat.mul_assoc]
      generalize r * 16 ^ n = x at *
      have h2 : x * 16 = u * (x / u * 16) + x % u * 16 := by
        conv => lhs; rw [← h1]
        grind
      rw [h2, Nat.mul_add_div hu]
theorem hex_more (X : List Nat) (h : ∀ c, c ∈ X → isHexc c = true) (b : Nat) (sn : Bool) : ∀ D : List Nat, 0 < D.length → X.foldl hexStep (D, b, sn) = (D ++ X.map hexv, (if sn = true then b + X.length else b), sn) := by
  induction X generalizing b with
  | nil => intro D _; simp
  | cons c r ih =>
    intro D hD
    have hc := hexc_ne (h c List.mem_cons_self)
    have e : hexStep (D, b, sn) c = (D ++ [hexv c], (if sn = true then b + 1 else b), sn) := by unfold hexStep; rw [if_neg hc.1, if_pos (.inl hD)]
    rw [List.foldl_cons, e, ih (fun x hx => h x (List.mem_cons_of_mem _ hx)) _ _ (by simp)]
    cases sn
    · simp
    · simp; omega
theorem hexScan_parts (B : List Nat) (pt : Bool) (hB : ∀ c, c ∈ B → isHexc c = true) (hpt : pt = false → B = []) : hexScan (49 :: (ptL pt ++ B)) = (1 :: B.map hexv, B.length, pt) := by
  unfold hexScan
  rw [List.foldl_cons, List.foldl_append]
  have e0 : hexStep ([], 0, false) 49 = ([1], 0, false) := by decide
  rw [e0]
  cases pt
  · have hB0 := hpt rfl
    subst hB0
    simp [ptL]
  · have e : (ptL true).foldl hexStep ([1], 0, false) = ([1], 0, true) := by decide
    rw [e, hex_more B hB _ _ _ (by simp)]
    simp
theorem ahead_to (X Y : List Nat) (x : Nat) (h : ∀ c, c ∈ X → c ≠ x) : ahead (X ++ x :: Y) x = X := by
  unfold ahead
  induction X with
  | nil => simp
  | cons c r ih => rw [List.cons_append, List.takeWhile_cons_of_pos (by simpa using h c List.mem_cons_self), ih (fun y hy => h y (List.mem_cons_of_mem _ hy))]
theorem expOf_to (X Y : List Nat) (x : Nat) (h : ∀ c, c ∈ X → c ≠ x) : expOf (X ++ x :: Y) x = expVal Y := by
  unfold expOf
  have e : (X ++ x :: Y).dropWhile (fun c => c != x) = x :: Y := by
    induction X with
    | nil => simp
    | cons c r ih => rw [List.cons_append, List.dropWhile_cons_of_pos (by simpa using h c List.mem_cons_self), ih (fun y hy => h y (List.mem_cons_of_mem _ hy))]
  rw [e]
theorem h13 (c : Nat) (h : isDig c = true) : nextS 13 c = 15 := by show (if isDig c = true then 15 else _) = 15; rw [if_pos h]
theorem h14 (c : Nat) (h : isDig c = true) : nextS 14 c = 15 := by show (if isDig c = true then 15 else _) = 15; rw [if_pos h]
theorem h15 (c : Nat) (h : isDig c = true) : nextS 15 c = 15 := by show (if isDig c = true then 15 else _) = 15; rw [if_pos h]
theorem fold_pow16 {pw : List Nat} (h : PowT pw) : pw.foldl nextS 13 = 15 := by
  obtain ⟨sg, E, rfl, hs, hE, hne⟩ := h
  rw [List.foldl_append]
  rcases hs with rfl | rfl | rfl
  · exact fold_next 13 15 h13 h15 E hE hne
  · exact fold_next 14 15 h14 h15 E hE hne
  · exact fold_next 14 15 h14 h15 E hE hne
theorem fold_hexs (B : List Nat) (h : ∀ c, c ∈ B → isHexc c = true) : B.foldl nextS 12 = 12 := by
  induction B with
  | nil => rfl
  | cons c r ih =>
    have e : nextS 12 c = 12 := by show (if isHexc c = true then 12 else _) = 12; rw [if_pos (h c List.mem_cons_self)]
    rw [List.foldl_cons, e]; exact ih (fun x hx => h x (List.mem_cons_of_mem _ hx))
/-- A text of base 16 by its parts. -/
theorem hex_says {B pw : List Nat} {pt : Bool} {E : Int} (hB : ∀ c, c ∈ B → isHexc c = true) (hpt : pt = false → B = []) (hpw : PowT pw) (hE : expVal pw = E) (hn : B.length ≤ 13) (h1 : -1100 ≤ E) (h2 : E ≤ 1100) :
    Says (48 :: 120 :: (49 :: (ptL pt ++ B) ++ 112 :: pw)) (num16 (1 :: B.map hexv) * two 30000 (E - 4 * (B.length : Int))) := by
  have hX : ∀ c, c ∈ 49 :: (ptL pt ++ B) → c ≠ 112 := by
    intro c hc
    rcases List.mem_cons.1 hc with hc | hc
    · omega
    · rcases List.mem_append.1 hc with hc | hc
      · cases pt
        · simp [ptL] at hc
        · simp [ptL] at hc; omega
      · exact (hexc_ne (hB c hc)).2.1
  refine ⟨48, 120 :: (49 :: (ptL pt ++ B) ++ 112 :: pw), 15, rfl, rfl, ?_, .inl rfl, ?_⟩
  · rw [List.foldl_cons, List.foldl_cons, List.foldl_append, List.foldl_cons, List.foldl_cons, List.foldl_append]
    have e0 : nextS (nextS (nextS 0 48) 120) 49 = 11 := by decide
    rw [e0]
    cases pt
    · have hB0 := hpt rfl
      subst hB0
      exact fold_pow16 hpw
    · have e1 : (ptL true).foldl nextS 11 = 12 := by decide
      rw [e1, fold_hexs B hB]
      exact fold_pow16 hpw
  · unfold numX
    rw [if_pos rfl]
    show sixV 30000 (hexScan (ahead (49 :: (ptL pt ++ B) ++ 112 :: pw) 112)).1 (expOf (48 :: 120 :: (49 :: (ptL pt ++ B) ++ 112 :: pw)) 112 - 4 * (hexScan (ahead (49 :: (ptL pt ++ B) ++ 112 :: pw) 112)).2.1) = _
    rw [ahead_to _ _ _ hX, hexScan_parts B pt hB hpt]
    have hX2 : ∀ c, c ∈ 48 :: 120 :: 49 :: (ptL pt ++ B) → c ≠ 112 := by
      intro c hc
      rcases List.mem_cons.1 hc with hc | hc
      · omega
      · rcases List.mem_cons.1 hc with hc | hc
        · omega
        · exact hX c hc
    have e2 : expOf (48 :: 120 :: (49 :: (ptL pt ++ B) ++ 112 :: pw)) 112 = E := by
      rw [show 48 :: 120 :: (49 :: (ptL pt ++ B) ++ 112 :: pw) = (48 :: 120 :: 49 :: (ptL pt ++ B)) ++ 112 :: pw from by simp, expOf_to _ _ _ hX2, hE]
    rw [e2]
    show sixV 30000 (1 :: B.map hexv) (E - 4 * (B.length : Int)) = _
    have hlen : (1 :: B.map hexv).length = B.length + 1 := by simp
    unfold sixV
    rw [hlen, if_neg (by omega), if_neg (by omega), if_neg (by omega)]
    rw [List.drop_eq_nil_of_le (by rw [hlen]; omega), List.take_of_length_le (by rw [hlen]; omega)]
    rw [if_neg (by simp [some16]), show B.length + 1 - min (B.length + 1) 300 = 0 from by omega]
    congr 2; omega
theorem hexEnd_le {j r n : Nat} (hj : j ≤ 52) (h : HexEnd (2 ^ j) r n) : n ≤ 13 := by
  apply Nat.le_of_not_lt; intro hlt
  have := hexR_more j r 13 hj (h.2 13 hlt)
  omega
theorem bits_le {m j : Nat} (h : Bits m j) (hm : m ≤ 9007199254740992) (hm2 : m < 9007199254740992) : j ≤ 52 := by
  apply Nat.le_of_not_lt; intro hlt
  have h1 := h.1
  have h2 : 2 ^ 53 ≤ 2 ^ j := Nat.pow_le_pow_right (by omega) hlt
  have h3 : (2 : Nat) ^ 53 = 9007199254740992 := by decide
  omega
theorem powC_more : ∀ i : Fin 2401, (powC ((i.val : Int) - 1200) && decide ((Lib.itoa ((i.val : Int) - 1200)).length ≤ 8)) = true := by decide +kernel
theorem itoa_two (t : Int) (h1 : -1200 ≤ t) (h2 : t ≤ 1200) : PowT ((Lib.itoa t).map UInt8.toNat) ∧ expVal ((Lib.itoa t).map UInt8.toNat) = t ∧ (Lib.itoa t).length ≤ 8 := by
  have h := powC_more ⟨(t + 1200).toNat, by omega⟩
  rw [show (((⟨(t + 1200).toNat, by omega⟩ : Fin 2401).val : Nat) : Int) - 1200 = t from by simp; omega] at h
  unfold powC at h
  simp only [Bool.and_eq_true, Bool.or_eq_true, decide_eq_true_eq, List.all_eq_true] at h
  obtain ⟨⟨⟨g0, g1⟩, g2⟩, g3⟩ := h
  refine ⟨?_, g2, g3⟩
  rcases g1 with ⟨_, g⟩ | ⟨⟨⟨_, gc⟩, g⟩, gn⟩
  · exact ⟨[], _, rfl, .inl rfl, g, g0⟩
  · exact ⟨[45], _, gc, .inr (.inr rfl), g, gn⟩
/-- What Hex writes says the number. -/
theorem hexText_says {m : Nat} {e E : Int} {T : List UInt8} (h : HexText m e T E) (hm : m < 9007199254740992) (h1 : -1090 ≤ e) (h2 : e ≤ 1000) : Says (chs (str (hexS T E))) (two 30000 e * m) := by
  obtain ⟨j, n, hb, hx, rfl, rfl⟩ := h
  have hj := bits_le hb (by omega) hm
  have hn := hexEnd_le hj hx
  have hp : 0 < 2 ^ j := Nat.pow_pos (by omega)
  have hr : m - 2 ^ j < 2 ^ j := by have h3 := hb.2; have h4 := hb.1; rw [Nat.pow_succ] at h3; omega
  obtain ⟨o1, o2⟩ := hexP_ok (2 ^ j) (m - 2 ^ j) n hp hr
  have hl : ((hexP (2 ^ j) (m - 2 ^ j) n).map UInt8.toNat).length = n := by rw [List.length_map, hexP_length]
  obtain ⟨p1, p2, _⟩ := itoa_two (e + j) (by omega) (by omega)
  have e1 : chs (str (hexS (hexP (2 ^ j) (m - 2 ^ j) n) (e + j))) = 48 :: 120 :: (49 :: (ptL (decide (n ≠ 0)) ++ (hexP (2 ^ j) (m - 2 ^ j) n).map UInt8.toNat) ++ 112 :: (Lib.itoa (e + j)).map UInt8.toNat) := by
    rw [chs_str]
    unfold hexS ptd
    by_cases h0 : n = 0
    · subst h0; simp [hexP, ptL]
    · rw [if_neg (fun h => h0 (by rw [← hexP_length (2 ^ j) (m - 2 ^ j) n, h]; rfl))]
      simp [ptL, h0]
  rw [e1]
  have hsay := hex_says (pt := decide (n ≠ 0)) o1 (fun h => by
    have h0 : n = 0 := by simpa using h
    subst h0; rfl) p1 p2 (by omega) (by omega) (by omega)
  rw [hl] at hsay
  have hfin : num16 (1 :: ((hexP (2 ^ j) (m - 2 ^ j) n).map UInt8.toNat).map hexv) * two 30000 (e + j - 4 * (n : Int)) = two 30000 e * m := by
    rw [num16_cons, List.length_map, hl, o2]
    have hd : (m - 2 ^ j) * 16 ^ n / 2 ^ j * 2 ^ j = (m - 2 ^ j) * 16 ^ n := by
      have h0 : (m - 2 ^ j) * 16 ^ n % 2 ^ j = 0 := hx.1
      exact Nat.div_mul_cancel (Nat.dvd_of_mod_eq_zero h0)
    have t1 := two_mul 30000 (e + j - 4 * (n : Int)) (by omega) (4 * n)
    rw [show e + j - 4 * (n : Int) + ((4 * n : Nat) : Int) = e + j from by omega, show 2 ^ (4 * n) = 16 ^ n from by rw [Nat.pow_mul]] at t1
    have t2 := two_mul 30000 e (by omega) j
    have hge := hb.1
    generalize two 30000 (e + j - 4 * (n : Int)) = Z at *
    generalize two 30000 e = Y at *
    generalize two 30000 (e + j) = U at *
    generalize (m - 2 ^ j) * 16 ^ n / 2 ^ j = Q at *
    apply Nat.eq_of_mul_eq_mul_right hp
    have a1 : (1 * 16 ^ n + Q) * Z * 2 ^ j = (16 ^ n * 2 ^ j + Q * 2 ^ j) * Z := by grind
    rw [a1, hd, ← Nat.mul_comm (16 ^ n) (m - 2 ^ j), ← Nat.mul_add, show 2 ^ j + (m - 2 ^ j) = m from by omega]
    have a2 : 16 ^ n * m * Z = Z * 16 ^ n * m := by grind
    rw [a2, ← t1, t2]; grind
  rw [hfin] at hsay
  exact hsay
end Go.Proofs.YtbkdaoicnobllabGreatDoor
