import Derived.Test.YtbkdaoicnobllaaGreatDoorG00
import Derived.Test.YtbkdaoicnobllaaGreatDoorG11
import Derived.Test.YtbkdaoicnobllaaGreatDoorG22
import Derived.Test.YtbkdaoicnobllaaGreatDoorG02

/- Plain mathematics: what is written with a power of ten, read. -/
namespace Go.Proofs.YtbkdaoicnobllaaGreatDoor
set_option exponentiation.threshold 40000

theorem num_row {L : List Nat} (h : Digs L) (K : Nat) (e hi : Int) (he : -(K : Int) ≤ e) (m : Nat) (hm : -(K : Int) ≤ hi + 1 - m) : num (vals ((rowT L e hi m).map UInt8.toNat)) = val K L e / 10 ^ (hi + 1 - m + K).toNat % 10 ^ m := by
  induction m with
  | zero => rw [Nat.pow_zero, Nat.mod_one]; simp [rowT, vals, num_nil]
  | succ m ih =>
    rw [rowT, List.map_append, vals_app]
    have hd := dig_le h e (hi - m)
    have e1 : vals ([UInt8.ofNat (48 + dig L e (hi - m))].map UInt8.toNat) = [dig L e (hi - m)] := by
      unfold vals; simp; omega
    rw [e1, num_snoc, ih (by omega), ← dig_val h K e (hi - m) he (by omega)]
    rw [show (hi + 1 - (m : Int) + K).toNat = (hi + 1 - ((m + 1 : Nat) : Int) + K).toNat + 1 from by omega, show hi - (m : Int) + K = hi + 1 - ((m + 1 : Nat) : Int) + K from by omega, Nat.pow_succ, ← Nat.div_div_eq_div_mul]
    generalize val K L e / 10 ^ (hi + 1 - ((m + 1 : Nat) : Int) + K).toNat = q
    rw [Nat.pow_succ, Nat.mul_comm (10 ^ m) 10, Nat.mod_mul]; omega
theorem row_all {L : List Nat} (h : Digs L) (e hi : Int) (m : Nat) : AllD ((rowT L e hi m).map UInt8.toNat) := by
  intro c hc
  obtain ⟨b, hb, rfl⟩ := List.mem_map.1 hc
  have := rowT_byte h e hi m b hb
  unfold isDig; simp; omega
/-- What is written holds all of the number that was rounded. -/
theorem ExpR.whole {aw : Int → Bool → Bool} {V n : Nat} {D L : List Nat} {e g : Int} {T : List UInt8} (h : ExpR aw V n D e L g T) : Go.Proofs.YtbkdaoicnobllaaGreatDoor.val 3000 L g % 10 ^ (g + L.length - 1 - n + (3000 : Nat)).toNat = 0 := by
  have ht := h.tops
  rcases (by omega : g + L.length = e + D.length ∨ g + L.length = e + D.length + 1) with he | he
  · rw [he, h.val', Nat.mul_mod_left]
  · have a := val_lt h.digs 3000 e h.lo
    rw [h.val] at a
    have c := rndN_hi aw (k := (e + D.length - 1 - n + (3000 : Nat)).toNat) (m := (e + D.length + (3000 : Nat)).toNat) (by have := h.lo; omega) a
    rw [← h.val'] at c
    have c' := val_ge h.headed' h.pos' 3000 g h.lo'
    rw [he, show e + (D.length : Int) + 1 - 1 + (3000 : Nat) = e + D.length + (3000 : Nat) from by omega] at c'
    have hv : Go.Proofs.YtbkdaoicnobllaaGreatDoor.val 3000 L g = 10 ^ (e + D.length + (3000 : Nat)).toNat := by omega
    rw [hv, he]
    obtain ⟨k, hk⟩ : ∃ k, (e + D.length + (3000 : Nat)).toNat = (e + D.length + 1 - 1 - n + (3000 : Nat)).toNat + k := ⟨(e + D.length + (3000 : Nat)).toNat - (e + D.length + 1 - 1 - n + (3000 : Nat)).toNat, by omega⟩
    rw [hk, Nat.pow_add, Nat.mul_mod_right]
def powC (t : Int) : Bool := decide (((Lib.itoa t).map UInt8.toNat) ≠ []) && (decide (0 ≤ t) && ((Lib.itoa t).map UInt8.toNat).all isDig || decide (t < 0) && decide ((Lib.itoa t).map UInt8.toNat = 45 :: ((Lib.itoa t).map UInt8.toNat).drop 1) && (((Lib.itoa t).map UInt8.toNat).drop 1).all isDig && decide (((Lib.itoa t).map UInt8.toNat).drop 1 ≠ [])) && decide (expVal ((Lib.itoa t).map UInt8.toNat) = t)
theorem powC_all : ∀ i : Fin 2001, powC ((i.val : Int) - 1000) = true := by decide +kernel
theorem itoa_powT (t : Int) (h1 : -1000 ≤ t) (h2 : t ≤ 1000) : PowT ((Lib.itoa t).map UInt8.toNat) ∧ expVal ((Lib.itoa t).map UInt8.toNat) = t := by
  have h := powC_all ⟨(t + 1000).toNat, by omega⟩
  rw [show (((⟨(t + 1000).toNat, by omega⟩ : Fin 2001).val : Nat) : Int) - 1000 = t from by simp; omega] at h
  unfold powC at h
  simp only [Bool.and_eq_true, Bool.or_eq_true, decide_eq_true_eq, List.all_eq_true] at h
  obtain ⟨⟨g0, g1⟩, g2⟩ := h
  refine ⟨?_, g2⟩
  rcases g1 with ⟨_, g⟩ | ⟨⟨⟨_, gc⟩, g⟩, gn⟩
  · exact ⟨[], _, rfl, .inl rfl, g, g0⟩
  · exact ⟨[45], _, gc, .inr (.inr rfl), g, gn⟩
theorem chs_str (T : List UInt8) : chs (str T) = T.map UInt8.toNat := by unfold chs str; simp
/-- A text d.ddde.. by its parts. -/
theorem sci_parts (L : List Nat) (g top : Int) (n : Nat) (pw : List UInt8) : chs (str (sciT L g top n ++ 101 :: pw)) = [] ++ ((rowT L g top 1).map UInt8.toNat ++ ptL (decide (n ≠ 0)) ++ (rowT L g (top - 1) n).map UInt8.toNat ++ 101 :: pw.map UInt8.toNat) := by
  rw [chs_str]
  unfold sciT
  by_cases hn : n = 0
  · subst hn; simp [ptL, rowT]
  · rw [if_neg hn]; simp [ptL, hn]
theorem held_in {K : Nat} {L : List Nat} {e : Int} (hn : Norm L) (hl : L ≠ []) (he : -(K : Int) ≤ e) (hK : 400 ≤ K) (h1 : 10 ^ (K - 390) ≤ val K L e) (h2 : val K L e < 10 ^ (K + 390)) : heldV K L e = val K L e := by
  have hp := List.length_pos_iff.2 hl
  have a := val_lt hn.digs K e he
  have b := val_ge hn.headed hp K e he
  unfold heldV
  rw [if_neg (by omega), if_neg, if_neg]
  · intro hlt
    have : 10 ^ (e + L.length + K).toNat ≤ 10 ^ (K - 390) := Nat.pow_le_pow_right (by omega) (by omega)
    omega
  · intro hlt
    have : 10 ^ (K + 390) ≤ 10 ^ (e + L.length - 1 + K).toNat := Nat.pow_le_pow_right (by omega) (by omega)
    omega
theorem like_val {S : List Nat} {e : Int} {W : Nat} (hS : AllD S) (he : -2000 ≤ e) (hv : val 3000 (vals S) e = W) (h1 : 10 ^ 2610 ≤ W) (h2 : W < 10 ^ 3390) : likeX S e = W * 10 ^ 27000 := by
  have hN := normL_norm (vals_digs hS)
  have hnv := norm_val (vals S) e 30000 (by omega)
  have hm : val 30000 (vals S) e = W * 10 ^ 27000 := by
    have := val_more 3000 27000 (vals S) e (by omega)
    rw [hv] at this; exact this
  have hp : 0 < W := Nat.lt_of_lt_of_le (Nat.pow_pos (by omega)) h1
  have hP : 0 < 10 ^ 27000 := Nat.pow_pos (by omega)
  have hne : normL (vals S) ≠ [] := fun h0 => by
    rw [h0, hm] at hnv
    have hz : val 30000 [] (normE (vals S) e) = 0 := by unfold val; rw [num_nil, Nat.zero_mul]
    rw [hz] at hnv
    have := Nat.mul_pos hp hP
    omega
  have hge := normE_ge (vals S) e hne
  unfold likeX
  rw [held_in hN hne (by omega) (by omega), hnv, hm]
  · rw [hnv, hm, show 30000 - 390 = 2610 + 27000 from by omega, Nat.pow_add]
    exact Nat.mul_le_mul_right _ h1
  · rw [hnv, hm, show 30000 + 390 = 3390 + 27000 from by omega, Nat.pow_add]
    exact Nat.mul_lt_mul_of_pos_right h2 hP
theorem sci_val {L : List Nat} {g top : Int} {n : Nat} (hd : Digs L) (hg : -(3000 : Int) ≤ g) (ht : g + L.length = top + 1) (hn : -(3000 : Int) ≤ top - n) (hw : val 3000 L g % 10 ^ (top - n + (3000 : Nat)).toNat = 0) : val 3000 (vals ((rowT L g top 1).map UInt8.toNat ++ (rowT L g (top - 1) n).map UInt8.toNat)) (top - n) = val 3000 L g := by
  have e1 : (rowT L g top 1).map UInt8.toNat ++ (rowT L g (top - 1) n).map UInt8.toNat = (rowT L g top (n + 1)).map UInt8.toNat := by
    rw [← List.map_append, rowT_cons L g top n]; simp [rowT]
  rw [e1]
  have h1 := num_row hd 3000 g top hg (n + 1) (by omega)
  rw [show top + 1 - ((n + 1 : Nat) : Int) + (3000 : Nat) = top - n + (3000 : Nat) from by omega] at h1
  have b := val_lt hd 3000 g hg
  rw [ht, show (top + 1 + (3000 : Nat)).toNat = (n + 1) + (top - n + (3000 : Nat)).toNat from by omega, Nat.pow_add] at b
  have hP : 0 < 10 ^ (top - n + (3000 : Nat)).toNat := Nat.pow_pos (by omega)
  rw [Nat.mod_eq_of_lt ((Nat.div_lt_iff_lt_mul hP).2 b)] at h1
  show num (vals ((rowT L g top (n + 1)).map UInt8.toNat)) * 10 ^ (top - n + (3000 : Nat)).toNat = _
  rw [h1]
  have := Nat.div_add_mod (val 3000 L g) (10 ^ (top - n + (3000 : Nat)).toNat)
  rw [hw, Nat.add_zero, Nat.mul_comm] at this
  exact this
/-- What Parse says of a text that is written with a power of ten. -/
theorem sci_read {L : List Nat} {g top : Int} {n : Nat} {f m b fl at' err : Int} (hd : Digs L) (hg : -(3000 : Int) ≤ g) (ht : g + L.length = top + 1) (h1 : -1000 ≤ top) (h2 : top ≤ 1000) (hn : n ≤ 880) (hw : val 3000 L g % 10 ^ (top - n + (3000 : Nat)).toNat = 0)
    (hlo : 10 ^ 2610 ≤ val 3000 L g) (hhi : val 3000 L g < 10 ^ 3390) (hv : 0 ≤ f ∧ f ≤ 2 ∧ 0 ≤ m ∧ m ≤ 4) (hlen : (sciT L g top n ++ 101 :: Lib.itoa top).length ≤ 900) (hp : ProgSpec 30000 (chs (str (sciT L g top n ++ 101 :: Lib.itoa top))) f m b fl at' err) :
    at' = 0 ∧ err = 0 ∧ ∃ r, RoundSpec 3000 f m false (val 3000 L g) r fl ∧ b = signedV f false r := by
  obtain ⟨p1, p2⟩ := itoa_powT top h1 h2
  have hA := row_all hd g top 1
  have hB := row_all hd g (top - 1) n
  have hBl : ((rowT L g (top - 1) n).map UInt8.toNat).length = n := by rw [List.length_map, rowT_length]
  have hval := sci_val hd hg ht (by omega) hw
  have hpl := sci_parts L g top n (Lib.itoa top)
  obtain ⟨q1, q2, r, q3, q4⟩ := like_text (S := (rowT L g top 1).map UInt8.toNat ++ (rowT L g (top - 1) n).map UInt8.toNat) (e := top - n) hpl (.inl rfl) hA hB (by simp [rowT]) (fun h => by
      have hn0 : n = 0 := by simpa using h
      subst hn0; rfl) p1 (hA.app hB) (by omega) (by rw [p2, hBl]; omega) (by rw [p2, hBl]) hv (by rw [chs_str, List.length_map]; exact hlen) hp
  rw [like_val (hA.app hB) (by omega) hval hlo hhi] at q3
  exact ⟨q1, q2, r, round_scale (K := 3000) (c := 27000) (by omega) q3, q4⟩
end Go.Proofs.YtbkdaoicnobllaaGreatDoor

/- Plain mathematics: all digits of a number, written and read. -/
namespace Go.Proofs.YtbkdaoicnobllaaGreatDoor
set_option exponentiation.threshold 40000

theorem mod_key {x M j n : Nat} {t : Int} (hM : M < 10 ^ (n + 1)) (hx : x = M * 10 ^ j) (_ht : 0 ≤ t) (hk : 10 ^ t.toNat ≤ x) : x % 10 ^ (t - n).toNat = 0 := by
  have a : x < 10 ^ (n + 1 + j) := by rw [hx, Nat.pow_add]; exact Nat.mul_lt_mul_of_pos_right hM (Nat.pow_pos (by omega))
  have b : t.toNat < n + 1 + j := (Nat.pow_lt_pow_iff_right (by omega)).1 (Nat.lt_of_le_of_lt hk a)
  obtain ⟨c, hc⟩ : ∃ c, j = (t - n).toNat + c := ⟨j - (t - n).toNat, by omega⟩
  rw [hx, hc, Nat.pow_add, Nat.mul_left_comm]; exact Nat.mul_mod_right _ _
/-- N times 2^s has no more than n + 1 digits. -/
theorem two_exact {K : Nat} {s k : Int} {N n : Nat} (h1 : s < 0 → N * 5 ^ (-s).toNat < 10 ^ (n + 1)) (h2 : 0 ≤ s → N * 2 ^ s.toNat < 10 ^ (n + 1)) (hk0 : -(K : Int) ≤ k) (hk : 10 ^ (k + K).toNat ≤ two K s * N) : two K s * N % 10 ^ (k - n + K).toNat = 0 := by
  rw [show k - n + (K : Int) = (k + K) - n from by omega]
  by_cases h : 0 ≤ s
  · exact mod_key (M := N * 2 ^ s.toNat) (j := K) (h2 h) (by unfold two; rw [if_pos h, Nat.mul_right_comm, Nat.mul_comm N]) (by omega) hk
  · exact mod_key (M := N * 5 ^ (-s).toNat) (j := (K + s).toNat) (h1 (by omega)) (by unfold two; rw [if_neg h, Nat.mul_right_comm, Nat.mul_comm N]) (by omega) hk
theorem sx_bd {f : Int} (hf : 0 ≤ f ∧ f ≤ 2) {a : Nat} (h1 : (a : Int) < infN f) : -1074 ≤ fE f + (xA (fQ f) a : Nat) ∧ fE f + (xA (fQ f) a : Nat) ≤ 971 ∧ mA (fQ f) a ≤ 9007199254740992 := by
  have hl := mA_lt (fQ f) a
  rcases (by omega : f = 0 ∨ f = 1 ∨ f = 2) with rfl | rfl | rfl
  · have hai : (a : Int) < 31744 := h1
    rw [pQ0] at hl
    have e : fE 0 = -24 := rfl
    have x : xA (fQ 0) a = a / 1024 - 1 := by unfold xA; rw [pQ0]
    rw [e, x]; omega
  · have hai : (a : Int) < 2139095040 := h1
    rw [pQ1] at hl
    have e : fE 1 = -149 := rfl
    have x : xA (fQ 1) a = a / 8388608 - 1 := by unfold xA; rw [pQ1]
    rw [e, x]; omega
  · have hai : (a : Int) < 9218868437227405312 := h1
    rw [pQ2] at hl
    have e : fE 2 = -1074 := rfl
    have x : xA (fQ 2) a = a / 4503599627370496 - 1 := by unfold xA; rw [pQ2]
    rw [e, x]; omega
theorem valA_all {f : Int} (hf : 0 ≤ f ∧ f ≤ 2) {a : Nat} (h1 : (a : Int) < infN f) {k : Int} (hk0 : -(3000 : Nat) ≤ k) (hk : 10 ^ (k + (3000 : Nat)).toNat ≤ valA 3000 f a) : valA 3000 f a % 10 ^ (k - (770 : Nat) + (3000 : Nat)).toNat = 0 := by
  obtain ⟨b1, b2, b3⟩ := sx_bd hf h1
  unfold valA at hk ⊢
  generalize fE f + (xA (fQ f) a : Nat) = s at *
  generalize mA (fQ f) a = N at *
  refine two_exact (fun h => ?_) (fun h => ?_) hk0 hk
  · have h5 : 5 ^ (-s).toNat ≤ 5 ^ 1074 := Nat.pow_le_pow_right (by omega) (by omega)
    exact Nat.lt_of_le_of_lt (Nat.mul_le_mul b3 h5) (by decide +kernel)
  · have h5 : 2 ^ s.toNat ≤ 2 ^ 971 := Nat.pow_le_pow_right (by omega) (by omega)
    exact Nat.lt_of_le_of_lt (Nat.mul_le_mul b3 h5) (by decide +kernel)
theorem valA_bd {f : Int} (hf : 0 ≤ f ∧ f ≤ 2) {a : Nat} (h0 : 0 < a) (h1 : (a : Int) < infN f) : 10 ^ 2620 ≤ valA 3000 f a ∧ valA 3000 f a < 10 ^ 3380 := by
  constructor
  · refine Nat.le_trans ?_ (valA_mono 3000 f (by omega) (show 1 ≤ a from h0))
    rcases (by omega : f = 0 ∨ f = 1 ∨ f = 2) with rfl | rfl | rfl <;> decide +kernel
  · refine Nat.lt_of_le_of_lt (valA_mono 3000 f (by omega) (show a ≤ infN f by omega)) ?_
    rcases (by omega : f = 0 ∨ f = 1 ∨ f = 2) with rfl | rfl | rfl <;> decide +kernel
theorem rnd_whole (aw : Int → Bool → Bool) (V P : Nat) (h : V % P = 0) : rndN aw V P * P = V := by
  unfold rndN
  rw [if_neg (fun hh => hh.1 (by unfold leftN; rw [if_pos h]))]
  have := Nat.div_add_mod V P
  rw [h, Nat.add_zero, Nat.mul_comm] at this; exact this
/-- All digits are written. -/
def Fits (V n : Nat) : Prop := ∀ k : Int, -(3000 : Nat) ≤ k → 10 ^ (k + (3000 : Nat)).toNat ≤ V → V % 10 ^ (k - n + (3000 : Nat)).toNat = 0
theorem ExpR.fit {aw : Int → Bool → Bool} {V n : Nat} {D L : List Nat} {e g : Int} {T : List UInt8} (h : ExpR aw V n D e L g T) (hx : Fits V n) : V % 10 ^ (e + D.length - 1 - n + (3000 : Nat)).toNat = 0 := by
  have hlo := h.lo
  have hp := h.pos
  have hg := val_ge h.headed hp 3000 e hlo
  rw [h.val] at hg
  exact hx (e + D.length - 1) (by omega) hg
theorem ExpR.all {aw : Int → Bool → Bool} {V n : Nat} {D L : List Nat} {e g : Int} {T : List UInt8} (h : ExpR aw V n D e L g T) (hx : Fits V n) : Go.Proofs.YtbkdaoicnobllaaGreatDoor.val 3000 L g = V := by
  rw [h.val']; exact rnd_whole aw _ _ (h.fit hx)
theorem ExpQ.other {aw aw' : Int → Bool → Bool} {V n : Nat} {T : List UInt8} (hx : Fits V n) (h : ExpQ aw V n T) : ExpQ aw' V n T := by
  rcases h with h | ⟨D, e, L, g, h⟩
  · exact .inl h
  · refine .inr ⟨D, e, L, g, ⟨h.digs, h.headed, h.pos, h.lo, h.val, h.digs', h.headed', h.pos', h.lo', h.lon, ?_, h.text⟩⟩
    rw [h.all hx, rnd_whole aw' _ _ (h.fit hx)]
theorem row_range {L : List Nat} {g : Int} (hd : Digs L) (hh : Headed L) (hl : 0 < L.length) (hg : -(3000 : Nat) ≤ g) (h1 : 10 ^ 2610 ≤ val 3000 L g) (h2 : val 3000 L g < 10 ^ 3390) : -391 ≤ g + L.length - 1 ∧ g + L.length - 1 ≤ 390 := by
  have a := val_lt hd 3000 g hg
  have b := val_ge hh hl 3000 g hg
  have c := (Nat.pow_lt_pow_iff_right (a := 10) (by omega)).1 (Nat.lt_of_le_of_lt h1 a)
  have d := (Nat.pow_lt_pow_iff_right (a := 10) (by omega)).1 (Nat.lt_of_le_of_lt b h2)
  omega
/-- What Parse says of a text that Exp writes. -/
theorem ExpR.reads {aw : Int → Bool → Bool} {V n : Nat} {D L : List Nat} {e g : Int} {T : List UInt8} {f m b fl at' err : Int} (h : ExpR aw V n D e L g T) (hn : n ≤ 880) (h1 : 10 ^ 2610 ≤ Go.Proofs.YtbkdaoicnobllaaGreatDoor.val 3000 L g) (h2 : Go.Proofs.YtbkdaoicnobllaaGreatDoor.val 3000 L g < 10 ^ 3390) (hv : 0 ≤ f ∧ f ≤ 2 ∧ 0 ≤ m ∧ m ≤ 4) (hp : ProgSpec 30000 (chs (str T)) f m b fl at' err) :
    at' = 0 ∧ err = 0 ∧ ∃ r, RoundSpec 3000 f m false (Go.Proofs.YtbkdaoicnobllaaGreatDoor.val 3000 L g) r fl ∧ b = signedV f false r := by
  obtain ⟨r1, r2⟩ := row_range h.digs' h.headed' h.pos' h.lo' h1 h2
  have hlen := (itoa_pow (g + L.length - 1) (by omega) (by omega)).2.1
  have hsl := sciT_length L g (g + L.length - 1) n
  have hT := h.text
  rw [hT] at hp
  exact sci_read h.digs' h.lo' (by omega) (by omega) (by omega) hn (h.whole) h1 h2 hv (by rw [List.length_append, List.length_cons]; omega) hp
theorem num_zero_row (m : Nat) (e hi : Int) : num (vals ((rowT [] e hi m).map UInt8.toNat)) = 0 := by
  induction m with
  | zero => rfl
  | succ m ih =>
    rw [rowT, List.map_append, vals_app, num_append, ih]
    have hd : dig [] e (hi - m) = 0 := by
      by_cases h : hi - m < e
      · exact dig_lo _ h
      · exact dig_hi _ (by simp; omega)
    rw [hd]; rfl
theorem held_zero {S : List Nat} {e : Int} (hS : AllD S) (h : num (vals S) = 0) (he : -2000 ≤ e) : likeX S e = 0 := by
  have hN := normL_norm (vals_digs hS)
  have hv := norm_val (vals S) e 3000 (by omega)
  have : normL (vals S) = [] := by
    rcases Nat.eq_zero_or_pos (normL (vals S)).length with g | g
    · exact List.length_eq_zero_iff.1 g
    · exfalso
      have hp := val_pos hN g 3000 (normE (vals S) e)
      rw [hv] at hp
      unfold val at hp
      rw [h, Nat.zero_mul] at hp
      omega
  unfold likeX heldV
  rw [this, if_pos List.length_nil]
/-- Noughts are read as nothing. -/
theorem zero_reads {n : Nat} {f m b fl at' err : Int} (hn : n ≤ 880) (hv : 0 ≤ f ∧ f ≤ 2 ∧ 0 ≤ m ∧ m ≤ 4) (hp : ProgSpec 30000 (chs (str (fixT [] 0 0 n ++ [101, 48]))) f m b fl at' err) : at' = 0 ∧ err = 0 ∧ b = 0 ∧ fl = 0 := by
  have hs : fixT [] 0 0 n ++ [101, 48] = sciT [] 0 0 n ++ 101 :: [48] := by unfold fixT sciT; rfl
  rw [hs] at hp
  have hA := row_all Digs.nil 0 0 1
  have hB := row_all Digs.nil 0 (0 - 1) n
  have hBl : ((rowT [] 0 (0 - 1) n).map UInt8.toNat).length = n := by rw [List.length_map, rowT_length]
  have hpw : PowT (([48] : List UInt8).map UInt8.toNat) := ⟨[], [48], rfl, .inl rfl, fun c hc => by rw [List.mem_singleton.1 hc]; rfl, by simp⟩
  have hpv : expVal (([48] : List UInt8).map UInt8.toNat) = 0 := by decide
  have hsl := sciT_length [] 0 0 n
  obtain ⟨q1, q2, r, q3, q4⟩ := like_text (S := (rowT [] 0 0 1).map UInt8.toNat ++ (rowT [] 0 (0 - 1) n).map UInt8.toNat) (e := 0 - n) (sci_parts [] 0 0 n [48]) (.inl rfl) hA hB (by simp [rowT]) (fun h => by
      have hn0 : n = 0 := by simpa using h
      subst hn0; rfl) hpw (hA.app hB) (by omega) (by rw [hpv, hBl]; omega) (by rw [hpv, hBl]) hv (by rw [chs_str, List.length_map, List.length_append, List.length_cons, List.length_singleton]; omega) hp
  rw [held_zero (hA.app hB) (by rw [vals_app, num_append, num_zero_row, num_zero_row, Nat.zero_mul]) (by omega)] at q3
  obtain ⟨z1, z2⟩ := RoundSpec.zero q3
  exact ⟨q1, q2, by rw [q4, z1]; rfl, z2⟩
/-- All digits of a number are read as it. -/
theorem fit_reads {aw : Int → Bool → Bool} {n : Nat} {T : List UInt8} {f m b fl at' err : Int} {V : Nat} (hn : n ≤ 880) (hx : Fits V n) (h1 : 10 ^ 2610 ≤ V) (h2 : V < 10 ^ 3390) (hv : 0 ≤ f ∧ f ≤ 2 ∧ 0 ≤ m ∧ m ≤ 4) (hT : ExpQ aw V n T) (hp : ProgSpec 30000 (chs (str T)) f m b fl at' err) : at' = 0 ∧ err = 0 ∧ RoundSpec 3000 f m false V b fl := by
  obtain ⟨D, e, L, g, h⟩ := hT.some (Nat.lt_of_lt_of_le (Nat.pow_pos (by omega)) h1)
  have ha := h.all hx
  obtain ⟨q1, q2, r, q3, q4⟩ := h.reads hn (by rw [ha]; exact h1) (by rw [ha]; exact h2) hv hp
  rw [ha] at q3
  refine ⟨q1, q2, ?_⟩
  rw [q4]; exact q3
theorem whole_fits {f : Int} (hf : 0 ≤ f ∧ f ≤ 2) {a : Nat} (h1 : (a : Int) < infN f) : Fits (valA 3000 f a) 770 := fun _ hk0 hk => valA_all hf h1 hk0 hk
theorem whole_reads {f m b fl at' err : Int} {a : Nat} {T : List UInt8} (hf : 0 ≤ f ∧ f ≤ 2) (h1 : (a : Int) < infN f) (hm : 0 ≤ m ∧ m ≤ 4) (hT : ExpQ (awayB 0 false) (valA 3000 f a) 770 T) (hp : PParse (str T) f m b fl at' err) : b = a ∧ fl = 0 ∧ at' = 0 ∧ err = 0 := by
  have hs := prog_spec (K := 30000) (by omega) hp
  have hv : 0 ≤ f ∧ f ≤ 2 ∧ 0 ≤ m ∧ m ≤ 4 := ⟨hf.1, hf.2, hm.1, hm.2⟩
  rcases Nat.eq_zero_or_pos a with h0 | h0
  · subst h0
    rcases hT with ⟨_, rfl⟩ | ⟨D, e, L, g, h⟩
    · obtain ⟨q1, q2, q3, q4⟩ := zero_reads (by omega) hv hs
      exact ⟨by rw [q3]; rfl, q4, q1, q2⟩
    · exact absurd (valA_none 3000 f) h.ne
  · obtain ⟨b1, b2⟩ := valA_bd hf h0 h1
    have e1 : 10 ^ 2610 ≤ valA 3000 f a := Nat.le_trans (Nat.pow_le_pow_right (by omega) (by omega)) b1
    have e2 : valA 3000 f a < 10 ^ 3390 := Nat.lt_of_lt_of_le b2 (Nat.pow_le_pow_right (by omega) (by omega))
    obtain ⟨q1, q2, q3⟩ := fit_reads (by omega) (whole_fits hf h1) e1 e2 hv hT hs
    obtain ⟨z1, z2⟩ := round_self (by omega) (by omega) q3
    exact ⟨z1, z2, q1, q2⟩
theorem whole_same {f m : Int} {a : Nat} {S T : List UInt8} (hf : 0 ≤ f ∧ f ≤ 2) (h1 : (a : Int) < infN f) (hT : ExpQ (awayB 0 false) (valA 3000 f a) 770 T) (hS : ExpQ (awayB m false) (valA 3000 f a) 770 S) : S = T :=
  (hS.other (whole_fits hf h1)).same hT
end Go.Proofs.YtbkdaoicnobllaaGreatDoor

namespace Go.Proofs.YtbkdaoicnobllaaGreatDoor
open Go.RowKit

/-- Which of n things. -/
def pickV (c : Int) (n : Nat) : Nat := (if c < 0 then -(c + 1) else c).toNat % n
set_option maxRecDepth 100000 in
set_option maxHeartbeats 1000000 in
theorem pick_any (c : Int) (n : Nat) (hn : 0 < n) (hn2 : n ≤ 1000000) (hc : -9223372036854775808 ≤ c ∧ c ≤ 9223372036854775807) (w : World) :
    Calls Tryz.prog 8 #[.int .i64 c, .int .i64 n] w fun e w' => e = .returned (.int .i64 (pickV c n : Nat)) ∧ w' = w := by
  obtain ⟨N, hN⟩ : ∃ N : Int, N = (n : Int) := ⟨_, rfl⟩
  have hN0 : (N == 0) = false := by simp; omega
  have hN1 : 0 < N := by omega
  have hN2 : N ≤ 1000000 := by omega
  have HN := hid hN
  rw [← hN]
  obtain ⟨hc1, hc2⟩ := hc
  go_enter Tryz.func8, Tryz.ntmps8
  by_cases h0 : c < 0
  · have t : decide (c < 0) = true := by simpa using h0
    have HE : Hid (-((c + 1).tmod N) = (pickV c n : Nat)) := by
      unfold Hid pickV
      rw [← Int.neg_tmod, if_pos h0, HN.out, Int.tmod_eq_emod_of_nonneg (by omega)]
      have : -(c + 1) = ((-(c + 1)).toNat : Nat) := by omega
      rw [this]; simp
    clear hN hn hn2
    go_wp2
    all_goals (go_ret; exact ⟨by rw [← HE.out]; rfl, rfl⟩)
  · have t : decide (c < 0) = false := by simpa using h0
    have HE : Hid ((c % N) = (pickV c n : Nat)) := by
      unfold Hid pickV
      rw [if_neg h0, HN.out]
      have : c = (c.toNat : Nat) := by omega
      rw [this]; simp
    clear hN hn hn2
    go_wp2
    all_goals (go_ret; exact ⟨by rw [← HE.out]; rfl, rfl⟩)
/-- A format's bits. -/
def fW (f : Int) : Int := if f = 0 then 16 else if f = 1 then 32 else 64
set_option maxRecDepth 100000 in
set_option maxHeartbeats 1000000 in
theorem form_any (b : Int) (hb : -9223372036854775808 ≤ b ∧ b ≤ 9223372036854775807) (w : World) :
    Calls Tryz.prog 9 #[.int .i64 b] w fun e w' => e = .returned (.tuple #[.int .i64 (pickV b 3 : Nat), .int .i64 (fW (pickV b 3 : Nat)), .int .i64 (fQ (pickV b 3 : Nat))]) ∧ w' = w := by
  have HX := hid (pick_any b 3 (by omega) (by omega) hb w)
  have h3 : pickV b 3 < 3 := Nat.mod_lt _ (by omega)
  obtain ⟨p, hp⟩ : ∃ p, p = pickV b 3 := ⟨_, rfl⟩
  rw [← hp] at HX h3 ⊢
  clear hp
  go_enter Tryz.func9, Tryz.ntmps9
  go_wp2_with fail
  refine HX.out.mono ?_
  rintro e w' ⟨rfl, rfl⟩
  clear HX
  rcases (by omega : p = 0 ∨ p = 1 ∨ p = 2) with rfl | rfl | rfl
  · go_wp2
    all_goals (go_ret3; exact ⟨rfl, rfl⟩)
  · go_wp2
    all_goals (go_ret3; exact ⟨rfl, rfl⟩)
  · go_wp2
    all_goals (go_ret3; exact ⟨rfl, rfl⟩)
/-- The lower bits alone. -/
theorem and_mask (x : Int) (i : Nat) (hi : i ≤ 63) : bits .and .i64 x ((2 ^ i - 1 : Nat) : Int) = x % ((2 ^ i : Nat) : Int) := by
  have hp : 2 ^ i ≤ 2 ^ 63 := Nat.pow_le_pow_right (by omega) hi
  have h0 : 0 < 2 ^ i := Nat.pow_pos (by omega)
  have h1 : (BitVec.ofInt 64 ((2 ^ i - 1 : Nat) : Int)).toNat = 2 ^ i - 1 := by
    rw [BitVec.ofInt_natCast, BitVec.toNat_ofNat]; exact Nat.mod_eq_of_lt (by omega)
  have h2 : ((BitVec.ofInt 64 x).toNat : Int) = x % ((2 ^ 64 : Nat) : Int) := by
    rw [BitVec.toNat_ofInt]; have : 0 ≤ x % ((2 ^ 64 : Nat) : Int) := Int.emod_nonneg _ (by omega); omega
  have hd : ((2 ^ i : Nat) : Int) ∣ ((2 ^ 64 : Nat) : Int) := Int.natCast_dvd_natCast.2 (Nat.pow_dvd_pow 2 (show i ≤ 64 by omega))
  unfold bits
  show IntKind.i64.wrap ((BitVec.ofInt 64 x &&& BitVec.ofInt 64 ((2 ^ i - 1 : Nat) : Int)).toNat : Int) = _
  rw [BitVec.toNat_and, h1, Nat.and_two_pow_sub_one_eq_mod, Int.natCast_emod, h2, Int.emod_emod_of_dvd _ hd, IntKind.wrap_i64]
  have h3 : 0 ≤ x % ((2 ^ i : Nat) : Int) := Int.emod_nonneg _ (by omega)
  have h4 : x % ((2 ^ i : Nat) : Int) < ((2 ^ i : Nat) : Int) := Int.emod_lt_of_pos _ (by omega)
  generalize x % ((2 ^ i : Nat) : Int) = y at *
  generalize 2 ^ i = P at *
  omega
end Go.Proofs.YtbkdaoicnobllaaGreatDoor
