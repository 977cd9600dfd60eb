import Init
import Derived.Test.YtbkdaoicnobllabDoorG02
import Derived.Laws.IdiomStrings
import Derived.Test.YtbkdaoicnobllabDoorG11
import Derived.Test.YtbkdaoicnobllabDoorG07

/- Plain mathematics: bytes of a text; the powers behind a letter. -/
namespace Go.Proofs.YtbkdaoicnobllabDoor

/-- The bytes of a text as numbers. -/
def chs (s : ByteArray) : List Nat := s.data.toList.map UInt8.toNat
theorem chs_length (s : ByteArray) : (chs s).length = s.size := by simp [chs]
theorem chs_get (s : ByteArray) (k : Nat) (h : k < s.size) : (chs s).getD k 0 = (s[k]).toNat := by
  unfold chs
  rw [List.getD_eq_getElem?_getD, List.getElem?_map, List.getElem?_eq_getElem (by simpa using h)]; rfl
theorem chs_lt (s : ByteArray) : ∀ c, c ∈ chs s → c < 256 := by
  intro c hc; simp [chs] at hc; obtain ⟨a, _, rfl⟩ := hc; exact a.toNat_lt

def isDig (c : Nat) : Bool := decide (48 ≤ c) && decide (c ≤ 57)
/-- One byte more of a power. -/
def expStep (v c : Nat) : Nat := if isDig c = true ∧ v < 20000 then 10 * v + (c - 48) else v
def expNum (l : List Nat) : Nat := l.foldl expStep 0
def expVal (l : List Nat) : Int := if 45 ∈ l then -(expNum l : Int) else expNum l
/-- The number that stands behind a letter; 0 if it is not there. -/
def expOf (l : List Nat) (letter : Nat) : Int := match l.dropWhile (fun c => c != letter) with
  | [] => 0
  | _ :: r => expVal r
theorem expStep_le (v c : Nat) (h : v ≤ 200000) : expStep v c ≤ 200000 := by
  unfold expStep isDig; split
  · rename_i h2; simp at h2; omega
  · exact h
theorem expNum_le (l : List Nat) : expNum l ≤ 200000 := by
  unfold expNum
  have : ∀ (l : List Nat) (v : Nat), v ≤ 200000 → l.foldl expStep v ≤ 200000 := by
    intro l; induction l with
    | nil => intro v h; exact h
    | cons c r ih => intro v h; exact ih _ (expStep_le v c h)
  exact this l 0 (by omega)
theorem expVal_bd (l : List Nat) : -200000 ≤ expVal l ∧ expVal l ≤ 200000 := by
  have := expNum_le l; unfold expVal; split <;> omega
theorem expOf_bd (l : List Nat) (c : Nat) : -200000 ≤ expOf l c ∧ expOf l c ≤ 200000 := by
  unfold expOf; split
  · omega
  · exact expVal_bd _
theorem expNum_snoc (l : List Nat) (c : Nat) : expNum (l ++ [c]) = expStep (expNum l) c := by simp [expNum]
theorem expOf_none (l : List Nat) (letter : Nat) (h : ∀ j, j < l.length → l.getD j 0 ≠ letter) : expOf l letter = 0 := by
  unfold expOf
  have : l.dropWhile (fun c => c != letter) = [] := by
    induction l with
    | nil => rfl
    | cons c r ih =>
      have h0 := h 0 (by simp)
      simp at h0
      rw [List.dropWhile_cons_of_pos (by simpa using h0)]
      exact ih (fun j hj => by have := h (j + 1) (by simp; omega); simpa using this)
  rw [this]
theorem expOf_at (l : List Nat) (letter i : Nat) (hi : i < l.length) (h : ∀ j, j < i → l.getD j 0 ≠ letter) (he : l.getD i 0 = letter) : expOf l letter = expVal (l.drop (i + 1)) := by
  induction l generalizing i with
  | nil => simp at hi
  | cons c r ih =>
    cases i with
    | zero =>
      simp at he
      unfold expOf; simp [he]
    | succ i =>
      have h0 := h 0 (by omega)
      simp at h0
      have := ih i (by simpa using hi) (fun j hj => by have := h (j + 1) (by omega); simpa using this) (by simpa using he)
      rw [List.drop_succ_cons, ← this]
      unfold expOf
      rw [List.dropWhile_cons_of_pos (by simpa using h0)]

/-- From place a up to place j. -/
def cut (l : List Nat) (a j : Nat) : List Nat := (l.take j).drop a
theorem cut_snoc (l : List Nat) (a j : Nat) (ha : a ≤ j) (hj : j < l.length) : cut l a (j + 1) = cut l a j ++ [l.getD j 0] := by
  unfold cut
  rw [List.take_succ_eq_append_getElem hj, List.drop_append_of_le_length (by simp; omega), List.getD_eq_getElem?_getD, List.getElem?_eq_getElem hj]; rfl
theorem cut_self (l : List Nat) (a : Nat) : cut l a a = [] := by unfold cut; apply List.drop_eq_nil_of_le; simp; omega
theorem cut_all (l : List Nat) (a j : Nat) (h : l.length ≤ j) : cut l a j = l.drop a := by unfold cut; rw [List.take_of_length_le h]
def hasMinus (l : List Nat) : Bool := decide (45 ∈ l)
theorem hasMinus_snoc (l : List Nat) (c : Nat) : hasMinus (l ++ [c]) = (hasMinus l || c == 45) := by
  unfold hasMinus; rw [Bool.eq_iff_iff]; simp; constructor
  · intro h; rcases h with h | h
    · exact .inl h
    · exact .inr h.symm
  · intro h; rcases h with h | h
    · exact .inl h
    · exact .inr h.symm
theorem expVal_eq (l : List Nat) : expVal l = if hasMinus l = true then -(expNum l : Int) else expNum l := by unfold expVal hasMinus; simp

/-- A byte more of a decimal: its digits, how many of them stand behind the point, whether the point was seen. -/
def decStep (st : List Nat × Nat × Bool) (c : Nat) : List Nat × Nat × Bool :=
  if c = 46 then (st.1, st.2.1, true) else (st.1 ++ [c - 48], if st.2.2 = true then st.2.1 + 1 else st.2.1, st.2.2)
def decScan (l : List Nat) : List Nat × Nat × Bool := l.foldl decStep ([], 0, false)
theorem decScan_snoc (l : List Nat) (c : Nat) : decScan (l ++ [c]) = decStep (decScan l) c := by simp [decScan]
theorem decScan_inv (l : List Nat) : (decScan l).1.length ≤ l.length ∧ (decScan l).2.1 ≤ l.length := by
  have : ∀ (l : List Nat) (st : List Nat × Nat × Bool), (l.foldl decStep st).1.length ≤ st.1.length + l.length ∧ (l.foldl decStep st).2.1 ≤ st.2.1 + l.length := by
    intro l; induction l with
    | nil => intro st; simp
    | cons c r ih =>
      intro st
      have h := ih (decStep st c)
      rw [List.foldl_cons, List.length_cons]
      have h2 : (decStep st c).1.length ≤ st.1.length + 1 ∧ (decStep st c).2.1 ≤ st.2.1 + 1 := by
        unfold decStep; split
        · simp
        · simp; split <;> omega
      omega
  have h := this l ([], 0, false)
  simpa [decScan] using h
theorem decScan_digs (l : List Nat) (h : ∀ c, c ∈ l → c = 46 ∨ isDig c = true) : ∀ d, d ∈ (decScan l).1 → d ≤ 9 := by
  have : ∀ (l : List Nat) (st : List Nat × Nat × Bool), (∀ c, c ∈ l → c = 46 ∨ isDig c = true) → (∀ d, d ∈ st.1 → d ≤ 9) → ∀ d, d ∈ (l.foldl decStep st).1 → d ≤ 9 := by
    intro l; induction l with
    | nil => intro st _ h2; exact h2
    | cons c r ih =>
      intro st h1 h2
      refine ih _ (fun x hx => h1 x (List.mem_cons_of_mem _ hx)) ?_
      have hc := h1 c List.mem_cons_self
      unfold decStep; split
      · exact h2
      · intro d hd
        simp at hd
        rcases hd with hd | hd
        · exact h2 d hd
        · rcases hc with hc | hc
          · omega
          · simp [isDig] at hc; omega
  exact this l ([], 0, false) h (fun d hd => by simp at hd)
/-- What stands ahead of a letter. -/
def ahead (l : List Nat) (letter : Nat) : List Nat := l.takeWhile (fun c => c != letter)
theorem ahead_take (l : List Nat) (letter k : Nat) (hk : k ≤ l.length) (h : ∀ j, j < k → l.getD j 0 ≠ letter) (he : k < l.length → l.getD k 0 = letter) : ahead l letter = l.take k := by
  unfold ahead
  induction l generalizing k with
  | nil => simp
  | cons c r ih =>
    cases k with
    | zero =>
      have := he (by simp)
      simp at this
      simp [this]
    | succ k =>
      have h0 := h 0 (by omega)
      simp at h0
      rw [List.takeWhile_cons_of_pos (by simpa using h0), List.take_succ_cons, ih k (by simpa using hk) (fun j hj => by have := h (j + 1) (by omega); simpa using this) (fun hh => by have := he (by simpa using hh); simpa using this)]
theorem take_snoc_getD (l : List Nat) (k : Nat) (h : k < l.length) : l.take (k + 1) = l.take k ++ [l.getD k 0] := by
  rw [List.take_succ_eq_append_getElem h, List.getD_eq_getElem?_getD, List.getElem?_eq_getElem h]; rfl

theorem mem_ahead (l : List Nat) (letter k : Nat) (hk : k < l.length) (h : ∀ j, j < k → l.getD j 0 ≠ letter) (hn : l.getD k 0 ≠ letter) (c : Nat) (hc : c = l.getD k 0) : c ∈ ahead l letter := by
  unfold ahead
  induction l generalizing k with
  | nil => simp at hk
  | cons x r ih =>
    cases k with
    | zero =>
      simp at hn hc
      rw [List.takeWhile_cons_of_pos (by simpa using hn), hc]; exact List.mem_cons_self
    | succ k =>
      have h0 := h 0 (by omega)
      simp at h0
      rw [List.takeWhile_cons_of_pos (by simpa using h0)]
      exact List.mem_cons_of_mem _ (ih k (by simpa using hk) (fun j hj => by have := h (j + 1) (by omega); simpa using this) (by simpa using hn) (by simpa using hc))

def isHexc (c : Nat) : Bool := isDig c || (decide (97 ≤ c) && decide (c ≤ 102))
def hexv (c : Nat) : Nat := if c ≤ 57 then c - 48 else c - 87
/-- A byte more of a number of base 16. -/
def hexStep (st : List Nat × Nat × Bool) (c : Nat) : List Nat × Nat × Bool :=
  if c = 46 then (st.1, st.2.1, true) else (if 0 < st.1.length ∨ 0 < hexv c then st.1 ++ [hexv c] else st.1, if st.2.2 = true then st.2.1 + 1 else st.2.1, st.2.2)
def hexScan (l : List Nat) : List Nat × Nat × Bool := l.foldl hexStep ([], 0, false)
theorem hexScan_snoc (l : List Nat) (c : Nat) : hexScan (l ++ [c]) = hexStep (hexScan l) c := by simp [hexScan]
theorem hexScan_vals (l : List Nat) (h : ∀ c, c ∈ l → c = 46 ∨ isHexc c = true) : ∀ d, d ∈ (hexScan l).1 → d ≤ 15 := by
  have : ∀ (l : List Nat) (st : List Nat × Nat × Bool), (∀ c, c ∈ l → c = 46 ∨ isHexc c = true) → (∀ d, d ∈ st.1 → d ≤ 15) → ∀ d, d ∈ (l.foldl hexStep st).1 → d ≤ 15 := by
    intro l; induction l with
    | nil => intro st _ h2; exact h2
    | cons c r ih =>
      intro st h1 h2
      refine ih _ (fun x hx => h1 x (List.mem_cons_of_mem _ hx)) ?_
      have hc := h1 c List.mem_cons_self
      unfold hexStep; split
      · exact h2
      · intro d hd
        simp only at hd
        split at hd
        · simp at hd
          rcases hd with hd | hd
          · exact h2 d hd
          · rcases hc with hc | hc
            · omega
            · unfold hexv at hd; simp [isHexc, isDig] at hc; split at hd <;> omega
        · exact h2 d hd
  exact this l ([], 0, false) h (fun d hd => by simp at hd)

end Go.Proofs.YtbkdaoicnobllabDoor

namespace Go.Proofs.YtbkdaoicnobllabDoor
open Go.RowKit

/-- Is it a row of digits? -/
def allDig (s : ByteArray) : Bool := decide (chs s ≠ [] ∧ ∀ c, c ∈ chs s → isDig c = true)
theorem mem_chs {s : ByteArray} {i : Nat} (h : i < s.size) : (chs s).getD i 0 ∈ chs s := by
  have hl : i < (chs s).length := by rw [chs_length]; exact h
  rw [List.getD_eq_getElem?_getD, List.getElem?_eq_getElem hl]
  exact List.getElem_mem hl
set_option maxRecDepth 100000 in
set_option maxHeartbeats 1000000 in
theorem kdigits_any (s : ByteArray) (hs : s.size ≤ maxLen) (w : World) : Calls Tryd.prog 14 #[.string s] w fun e w' => e = .returned (.bool (allDig s)) ∧ w' = w := by
  unfold maxLen at hs
  go_enter Tryd.func14, Tryd.ntmps14
  go_wp2
  go_loop [3] (fun ii => ∃ i : Nat, ii = .int .i64 i ∧ i ≤ s.size ∧ Hid (∀ j, j < i → isDig ((chs s).getD j 0) = true)) (fun ii => s.size - (intOf ii).toNat)
  case atStart => exact ⟨0, rfl, Nat.zero_le _, fun j hj => absurd hj (by omega)⟩
  case round =>
    obtain ⟨i, rfl, hi, HI⟩ := hrel
    by_cases hlt : i < s.size
    · have HG := hid (chs_get s i hlt)
      have hx : s[i].toNat < 256 := s[i].toNat_lt
      obtain ⟨x, hxx⟩ : ∃ x : Int, x = ((s[i].toNat : Nat) : Int) := ⟨_, rfl⟩
      have HXX := hid hxx
      by_cases h48 : x < 48
      · have t1 : decide (((s[i].toNat : Nat) : Int) < 48) = true := by simp; omega
        have HF : Hid (allDig s = false) := by
          unfold Hid allDig
          rw [decide_eq_false_iff_not]
          intro hh
          have h1 := hh.2 _ (mem_chs hlt)
          rw [HG.out] at h1
          unfold isDig at h1; simp at h1; omega
        clear h48 hxx hx
        go_wp2
        all_goals (go_ret; exact ⟨by rw [HF.out]; rfl, rfl⟩)
      · have t1 : decide (((s[i].toNat : Nat) : Int) < 48) = false := by simp; omega
        by_cases h57 : 57 < x
        · have t2 : decide ((57 : Int) < ((s[i].toNat : Nat) : Int)) = true := by simp; omega
          have HF : Hid (allDig s = false) := by
            unfold Hid allDig
            rw [decide_eq_false_iff_not]
            intro hh
            have h1 := hh.2 _ (mem_chs hlt)
            rw [HG.out] at h1
            unfold isDig at h1; simp at h1; omega
          clear h48 h57 hxx hx
          go_wp2
          all_goals (go_ret; exact ⟨by rw [HF.out]; rfl, rfl⟩)
        · have t2 : decide ((57 : Int) < ((s[i].toNat : Nat) : Int)) = false := by simp; omega
          have HI2 : Hid (∀ j, j < i + 1 → isDig ((chs s).getD j 0) = true) := by
            intro j hj
            rcases Nat.lt_or_ge j i with g | g
            · exact HI.out j g
            · rw [show j = i from by omega, HG.out]; unfold isDig; simp; omega
          clear h48 h57 hxx hx HI
          go_wp2
          go_round
          case rel => exact ⟨i + 1, by go_num, by omega, HI2.out⟩
          case measure => simp [intOf]; omega
    · have HF : Hid (allDig s = decide ((0 : Int) < (s.size : Int))) := by
        unfold Hid allDig
        have hl := chs_length s
        rw [Bool.eq_iff_iff, decide_eq_true_eq, decide_eq_true_eq]
        constructor
        · intro hh
          have : (chs s).length ≠ 0 := fun h => hh.1 (List.length_eq_zero_iff.1 h)
          omega
        · intro hh
          refine ⟨fun h => by rw [h] at hl; simp at hl; omega, fun c hc => ?_⟩
          obtain ⟨j, hj, he⟩ := List.mem_iff_getElem.1 hc
          have := HI.out j (by omega)
          rw [List.getD_eq_getElem?_getD, List.getElem?_eq_getElem hj] at this
          rw [← he]; exact this
      obtain ⟨o, ho⟩ : ∃ o, o = decide ((0 : Int) < (s.size : Int)) := ⟨_, rfl⟩
      rw [← ho] at HF
      have t3 : decide ((0 : Int) < (s.size : Int)) = o := ho.symm
      have t4 : decide (0 < s.size) = o := by rw [ho, Bool.eq_iff_iff]; simp
      clear HI ho
      go_wp2
      all_goals (go_ret; exact ⟨by rw [HF.out]; rfl, rfl⟩)
end Go.Proofs.YtbkdaoicnobllabDoor

namespace Go.Proofs.YtbkdaoicnobllabDoor
set_option exponentiation.threshold 5000

theorem byte_ne {d : Nat} (h0 : d ≠ 0) (h9 : d ≤ 9) : UInt8.ofNat (48 + d) ≠ 48 := by
  intro h
  have := congrArg UInt8.toNat h
  simp at this
  omega
theorem dig_top {L : List Nat} (hd : Digs L) (hh : Headed L) (hl : 0 < L.length) (g : Int) : dig L g (g + L.length - 1) ≠ 0 ∧ dig L g (g + L.length - 1) ≤ 9 := by
  refine ⟨?_, dig_le hd _ _⟩
  have := dig_at L (g + L.length - 1) 0 hl
  rw [show g + (L.length : Int) - 1 - L.length + 1 = g from by omega, show g + (L.length : Int) - 1 - ((0 : Nat) : Int) = g + L.length - 1 from by omega] at this
  rw [this, List.getD_eq_getElem?_getD, List.getElem?_eq_getElem hl]
  exact hh hl
theorem exp_parted {aw : Int → Bool → Bool} {f : Int} {a n : Nat} {T : List UInt8} (hf : 0 ≤ f ∧ f ≤ 2) (h1 : (a : Int) < infN f) (hn : n ≤ 800) (h : ExpQ aw (valA 3000 f a) n T) : ∃ d e, Parted T d e ∧ d.length = n + 1 ∧ (0 < a → ∃ c r, d = c :: r ∧ c ≠ 48) := by
  rcases h with ⟨h0, rfl⟩ | ⟨D, e, L, g, h⟩
  · have ha : ¬ 0 < a := fun ha => by
      have := valA_least hf ha
      have : 0 < 10 ^ 2600 := Nat.pow_pos (by omega)
      omega
    have hk := sci_kept (L := []) Digs.nil 0 0 n
    have hs : fixT [] 0 0 n = sciT [] 0 0 n := by unfold fixT sciT; rfl
    refine ⟨_, _, ⟨fixT [] 0 0 n, [48], rfl, ?_, by have := fixT_length [] 0 0 n; omega, fun c hc => by rw [List.mem_singleton.1 hc]; exact .inr (by decide), by simp, rfl, rfl⟩, ?_, fun h => absurd h ha⟩
    · rw [hs]; exact sci_noe Digs.nil _ _ _
    · rw [hs, hk, rowT_length]
  · have ha : 0 < a := by
      apply Nat.pos_of_ne_zero; intro h0; subst h0
      exact h.ne (valA_none 3000 f)
    obtain ⟨r1, r2⟩ := h.range hf ha h1
    refine ⟨_, _, h.parted hn r1 r2, by rw [rowT_length], fun _ => ⟨_, _, rowT_cons _ _ _ _, ?_⟩⟩
    obtain ⟨d0, d9⟩ := dig_top h.digs' h.headed' h.pos' g
    exact byte_ne d0 d9
/-- The bytes are digits. -/
def DigB (P : List UInt8) : Prop := ∀ c ∈ P, 48 ≤ c.toNat ∧ c.toNat ≤ 57
theorem fix_shape {aw : Int → Bool → Bool} {V n : Nat} {T : List UInt8} (h : FixQ aw V n T) : ∃ P Q, T = P ++ (if n = 0 then [] else 46 :: Q) ∧ P ≠ [] ∧ DigB P ∧ DigB Q ∧ Q.length = n ∧ (P.length = 1 ∨ ∃ c r, P = c :: r ∧ c ≠ 48) := by
  obtain ⟨L, g, a1, a2, a3, a4, a5, rfl⟩ := h
  refine ⟨rowT L g (highN L g) (highN L g + 1), rowT L g (-1) n, rfl, ?_, rowT_byte a1 _ _ _, rowT_byte a1 _ _ _, rowT_length _ _ _ _, ?_⟩
  · intro h0
    have := congrArg List.length h0
    rw [rowT_length] at this
    simp at this
  · rw [rowT_length]
    by_cases hl : L = []
    · left; unfold highN; rw [if_pos hl]
    · by_cases h1 : highN L g = 0
      · left; omega
      · right
        refine ⟨_, _, rowT_cons _ _ _ _, ?_⟩
        have hp := List.length_pos_iff.2 hl
        have hh : ((highN L g : Nat) : Int) = g + L.length - 1 := by
          unfold highN at h1 ⊢; rw [if_neg hl] at h1 ⊢; omega
        rw [hh]
        obtain ⟨d0, d9⟩ := dig_top a1 a2 hp g
        exact byte_ne d0 d9
theorem dig_allDig {P : List UInt8} (h : DigB P) (h0 : P ≠ []) : allDig (str P) = true := by
  unfold allDig chs str
  rw [decide_eq_true_iff]
  refine ⟨by simpa using h0, fun c hc => ?_⟩
  obtain ⟨b, hb, rfl⟩ := List.mem_map.1 hc
  have := h b (by simpa using hb)
  unfold isDig; simp; omega
end Go.Proofs.YtbkdaoicnobllabDoor

namespace Go.Proofs.YtbkdaoicnobllabDoor
open Go.RowKit

/-- Which of n things. -/
def pickV (c : Int) (n : Nat) : Nat := (if c < 0 then -(c + 1) else c).toNat % n
set_option maxRecDepth 100000 in
set_option maxHeartbeats 1000000 in
theorem pick_any (c : Int) (n : Nat) (hn : 0 < n) (hn2 : n ≤ 1000000) (hc : -9223372036854775808 ≤ c ∧ c ≤ 9223372036854775807) (w : World) :
    Calls Tryd.prog 8 #[.int .i64 c, .int .i64 n] w fun e w' => e = .returned (.int .i64 (pickV c n : Nat)) ∧ w' = w := by
  obtain ⟨N, hN⟩ : ∃ N : Int, N = (n : Int) := ⟨_, rfl⟩
  have hN0 : (N == 0) = false := by simp; omega
  have hN1 : 0 < N := by omega
  have hN2 : N ≤ 1000000 := by omega
  have HN := hid hN
  rw [← hN]
  obtain ⟨hc1, hc2⟩ := hc
  go_enter Tryd.func8, Tryd.ntmps8
  by_cases h0 : c < 0
  · have t : decide (c < 0) = true := by simpa using h0
    have HE : Hid (-((c + 1).tmod N) = (pickV c n : Nat)) := by
      unfold Hid pickV
      rw [← Int.neg_tmod, if_pos h0, HN.out, Int.tmod_eq_emod_of_nonneg (by omega)]
      have : -(c + 1) = ((-(c + 1)).toNat : Nat) := by omega
      rw [this]; simp
    clear hN hn hn2
    go_wp2
    all_goals (go_ret; exact ⟨by rw [← HE.out]; rfl, rfl⟩)
  · have t : decide (c < 0) = false := by simpa using h0
    have HE : Hid ((c % N) = (pickV c n : Nat)) := by
      unfold Hid pickV
      rw [if_neg h0, HN.out]
      have : c = (c.toNat : Nat) := by omega
      rw [this]; simp
    clear hN hn hn2
    go_wp2
    all_goals (go_ret; exact ⟨by rw [← HE.out]; rfl, rfl⟩)
/-- A format's bits. -/
def fW (f : Int) : Int := if f = 0 then 16 else if f = 1 then 32 else 64
set_option maxRecDepth 100000 in
set_option maxHeartbeats 1000000 in
theorem form_any (b : Int) (hb : -9223372036854775808 ≤ b ∧ b ≤ 9223372036854775807) (w : World) :
    Calls Tryd.prog 11 #[.int .i64 b] w fun e w' => e = .returned (.tuple #[.int .i64 (pickV b 3 : Nat), .int .i64 (fW (pickV b 3 : Nat)), .int .i64 (fQ (pickV b 3 : Nat))]) ∧ w' = w := by
  have HX := hid (pick_any b 3 (by omega) (by omega) hb w)
  have h3 : pickV b 3 < 3 := Nat.mod_lt _ (by omega)
  obtain ⟨p, hp⟩ : ∃ p, p = pickV b 3 := ⟨_, rfl⟩
  rw [← hp] at HX h3 ⊢
  clear hp
  go_enter Tryd.func11, Tryd.ntmps11
  go_wp2_with fail
  refine HX.out.mono ?_
  rintro e w' ⟨rfl, rfl⟩
  clear HX
  rcases (by omega : p = 0 ∨ p = 1 ∨ p = 2) with rfl | rfl | rfl
  · go_wp2
    all_goals (go_ret3; exact ⟨rfl, rfl⟩)
  · go_wp2
    all_goals (go_ret3; exact ⟨rfl, rfl⟩)
  · go_wp2
    all_goals (go_ret3; exact ⟨rfl, rfl⟩)
/-- The lower bits alone. -/
theorem and_mask (x : Int) (i : Nat) (hi : i ≤ 63) : bits .and .i64 x ((2 ^ i - 1 : Nat) : Int) = x % ((2 ^ i : Nat) : Int) := by
  have hp : 2 ^ i ≤ 2 ^ 63 := Nat.pow_le_pow_right (by omega) hi
  have h0 : 0 < 2 ^ i := Nat.pow_pos (by omega)
  have h1 : (BitVec.ofInt 64 ((2 ^ i - 1 : Nat) : Int)).toNat = 2 ^ i - 1 := by
    rw [BitVec.ofInt_natCast, BitVec.toNat_ofNat]; exact Nat.mod_eq_of_lt (by omega)
  have h2 : ((BitVec.ofInt 64 x).toNat : Int) = x % ((2 ^ 64 : Nat) : Int) := by
    rw [BitVec.toNat_ofInt]; have : 0 ≤ x % ((2 ^ 64 : Nat) : Int) := Int.emod_nonneg _ (by omega); omega
  have hd : ((2 ^ i : Nat) : Int) ∣ ((2 ^ 64 : Nat) : Int) := Int.natCast_dvd_natCast.2 (Nat.pow_dvd_pow 2 (show i ≤ 64 by omega))
  unfold bits
  show IntKind.i64.wrap ((BitVec.ofInt 64 x &&& BitVec.ofInt 64 ((2 ^ i - 1 : Nat) : Int)).toNat : Int) = _
  rw [BitVec.toNat_and, h1, Nat.and_two_pow_sub_one_eq_mod, Int.natCast_emod, h2, Int.emod_emod_of_dvd _ hd, IntKind.wrap_i64]
  have h3 : 0 ≤ x % ((2 ^ i : Nat) : Int) := Int.emod_nonneg _ (by omega)
  have h4 : x % ((2 ^ i : Nat) : Int) < ((2 ^ i : Nat) : Int) := Int.emod_lt_of_pos _ (by omega)
  generalize x % ((2 ^ i : Nat) : Int) = y at *
  generalize 2 ^ i = P at *
  omega
end Go.Proofs.YtbkdaoicnobllabDoor

namespace Go.Proofs.YtbkdaoicnobllabDoor
open Go.RowKit

/-- What Format answers. -/
def FmtPost (f x verb prec mode : Int) (w w' : World) (r : Ending) (Q : List UInt8 → Prop) : Prop :=
  (hasB f x = true ∧ allowB verb prec mode = true ∧ ∃ T : List UInt8, r = .returned (.tuple #[.string (str (outT f x T)), .int .i64 0]) ∧ (amtI f x < infN f → Q T) ∧ T.length ≤ 5000 ∧ Below w.heap.size w w') ∨
  (¬ (hasB f x = true ∧ allowB verb prec mode = true) ∧ r = .returned (.tuple #[.string (str []), .int .i64 1]) ∧ Below w.heap.size w w')
set_option maxRecDepth 100000 in
set_option maxHeartbeats 1000000 in
theorem pformat_none (cv : Value) (x f verb prec mode : Int) (hf : ¬ (0 ≤ f ∧ f ≤ 2)) (w : World) : Calls Tryd.prog 15 #[cv, .int .i64 x, .int .i64 f, .int .i64 verb, .int .i64 prec, .int .i64 mode] w fun r w' => r = .returned (.tuple #[.string (str []), .int .i64 1]) ∧ Below w.heap.size w w' := by
  have HF : Hid (∀ w, Calls Tryd.prog 16 #[.int .i64 f] w fun e w' => e = .returned (.bool false) ∧ w' = w) := fun w => by
    have := isFormat_any f w
    rw [show formB f = false from by unfold formB; simp; omega] at this; exact this
  clear hf
  go_enter Tryd.func15, Tryd.ntmps15
  go_wp2_with fail
  refine (HF.out _).mono ?_
  rintro r w1 ⟨rfl, rfl⟩
  go_wp2
  go_ret2
  exact ⟨rfl, by first | exact Below.refl _ _ | exact ((Below.refl _ _).alloc (Nat.le_refl _) _).alloc (by simp) _⟩
set_option maxRecDepth 100000 in
set_option maxHeartbeats 1000000 in
theorem pformat0 (cv : Value) (x verb prec mode : Int) (Q : List UInt8 → Prop) (h1 : -9223372036854775808 ≤ x) (h2 : x ≤ 9223372036854775807) (w : World) (ht : Tab w)
    (HT0 : allowB verb prec mode = true → ∀ a : Nat, amtI 0 x = a → (a : Int) < 31744 → ∀ w : World, Tab w → Calls Tryd.prog 23 #[.int .i64 a, lay0, .bool (negI 0 x), styV verb prec mode] w fun r w' => TextPost w w' r Q) :
    Calls Tryd.prog 15 #[cv, .int .i64 x, .int .i64 0, .int .i64 verb, .int .i64 prec, .int .i64 mode] w fun r w' => FmtPost 0 x verb prec mode w w' r Q := by
  have HF : Hid (∀ w, Calls Tryd.prog 16 #[.int .i64 0] w fun e w' => e = .returned (.bool true) ∧ w' = w) := fun w => isFormat_any 0 w
  have HOF := hid (of0)
  have HHS := hid (fun w => has0 x h1 h2 w)
  have HAL := hid (allowed_any verb prec mode)
  have HTX : Hid (hasB 0 x = true → allowB verb prec mode = true → ∀ w : World, Tab w → Calls Tryd.prog 20 #[.int .i64 x, lay0, styV verb prec mode] w fun r w' => OutPost 0 x w w' r Q) := fun hh ha w hw => textOf0 x verb prec mode Q (by unfold hasB sgnF at hh; simp at hh; omega) (by unfold hasB sgnF at hh; simp at hh; omega) w hw (HT0 ha)
  have HTAB := hid ht
  clear HT0 ht h1 h2
  unfold lay0 styV at *
  go_enter Tryd.func15, Tryd.ntmps15
  go_wp2_with fail
  refine (HF.out _).mono ?_
  rintro r w0 ⟨rfl, rfl⟩
  go_wp2_with fail
  refine (HOF.out _).mono ?_
  rintro r w1 ⟨rfl, hb1⟩
  have HB1 : Hid (Below w0.heap.size w0 w1) := hb1
  clear hb1 HF HOF
  go_wp2_with fail
  have d0 : ((w1.alloc (.cells #[.int .i64 10, .int .i64 15, .int .i64 1024, .int .i64 31744, .int .i64 32768] 46)).alloc (.cells #[.int .i64 verb, .int .i64 prec, .int .i64 mode] 49)).cell? ⟨w1.heap.size, 0, none⟩ = some (Value.int .i64 10) := by simp [go_sem]
  have d1 : ((w1.alloc (.cells #[.int .i64 10, .int .i64 15, .int .i64 1024, .int .i64 31744, .int .i64 32768] 46)).alloc (.cells #[.int .i64 verb, .int .i64 prec, .int .i64 mode] 49)).cell? ⟨w1.heap.size, 1, none⟩ = some (Value.int .i64 15) := by simp [go_sem]
  have d2 : ((w1.alloc (.cells #[.int .i64 10, .int .i64 15, .int .i64 1024, .int .i64 31744, .int .i64 32768] 46)).alloc (.cells #[.int .i64 verb, .int .i64 prec, .int .i64 mode] 49)).cell? ⟨w1.heap.size, 2, none⟩ = some (Value.int .i64 1024) := by simp [go_sem]
  have d3 : ((w1.alloc (.cells #[.int .i64 10, .int .i64 15, .int .i64 1024, .int .i64 31744, .int .i64 32768] 46)).alloc (.cells #[.int .i64 verb, .int .i64 prec, .int .i64 mode] 49)).cell? ⟨w1.heap.size, 3, none⟩ = some (Value.int .i64 31744) := by simp [go_sem]
  have d4 : ((w1.alloc (.cells #[.int .i64 10, .int .i64 15, .int .i64 1024, .int .i64 31744, .int .i64 32768] 46)).alloc (.cells #[.int .i64 verb, .int .i64 prec, .int .i64 mode] 49)).cell? ⟨w1.heap.size, 4, none⟩ = some (Value.int .i64 32768) := by simp [go_sem]
  have s0 : ((w1.alloc (.cells #[.int .i64 10, .int .i64 15, .int .i64 1024, .int .i64 31744, .int .i64 32768] 46)).alloc (.cells #[.int .i64 verb, .int .i64 prec, .int .i64 mode] 49)).cell? ⟨w1.heap.size + 1, 0, none⟩ = some (Value.int .i64 verb) := by simp [go_sem]
  have s1 : ((w1.alloc (.cells #[.int .i64 10, .int .i64 15, .int .i64 1024, .int .i64 31744, .int .i64 32768] 46)).alloc (.cells #[.int .i64 verb, .int .i64 prec, .int .i64 mode] 49)).cell? ⟨w1.heap.size + 1, 1, none⟩ = some (Value.int .i64 prec) := by simp [go_sem]
  have s2 : ((w1.alloc (.cells #[.int .i64 10, .int .i64 15, .int .i64 1024, .int .i64 31744, .int .i64 32768] 46)).alloc (.cells #[.int .i64 verb, .int .i64 prec, .int .i64 mode] 49)).cell? ⟨w1.heap.size + 1, 2, none⟩ = some (Value.int .i64 mode) := by simp [go_sem]
  have HB2 : Hid (Below w0.heap.size w0 ((w1.alloc (.cells #[.int .i64 10, .int .i64 15, .int .i64 1024, .int .i64 31744, .int .i64 32768] 46)).alloc (.cells #[.int .i64 verb, .int .i64 prec, .int .i64 mode] 49))) := HB1.out.trans ((((Below.refl _ _).alloc (Nat.le_refl _) _).alloc (by simp) _).mono HB1.out.size)
  obtain ⟨C, hC⟩ : ∃ C, C = w1.heap.size := ⟨_, rfl⟩
  rw [← hC] at d0 d1 d2 d3 d4 s0 s1 s2 ⊢
  generalize ((w1.alloc (.cells #[.int .i64 10, .int .i64 15, .int .i64 1024, .int .i64 31744, .int .i64 32768] 46)).alloc (.cells #[.int .i64 verb, .int .i64 prec, .int .i64 mode] 49)) = W at *
  cases hhas : hasB 0 x with
  | false =>
    rw [hhas] at HHS
    refine (HHS.out W).mono ?_
    rintro r w2 ⟨rfl, hb2⟩
    have HF : Hid (FmtPost 0 x verb prec mode w0 w2 (.returned (.tuple #[.string (str []), .int .i64 1])) Q) := .inr ⟨by rw [hhas]; simp, rfl, HB2.out.trans (hb2.mono HB2.out.size)⟩
    clear hb2 hhas HHS HAL HTX d0 d1 d2 d3 d4 s0 s1 s2 hC
    go_wp2
    go_ret2
    exact HF.out
  | true =>
    rw [hhas] at HHS
    refine (HHS.out W).mono ?_
    rintro r w2 ⟨rfl, hb2⟩
    have HB3 : Hid (Below w0.heap.size w0 w2) := HB2.out.trans (hb2.mono HB2.out.size)
    have e0 := keep_cell' hb2 d0
    have e1 := keep_cell' hb2 d1
    have e2 := keep_cell' hb2 d2
    have e3 := keep_cell' hb2 d3
    have e4 := keep_cell' hb2 d4
    have z0 := keep_cell' hb2 s0
    have z1 := keep_cell' hb2 s1
    have z2 := keep_cell' hb2 s2
    clear hb2 HHS d0 d1 d2 d3 d4 s0 s1 s2 hC
    cases hal : allowB verb prec mode with
    | false =>
      rw [hal] at HAL
      have HF : Hid (∀ w', Below w0.heap.size w0 w' → FmtPost 0 x verb prec mode w0 w' (.returned (.tuple #[.string (str []), .int .i64 1])) Q) := fun w' hw => .inr ⟨by rw [hal]; simp, rfl, hw⟩
      clear HTX hhas hal
      go_wp2_with fail
      refine (HAL.out w2).mono ?_
      rintro r w3 ⟨rfl, hb3⟩
      have HB4 := hid (HB3.out.trans (hb3.mono HB3.out.size))
      clear hb3 HAL
      go_wp2
      go_ret2
      exact HF.out _ HB4.out
    | true =>
      rw [hal] at HAL
      have HTY := hid (HTX.out hhas hal)
      have HF : Hid (∀ (w' : World) (T : List UInt8), (amtI 0 x < infN 0 → Q T) → T.length ≤ 5000 → Below w0.heap.size w0 w' → FmtPost 0 x verb prec mode w0 w' (.returned (.tuple #[.string (str (outT 0 x T)), .int .i64 0])) Q) := fun w' T p1 p2 p3 => .inl ⟨hhas, hal, T, rfl, p1, p2, p3⟩
      clear HTX hhas hal
      go_wp2_with fail
      refine (HAL.out w2).mono ?_
      rintro r w3 ⟨rfl, hb3⟩
      have HB4 : Hid (Below w0.heap.size w0 w3) := HB3.out.trans (hb3.mono HB3.out.size)
      have e0' := keep_cell' hb3 e0
      have e1' := keep_cell' hb3 e1
      have e2' := keep_cell' hb3 e2
      have e3' := keep_cell' hb3 e3
      have e4' := keep_cell' hb3 e4
      have z0' := keep_cell' hb3 z0
      have z1' := keep_cell' hb3 z1
      have z2' := keep_cell' hb3 z2
      clear hb3 HAL e0 e1 e2 e3 e4 z0 z1 z2
      go_wp2_with fail
      refine (HTY.out w3 (HTAB.out.below HB4.out)).mono ?_
      rintro r w4 ⟨T, rfl, hq, hl, hb4⟩
      have HG := hid (HF.out w4 T hq hl (HB4.out.trans (hb4.mono HB4.out.size)))
      clear hq hl hb4 HTY HF
      go_wp2
      go_ret2
      exact HG.out
set_option maxRecDepth 100000 in
set_option maxHeartbeats 1000000 in
theorem pformat1 (cv : Value) (x verb prec mode : Int) (Q : List UInt8 → Prop) (h1 : -9223372036854775808 ≤ x) (h2 : x ≤ 9223372036854775807) (w : World) (ht : Tab w)
    (HT0 : allowB verb prec mode = true → ∀ a : Nat, amtI 1 x = a → (a : Int) < 2139095040 → ∀ w : World, Tab w → Calls Tryd.prog 23 #[.int .i64 a, lay1, .bool (negI 1 x), styV verb prec mode] w fun r w' => TextPost w w' r Q) :
    Calls Tryd.prog 15 #[cv, .int .i64 x, .int .i64 1, .int .i64 verb, .int .i64 prec, .int .i64 mode] w fun r w' => FmtPost 1 x verb prec mode w w' r Q := by
  have HF : Hid (∀ w, Calls Tryd.prog 16 #[.int .i64 1] w fun e w' => e = .returned (.bool true) ∧ w' = w) := fun w => isFormat_any 1 w
  have HOF := hid (of1)
  have HHS := hid (fun w => has1 x h1 h2 w)
  have HAL := hid (allowed_any verb prec mode)
  have HTX : Hid (hasB 1 x = true → allowB verb prec mode = true → ∀ w : World, Tab w → Calls Tryd.prog 20 #[.int .i64 x, lay1, styV verb prec mode] w fun r w' => OutPost 1 x w w' r Q) := fun hh ha w hw => textOf1 x verb prec mode Q (by unfold hasB sgnF at hh; simp at hh; omega) (by unfold hasB sgnF at hh; simp at hh; omega) w hw (HT0 ha)
  have HTAB := hid ht
  clear HT0 ht h1 h2
  unfold lay1 styV at *
  go_enter Tryd.func15, Tryd.ntmps15
  go_wp2_with fail
  refine (HF.out _).mono ?_
  rintro r w0 ⟨rfl, rfl⟩
  go_wp2_with fail
  refine (HOF.out _).mono ?_
  rintro r w1 ⟨rfl, hb1⟩
  have HB1 : Hid (Below w0.heap.size w0 w1) := hb1
  clear hb1 HF HOF
  go_wp2_with fail
  have d0 : ((w1.alloc (.cells #[.int .i64 23, .int .i64 127, .int .i64 8388608, .int .i64 2139095040, .int .i64 2147483648] 46)).alloc (.cells #[.int .i64 verb, .int .i64 prec, .int .i64 mode] 49)).cell? ⟨w1.heap.size, 0, none⟩ = some (Value.int .i64 23) := by simp [go_sem]
  have d1 : ((w1.alloc (.cells #[.int .i64 23, .int .i64 127, .int .i64 8388608, .int .i64 2139095040, .int .i64 2147483648] 46)).alloc (.cells #[.int .i64 verb, .int .i64 prec, .int .i64 mode] 49)).cell? ⟨w1.heap.size, 1, none⟩ = some (Value.int .i64 127) := by simp [go_sem]
  have d2 : ((w1.alloc (.cells #[.int .i64 23, .int .i64 127, .int .i64 8388608, .int .i64 2139095040, .int .i64 2147483648] 46)).alloc (.cells #[.int .i64 verb, .int .i64 prec, .int .i64 mode] 49)).cell? ⟨w1.heap.size, 2, none⟩ = some (Value.int .i64 8388608) := by simp [go_sem]
  have d3 : ((w1.alloc (.cells #[.int .i64 23, .int .i64 127, .int .i64 8388608, .int .i64 2139095040, .int .i64 2147483648] 46)).alloc (.cells #[.int .i64 verb, .int .i64 prec, .int .i64 mode] 49)).cell? ⟨w1.heap.size, 3, none⟩ = some (Value.int .i64 2139095040) := by simp [go_sem]
  have d4 : ((w1.alloc (.cells #[.int .i64 23, .int .i64 127, .int .i64 8388608, .int .i64 2139095040, .int .i64 2147483648] 46)).alloc (.cells #[.int .i64 verb, .int .i64 prec, .int .i64 mode] 49)).cell? ⟨w1.heap.size, 4, none⟩ = some (Value.int .i64 2147483648) := by simp [go_sem]
  have s0 : ((w1.alloc (.cells #[.int .i64 23, .int .i64 127, .int .i64 8388608, .int .i64 2139095040, .int .i64 2147483648] 46)).alloc (.cells #[.int .i64 verb, .int .i64 prec, .int .i64 mode] 49)).cell? ⟨w1.heap.size + 1, 0, none⟩ = some (Value.int .i64 verb) := by simp [go_sem]
  have s1 : ((w1.alloc (.cells #[.int .i64 23, .int .i64 127, .int .i64 8388608, .int .i64 2139095040, .int .i64 2147483648] 46)).alloc (.cells #[.int .i64 verb, .int .i64 prec, .int .i64 mode] 49)).cell? ⟨w1.heap.size + 1, 1, none⟩ = some (Value.int .i64 prec) := by simp [go_sem]
  have s2 : ((w1.alloc (.cells #[.int .i64 23, .int .i64 127, .int .i64 8388608, .int .i64 2139095040, .int .i64 2147483648] 46)).alloc (.cells #[.int .i64 verb, .int .i64 prec, .int .i64 mode] 49)).cell? ⟨w1.heap.size + 1, 2, none⟩ = some (Value.int .i64 mode) := by simp [go_sem]
  have HB2 : Hid (Below w0.heap.size w0 ((w1.alloc (.cells #[.int .i64 23, .int .i64 127, .int .i64 8388608, .int .i64 2139095040, .int .i64 2147483648] 46)).alloc (.cells #[.int .i64 verb, .int .i64 prec, .int .i64 mode] 49))) := HB1.out.trans ((((Below.refl _ _).alloc (Nat.le_refl _) _).alloc (by simp) _).mono HB1.out.size)
  obtain ⟨C, hC⟩ : ∃ C, C = w1.heap.size := ⟨_, rfl⟩
  rw [← hC] at d0 d1 d2 d3 d4 s0 s1 s2 ⊢
  generalize ((w1.alloc (.cells #[.int .i64 23, .int .i64 127, .int .i64 8388608, .int .i64 2139095040, .int .i64 2147483648] 46)).alloc (.cells #[.int .i64 verb, .int .i64 prec, .int .i64 mode] 49)) = W at *
  cases hhas : hasB 1 x with
  | false =>
    rw [hhas] at HHS
    refine (HHS.out W).mono ?_
    rintro r w2 ⟨rfl, hb2⟩
    have HF : Hid (FmtPost 1 x verb prec mode w0 w2 (.returned (.tuple #[.string (str []), .int .i64 1])) Q) := .inr ⟨by rw [hhas]; simp, rfl, HB2.out.trans (hb2.mono HB2.out.size)⟩
    clear hb2 hhas HHS HAL HTX d0 d1 d2 d3 d4 s0 s1 s2 hC
    go_wp2
    go_ret2
    exact HF.out
  | true =>
    rw [hhas] at HHS
    refine (HHS.out W).mono ?_
    rintro r w2 ⟨rfl, hb2⟩
    have HB3 : Hid (Below w0.heap.size w0 w2) := HB2.out.trans (hb2.mono HB2.out.size)
    have e0 := keep_cell' hb2 d0
    have e1 := keep_cell' hb2 d1
    have e2 := keep_cell' hb2 d2
    have e3 := keep_cell' hb2 d3
    have e4 := keep_cell' hb2 d4
    have z0 := keep_cell' hb2 s0
    have z1 := keep_cell' hb2 s1
    have z2 := keep_cell' hb2 s2
    clear hb2 HHS d0 d1 d2 d3 d4 s0 s1 s2 hC
    cases hal : allowB verb prec mode with
    | false =>
      rw [hal] at HAL
      have HF : Hid (∀ w', Below w0.heap.size w0 w' → FmtPost 1 x verb prec mode w0 w' (.returned (.tuple #[.string (str []), .int .i64 1])) Q) := fun w' hw => .inr ⟨by rw [hal]; simp, rfl, hw⟩
      clear HTX hhas hal
      go_wp2_with fail
      refine (HAL.out w2).mono ?_
      rintro r w3 ⟨rfl, hb3⟩
      have HB4 := hid (HB3.out.trans (hb3.mono HB3.out.size))
      clear hb3 HAL
      go_wp2
      go_ret2
      exact HF.out _ HB4.out
    | true =>
      rw [hal] at HAL
      have HTY := hid (HTX.out hhas hal)
      have HF : Hid (∀ (w' : World) (T : List UInt8), (amtI 1 x < infN 1 → Q T) → T.length ≤ 5000 → Below w0.heap.size w0 w' → FmtPost 1 x verb prec mode w0 w' (.returned (.tuple #[.string (str (outT 1 x T)), .int .i64 0])) Q) := fun w' T p1 p2 p3 => .inl ⟨hhas, hal, T, rfl, p1, p2, p3⟩
      clear HTX hhas hal
      go_wp2_with fail
      refine (HAL.out w2).mono ?_
      rintro r w3 ⟨rfl, hb3⟩
      have HB4 : Hid (Below w0.heap.size w0 w3) := HB3.out.trans (hb3.mono HB3.out.size)
      have e0' := keep_cell' hb3 e0
      have e1' := keep_cell' hb3 e1
      have e2' := keep_cell' hb3 e2
      have e3' := keep_cell' hb3 e3
      have e4' := keep_cell' hb3 e4
      have z0' := keep_cell' hb3 z0
      have z1' := keep_cell' hb3 z1
      have z2' := keep_cell' hb3 z2
      clear hb3 HAL e0 e1 e2 e3 e4 z0 z1 z2
      go_wp2_with fail
      refine (HTY.out w3 (HTAB.out.below HB4.out)).mono ?_
      rintro r w4 ⟨T, rfl, hq, hl, hb4⟩
      have HG := hid (HF.out w4 T hq hl (HB4.out.trans (hb4.mono HB4.out.size)))
      clear hq hl hb4 HTY HF
      go_wp2
      go_ret2
      exact HG.out
set_option maxRecDepth 100000 in
set_option maxHeartbeats 1000000 in
theorem pformat2 (cv : Value) (x verb prec mode : Int) (Q : List UInt8 → Prop) (h1 : -9223372036854775808 ≤ x) (h2 : x ≤ 9223372036854775807) (w : World) (ht : Tab w)
    (HT0 : allowB verb prec mode = true → ∀ a : Nat, amtI 2 x = a → (a : Int) < 9218868437227405312 → ∀ w : World, Tab w → Calls Tryd.prog 23 #[.int .i64 a, lay2, .bool (negI 2 x), styV verb prec mode] w fun r w' => TextPost w w' r Q) :
    Calls Tryd.prog 15 #[cv, .int .i64 x, .int .i64 2, .int .i64 verb, .int .i64 prec, .int .i64 mode] w fun r w' => FmtPost 2 x verb prec mode w w' r Q := by
  have HF : Hid (∀ w, Calls Tryd.prog 16 #[.int .i64 2] w fun e w' => e = .returned (.bool true) ∧ w' = w) := fun w => isFormat_any 2 w
  have HOF := hid (of2)
  have HHS := hid (fun w => has2 x w)
  have HAL := hid (allowed_any verb prec mode)
  have HTX : Hid (hasB 2 x = true → allowB verb prec mode = true → ∀ w : World, Tab w → Calls Tryd.prog 20 #[.int .i64 x, lay2, styV verb prec mode] w fun r w' => OutPost 2 x w w' r Q) := fun hh ha w hw => textOf2 x verb prec mode Q h1 h2 w hw (HT0 ha)
  have HTAB := hid ht
  clear HT0 ht h1 h2
  unfold lay2 styV at *
  go_enter Tryd.func15, Tryd.ntmps15
  go_wp2_with fail
  refine (HF.out _).mono ?_
  rintro r w0 ⟨rfl, rfl⟩
  go_wp2_with fail
  refine (HOF.out _).mono ?_
  rintro r w1 ⟨rfl, hb1⟩
  have HB1 : Hid (Below w0.heap.size w0 w1) := hb1
  clear hb1 HF HOF
  go_wp2_with fail
  have d0 : ((w1.alloc (.cells #[.int .i64 52, .int .i64 1023, .int .i64 4503599627370496, .int .i64 9218868437227405312, .int .i64 (-9223372036854775808)] 46)).alloc (.cells #[.int .i64 verb, .int .i64 prec, .int .i64 mode] 49)).cell? ⟨w1.heap.size, 0, none⟩ = some (Value.int .i64 52) := by simp [go_sem]
  have d1 : ((w1.alloc (.cells #[.int .i64 52, .int .i64 1023, .int .i64 4503599627370496, .int .i64 9218868437227405312, .int .i64 (-9223372036854775808)] 46)).alloc (.cells #[.int .i64 verb, .int .i64 prec, .int .i64 mode] 49)).cell? ⟨w1.heap.size, 1, none⟩ = some (Value.int .i64 1023) := by simp [go_sem]
  have d2 : ((w1.alloc (.cells #[.int .i64 52, .int .i64 1023, .int .i64 4503599627370496, .int .i64 9218868437227405312, .int .i64 (-9223372036854775808)] 46)).alloc (.cells #[.int .i64 verb, .int .i64 prec, .int .i64 mode] 49)).cell? ⟨w1.heap.size, 2, none⟩ = some (Value.int .i64 4503599627370496) := by simp [go_sem]
  have d3 : ((w1.alloc (.cells #[.int .i64 52, .int .i64 1023, .int .i64 4503599627370496, .int .i64 9218868437227405312, .int .i64 (-9223372036854775808)] 46)).alloc (.cells #[.int .i64 verb, .int .i64 prec, .int .i64 mode] 49)).cell? ⟨w1.heap.size, 3, none⟩ = some (Value.int .i64 9218868437227405312) := by simp [go_sem]
  have d4 : ((w1.alloc (.cells #[.int .i64 52, .int .i64 1023, .int .i64 4503599627370496, .int .i64 9218868437227405312, .int .i64 (-9223372036854775808)] 46)).alloc (.cells #[.int .i64 verb, .int .i64 prec, .int .i64 mode] 49)).cell? ⟨w1.heap.size, 4, none⟩ = some (Value.int .i64 (-9223372036854775808)) := by simp [go_sem]
  have s0 : ((w1.alloc (.cells #[.int .i64 52, .int .i64 1023, .int .i64 4503599627370496, .int .i64 9218868437227405312, .int .i64 (-9223372036854775808)] 46)).alloc (.cells #[.int .i64 verb, .int .i64 prec, .int .i64 mode] 49)).cell? ⟨w1.heap.size + 1, 0, none⟩ = some (Value.int .i64 verb) := by simp [go_sem]
  have s1 : ((w1.alloc (.cells #[.int .i64 52, .int .i64 1023, .int .i64 4503599627370496, .int .i64 9218868437227405312, .int .i64 (-9223372036854775808)] 46)).alloc (.cells #[.int .i64 verb, .int .i64 prec, .int .i64 mode] 49)).cell? ⟨w1.heap.size + 1, 1, none⟩ = some (Value.int .i64 prec) := by simp [go_sem]
  have s2 : ((w1.alloc (.cells #[.int .i64 52, .int .i64 1023, .int .i64 4503599627370496, .int .i64 9218868437227405312, .int .i64 (-9223372036854775808)] 46)).alloc (.cells #[.int .i64 verb, .int .i64 prec, .int .i64 mode] 49)).cell? ⟨w1.heap.size + 1, 2, none⟩ = some (Value.int .i64 mode) := by simp [go_sem]
  have HB2 : Hid (Below w0.heap.size w0 ((w1.alloc (.cells #[.int .i64 52, .int .i64 1023, .int .i64 4503599627370496, .int .i64 9218868437227405312, .int .i64 (-9223372036854775808)] 46)).alloc (.cells #[.int .i64 verb, .int .i64 prec, .int .i64 mode] 49))) := HB1.out.trans ((((Below.refl _ _).alloc (Nat.le_refl _) _).alloc (by simp) _).mono HB1.out.size)
  obtain ⟨C, hC⟩ : ∃ C, C = w1.heap.size := ⟨_, rfl⟩
  rw [← hC] at d0 d1 d2 d3 d4 s0 s1 s2 ⊢
  generalize ((w1.alloc (.cells #[.int .i64 52, .int .i64 1023, .int .i64 4503599627370496, .int .i64 9218868437227405312, .int .i64 (-9223372036854775808)] 46)).alloc (.cells #[.int .i64 verb, .int .i64 prec, .int .i64 mode] 49)) = W at *
  cases hhas : hasB 2 x with
  | false =>
    rw [hhas] at HHS
    refine (HHS.out W).mono ?_
    rintro r w2 ⟨rfl, hb2⟩
    have HF : Hid (FmtPost 2 x verb prec mode w0 w2 (.returned (.tuple #[.string (str []), .int .i64 1])) Q) := .inr ⟨by rw [hhas]; simp, rfl, HB2.out.trans (hb2.mono HB2.out.size)⟩
    clear hb2 hhas HHS HAL HTX d0 d1 d2 d3 d4 s0 s1 s2 hC
    go_wp2
    go_ret2
    exact HF.out
  | true =>
    rw [hhas] at HHS
    refine (HHS.out W).mono ?_
    rintro r w2 ⟨rfl, hb2⟩
    have HB3 : Hid (Below w0.heap.size w0 w2) := HB2.out.trans (hb2.mono HB2.out.size)
    have e0 := keep_cell' hb2 d0
    have e1 := keep_cell' hb2 d1
    have e2 := keep_cell' hb2 d2
    have e3 := keep_cell' hb2 d3
    have e4 := keep_cell' hb2 d4
    have z0 := keep_cell' hb2 s0
    have z1 := keep_cell' hb2 s1
    have z2 := keep_cell' hb2 s2
    clear hb2 HHS d0 d1 d2 d3 d4 s0 s1 s2 hC
    cases hal : allowB verb prec mode with
    | false =>
      rw [hal] at HAL
      have HF : Hid (∀ w', Below w0.heap.size w0 w' → FmtPost 2 x verb prec mode w0 w' (.returned (.tuple #[.string (str []), .int .i64 1])) Q) := fun w' hw => .inr ⟨by rw [hal]; simp, rfl, hw⟩
      clear HTX hhas hal
      go_wp2_with fail
      refine (HAL.out w2).mono ?_
      rintro r w3 ⟨rfl, hb3⟩
      have HB4 := hid (HB3.out.trans (hb3.mono HB3.out.size))
      clear hb3 HAL
      go_wp2
      go_ret2
      exact HF.out _ HB4.out
    | true =>
      rw [hal] at HAL
      have HTY := hid (HTX.out hhas hal)
      have HF : Hid (∀ (w' : World) (T : List UInt8), (amtI 2 x < infN 2 → Q T) → T.length ≤ 5000 → Below w0.heap.size w0 w' → FmtPost 2 x verb prec mode w0 w' (.returned (.tuple #[.string (str (outT 2 x T)), .int .i64 0])) Q) := fun w' T p1 p2 p3 => .inl ⟨hhas, hal, T, rfl, p1, p2, p3⟩
      clear HTX hhas hal
      go_wp2_with fail
      refine (HAL.out w2).mono ?_
      rintro r w3 ⟨rfl, hb3⟩
      have HB4 : Hid (Below w0.heap.size w0 w3) := HB3.out.trans (hb3.mono HB3.out.size)
      have e0' := keep_cell' hb3 e0
      have e1' := keep_cell' hb3 e1
      have e2' := keep_cell' hb3 e2
      have e3' := keep_cell' hb3 e3
      have e4' := keep_cell' hb3 e4
      have z0' := keep_cell' hb3 z0
      have z1' := keep_cell' hb3 z1
      have z2' := keep_cell' hb3 z2
      clear hb3 HAL e0 e1 e2 e3 e4 z0 z1 z2
      go_wp2_with fail
      refine (HTY.out w3 (HTAB.out.below HB4.out)).mono ?_
      rintro r w4 ⟨T, rfl, hq, hl, hb4⟩
      have HG := hid (HF.out w4 T hq hl (HB4.out.trans (hb4.mono HB4.out.size)))
      clear hq hl hb4 HTY HF
      go_wp2
      go_ret2
      exact HG.out
end Go.Proofs.YtbkdaoicnobllabDoor
