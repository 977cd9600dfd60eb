import Init
import Derived.Test.YtbkdaoicnobllabDoorGRefA
import Derived.Test.YtbkdaoicnobllabDoorGMem
import Derived.Laws.IdiomStrings
import Derived.Test.YtbkdaoicnobllabDoorGRise

/- Plain mathematics: bytes of a text; the powers behind a letter. -/
namespace Go.Proofs.YtbkdaoicnobllabDoor

/-- The bytes of a text as numbers. -/
def chs (s : ByteArray) : List Nat := s.data.toList.map UInt8.toNat
theorem chs_length (s : ByteArray) : (chs s).length = s.size := by simp [chs]
theorem chs_get (s : ByteArray) (k : Nat) (h : k < s.size) : (chs s).getD k 0 = (s[k]).toNat := by
  unfold chs
  rw [List.getD_eq_getElem?_getD, List.getElem?_map, List.getElem?_eq_getElem (by simpa using h)]; rfl
theorem chs_lt (s : ByteArray) : ∀ c, c ∈ chs s → c < 256 := by
  intro c hc; simp [chs] at hc; obtain ⟨a, _, rfl⟩ := hc; exact a.toNat_lt

def isDig (c : Nat) : Bool := decide (48 ≤ c) && decide (c ≤ 57)
/-- One byte more of a power. -/
def expStep (v c : Nat) : Nat := if isDig c = true ∧ v < 20000 then 10 * v + (c - 48) else v
def expNum (l : List Nat) : Nat := l.foldl expStep 0
def expVal (l : List Nat) : Int := if 45 ∈ l then -(expNum l : Int) else expNum l
/-- The number that stands behind a letter; 0 if it is not there. -/
def expOf (l : List Nat) (letter : Nat) : Int := match l.dropWhile (fun c => c != letter) with
  | [] => 0
  | _ :: r => expVal r
theorem expStep_le (v c : Nat) (h : v ≤ 200000) : expStep v c ≤ 200000 := by
  unfold expStep isDig; split
  · rename_i h2; simp at h2; omega
  · exact h
theorem expNum_le (l : List Nat) : expNum l ≤ 200000 := by
  unfold expNum
  have : ∀ (l : List Nat) (v : Nat), v ≤ 200000 → l.foldl expStep v ≤ 200000 := by
    intro l; induction l with
    | nil => intro v h; exact h
    | cons c r ih => intro v h; exact ih _ (expStep_le v c h)
  exact this l 0 (by omega)
theorem expVal_bd (l : List Nat) : -200000 ≤ expVal l ∧ expVal l ≤ 200000 := by
  have := expNum_le l; unfold expVal; split <;> omega
theorem expOf_bd (l : List Nat) (c : Nat) : -200000 ≤ expOf l c ∧ expOf l c ≤ 200000 := by
  unfold expOf; split
  · omega
  · exact expVal_bd _
theorem expNum_snoc (l : List Nat) (c : Nat) : expNum (l ++ [c]) = expStep (expNum l) c := by simp [expNum]
theorem expOf_none (l : List Nat) (letter : Nat) (h : ∀ j, j < l.length → l.getD j 0 ≠ letter) : expOf l letter = 0 := by
  unfold expOf
  have : l.dropWhile (fun c => c != letter) = [] := by
    induction l with
    | nil => rfl
    | cons c r ih =>
      have h0 := h 0 (by simp)
      simp at h0
      rw [List.dropWhile_cons_of_pos (by simpa using h0)]
      exact ih (fun j hj => by have := h (j + 1) (by simp; omega); simpa using this)
  rw [this]
theorem expOf_at (l : List Nat) (letter i : Nat) (hi : i < l.length) (h : ∀ j, j < i → l.getD j 0 ≠ letter) (he : l.getD i 0 = letter) : expOf l letter = expVal (l.drop (i + 1)) := by
  induction l generalizing i with
  | nil => simp at hi
  | cons c r ih =>
    cases i with
    | zero =>
      simp at he
      unfold expOf; simp [he]
    | succ i =>
      have h0 := h 0 (by omega)
      simp at h0
      have := ih i (by simpa using hi) (fun j hj => by have := h (j + 1) (by omega); simpa using this) (by simpa using he)
      rw [List.drop_succ_cons, ← this]
      unfold expOf
      rw [List.dropWhile_cons_of_pos (by simpa using h0)]

/-- From place a up to place j. -/
def cut (l : List Nat) (a j : Nat) : List Nat := (l.take j).drop a
theorem cut_snoc (l : List Nat) (a j : Nat) (ha : a ≤ j) (hj : j < l.length) : cut l a (j + 1) = cut l a j ++ [l.getD j 0] := by
  unfold cut
  rw [List.take_succ_eq_append_getElem hj, List.drop_append_of_le_length (by simp; omega), List.getD_eq_getElem?_getD, List.getElem?_eq_getElem hj]; rfl
theorem cut_self (l : List Nat) (a : Nat) : cut l a a = [] := by unfold cut; apply List.drop_eq_nil_of_le; simp; omega
theorem cut_all (l : List Nat) (a j : Nat) (h : l.length ≤ j) : cut l a j = l.drop a := by unfold cut; rw [List.take_of_length_le h]
def hasMinus (l : List Nat) : Bool := decide (45 ∈ l)
theorem hasMinus_snoc (l : List Nat) (c : Nat) : hasMinus (l ++ [c]) = (hasMinus l || c == 45) := by
  unfold hasMinus; rw [Bool.eq_iff_iff]; simp; constructor
  · intro h; rcases h with h | h
    · exact .inl h
    · exact .inr h.symm
  · intro h; rcases h with h | h
    · exact .inl h
    · exact .inr h.symm
theorem expVal_eq (l : List Nat) : expVal l = if hasMinus l = true then -(expNum l : Int) else expNum l := by unfold expVal hasMinus; simp

/-- A byte more of a decimal: its digits, how many of them stand behind the point, whether the point was seen. -/
def decStep (st : List Nat × Nat × Bool) (c : Nat) : List Nat × Nat × Bool :=
  if c = 46 then (st.1, st.2.1, true) else (st.1 ++ [c - 48], if st.2.2 = true then st.2.1 + 1 else st.2.1, st.2.2)
def decScan (l : List Nat) : List Nat × Nat × Bool := l.foldl decStep ([], 0, false)
theorem decScan_snoc (l : List Nat) (c : Nat) : decScan (l ++ [c]) = decStep (decScan l) c := by simp [decScan]
theorem decScan_inv (l : List Nat) : (decScan l).1.length ≤ l.length ∧ (decScan l).2.1 ≤ l.length := by
  have : ∀ (l : List Nat) (st : List Nat × Nat × Bool), (l.foldl decStep st).1.length ≤ st.1.length + l.length ∧ (l.foldl decStep st).2.1 ≤ st.2.1 + l.length := by
    intro l; induction l with
    | nil => intro st; simp
    | cons c r ih =>
      intro st
      have h := ih (decStep st c)
      rw [List.foldl_cons, List.length_cons]
      have h2 : (decStep st c).1.length ≤ st.1.length + 1 ∧ (decStep st c).2.1 ≤ st.2.1 + 1 := by
        unfold decStep; split
        · simp
        · simp; split <;> omega
      omega
  have h := this l ([], 0, false)
  simpa [decScan] using h
theorem decScan_digs (l : List Nat) (h : ∀ c, c ∈ l → c = 46 ∨ isDig c = true) : ∀ d, d ∈ (decScan l).1 → d ≤ 9 := by
  have : ∀ (l : List Nat) (st : List Nat × Nat × Bool), (∀ c, c ∈ l → c = 46 ∨ isDig c = true) → (∀ d, d ∈ st.1 → d ≤ 9) → ∀ d, d ∈ (l.foldl decStep st).1 → d ≤ 9 := by
    intro l; induction l with
    | nil => intro st _ h2; exact h2
    | cons c r ih =>
      intro st h1 h2
      refine ih _ (fun x hx => h1 x (List.mem_cons_of_mem _ hx)) ?_
      have hc := h1 c List.mem_cons_self
      unfold decStep; split
      · exact h2
      · intro d hd
        simp at hd
        rcases hd with hd | hd
        · exact h2 d hd
        · rcases hc with hc | hc
          · omega
          · simp [isDig] at hc; omega
  exact this l ([], 0, false) h (fun d hd => by simp at hd)
/-- What stands ahead of a letter. -/
def ahead (l : List Nat) (letter : Nat) : List Nat := l.takeWhile (fun c => c != letter)
theorem ahead_take (l : List Nat) (letter k : Nat) (hk : k ≤ l.length) (h : ∀ j, j < k → l.getD j 0 ≠ letter) (he : k < l.length → l.getD k 0 = letter) : ahead l letter = l.take k := by
  unfold ahead
  induction l generalizing k with
  | nil => simp
  | cons c r ih =>
    cases k with
    | zero =>
      have := he (by simp)
      simp at this
      simp [this]
    | succ k =>
      have h0 := h 0 (by omega)
      simp at h0
      rw [List.takeWhile_cons_of_pos (by simpa using h0), List.take_succ_cons, ih k (by simpa using hk) (fun j hj => by have := h (j + 1) (by omega); simpa using this) (fun hh => by have := he (by simpa using hh); simpa using this)]
theorem take_snoc_getD (l : List Nat) (k : Nat) (h : k < l.length) : l.take (k + 1) = l.take k ++ [l.getD k 0] := by
  rw [List.take_succ_eq_append_getElem h, List.getD_eq_getElem?_getD, List.getElem?_eq_getElem h]; rfl

theorem mem_ahead (l : List Nat) (letter k : Nat) (hk : k < l.length) (h : ∀ j, j < k → l.getD j 0 ≠ letter) (hn : l.getD k 0 ≠ letter) (c : Nat) (hc : c = l.getD k 0) : c ∈ ahead l letter := by
  unfold ahead
  induction l generalizing k with
  | nil => simp at hk
  | cons x r ih =>
    cases k with
    | zero =>
      simp at hn hc
      rw [List.takeWhile_cons_of_pos (by simpa using hn), hc]; exact List.mem_cons_self
    | succ k =>
      have h0 := h 0 (by omega)
      simp at h0
      rw [List.takeWhile_cons_of_pos (by simpa using h0)]
      exact List.mem_cons_of_mem _ (ih k (by simpa using hk) (fun j hj => by have := h (j + 1) (by omega); simpa using this) (by simpa using hn) (by simpa using hc))

def isHexc (c : Nat) : Bool := isDig c || (decide (97 ≤ c) && decide (c ≤ 102))
def hexv (c : Nat) : Nat := if c ≤ 57 then c - 48 else c - 87
/-- A byte more of a number of base 16. -/
def hexStep (st : List Nat × Nat × Bool) (c : Nat) : List Nat × Nat × Bool :=
  if c = 46 then (st.1, st.2.1, true) else (if 0 < st.1.length ∨ 0 < hexv c then st.1 ++ [hexv c] else st.1, if st.2.2 = true then st.2.1 + 1 else st.2.1, st.2.2)
def hexScan (l : List Nat) : List Nat × Nat × Bool := l.foldl hexStep ([], 0, false)
theorem hexScan_snoc (l : List Nat) (c : Nat) : hexScan (l ++ [c]) = hexStep (hexScan l) c := by simp [hexScan]
theorem hexScan_vals (l : List Nat) (h : ∀ c, c ∈ l → c = 46 ∨ isHexc c = true) : ∀ d, d ∈ (hexScan l).1 → d ≤ 15 := by
  have : ∀ (l : List Nat) (st : List Nat × Nat × Bool), (∀ c, c ∈ l → c = 46 ∨ isHexc c = true) → (∀ d, d ∈ st.1 → d ≤ 15) → ∀ d, d ∈ (l.foldl hexStep st).1 → d ≤ 15 := by
    intro l; induction l with
    | nil => intro st _ h2; exact h2
    | cons c r ih =>
      intro st h1 h2
      refine ih _ (fun x hx => h1 x (List.mem_cons_of_mem _ hx)) ?_
      have hc := h1 c List.mem_cons_self
      unfold hexStep; split
      · exact h2
      · intro d hd
        simp only at hd
        split at hd
        · simp at hd
          rcases hd with hd | hd
          · exact h2 d hd
          · rcases hc with hc | hc
            · omega
            · unfold hexv at hd; simp [isHexc, isDig] at hc; split at hd <;> omega
        · exact h2 d hd
  exact this l ([], 0, false) h (fun d hd => by simp at hd)

end Go.Proofs.YtbkdaoicnobllabDoor

namespace Go.Proofs.YtbkdaoicnobllabDoor
open Go.RowKit

/-- Is it a row of digits? -/
def allDig (s : ByteArray) : Bool := decide (chs s ≠ [] ∧ ∀ c, c ∈ chs s → isDig c = true)
theorem mem_chs {s : ByteArray} {i : Nat} (h : i < s.size) : (chs s).getD i 0 ∈ chs s := by
  have hl : i < (chs s).length := by rw [chs_length]; exact h
  rw [List.getD_eq_getElem?_getD, List.getElem?_eq_getElem hl]
  exact List.getElem_mem hl
set_option maxRecDepth 100000 in
set_option maxHeartbeats 1000000 in
theorem kdigits_any (s : ByteArray) (hs : s.size ≤ maxLen) (w : World) : Calls Tryd.prog 14 #[.string s] w fun e w' => e = .returned (.bool (allDig s)) ∧ w' = w := by
  unfold maxLen at hs
  go_enter Tryd.func14, Tryd.ntmps14
  go_wp2
  go_loop [3] (fun ii => ∃ i : Nat, ii = .int .i64 i ∧ i ≤ s.size ∧ Hid (∀ j, j < i → isDig ((chs s).getD j 0) = true)) (fun ii => s.size - (intOf ii).toNat)
  case atStart => exact ⟨0, rfl, Nat.zero_le _, fun j hj => absurd hj (by omega)⟩
  case round =>
    obtain ⟨i, rfl, hi, HI⟩ := hrel
    by_cases hlt : i < s.size
    · have HG := hid (chs_get s i hlt)
      have hx : s[i].toNat < 256 := s[i].toNat_lt
      obtain ⟨x, hxx⟩ : ∃ x : Int, x = ((s[i].toNat : Nat) : Int) := ⟨_, rfl⟩
      have HXX := hid hxx
      by_cases h48 : x < 48
      · have t1 : decide (((s[i].toNat : Nat) : Int) < 48) = true := by simp; omega
        have HF : Hid (allDig s = false) := by
          unfold Hid allDig
          rw [decide_eq_false_iff_not]
          intro hh
          have h1 := hh.2 _ (mem_chs hlt)
          rw [HG.out] at h1
          unfold isDig at h1; simp at h1; omega
        clear h48 hxx hx
        go_wp2
        all_goals (go_ret; exact ⟨by rw [HF.out]; rfl, rfl⟩)
      · have t1 : decide (((s[i].toNat : Nat) : Int) < 48) = false := by simp; omega
        by_cases h57 : 57 < x
        · have t2 : decide ((57 : Int) < ((s[i].toNat : Nat) : Int)) = true := by simp; omega
          have HF : Hid (allDig s = false) := by
            unfold Hid allDig
            rw [decide_eq_false_iff_not]
            intro hh
            have h1 := hh.2 _ (mem_chs hlt)
            rw [HG.out] at h1
            unfold isDig at h1; simp at h1; omega
          clear h48 h57 hxx hx
          go_wp2
          all_goals (go_ret; exact ⟨by rw [HF.out]; rfl, rfl⟩)
        · have t2 : decide ((57 : Int) < ((s[i].toNat : Nat) : Int)) = false := by simp; omega
          have HI2 : Hid (∀ j, j < i + 1 → isDig ((chs s).getD j 0) = true) := by
            intro j hj
            rcases Nat.lt_or_ge j i with g | g
            · exact HI.out j g
            · rw [show j = i from by omega, HG.out]; unfold isDig; simp; omega
          clear h48 h57 hxx hx HI
          go_wp2
          go_round
          case rel => exact ⟨i + 1, by go_num, by omega, HI2.out⟩
          case measure => simp [intOf]; omega
    · have HF : Hid (allDig s = decide ((0 : Int) < (s.size : Int))) := by
        unfold Hid allDig
        have hl := chs_length s
        rw [Bool.eq_iff_iff, decide_eq_true_eq, decide_eq_true_eq]
        constructor
        · intro hh
          have : (chs s).length ≠ 0 := fun h => hh.1 (List.length_eq_zero_iff.1 h)
          omega
        · intro hh
          refine ⟨fun h => by rw [h] at hl; simp at hl; omega, fun c hc => ?_⟩
          obtain ⟨j, hj, he⟩ := List.mem_iff_getElem.1 hc
          have := HI.out j (by omega)
          rw [List.getD_eq_getElem?_getD, List.getElem?_eq_getElem hj] at this
          rw [← he]; exact this
      obtain ⟨o, ho⟩ : ∃ o, o = decide ((0 : Int) < (s.size : Int)) := ⟨_, rfl⟩
      rw [← ho] at HF
      have t3 : decide ((0 : Int) < (s.size : Int)) = o := ho.symm
      have t4 : decide (0 < s.size) = o := by rw [ho, Bool.eq_iff_iff]; simp
      clear HI ho
      go_wp2
      all_goals (go_ret; exact ⟨by rw [HF.out]; rfl, rfl⟩)
end Go.Proofs.YtbkdaoicnobllabDoor

namespace Go.Proofs.YtbkdaoicnobllabDoor

theorem byte_ne {d : Nat} (h0 : d ≠ 0) (h9 : d ≤ 9) : UInt8.ofNat (48 + d) ≠ 48 := by
  intro h
  have := congrArg UInt8.toNat h
  simp at this
  omega
theorem dig_top {L : List Nat} (hd : Digs L) (hh : Headed L) (hl : 0 < L.length) (g : Int) : dig L g (g + L.length - 1) ≠ 0 ∧ dig L g (g + L.length - 1) ≤ 9 := by
  refine ⟨?_, dig_le hd _ _⟩
  have := dig_at L (g + L.length - 1) 0 hl
  rw [show g + (L.length : Int) - 1 - L.length + 1 = g from by omega, show g + (L.length : Int) - 1 - ((0 : Nat) : Int) = g + L.length - 1 from by omega] at this
  rw [this, List.getD_eq_getElem?_getD, List.getElem?_eq_getElem hl]
  exact hh hl
theorem exp_parted {aw : Int → Bool → Bool} {f : Int} {a n : Nat} {T : List UInt8} (hf : 0 ≤ f ∧ f ≤ 2) (h1 : (a : Int) < infN f) (hn : n ≤ 800) (h : ExpQ aw (valA 3000 f a) n T) : ∃ d e, Parted T d e ∧ d.length = n + 1 ∧ (0 < a → ∃ c r, d = c :: r ∧ c ≠ 48) := by
  rcases h with ⟨h0, rfl⟩ | ⟨D, e, L, g, h⟩
  · have ha : ¬ 0 < a := fun ha => by
      have := valA_low hf ha
      have : 0 < 10 ^ 2600 := Nat.pow_pos (by omega)
      omega
    have hk := sci_kept (L := []) Digs.nil 0 0 n
    have hs : fixT [] 0 0 n = sciT [] 0 0 n := by unfold fixT sciT; rfl
    refine ⟨_, _, ⟨fixT [] 0 0 n, [48], rfl, ?_, by have := fixT_length [] 0 0 n; omega, fun c hc => by rw [List.mem_singleton.1 hc]; exact .inr (by decide), by simp, rfl, rfl⟩, ?_, fun h => absurd h ha⟩
    · rw [hs]; exact sci_noe Digs.nil _ _ _
    · rw [hs, hk, rowT_length]
  · have ha : 0 < a := by
      apply Nat.pos_of_ne_zero; intro h0; subst h0
      exact h.ne (valA_none 3000 f)
    obtain ⟨r1, r2⟩ := h.range hf ha h1
    refine ⟨_, _, h.parted hn r1 r2, by rw [rowT_length], fun _ => ⟨_, _, rowT_cons _ _ _ _, ?_⟩⟩
    obtain ⟨d0, d9⟩ := dig_top h.digs' h.headed' h.pos' g
    exact byte_ne d0 d9
/-- The bytes are digits. -/
def DigB (P : List UInt8) : Prop := ∀ c ∈ P, 48 ≤ c.toNat ∧ c.toNat ≤ 57
theorem fix_shape {aw : Int → Bool → Bool} {V n : Nat} {T : List UInt8} (h : FixQ aw V n T) : ∃ P Q, T = P ++ (if n = 0 then [] else 46 :: Q) ∧ P ≠ [] ∧ DigB P ∧ DigB Q ∧ Q.length = n ∧ (P.length = 1 ∨ ∃ c r, P = c :: r ∧ c ≠ 48) := by
  obtain ⟨L, g, a1, a2, a3, a4, a5, rfl⟩ := h
  refine ⟨rowT L g (highN L g) (highN L g + 1), rowT L g (-1) n, rfl, ?_, rowT_byte a1 _ _ _, rowT_byte a1 _ _ _, rowT_length _ _ _ _, ?_⟩
  · intro h0
    have := congrArg List.length h0
    rw [rowT_length] at this
    simp at this
  · rw [rowT_length]
    by_cases hl : L = []
    · left; unfold highN; rw [if_pos hl]
    · by_cases h1 : highN L g = 0
      · left; omega
      · right
        refine ⟨_, _, rowT_cons _ _ _ _, ?_⟩
        have hp := List.length_pos_iff.2 hl
        have hh : ((highN L g : Nat) : Int) = g + L.length - 1 := by
          unfold highN at h1 ⊢; rw [if_neg hl] at h1 ⊢; omega
        rw [hh]
        obtain ⟨d0, d9⟩ := dig_top a1 a2 hp g
        exact byte_ne d0 d9
theorem dig_allDig {P : List UInt8} (h : DigB P) (h0 : P ≠ []) : allDig (str P) = true := by
  unfold allDig chs str
  rw [decide_eq_true_iff]
  refine ⟨by simpa using h0, fun c hc => ?_⟩
  obtain ⟨b, hb, rfl⟩ := List.mem_map.1 hc
  have := h b (by simpa using hb)
  unfold isDig; simp; omega
end Go.Proofs.YtbkdaoicnobllabDoor
