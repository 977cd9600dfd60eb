import Derived.Test.YtbkdaoicnobllaaTOut
import Derived.Test.YtbkdaoicnobllaaTKeepD
import Derived.Laws.IdiomStrings

/- Plain mathematics: texts of one number. -/
namespace Go.Proofs.Ytbkdaoicnobllaa

theorem num_inj : ∀ (n : Nat) (A B : List Nat), A.length = n → B.length = n → Digs A → Digs B → num A = num B → A = B := by
  intro n
  induction n with
  | zero => intro A B ha hb _ _ _; rw [List.length_eq_zero_iff.1 ha, List.length_eq_zero_iff.1 hb]
  | succ n ih =>
    intro A B ha hb hA hB h
    have nA : A ≠ [] := by intro e; rw [e] at ha; simp at ha
    have nB : B ≠ [] := by intro e; rw [e] at hb; simp at hb
    have eA := List.dropLast_concat_getLast nA
    have eB := List.dropLast_concat_getLast nB
    have dA : A.getLast nA ≤ 9 := hA _ (List.getLast_mem nA)
    have dB : B.getLast nB ≤ 9 := hB _ (List.getLast_mem nB)
    rw [← eA, ← eB, num_snoc, num_snoc] at h
    have h1 : A.getLast nA = B.getLast nB := by omega
    have h2 : num A.dropLast = num B.dropLast := by omega
    have := ih A.dropLast B.dropLast (by simp [ha]) (by simp [hb]) (fun d hd => hA d (List.dropLast_subset A hd)) (fun d hd => hB d (List.dropLast_subset B hd)) h2
    rw [← eA, ← eB, this, h1]
theorem norm_last {L : List Nat} (h : Norm L) (hl : L ≠ []) : num L % 10 ≠ 0 := by
  have e := List.dropLast_concat_getLast hl
  have hd : L.getLast hl ≤ 9 := h.digs _ (List.getLast_mem hl)
  have h0 : 0 < L.length := List.length_pos_iff.2 hl
  have hn := h.last h0
  have hg : L.getLast hl = L[L.length - 1] := List.getLast_eq_getElem hl
  rw [← e, num_snoc]
  omega
theorem norm_one_way {L1 L2 : List Nat} (h1 : Norm L1) (h2 : Norm L2) {a b : Nat} (hab : a ≤ b) (h : num L1 * 10 ^ a = num L2 * 10 ^ b) : L1 = L2 ∧ (L1 ≠ [] → a = b) := by
  have hc : num L1 = num L2 * 10 ^ (b - a) := by
    apply Nat.eq_of_mul_eq_mul_right (Nat.pow_pos (n := a) (show 0 < 10 by omega))
    rw [h, Nat.mul_assoc, ← Nat.pow_add]; congr 2; omega
  by_cases e1 : L1 = []
  · have hz : num L2 = 0 := by
      rw [e1, num_nil] at hc
      rcases Nat.mul_eq_zero.1 hc.symm with g | g
      · exact g
      · have : 0 < 10 ^ (b - a) := Nat.pow_pos (by omega)
        omega
    refine ⟨?_, fun g => absurd e1 g⟩
    rcases Nat.eq_zero_or_pos L2.length with g | g
    · rw [e1, List.length_eq_zero_iff.1 g]
    · have h3 := num_pos h2 g
      have : 0 < 10 ^ (L2.length - 1) := Nat.pow_pos (by omega)
      omega
  · have hd : b - a = 0 := by
      rcases Nat.eq_zero_or_pos (b - a) with g | g
      · exact g
      · exfalso
        apply norm_last h1 e1
        rw [hc, show b - a = (b - a - 1) + 1 from by omega, Nat.pow_succ, ← Nat.mul_assoc]
        exact Nat.mul_mod_left _ _
    rw [hd, Nat.pow_zero, Nat.mul_one] at hc
    have l1 : 0 < L1.length := List.length_pos_iff.2 e1
    have p1 := num_pos h1 l1
    have e2 : L2 ≠ [] := by
      intro g
      rw [g, num_nil] at hc
      have : 0 < 10 ^ (L1.length - 1) := Nat.pow_pos (by omega)
      omega
    have l2 : 0 < L2.length := List.length_pos_iff.2 e2
    have p2 := num_pos h2 l2
    have q1 := num_lt h1.digs
    have q2 := num_lt h2.digs
    have k1 : L1.length - 1 < L2.length := pow_lt_of (b := 10) (by omega) (by omega)
    have k2 : L2.length - 1 < L1.length := pow_lt_of (b := 10) (by omega) (by omega)
    exact ⟨num_inj L1.length L1 L2 rfl (by omega) h1.digs h2.digs hc, fun _ => by omega⟩
/-- One number has one form. -/
theorem norm_unique {L1 L2 : List Nat} (h1 : Norm L1) (h2 : Norm L2) {a b : Nat} (h : num L1 * 10 ^ a = num L2 * 10 ^ b) : L1 = L2 ∧ (L1 ≠ [] → a = b) := by
  rcases Nat.le_total a b with g | g
  · exact norm_one_way h1 h2 g h
  · obtain ⟨e1, e2⟩ := norm_one_way h2 h1 g h.symm
    exact ⟨e1.symm, fun hn => (e2 (by rw [e1]; exact hn)).symm⟩
/-- Digits and a power that say the same number are held as the same. -/
theorem held_same {A B : List Nat} {ea eb : Int} {M : Nat} (hA : Digs A) (hB : Digs B) (ha : -(M : Int) ≤ ea) (hb : -(M : Int) ≤ eb) (h : num A * 10 ^ (ea + M).toNat = num B * 10 ^ (eb + M).toNat) : normL A = normL B ∧ normE A ea = normE B eb := by
  have v1 := norm_val A ea M ha
  have v2 := norm_val B eb M hb
  have n1 := normL_norm hA
  have n2 := normL_norm hB
  have hv : val M (normL A) (normE A ea) = val M (normL B) (normE B eb) := by rw [v1, v2]; exact h
  unfold val at hv
  obtain ⟨e1, e2⟩ := norm_unique n1 n2 hv
  refine ⟨e1, ?_⟩
  by_cases hn : normL A = []
  · unfold normE; rw [if_pos hn, if_pos (by rw [← e1]; exact hn)]
  · have h3 := e2 hn
    have g1 := normE_ge A ea hn
    have g2 := normE_ge B eb (by rw [← e1]; exact hn)
    omega
end Go.Proofs.Ytbkdaoicnobllaa

namespace Go.Proofs.Ytbkdaoicnobllaa
open Go.RowKit

/-- A whole number as a text. -/
def NumText (n : Nat) (d : ByteArray) : Prop := (∀ c, c ∈ chs d → isDig c = true) ∧ chs d ≠ [] ∧ expNum (chs d) = n ∧ d.size ≤ 10
def NumPost (n : Nat) (w w' : World) (e : Ending) : Prop := ∃ d : ByteArray, e = .returned (.string d) ∧ NumText n d ∧ Below w.heap.size w w'
/-- The text of one digit. -/
def digT (n : Nat) : ByteArray := ⟨[UInt8.ofNat (48 + n)].toArray⟩
theorem chs_digT (n : Nat) (h : n < 10) : chs (digT n) = [48 + n] := by
  unfold chs digT
  simp
  omega
theorem conv_dig (n : Nat) (h : n < 10) (w : World) :
    (convert 74 9 (.slice (some ⟨w.heap.size, 0, none⟩) 1 1)).run Try.prog (w.alloc (.cells #[.int .u8 (48 + (n : Int))] 5)) = .ok (.string (digT n)) (w.alloc (.cells #[.int .u8 (48 + (n : Int))] 5)) := by
  have := run_convert_bytes_back (P := Try.prog) (w.alloc (.cells #[.int .u8 (48 + (n : Int))] 5)) 74 9 5 ⟨w.heap.size, 0, none⟩ 1 [UInt8.ofNat (48 + n)] Try.underlying74 Try.underlying5 Try.underlying9 (fun j hj => by
    simp at hj
    subst hj
    have e : (UInt8.ofNat (48 + n)).toNat = 48 + n := by simp; omega
    simp [go_sem, Addr.add]
    omega)
  exact this
theorem numText_digit (n : Nat) (h : n < 10) : NumText n (digT n) := by
  refine ⟨fun c hc => ?_, by rw [chs_digT n h]; simp, ?_, by unfold digT; simp [ByteArray.size]⟩
  · rw [chs_digT n h] at hc
    rw [List.mem_singleton.1 hc]; unfold isDig; simp; omega
  · rw [chs_digT n h]
    have : isDig (48 + n) = true := by unfold isDig; simp; omega
    unfold expNum expStep
    simp [this]
theorem numText_more (n : Nat) (hn : n ≤ 100000) (d : ByteArray) (hd : d.size ≤ 9) (h : NumText (n / 10) d) : NumText n (d ++ digT (n % 10)) := by
  have hc : chs (d ++ digT (n % 10)) = chs d ++ [48 + n % 10] := by
    rw [← chs_digT (n % 10) (by omega)]
    unfold chs
    rw [ByteArray.data_append]; simp
  obtain ⟨h1, h2, h3, _⟩ := h
  have hi : isDig (48 + n % 10) = true := by unfold isDig; simp; omega
  refine ⟨fun c hh => ?_, by rw [hc]; simp, ?_, ?_⟩
  · rw [hc] at hh
    rcases List.mem_append.1 hh with g | g
    · exact h1 c g
    · rw [List.mem_singleton.1 g]; exact hi
  · rw [hc, expNum_snoc, h3]
    unfold expStep
    rw [if_pos ⟨hi, by omega⟩]; omega
  · have e1 : (digT (n % 10)).size = 1 := rfl
    rw [ByteArray.size_append, e1]; omega
set_option maxRecDepth 100000 in
set_option maxHeartbeats 1000000 in
theorem number_small (n : Nat) (hn : n < 10) (w : World) : Calls Try.prog 24 #[.int .i64 n] w fun e w' => NumPost n w w' e := by
  have t0 : decide ((n : Int) < 0) = false := by simp
  have t1 : decide ((n : Int) < 10) = true := by simp; omega
  have hm : (n : Int) % 10 = n := by omega
  have hn' : (n : Int) ≤ 9 := by omega
  have hcv := conv_dig n hn w
  have HT := hid (numText_digit n hn)
  clear hn
  go_enter Try.func24, Try.ntmps24
  go_wp2
  go_ret
  exact ⟨digT n, rfl, HT.out, (Below.refl _ _).alloc (Nat.le_refl _) _⟩
set_option maxRecDepth 100000 in
set_option maxHeartbeats 1000000 in
/-- 'number' of a number that is not below 0; m bounds its digits. -/
theorem number_nat : ∀ (m n : Nat), m ≤ 4 → n < 10 ^ (m + 1) → ∀ w : World, Calls Try.prog 24 #[.int .i64 n] w fun e w' => ∃ d : ByteArray, e = .returned (.string d) ∧ (NumText n d ∧ d.size ≤ m + 1) ∧ Below w.heap.size w w' := by
  intro m
  induction m with
  | zero =>
    intro n _ hn w
    have h10 : n < 10 := by simpa using hn
    have t0 : decide ((n : Int) < 0) = false := by simp
    have t1 : decide ((n : Int) < 10) = true := by simp; omega
    have hm : (n : Int) % 10 = n := by omega
    have hn' : (n : Int) ≤ 9 := by omega
    have hcv := conv_dig n h10 w
    have HT := hid (numText_digit n h10)
    clear hn h10
    go_enter Try.func24, Try.ntmps24
    go_wp2
    go_ret
    exact ⟨digT n, rfl, ⟨HT.out, Nat.le_refl 1⟩, (Below.refl _ _).alloc (Nat.le_refl _) _⟩
  | succ m ih =>
    intro n hm5 hn w
    by_cases h10 : n < 10
    · have t0 : decide ((n : Int) < 0) = false := by simp
      have t1 : decide ((n : Int) < 10) = true := by simp; omega
      have hm : (n : Int) % 10 = n := by omega
      have hn' : (n : Int) ≤ 9 := by omega
      have hcv := conv_dig n h10 w
      have HT := hid (numText_digit n h10)
      clear hn h10 ih
      go_enter Try.func24, Try.ntmps24
      go_wp2
      go_ret
      exact ⟨digT n, rfl, ⟨HT.out, (by unfold digT; show 1 ≤ m + 1 + 1; omega)⟩, (Below.refl _ _).alloc (Nat.le_refl _) _⟩
    · have hlt : n / 10 < 10 ^ (m + 1) := by
        rw [Nat.div_lt_iff_lt_mul (by omega), ← Nat.pow_succ]; exact hn
      have hle : n < 100000 := Nat.lt_of_lt_of_le hn (Nat.pow_le_pow_right (by omega) (show m + 1 + 1 ≤ 5 by omega))
      obtain ⟨r, hr⟩ : ∃ r, r = n % 10 := ⟨_, rfl⟩
      obtain ⟨q, hq⟩ : ∃ q, q = n / 10 := ⟨_, rfl⟩
      obtain ⟨N, hN⟩ : ∃ N : Int, N = (n : Int) := ⟨_, rfl⟩
      have hr10 : r < 10 := by omega
      have t0 : decide (N < 0) = false := by simp; omega
      have t1 : decide (N < 10) = false := by simp; omega
      have hN0 : 0 ≤ N := by omega
      have hN1 : N ≤ 1000000 := by omega
      have hm : N % 10 = (r : Int) := by omega
      have hd : N / 10 = (q : Int) := by omega
      have hn' : (r : Int) ≤ 9 := by omega
      have hcv := conv_dig r hr10 w
      have HX := hid (ih q (by omega) (by rw [hq]; exact hlt) (w.alloc (.cells #[.int .u8 (48 + (r : Int))] 5)))
      have HM : Hid (∀ d : ByteArray, d.size ≤ 9 → NumText q d → NumText n (d ++ digT r)) := fun d h1 h2 => by
        rw [hr]; exact numText_more n (by omega) d h1 (by rw [← hq]; exact h2)
      have hm5' : m ≤ 4 := by omega
      rw [← hN]
      clear hn h10 ih hr hq hN hlt hle hr10
      go_enter Try.func24, Try.ntmps24
      go_wp2_with fail
      refine HX.out.mono ?_
      rintro e w1 ⟨d, rfl, ⟨hd1, hd2⟩, hb⟩
      have HT := hid (HM.out d (by omega) hd1)
      have HB : Hid (Below w.heap.size w w1) := ((Below.refl w.heap.size w).alloc (Nat.le_refl _) _).trans (hb.mono (by simp))
      have HD : Hid ((d ++ digT r).size ≤ m + 1 + 1) := by
        have e1 : (digT r).size = 1 := rfl
        unfold Hid; rw [ByteArray.size_append, e1]; omega
      have e1 : (digT r).size = 1 := rfl
      have hds : d.size ≤ 9 := by omega
      clear HX hb hd1 HM hcv
      go_wp2
      go_ret
      exact ⟨d ++ digT r, rfl, ⟨HT.out, HD.out⟩, HB.out⟩
/-- A power as a text. -/
def IntText (x : Int) (d : ByteArray) : Prop := (0 ≤ x ∧ NumText x.toNat d) ∨ (x < 0 ∧ ∃ d', d = ⟨#[45]⟩ ++ d' ∧ NumText (-x).toNat d')
set_option maxRecDepth 100000 in
set_option maxHeartbeats 1000000 in
theorem number_int (x : Int) (h1 : -9999 ≤ x) (h2 : x ≤ 9999) (w : World) : Calls Try.prog 24 #[.int .i64 x] w fun e w' => ∃ d : ByteArray, e = .returned (.string d) ∧ (IntText x d ∧ d.size ≤ 6) ∧ Below w.heap.size w w' := by
  by_cases h0 : 0 ≤ x
  · obtain ⟨n, rfl⟩ : ∃ n : Nat, x = (n : Int) := ⟨x.toNat, by omega⟩
    refine (number_nat 3 n (by omega) (by simp; omega) w).mono ?_
    rintro e w' ⟨d, rfl, ⟨hd, hs⟩, hb⟩
    exact ⟨d, rfl, ⟨.inl ⟨h0, by simpa using hd⟩, by omega⟩, hb⟩
  · obtain ⟨n, hn⟩ : ∃ n : Nat, -x = (n : Int) := ⟨(-x).toNat, by omega⟩
    have HX := hid (number_nat 3 n (by omega) (by simp; omega) w)
    have t0 : decide (x < 0) = true := by simp; omega
    have HN : Hid ((-x).toNat = n) := by unfold Hid; omega
    have H0 := hid h0
    clear h0
    go_enter Try.func24, Try.ntmps24
    go_wp2_with fail
    refine HX.out.mono ?_
    rintro e w1 ⟨d, rfl, ⟨hd, hs⟩, hb⟩
    have HB := hid hb
    have HD := hid hd
    have e1 : (⟨#[45]⟩ : ByteArray).size = 1 := rfl
    have HS : Hid ((⟨#[45]⟩ ++ d : ByteArray).size ≤ 6) := by unfold Hid; rw [ByteArray.size_append, e1]; omega
    clear HX hb hd hn
    go_wp2
    go_ret
    exact ⟨⟨#[45]⟩ ++ d, rfl, ⟨.inr ⟨by have := H0.out; omega, d, rfl, by rw [HN.out]; exact HD.out⟩, HS.out⟩, HB.out⟩
/-- Is it a row of digits? -/
def allDig (s : ByteArray) : Bool := decide (chs s ≠ [] ∧ ∀ c, c ∈ chs s → isDig c = true)
theorem mem_chs {s : ByteArray} {i : Nat} (h : i < s.size) : (chs s).getD i 0 ∈ chs s := by
  have hl : i < (chs s).length := by rw [chs_length]; exact h
  rw [List.getD_eq_getElem?_getD, List.getElem?_eq_getElem hl]
  exact List.getElem_mem hl
set_option maxRecDepth 100000 in
set_option maxHeartbeats 1000000 in
theorem kdigits_any (s : ByteArray) (hs : s.size ≤ maxLen) (w : World) : Calls Try.prog 23 #[.string s] w fun e w' => e = .returned (.bool (allDig s)) ∧ w' = w := by
  unfold maxLen at hs
  go_enter Try.func23, Try.ntmps23
  go_wp2
  go_loop [3] (fun ii => ∃ i : Nat, ii = .int .i64 i ∧ i ≤ s.size ∧ Hid (∀ j, j < i → isDig ((chs s).getD j 0) = true)) (fun ii => s.size - (intOf ii).toNat)
  case atStart => exact ⟨0, rfl, Nat.zero_le _, fun j hj => absurd hj (by omega)⟩
  case round =>
    obtain ⟨i, rfl, hi, HI⟩ := hrel
    by_cases hlt : i < s.size
    · have HG := hid (chs_get s i hlt)
      have hx : s[i].toNat < 256 := s[i].toNat_lt
      obtain ⟨x, hxx⟩ : ∃ x : Int, x = ((s[i].toNat : Nat) : Int) := ⟨_, rfl⟩
      have HXX := hid hxx
      by_cases h48 : x < 48
      · have t1 : decide (((s[i].toNat : Nat) : Int) < 48) = true := by simp; omega
        have HF : Hid (allDig s = false) := by
          unfold Hid allDig
          rw [decide_eq_false_iff_not]
          intro hh
          have h1 := hh.2 _ (mem_chs hlt)
          rw [HG.out] at h1
          unfold isDig at h1; simp at h1; omega
        clear h48 hxx hx
        go_wp2
        all_goals (go_ret; exact ⟨by rw [HF.out]; rfl, rfl⟩)
      · have t1 : decide (((s[i].toNat : Nat) : Int) < 48) = false := by simp; omega
        by_cases h57 : 57 < x
        · have t2 : decide ((57 : Int) < ((s[i].toNat : Nat) : Int)) = true := by simp; omega
          have HF : Hid (allDig s = false) := by
            unfold Hid allDig
            rw [decide_eq_false_iff_not]
            intro hh
            have h1 := hh.2 _ (mem_chs hlt)
            rw [HG.out] at h1
            unfold isDig at h1; simp at h1; omega
          clear h48 h57 hxx hx
          go_wp2
          all_goals (go_ret; exact ⟨by rw [HF.out]; rfl, rfl⟩)
        · have t2 : decide ((57 : Int) < ((s[i].toNat : Nat) : Int)) = false := by simp; omega
          have HI2 : Hid (∀ j, j < i + 1 → isDig ((chs s).getD j 0) = true) := by
            intro j hj
            rcases Nat.lt_or_ge j i with g | g
            · exact HI.out j g
            · rw [show j = i from by omega, HG.out]; unfold isDig; simp; omega
          clear h48 h57 hxx hx HI
          go_wp2
          go_round
          case rel => exact ⟨i + 1, by go_num, by omega, HI2.out⟩
          case measure => simp [intOf]; omega
    · have HF : Hid (allDig s = decide ((0 : Int) < (s.size : Int))) := by
        unfold Hid allDig
        have hl := chs_length s
        rw [Bool.eq_iff_iff, decide_eq_true_eq, decide_eq_true_eq]
        constructor
        · intro hh
          have : (chs s).length ≠ 0 := fun h => hh.1 (List.length_eq_zero_iff.1 h)
          omega
        · intro hh
          refine ⟨fun h => by rw [h] at hl; simp at hl; omega, fun c hc => ?_⟩
          obtain ⟨j, hj, he⟩ := List.mem_iff_getElem.1 hc
          have := HI.out j (by omega)
          rw [List.getD_eq_getElem?_getD, List.getElem?_eq_getElem hj] at this
          rw [← he]; exact this
      obtain ⟨o, ho⟩ : ∃ o, o = decide ((0 : Int) < (s.size : Int)) := ⟨_, rfl⟩
      rw [← ho] at HF
      have t3 : decide ((0 : Int) < (s.size : Int)) = o := ho.symm
      have t4 : decide (0 < s.size) = o := by rw [ho, Bool.eq_iff_iff]; simp
      clear HI ho
      go_wp2
      all_goals (go_ret; exact ⟨by rw [HF.out]; rfl, rfl⟩)
end Go.Proofs.Ytbkdaoicnobllaa
