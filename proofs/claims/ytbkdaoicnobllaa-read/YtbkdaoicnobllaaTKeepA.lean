import Derived.Test.YtbkdaoicnobllaaTOut
import Derived.Test.YtbkdaoicnobllaaTNew

namespace Go.Proofs.Ytbkdaoicnobllaa
open Go.RowKit

/-- Which of n things. -/
def pickV (c : Int) (n : Nat) : Nat := (if c < 0 then -(c + 1) else c).toNat % n
set_option maxRecDepth 100000 in
set_option maxHeartbeats 1000000 in
theorem pick_any (c : Int) (n : Nat) (hn : 0 < n) (hn2 : n ≤ 1000000) (hc : -9223372036854775808 ≤ c ∧ c ≤ 9223372036854775807) (w : World) :
    Calls Try.prog 11 #[.int .i64 c, .int .i64 n] w fun e w' => e = .returned (.int .i64 (pickV c n : Nat)) ∧ w' = w := by
  obtain ⟨N, hN⟩ : ∃ N : Int, N = (n : Int) := ⟨_, rfl⟩
  have hN0 : (N == 0) = false := by simp; omega
  have hN1 : 0 < N := by omega
  have hN2 : N ≤ 1000000 := by omega
  have HN := hid hN
  rw [← hN]
  obtain ⟨hc1, hc2⟩ := hc
  go_enter Try.func11, Try.ntmps11
  by_cases h0 : c < 0
  · have t : decide (c < 0) = true := by simpa using h0
    have HE : Hid (-((c + 1).tmod N) = (pickV c n : Nat)) := by
      unfold Hid pickV
      rw [← Int.neg_tmod, if_pos h0, HN.out, Int.tmod_eq_emod_of_nonneg (by omega)]
      have : -(c + 1) = ((-(c + 1)).toNat : Nat) := by omega
      rw [this]; simp
    clear hN hn hn2
    go_wp2
    all_goals (go_ret; exact ⟨by rw [← HE.out]; rfl, rfl⟩)
  · have t : decide (c < 0) = false := by simpa using h0
    have HE : Hid ((c % N) = (pickV c n : Nat)) := by
      unfold Hid pickV
      rw [if_neg h0, HN.out]
      have : c = (c.toNat : Nat) := by omega
      rw [this]; simp
    clear hN hn hn2
    go_wp2
    all_goals (go_ret; exact ⟨by rw [← HE.out]; rfl, rfl⟩)
/-- A format's bits. -/
def fW (f : Int) : Int := if f = 0 then 16 else if f = 1 then 32 else 64
set_option maxRecDepth 100000 in
set_option maxHeartbeats 1000000 in
theorem form_any (b : Int) (hb : -9223372036854775808 ≤ b ∧ b ≤ 9223372036854775807) (w : World) :
    Calls Try.prog 20 #[.int .i64 b] w fun e w' => e = .returned (.tuple #[.int .i64 (pickV b 3 : Nat), .int .i64 (fW (pickV b 3 : Nat)), .int .i64 (fQ (pickV b 3 : Nat))]) ∧ w' = w := by
  have HX := hid (pick_any b 3 (by omega) (by omega) hb w)
  have h3 : pickV b 3 < 3 := Nat.mod_lt _ (by omega)
  obtain ⟨p, hp⟩ : ∃ p, p = pickV b 3 := ⟨_, rfl⟩
  rw [← hp] at HX h3 ⊢
  clear hp
  go_enter Try.func20, Try.ntmps20
  go_wp2_with fail
  refine HX.out.mono ?_
  rintro e w' ⟨rfl, rfl⟩
  clear HX
  rcases (by omega : p = 0 ∨ p = 1 ∨ p = 2) with rfl | rfl | rfl
  · go_wp2
    all_goals (go_ret3; exact ⟨rfl, rfl⟩)
  · go_wp2
    all_goals (go_ret3; exact ⟨rfl, rfl⟩)
  · go_wp2
    all_goals (go_ret3; exact ⟨rfl, rfl⟩)
set_option maxRecDepth 100000 in
set_option maxHeartbeats 1000000 in
theorem says_any (cv : Value) (s : ByteArray) (f mode bits flags : Int) (w : World) :
    Calls Try.prog 13 #[cv, .string s, .int .i64 f, .int .i64 mode, .int .i64 bits, .int .i64 flags] w fun e w' =>
      ∃ b g at' err : Int, PParse s f mode b g at' err ∧ e = .returned (.bool (decide (b = bits ∧ g = flags ∧ at' = 0 ∧ err = 0))) ∧ Below w.heap.size w w' := by
  have HX := hid (parse_any cv s f mode w)
  go_enter Try.func13, Try.ntmps13
  go_wp2_with fail
  refine HX.out.mono ?_
  rintro e w1 ⟨b, g, at', err, rfl, hb, hp⟩
  have HB := hid hb
  have HP := hid hp
  clear HX hb hp
  by_cases h1 : b = bits
  · have t1 : (b == bits) = true := by simpa using h1
    by_cases h2 : g = flags
    · have t2 : (g == flags) = true := by simpa using h2
      by_cases h3 : at' = 0
      · have t3 : (at' == 0) = true := by simpa using h3
        by_cases h4 : err = 0
        · have t4 : (err == 0) = true := by simpa using h4
          have HE : Hid (decide (b = bits ∧ g = flags ∧ at' = 0 ∧ err = 0) = true) := by unfold Hid; simp [h1, h2, h3, h4]
          clear h1 h2 h3 h4
          go_wp2
          all_goals (go_ret; exact ⟨b, g, at', err, HP.out, by rw [HE.out]; rfl, HB.out⟩)
        · have t4 : (err == 0) = false := by simpa using h4
          have HE : Hid (decide (b = bits ∧ g = flags ∧ at' = 0 ∧ err = 0) = false) := by unfold Hid; simp [h4]
          clear h1 h2 h3 h4
          go_wp2
          all_goals (go_ret; exact ⟨b, g, at', err, HP.out, by rw [HE.out]; rfl, HB.out⟩)
      · have t3 : (at' == 0) = false := by simpa using h3
        have HE : Hid (decide (b = bits ∧ g = flags ∧ at' = 0 ∧ err = 0) = false) := by unfold Hid; simp [h3]
        clear h1 h2 h3
        go_wp2
        all_goals (go_ret; exact ⟨b, g, at', err, HP.out, by rw [HE.out]; rfl, HB.out⟩)
    · have t2 : (g == flags) = false := by simpa using h2
      have HE : Hid (decide (b = bits ∧ g = flags ∧ at' = 0 ∧ err = 0) = false) := by unfold Hid; simp [h2]
      clear h1 h2
      go_wp2
      all_goals (go_ret; exact ⟨b, g, at', err, HP.out, by rw [HE.out]; rfl, HB.out⟩)
  · have t1 : (b == bits) = false := by simpa using h1
    have HE : Hid (decide (b = bits ∧ g = flags ∧ at' = 0 ∧ err = 0) = false) := by unfold Hid; simp [h1]
    clear h1
    go_wp2
    all_goals (go_ret; exact ⟨b, g, at', err, HP.out, by rw [HE.out]; rfl, HB.out⟩)
set_option maxRecDepth 100000 in
set_option maxHeartbeats 1000000 in
theorem reads_any (cv : Value) (s : ByteArray) (f bits : Int) (w : World) :
    Calls Try.prog 21 #[cv, .string s, .int .i64 f, .int .i64 bits] w fun e w' =>
      ∃ b g at' err : Int, PParse s f 0 b g at' err ∧ e = .returned (.bool (decide (b = bits ∧ err = 0))) ∧ Below w.heap.size w w' := by
  have HX := hid (parse_any cv s f 0 w)
  go_enter Try.func21, Try.ntmps21
  go_wp2_with fail
  refine HX.out.mono ?_
  rintro e w1 ⟨b, g, at', err, rfl, hb, hp⟩
  have HB := hid hb
  have HP := hid hp
  clear HX hb hp
  by_cases h1 : b = bits
  · have t1 : (b == bits) = true := by simpa using h1
    by_cases h4 : err = 0
    · have t4 : (err == 0) = true := by simpa using h4
      have HE : Hid (decide (b = bits ∧ err = 0) = true) := by unfold Hid; simp [h1, h4]
      clear h1 h4
      go_wp2
      all_goals (go_ret; exact ⟨b, g, at', err, HP.out, by rw [HE.out]; rfl, HB.out⟩)
    · have t4 : (err == 0) = false := by simpa using h4
      have HE : Hid (decide (b = bits ∧ err = 0) = false) := by unfold Hid; simp [h4]
      clear h1 h4
      go_wp2
      all_goals (go_ret; exact ⟨b, g, at', err, HP.out, by rw [HE.out]; rfl, HB.out⟩)
  · have t1 : (b == bits) = false := by simpa using h1
    have HE : Hid (decide (b = bits ∧ err = 0) = false) := by unfold Hid; simp [h1]
    clear h1
    go_wp2
    all_goals (go_ret; exact ⟨b, g, at', err, HP.out, by rw [HE.out]; rfl, HB.out⟩)
end Go.Proofs.Ytbkdaoicnobllaa

namespace Go.Proofs.Ytbkdaoicnobllaa
open Go.RowKit

theorem says_true {s : ByteArray} {f mode B flags : Int} {st a : Nat} {r : Int} (hv : 0 ≤ f ∧ f ≤ 2 ∧ 0 ≤ mode ∧ mode ≤ 4) (h : numOK (chs s) f mode st a r flags = true) (hb : signedV f (decide ((chs s).getD 0 0 = 45)) r = B) (cv : Value) (w : World) :
    Calls Try.prog 13 #[cv, .string s, .int .i64 f, .int .i64 mode, .int .i64 B, .int .i64 flags] w fun e w' => e = .returned (.bool true) ∧ Below w.heap.size w w' := by
  refine (says_any cv s f mode B flags w).mono ?_
  rintro e w' ⟨b, g, at', err, hp, rfl, hbl⟩
  obtain ⟨h1, h2, h3, h4⟩ := num_eval hv h (prog_spec (Nat.le_refl _) hp)
  exact ⟨by rw [h1, hb, h2, h3, h4]; simp, hbl⟩
theorem reads_false {s : ByteArray} {f B fl : Int} {st a : Nat} {r : Int} (hv : 0 ≤ f ∧ f ≤ 2 ∧ 0 ≤ (0 : Int) ∧ (0 : Int) ≤ 4) (h : numOK (chs s) f 0 st a r fl = true) (hb : signedV f (decide ((chs s).getD 0 0 = 45)) r ≠ B) (cv : Value) (w : World) :
    Calls Try.prog 21 #[cv, .string s, .int .i64 f, .int .i64 B] w fun e w' => e = .returned (.bool false) ∧ Below w.heap.size w w' := by
  refine (reads_any cv s f B w).mono ?_
  rintro e w' ⟨b, g, at', err, hp, rfl, hbl⟩
  obtain ⟨h1, h2, h3, h4⟩ := num_eval hv h (prog_spec (Nat.le_refl _) hp)
  have hd : decide (b = B ∧ err = 0) = false := by
    rw [decide_eq_false_iff_not]; intro h; exact hb (by rw [← h1]; exact h.1)
  exact ⟨by rw [hd], hbl⟩
set_option maxRecDepth 100000 in
set_option maxHeartbeats 1000000 in
theorem one0 (cv : Value) (b : Int) (hb : -9223372036854775808 ≤ b ∧ b ≤ 9223372036854775807) (hp : pickV b 3 = 0) (w : World) :
    Calls Try.prog 14 #[cv, .int .i64 b] w fun e w' => e = .returned (.bool true) ∧ Below w.heap.size w w' := by
  have HX := hid (form_any b hb w)
  rw [hp] at HX
  have HF : Hid (fW ((0 : Nat) : Int) = 16 ∧ fQ ((0 : Nat) : Int) = 10) := ⟨rfl, rfl⟩
  rw [HF.out.1, HF.out.2] at HX
  have HS1 : Hid (∀ wx, Calls Try.prog 13 #[cv, .string ⟨#[49]⟩, .int .i64 0, .int .i64 0, .int .i64 15360, .int .i64 0] wx fun e w' => e = .returned (.bool true) ∧ Below wx.heap.size wx w') :=
    fun wx => says_true (st := 3) (a := 15360) (r := 15360) (by decide) (by decide +kernel) (by decide) cv wx
  have HS2 : Hid (∀ wx, Calls Try.prog 13 #[cv, .string ⟨#[48, 120, 49, 112, 48]⟩, .int .i64 0, .int .i64 0, .int .i64 15360, .int .i64 0] wx fun e w' => e = .returned (.bool true) ∧ Below wx.heap.size wx w') :=
    fun wx => says_true (st := 15) (a := 15360) (r := 15360) (by decide) (by decide +kernel) (by decide) cv wx
  have HS3 : Hid (∀ wx, Calls Try.prog 21 #[cv, .string ⟨#[48, 120, 49, 46, 56, 112, 48]⟩, .int .i64 0, .int .i64 15360] wx fun e w' => e = .returned (.bool false) ∧ Below wx.heap.size wx w') :=
    fun wx => reads_false (st := 15) (a := 15872) (r := 15872) (fl := 0) (by decide) (by decide +kernel) (by decide) cv wx
  clear hp
  go_enter Try.func14, Try.ntmps14
  go_wp2_with fail
  refine HX.out.mono ?_
  rintro e w' ⟨rfl, rfl⟩
  clear HX
  go_wp2_with fail
  refine (HS1.out _).mono ?_
  rintro e w1 ⟨rfl, h1⟩
  have H1 := hid h1
  clear h1
  go_wp2_with fail
  refine (HS2.out _).mono ?_
  rintro e w2 ⟨rfl, h2⟩
  have H2 := hid (H1.out.trans (h2.mono H1.out.size))
  clear h2 H1
  go_wp2_with fail
  refine (HS3.out _).mono ?_
  rintro e w3 ⟨rfl, h3⟩
  have H3 := hid (H2.out.trans (h3.mono H2.out.size))
  clear h3 H2
  go_wp2
  all_goals (go_ret; exact ⟨rfl, H3.out⟩)
set_option maxRecDepth 100000 in
set_option maxHeartbeats 1000000 in
theorem one1 (cv : Value) (b : Int) (hb : -9223372036854775808 ≤ b ∧ b ≤ 9223372036854775807) (hp : pickV b 3 = 1) (w : World) :
    Calls Try.prog 14 #[cv, .int .i64 b] w fun e w' => e = .returned (.bool true) ∧ Below w.heap.size w w' := by
  have HX := hid (form_any b hb w)
  rw [hp] at HX
  have HF : Hid (fW ((1 : Nat) : Int) = 32 ∧ fQ ((1 : Nat) : Int) = 23) := ⟨rfl, rfl⟩
  rw [HF.out.1, HF.out.2] at HX
  have HS1 : Hid (∀ wx, Calls Try.prog 13 #[cv, .string ⟨#[49]⟩, .int .i64 1, .int .i64 0, .int .i64 1065353216, .int .i64 0] wx fun e w' => e = .returned (.bool true) ∧ Below wx.heap.size wx w') :=
    fun wx => says_true (st := 3) (a := 1065353216) (r := 1065353216) (by decide) (by decide +kernel) (by decide) cv wx
  have HS2 : Hid (∀ wx, Calls Try.prog 13 #[cv, .string ⟨#[48, 120, 49, 112, 48]⟩, .int .i64 1, .int .i64 0, .int .i64 1065353216, .int .i64 0] wx fun e w' => e = .returned (.bool true) ∧ Below wx.heap.size wx w') :=
    fun wx => says_true (st := 15) (a := 1065353216) (r := 1065353216) (by decide) (by decide +kernel) (by decide) cv wx
  have HS3 : Hid (∀ wx, Calls Try.prog 21 #[cv, .string ⟨#[48, 120, 49, 46, 56, 112, 48]⟩, .int .i64 1, .int .i64 1065353216] wx fun e w' => e = .returned (.bool false) ∧ Below wx.heap.size wx w') :=
    fun wx => reads_false (st := 15) (a := 1069547520) (r := 1069547520) (fl := 0) (by decide) (by decide +kernel) (by decide) cv wx
  clear hp
  go_enter Try.func14, Try.ntmps14
  go_wp2_with fail
  refine HX.out.mono ?_
  rintro e w' ⟨rfl, rfl⟩
  clear HX
  go_wp2_with fail
  refine (HS1.out _).mono ?_
  rintro e w1 ⟨rfl, h1⟩
  have H1 := hid h1
  clear h1
  go_wp2_with fail
  refine (HS2.out _).mono ?_
  rintro e w2 ⟨rfl, h2⟩
  have H2 := hid (H1.out.trans (h2.mono H1.out.size))
  clear h2 H1
  go_wp2_with fail
  refine (HS3.out _).mono ?_
  rintro e w3 ⟨rfl, h3⟩
  have H3 := hid (H2.out.trans (h3.mono H2.out.size))
  clear h3 H2
  go_wp2
  all_goals (go_ret; exact ⟨rfl, H3.out⟩)
set_option maxRecDepth 100000 in
set_option maxHeartbeats 1000000 in
theorem one2 (cv : Value) (b : Int) (hb : -9223372036854775808 ≤ b ∧ b ≤ 9223372036854775807) (hp : pickV b 3 = 2) (w : World) :
    Calls Try.prog 14 #[cv, .int .i64 b] w fun e w' => e = .returned (.bool true) ∧ Below w.heap.size w w' := by
  have HX := hid (form_any b hb w)
  rw [hp] at HX
  have HF : Hid (fW ((2 : Nat) : Int) = 64 ∧ fQ ((2 : Nat) : Int) = 52) := ⟨rfl, rfl⟩
  rw [HF.out.1, HF.out.2] at HX
  have HS1 : Hid (∀ wx, Calls Try.prog 13 #[cv, .string ⟨#[49]⟩, .int .i64 2, .int .i64 0, .int .i64 4607182418800017408, .int .i64 0] wx fun e w' => e = .returned (.bool true) ∧ Below wx.heap.size wx w') :=
    fun wx => says_true (st := 3) (a := 4607182418800017408) (r := 4607182418800017408) (by decide) (by decide +kernel) (by decide) cv wx
  have HS2 : Hid (∀ wx, Calls Try.prog 13 #[cv, .string ⟨#[48, 120, 49, 112, 48]⟩, .int .i64 2, .int .i64 0, .int .i64 4607182418800017408, .int .i64 0] wx fun e w' => e = .returned (.bool true) ∧ Below wx.heap.size wx w') :=
    fun wx => says_true (st := 15) (a := 4607182418800017408) (r := 4607182418800017408) (by decide) (by decide +kernel) (by decide) cv wx
  have HS3 : Hid (∀ wx, Calls Try.prog 21 #[cv, .string ⟨#[48, 120, 49, 46, 56, 112, 48]⟩, .int .i64 2, .int .i64 4607182418800017408] wx fun e w' => e = .returned (.bool false) ∧ Below wx.heap.size wx w') :=
    fun wx => reads_false (st := 15) (a := 4609434218613702656) (r := 4609434218613702656) (fl := 0) (by decide) (by decide +kernel) (by decide) cv wx
  clear hp
  go_enter Try.func14, Try.ntmps14
  go_wp2_with fail
  refine HX.out.mono ?_
  rintro e w' ⟨rfl, rfl⟩
  clear HX
  go_wp2_with fail
  refine (HS1.out _).mono ?_
  rintro e w1 ⟨rfl, h1⟩
  have H1 := hid h1
  clear h1
  go_wp2_with fail
  refine (HS2.out _).mono ?_
  rintro e w2 ⟨rfl, h2⟩
  have H2 := hid (H1.out.trans (h2.mono H1.out.size))
  clear h2 H1
  go_wp2_with fail
  refine (HS3.out _).mono ?_
  rintro e w3 ⟨rfl, h3⟩
  have H3 := hid (H2.out.trans (h3.mono H2.out.size))
  clear h3 H2
  go_wp2
  all_goals (go_ret; exact ⟨rfl, H3.out⟩)
theorem kone_any (cv : Value) (b : Int) (hb : -9223372036854775808 ≤ b ∧ b ≤ 9223372036854775807) (w : World) :
    Calls Try.prog 14 #[cv, .int .i64 b] w fun e w' => e = .returned (.bool true) ∧ Below w.heap.size w w' := by
  have h3 : pickV b 3 < 3 := Nat.mod_lt _ (by omega)
  rcases (by omega : pickV b 3 = 0 ∨ pickV b 3 = 1 ∨ pickV b 3 = 2) with h | h | h
  · exact one0 cv b hb h w
  · exact one1 cv b hb h w
  · exact one2 cv b hb h w
/-- The lower bits alone. -/
theorem and_mask (x : Int) (i : Nat) (hi : i ≤ 63) : bits .and .i64 x ((2 ^ i - 1 : Nat) : Int) = x % ((2 ^ i : Nat) : Int) := by
  have hp : 2 ^ i ≤ 2 ^ 63 := Nat.pow_le_pow_right (by omega) hi
  have h0 : 0 < 2 ^ i := Nat.pow_pos (by omega)
  have h1 : (BitVec.ofInt 64 ((2 ^ i - 1 : Nat) : Int)).toNat = 2 ^ i - 1 := by
    rw [BitVec.ofInt_natCast, BitVec.toNat_ofNat]; exact Nat.mod_eq_of_lt (by omega)
  have h2 : ((BitVec.ofInt 64 x).toNat : Int) = x % ((2 ^ 64 : Nat) : Int) := by
    rw [BitVec.toNat_ofInt]; have : 0 ≤ x % ((2 ^ 64 : Nat) : Int) := Int.emod_nonneg _ (by omega); omega
  have hd : ((2 ^ i : Nat) : Int) ∣ ((2 ^ 64 : Nat) : Int) := Int.natCast_dvd_natCast.2 (Nat.pow_dvd_pow 2 (show i ≤ 64 by omega))
  unfold bits
  show IntKind.i64.wrap ((BitVec.ofInt 64 x &&& BitVec.ofInt 64 ((2 ^ i - 1 : Nat) : Int)).toNat : Int) = _
  rw [BitVec.toNat_and, h1, Nat.and_two_pow_sub_one_eq_mod, Int.natCast_emod, h2, Int.emod_emod_of_dvd _ hd, IntKind.wrap_i64]
  have h3 : 0 ≤ x % ((2 ^ i : Nat) : Int) := Int.emod_nonneg _ (by omega)
  have h4 : x % ((2 ^ i : Nat) : Int) < ((2 ^ i : Nat) : Int) := Int.emod_lt_of_pos _ (by omega)
  generalize x % ((2 ^ i : Nat) : Int) = y at *
  generalize 2 ^ i = P at *
  omega
/-- Amounts in order. -/
def signedOf (f B : Int) : Int := if B % (if f = 0 then 32768 else if f = 1 then 2147483648 else 9223372036854775808) = B then B % (if f = 0 then 32768 else if f = 1 then 2147483648 else 9223372036854775808) else -(B % (if f = 0 then 32768 else if f = 1 then 2147483648 else 9223372036854775808))
set_option maxRecDepth 100000 in
set_option maxHeartbeats 1000000 in
theorem signed0 (B : Int) (hB : -9223372036854775808 ≤ B ∧ B ≤ 9223372036854775807) (w : World) :
    Calls Try.prog 22 #[.int .i64 B, .int .i64 16] w fun e w' => e = .returned (.int .i64 (signedOf 0 B)) ∧ w' = w := by
  obtain ⟨A, hA⟩ : ∃ A : Int, A = B % 32768 := ⟨_, rfl⟩
  have hm : bits .and .i64 B 32767 = A := by rw [hA]; exact and_mask B 15 (by omega)
  have hA1 : 0 ≤ A := by omega
  have hA2 : A < 32768 := by omega
  have HS : Hid (signedOf 0 B = if A = B then A else -A) := by unfold Hid signedOf; rw [hA]; rfl
  clear hA
  obtain ⟨hB1, hB2⟩ := hB
  have hw : wrap64 (wrap64 9223372036854775808 - 1) = 9223372036854775807 := by unfold wrap64; decide
  go_enter Try.func22, Try.ntmps22
  by_cases h : A = B
  · have t : (A != B) = false := by simpa using h
    rw [if_pos h] at HS
    clear h
    go_wp2
    all_goals (go_ret; exact ⟨by rw [HS.out]; rfl, rfl⟩)
  · have t : (A != B) = true := by simpa using h
    rw [if_neg h] at HS
    clear h
    go_wp2
    all_goals (go_ret; exact ⟨by rw [HS.out]; rfl, rfl⟩)
set_option maxRecDepth 100000 in
set_option maxHeartbeats 1000000 in
theorem signed1 (B : Int) (hB : -9223372036854775808 ≤ B ∧ B ≤ 9223372036854775807) (w : World) :
    Calls Try.prog 22 #[.int .i64 B, .int .i64 32] w fun e w' => e = .returned (.int .i64 (signedOf 1 B)) ∧ w' = w := by
  obtain ⟨A, hA⟩ : ∃ A : Int, A = B % 2147483648 := ⟨_, rfl⟩
  have hm : bits .and .i64 B 2147483647 = A := by rw [hA]; exact and_mask B 31 (by omega)
  have hA1 : 0 ≤ A := by omega
  have hA2 : A < 2147483648 := by omega
  have HS : Hid (signedOf 1 B = if A = B then A else -A) := by unfold Hid signedOf; rw [hA]; rfl
  clear hA
  obtain ⟨hB1, hB2⟩ := hB
  have hw : wrap64 (wrap64 9223372036854775808 - 1) = 9223372036854775807 := by unfold wrap64; decide
  go_enter Try.func22, Try.ntmps22
  by_cases h : A = B
  · have t : (A != B) = false := by simpa using h
    rw [if_pos h] at HS
    clear h
    go_wp2
    all_goals (go_ret; exact ⟨by rw [HS.out]; rfl, rfl⟩)
  · have t : (A != B) = true := by simpa using h
    rw [if_neg h] at HS
    clear h
    go_wp2
    all_goals (go_ret; exact ⟨by rw [HS.out]; rfl, rfl⟩)
set_option maxRecDepth 100000 in
set_option maxHeartbeats 1000000 in
theorem signed2 (B : Int) (hB : -9223372036854775808 ≤ B ∧ B ≤ 9223372036854775807) (w : World) :
    Calls Try.prog 22 #[.int .i64 B, .int .i64 64] w fun e w' => e = .returned (.int .i64 (signedOf 2 B)) ∧ w' = w := by
  obtain ⟨A, hA⟩ : ∃ A : Int, A = B % 9223372036854775808 := ⟨_, rfl⟩
  have hm : bits .and .i64 B 9223372036854775807 = A := by rw [hA]; exact and_mask B 63 (by omega)
  have hA1 : 0 ≤ A := by omega
  have hA2 : A < 9223372036854775808 := by omega
  have HS : Hid (signedOf 2 B = if A = B then A else -A) := by unfold Hid signedOf; rw [hA]; rfl
  clear hA
  obtain ⟨hB1, hB2⟩ := hB
  have hw : wrap64 (wrap64 9223372036854775808 - 1) = 9223372036854775807 := by unfold wrap64; decide
  go_enter Try.func22, Try.ntmps22
  by_cases h : A = B
  · have t : (A != B) = false := by simpa using h
    rw [if_pos h] at HS
    clear h
    go_wp2
    all_goals (go_ret; exact ⟨by rw [HS.out]; rfl, rfl⟩)
  · have t : (A != B) = true := by simpa using h
    rw [if_neg h] at HS
    clear h
    go_wp2
    all_goals (go_ret; exact ⟨by rw [HS.out]; rfl, rfl⟩)
theorem signed_any (f B : Int) (hf : 0 ≤ f ∧ f ≤ 2) (hB : -9223372036854775808 ≤ B ∧ B ≤ 9223372036854775807) (w : World) :
    Calls Try.prog 22 #[.int .i64 B, .int .i64 (fW f)] w fun e w' => e = .returned (.int .i64 (signedOf f B)) ∧ w' = w := by
  rcases (by omega : f = 0 ∨ f = 1 ∨ f = 2) with rfl | rfl | rfl
  · exact signed0 B hB w
  · exact signed1 B hB w
  · exact signed2 B hB w
theorem signedOf_v {f : Int} (hf : 0 ≤ f ∧ f ≤ 2) (neg : Bool) (r : Int) (h0 : 0 ≤ r) (h1 : r ≤ infN f) : signedOf f (signedV f neg r) = if neg = true then -r else r := by
  rcases (by omega : f = 0 ∨ f = 1 ∨ f = 2) with rfl | rfl | rfl
  · have h1 : r ≤ 31744 := h1
    cases neg
    · show (if r % 32768 = r then r % 32768 else -(r % 32768)) = r
      rw [if_pos (by omega)]; omega
    · show (if (r + 32768) % 32768 = (r + 32768) then (r + 32768) % 32768 else -((r + 32768) % 32768)) = -r
      rw [if_neg (by omega)]; omega
  · have h1 : r ≤ 2139095040 := h1
    cases neg
    · show (if r % 2147483648 = r then r % 2147483648 else -(r % 2147483648)) = r
      rw [if_pos (by omega)]; omega
    · show (if (r + 2147483648) % 2147483648 = (r + 2147483648) then (r + 2147483648) % 2147483648 else -((r + 2147483648) % 2147483648)) = -r
      rw [if_neg (by omega)]; omega
  · have h1 : r ≤ 9218868437227405312 := h1
    cases neg
    · show (if r % 9223372036854775808 = r then r % 9223372036854775808 else -(r % 9223372036854775808)) = r
      rw [if_pos (by omega)]; omega
    · show (if (r + -9223372036854775808) % 9223372036854775808 = (r + -9223372036854775808) then (r + -9223372036854775808) % 9223372036854775808 else -((r + -9223372036854775808) % 9223372036854775808)) = -r
      rw [if_neg (by omega)]; omega
theorem signedV_bd {f : Int} (hf : 0 ≤ f ∧ f ≤ 2) (neg : Bool) (r : Int) (h0 : 0 ≤ r) (h1 : r ≤ infN f) : -9223372036854775808 ≤ signedV f neg r ∧ signedV f neg r ≤ 9223372036854775807 := by
  have h2 := infN_max f
  rcases (by omega : f = 0 ∨ f = 1 ∨ f = 2) with rfl | rfl | rfl
  · have h1 : r ≤ 31744 := h1
    cases neg
    · show -9223372036854775808 ≤ r ∧ r ≤ 9223372036854775807; omega
    · show -9223372036854775808 ≤ r + 32768 ∧ r + 32768 ≤ 9223372036854775807; omega
  · have h1 : r ≤ 2139095040 := h1
    cases neg
    · show -9223372036854775808 ≤ r ∧ r ≤ 9223372036854775807; omega
    · show -9223372036854775808 ≤ r + 2147483648 ∧ r + 2147483648 ≤ 9223372036854775807; omega
  · cases neg
    · show -9223372036854775808 ≤ r ∧ r ≤ 9223372036854775807; omega
    · show -9223372036854775808 ≤ r + -9223372036854775808 ∧ r + -9223372036854775808 ≤ 9223372036854775807; omega
end Go.Proofs.Ytbkdaoicnobllaa
