import Derived.Test.YtbkdaoicnobllaaTRefK
import Derived.Test.YtbkdaoicnobllaaTRefF
import Derived.Test.YtbkdaoicnobllaaTRefH
import Derived.Test.YtbkdaoicnobllaaTRefI
import Derived.Lib.Strings

namespace Go.Proofs.Ytbkdaoicnobllaa
open Go.RowKit

/-- May a text end in that state? -/
def endsB (s : Nat) : Bool := s == 2 || s == 3 || s == 4 || s == 6 || s == 9 || s == 15 || s == 18 || s == 23 || s == 27
theorem ends0 (w : World) : Calls Try.prog 45 #[.int .i64 0] w fun e w' => e = .returned (.bool (endsB 0)) ∧ w' = w := by
  go_enter Try.func45, Try.ntmps45
  go_wp2
  go_ret
  exact ⟨rfl, rfl⟩
theorem ends1 (w : World) : Calls Try.prog 45 #[.int .i64 1] w fun e w' => e = .returned (.bool (endsB 1)) ∧ w' = w := by
  go_enter Try.func45, Try.ntmps45
  go_wp2
  go_ret
  exact ⟨rfl, rfl⟩
theorem ends2 (w : World) : Calls Try.prog 45 #[.int .i64 2] w fun e w' => e = .returned (.bool (endsB 2)) ∧ w' = w := by
  go_enter Try.func45, Try.ntmps45
  go_wp2
  go_ret
  exact ⟨rfl, rfl⟩
theorem ends3 (w : World) : Calls Try.prog 45 #[.int .i64 3] w fun e w' => e = .returned (.bool (endsB 3)) ∧ w' = w := by
  go_enter Try.func45, Try.ntmps45
  go_wp2
  go_ret
  exact ⟨rfl, rfl⟩
theorem ends4 (w : World) : Calls Try.prog 45 #[.int .i64 4] w fun e w' => e = .returned (.bool (endsB 4)) ∧ w' = w := by
  go_enter Try.func45, Try.ntmps45
  go_wp2
  go_ret
  exact ⟨rfl, rfl⟩
theorem ends5 (w : World) : Calls Try.prog 45 #[.int .i64 5] w fun e w' => e = .returned (.bool (endsB 5)) ∧ w' = w := by
  go_enter Try.func45, Try.ntmps45
  go_wp2
  go_ret
  exact ⟨rfl, rfl⟩
theorem ends6 (w : World) : Calls Try.prog 45 #[.int .i64 6] w fun e w' => e = .returned (.bool (endsB 6)) ∧ w' = w := by
  go_enter Try.func45, Try.ntmps45
  go_wp2
  go_ret
  exact ⟨rfl, rfl⟩
theorem ends7 (w : World) : Calls Try.prog 45 #[.int .i64 7] w fun e w' => e = .returned (.bool (endsB 7)) ∧ w' = w := by
  go_enter Try.func45, Try.ntmps45
  go_wp2
  go_ret
  exact ⟨rfl, rfl⟩
theorem ends8 (w : World) : Calls Try.prog 45 #[.int .i64 8] w fun e w' => e = .returned (.bool (endsB 8)) ∧ w' = w := by
  go_enter Try.func45, Try.ntmps45
  go_wp2
  go_ret
  exact ⟨rfl, rfl⟩
theorem ends9 (w : World) : Calls Try.prog 45 #[.int .i64 9] w fun e w' => e = .returned (.bool (endsB 9)) ∧ w' = w := by
  go_enter Try.func45, Try.ntmps45
  go_wp2
  go_ret
  exact ⟨rfl, rfl⟩
theorem ends10 (w : World) : Calls Try.prog 45 #[.int .i64 10] w fun e w' => e = .returned (.bool (endsB 10)) ∧ w' = w := by
  go_enter Try.func45, Try.ntmps45
  go_wp2
  go_ret
  exact ⟨rfl, rfl⟩
theorem ends11 (w : World) : Calls Try.prog 45 #[.int .i64 11] w fun e w' => e = .returned (.bool (endsB 11)) ∧ w' = w := by
  go_enter Try.func45, Try.ntmps45
  go_wp2
  go_ret
  exact ⟨rfl, rfl⟩
theorem ends12 (w : World) : Calls Try.prog 45 #[.int .i64 12] w fun e w' => e = .returned (.bool (endsB 12)) ∧ w' = w := by
  go_enter Try.func45, Try.ntmps45
  go_wp2
  go_ret
  exact ⟨rfl, rfl⟩
theorem ends13 (w : World) : Calls Try.prog 45 #[.int .i64 13] w fun e w' => e = .returned (.bool (endsB 13)) ∧ w' = w := by
  go_enter Try.func45, Try.ntmps45
  go_wp2
  go_ret
  exact ⟨rfl, rfl⟩
theorem ends14 (w : World) : Calls Try.prog 45 #[.int .i64 14] w fun e w' => e = .returned (.bool (endsB 14)) ∧ w' = w := by
  go_enter Try.func45, Try.ntmps45
  go_wp2
  go_ret
  exact ⟨rfl, rfl⟩
theorem ends15 (w : World) : Calls Try.prog 45 #[.int .i64 15] w fun e w' => e = .returned (.bool (endsB 15)) ∧ w' = w := by
  go_enter Try.func45, Try.ntmps45
  go_wp2
  go_ret
  exact ⟨rfl, rfl⟩
theorem ends16 (w : World) : Calls Try.prog 45 #[.int .i64 16] w fun e w' => e = .returned (.bool (endsB 16)) ∧ w' = w := by
  go_enter Try.func45, Try.ntmps45
  go_wp2
  go_ret
  exact ⟨rfl, rfl⟩
theorem ends17 (w : World) : Calls Try.prog 45 #[.int .i64 17] w fun e w' => e = .returned (.bool (endsB 17)) ∧ w' = w := by
  go_enter Try.func45, Try.ntmps45
  go_wp2
  go_ret
  exact ⟨rfl, rfl⟩
theorem ends18 (w : World) : Calls Try.prog 45 #[.int .i64 18] w fun e w' => e = .returned (.bool (endsB 18)) ∧ w' = w := by
  go_enter Try.func45, Try.ntmps45
  go_wp2
  go_ret
  exact ⟨rfl, rfl⟩
theorem ends19 (w : World) : Calls Try.prog 45 #[.int .i64 19] w fun e w' => e = .returned (.bool (endsB 19)) ∧ w' = w := by
  go_enter Try.func45, Try.ntmps45
  go_wp2
  go_ret
  exact ⟨rfl, rfl⟩
theorem ends20 (w : World) : Calls Try.prog 45 #[.int .i64 20] w fun e w' => e = .returned (.bool (endsB 20)) ∧ w' = w := by
  go_enter Try.func45, Try.ntmps45
  go_wp2
  go_ret
  exact ⟨rfl, rfl⟩
theorem ends21 (w : World) : Calls Try.prog 45 #[.int .i64 21] w fun e w' => e = .returned (.bool (endsB 21)) ∧ w' = w := by
  go_enter Try.func45, Try.ntmps45
  go_wp2
  go_ret
  exact ⟨rfl, rfl⟩
theorem ends22 (w : World) : Calls Try.prog 45 #[.int .i64 22] w fun e w' => e = .returned (.bool (endsB 22)) ∧ w' = w := by
  go_enter Try.func45, Try.ntmps45
  go_wp2
  go_ret
  exact ⟨rfl, rfl⟩
theorem ends23 (w : World) : Calls Try.prog 45 #[.int .i64 23] w fun e w' => e = .returned (.bool (endsB 23)) ∧ w' = w := by
  go_enter Try.func45, Try.ntmps45
  go_wp2
  go_ret
  exact ⟨rfl, rfl⟩
theorem ends24 (w : World) : Calls Try.prog 45 #[.int .i64 24] w fun e w' => e = .returned (.bool (endsB 24)) ∧ w' = w := by
  go_enter Try.func45, Try.ntmps45
  go_wp2
  go_ret
  exact ⟨rfl, rfl⟩
theorem ends25 (w : World) : Calls Try.prog 45 #[.int .i64 25] w fun e w' => e = .returned (.bool (endsB 25)) ∧ w' = w := by
  go_enter Try.func45, Try.ntmps45
  go_wp2
  go_ret
  exact ⟨rfl, rfl⟩
theorem ends26 (w : World) : Calls Try.prog 45 #[.int .i64 26] w fun e w' => e = .returned (.bool (endsB 26)) ∧ w' = w := by
  go_enter Try.func45, Try.ntmps45
  go_wp2
  go_ret
  exact ⟨rfl, rfl⟩
theorem ends27 (w : World) : Calls Try.prog 45 #[.int .i64 27] w fun e w' => e = .returned (.bool (endsB 27)) ∧ w' = w := by
  go_enter Try.func45, Try.ntmps45
  go_wp2
  go_ret
  exact ⟨rfl, rfl⟩
theorem ends28 (w : World) : Calls Try.prog 45 #[.int .i64 28] w fun e w' => e = .returned (.bool (endsB 28)) ∧ w' = w := by
  go_enter Try.func45, Try.ntmps45
  go_wp2
  go_ret
  exact ⟨rfl, rfl⟩
theorem ends_any (s : Nat) (w : World) (hs : s ≤ 28) : Calls Try.prog 45 #[.int .i64 (s : Int)] w fun e w' => e = .returned (.bool (endsB s)) ∧ w' = w := by
  have hc : s = 0 ∨ s = 1 ∨ s = 2 ∨ s = 3 ∨ s = 4 ∨ s = 5 ∨ s = 6 ∨ s = 7 ∨ s = 8 ∨ s = 9 ∨ s = 10 ∨ s = 11 ∨ s = 12 ∨ s = 13 ∨ s = 14 ∨ s = 15 ∨ s = 16 ∨ s = 17 ∨ s = 18 ∨ s = 19 ∨ s = 20 ∨ s = 21 ∨ s = 22 ∨ s = 23 ∨ s = 24 ∨ s = 25 ∨ s = 26 ∨ s = 27 ∨ s = 28 := by omega
  rcases hc with rfl | rfl | rfl | rfl | rfl | rfl | rfl | rfl | rfl | rfl | rfl | rfl | rfl | rfl | rfl | rfl | rfl | rfl | rfl | rfl | rfl | rfl | rfl | rfl | rfl | rfl | rfl | rfl | rfl
  · exact ends0 w
  · exact ends1 w
  · exact ends2 w
  · exact ends3 w
  · exact ends4 w
  · exact ends5 w
  · exact ends6 w
  · exact ends7 w
  · exact ends8 w
  · exact ends9 w
  · exact ends10 w
  · exact ends11 w
  · exact ends12 w
  · exact ends13 w
  · exact ends14 w
  · exact ends15 w
  · exact ends16 w
  · exact ends17 w
  · exact ends18 w
  · exact ends19 w
  · exact ends20 w
  · exact ends21 w
  · exact ends22 w
  · exact ends23 w
  · exact ends24 w
  · exact ends25 w
  · exact ends26 w
  · exact ends27 w
  · exact ends28 w

/-- The state behind k bytes. -/
def stAt (l : List Nat) (k : Nat) : Nat := (l.take k).foldl nextS 0
theorem stAt_le (l : List Nat) (k : Nat) : stAt l k ≤ 28 := by
  unfold stAt
  have : ∀ (l : List Nat) (s : Nat), s ≤ 28 → l.foldl nextS s ≤ 28 := by
    intro l; induction l with
    | nil => intro s h; exact h
    | cons c r ih => intro s _; exact ih _ (nextS_le s c)
  exact this _ 0 (by omega)
theorem stAt_succ (l : List Nat) (k : Nat) (h : k < l.length) : stAt l (k + 1) = nextS (stAt l k) (l.getD k 0) := by
  unfold stAt; rw [take_snoc_getD l k h, List.foldl_append]; rfl
/-- What 'Read' tells: the state, the place, whether it is a number. -/
def ReadSpec (l : List Nat) (s at' : Nat) (ok : Bool) : Prop :=
  (∃ k, k < l.length ∧ (∀ j, j ≤ k → stAt l j ≠ 28) ∧ stAt l (k + 1) = 28 ∧ s = 28 ∧ at' = k ∧ ok = false) ∨
  ((∀ j, j ≤ l.length → stAt l j ≠ 28) ∧ s = stAt l l.length ∧ at' = l.length ∧ ok = endsB s)

set_option maxRecDepth 100000 in
set_option maxHeartbeats 1000000 in
theorem read_any (s : ByteArray) (w : World) (hs : s.size ≤ 900) : Calls Try.prog 30 #[.string s] w fun e w' => w' = w ∧ ∃ (st at' : Nat) (ok : Bool), e = .returned (.tuple #[.int .i64 st, .int .i64 at', .bool ok]) ∧ ReadSpec (chs s) st at' ok := by
  have HL := hid (chs_length s)
  go_enter Try.func30, Try.ntmps30
  go_wp2
  go_loop [5, 6] (fun st i => ∃ k q : Nat, k ≤ s.size ∧ i = .int .i64 k ∧ st = .int .i64 q ∧ q ≤ 28 ∧ Hid (q = stAt (chs s) k) ∧ Hid (∀ j, j ≤ k → stAt (chs s) j ≠ 28)) (fun _ i => s.size - (intOf i).toNat)
  case atStart => exact ⟨0, 0, Nat.zero_le _, rfl, rfl, by omega, rfl, fun j hj => by rw [Nat.le_zero.1 hj]; show (0 : Nat) ≠ 28; omega⟩
  case round =>
    obtain ⟨k, q, hk, rfl, rfl, hq, HQ, HN⟩ := hrel
    by_cases hlt : k < s.size
    · have HG := hid (chs_get s k hlt)
      have HS := hid (stAt_succ (chs s) k (by rw [HL.out]; exact hlt))
      rw [← HQ.out, HG.out] at HS
      obtain ⟨q2, hq2⟩ : ∃ q2, q2 = nextS q s[k].toNat := ⟨_, rfl⟩
      have hq28 : q2 ≤ 28 := by rw [hq2]; exact nextS_le _ _
      have hnx := next_any q s[k].toNat w hq
      rw [← hq2] at hnx HS
      clear hq2
      by_cases hd : q2 = 28
      · have hb : ((q2 : Int) == 28) = true := by rw [hd]; rfl
        have HD := hid hd
        clear hd
        go_wp2_with fail
        refine hnx.mono ?_
        rintro e w' ⟨rfl, rfl⟩
        clear hnx
        go_wp2
        go_ret3
        exact ⟨rfl, q2, k, false, rfl, .inl ⟨k, by rw [HL.out]; exact hlt, HN.out, by rw [HS.out, HD.out], HD.out, rfl, rfl⟩⟩
      · have hb : ((q2 : Int) == 28) = false := by rw [beq_eq_false_iff_ne]; omega
        have HD := hid hd
        clear hd
        go_wp2_with fail
        refine hnx.mono ?_
        rintro e w' ⟨rfl, rfl⟩
        clear hnx
        go_wp2
        go_round
        case rel => exact ⟨k + 1, q2, by omega, by go_num, rfl, hq28, HS.out.symm, fun j hj => if h : j = k + 1 then by rw [h, HS.out]; exact HD.out else HN.out j (by omega)⟩
        case measure => simp [intOf]; omega
    · have hkk : k = s.size := by omega
      have HK := hid hkk
      have hen := ends_any q w hq
      clear hkk
      go_wp2_with fail
      refine hen.mono ?_
      rintro e w' ⟨rfl, rfl⟩
      clear hen
      go_wp2
      go_ret3
      refine ⟨rfl, q, s.size, endsB q, rfl, .inr ⟨fun j hj => HN.out j (by rw [HL.out] at hj; rw [HK.out]; exact hj), ?_, HL.out.symm, rfl⟩⟩
      rw [HL.out, ← HK.out]; exact HQ.out

end Go.Proofs.Ytbkdaoicnobllaa

/- Plain mathematics: what a text looks like in each state. -/
namespace Go.Proofs.Ytbkdaoicnobllaa

/-- A text without its sign. -/
def body (l : List Nat) : List Nat := match l with
  | [] => []
  | c :: r => if sgn c = true then r else c :: r
theorem body_snoc (p : List Nat) (c : Nat) (h : p ≠ []) : body (p ++ [c]) = body p ++ [c] := by
  cases p with
  | nil => exact absurd rfl h
  | cons x r => simp only [List.cons_append, body]; split <;> simp
def DecOk (l : List Nat) : Prop := ∀ c, c ∈ l → c = 46 ∨ isDig c = true
def HexOk (l : List Nat) : Prop := ∀ c, c ∈ l → c = 46 ∨ isHexc c = true
theorem DecOk.snoc {l : List Nat} {c : Nat} (h : DecOk l) (hc : c = 46 ∨ isDig c = true) : DecOk (l ++ [c]) := by
  intro x hx; rcases List.mem_append.1 hx with hx | hx
  · exact h x hx
  · rw [List.mem_singleton.1 hx]; exact hc
theorem HexOk.snoc {l : List Nat} {c : Nat} (h : HexOk l) (hc : c = 46 ∨ isHexc c = true) : HexOk (l ++ [c]) := by
  intro x hx; rcases List.mem_append.1 hx with hx | hx
  · exact h x hx
  · rw [List.mem_singleton.1 hx]; exact hc
/-- What the bytes read so far look like. -/
def Inv (s : Nat) (p : List Nat) : Prop :=
  if s = 0 then p = []
  else if s = 1 then ∃ c, p = [c] ∧ sgn c = true
  else if s = 2 then p ≠ [] ∧ body p = [48]
  else if s ≤ 6 then p ≠ [] ∧ DecOk (body p)
  else if s ≤ 9 then p ≠ [] ∧ ∃ a b, body p = a ++ 101 :: b ∧ DecOk a
  else if s = 10 then p ≠ [] ∧ body p = [48, 120]
  else if s ≤ 12 then p ≠ [] ∧ ∃ a, body p = 48 :: 120 :: a ∧ HexOk a
  else if s ≤ 15 then p ≠ [] ∧ ∃ a b, body p = 48 :: 120 :: (a ++ 112 :: b) ∧ HexOk a
  else p ≠ []
theorem snoc_ne (p : List Nat) (c : Nat) : p ++ [c] ≠ [] := by simp
theorem inv_begin (p : List Nat) (c : Nat) (hb : body (p ++ [c]) = [c]) : Inv (beginS c) (p ++ [c]) := by
  unfold beginS
  by_cases h1 : c = 48
  · rw [if_pos h1]; exact ⟨snoc_ne p c, by rw [hb, h1]⟩
  · rw [if_neg h1]
    by_cases h2 : isDig c = true
    · rw [if_pos h2]; exact ⟨snoc_ne p c, by rw [hb]; intro x hx; rw [List.mem_singleton.1 hx]; exact .inr h2⟩
    · rw [if_neg h2]
      by_cases h3 : c = 46
      · rw [if_pos h3]; exact ⟨snoc_ne p c, by rw [hb]; intro x hx; rw [List.mem_singleton.1 hx]; exact .inl h3⟩
      · rw [if_neg h3]
        by_cases h4 : c = 105
        · rw [if_pos h4]; exact snoc_ne p c
        · rw [if_neg h4]
          by_cases h5 : c = 110
          · rw [if_pos h5]; exact snoc_ne p c
          · rw [if_neg h5]; exact snoc_ne p c
theorem inv_dec {p : List Nat} {c : Nat} (hp : p ≠ []) (h : DecOk (body p)) (hc : c = 46 ∨ isDig c = true) : p ++ [c] ≠ [] ∧ DecOk (body (p ++ [c])) := ⟨snoc_ne p c, by rw [body_snoc p c hp]; exact h.snoc hc⟩
theorem inv_e {p : List Nat} {c : Nat} (hp : p ≠ []) (h : DecOk (body p)) (hc : c = 101) : p ++ [c] ≠ [] ∧ ∃ a b, body (p ++ [c]) = a ++ 101 :: b ∧ DecOk a := ⟨snoc_ne p c, body p, [], by rw [body_snoc p c hp, hc], h⟩
theorem inv_exp {p : List Nat} {c : Nat} (hp : p ≠ []) (h : ∃ a b, body p = a ++ 101 :: b ∧ DecOk a) : p ++ [c] ≠ [] ∧ ∃ a b, body (p ++ [c]) = a ++ 101 :: b ∧ DecOk a := by
  obtain ⟨a, b, h1, h2⟩ := h
  exact ⟨snoc_ne p c, a, b ++ [c], by rw [body_snoc p c hp, h1]; simp, h2⟩
theorem inv_hex {p : List Nat} {c : Nat} (hp : p ≠ []) (h : ∃ a, body p = 48 :: 120 :: a ∧ HexOk a) (hc : c = 46 ∨ isHexc c = true) : p ++ [c] ≠ [] ∧ ∃ a, body (p ++ [c]) = 48 :: 120 :: a ∧ HexOk a := by
  obtain ⟨a, h1, h2⟩ := h
  exact ⟨snoc_ne p c, a ++ [c], by rw [body_snoc p c hp, h1]; simp, h2.snoc hc⟩
theorem inv_p {p : List Nat} {c : Nat} (hp : p ≠ []) (h : ∃ a, body p = 48 :: 120 :: a ∧ HexOk a) (hc : c = 112) : p ++ [c] ≠ [] ∧ ∃ a b, body (p ++ [c]) = 48 :: 120 :: (a ++ 112 :: b) ∧ HexOk a := by
  obtain ⟨a, h1, h2⟩ := h
  exact ⟨snoc_ne p c, a, [], by rw [body_snoc p c hp, h1, hc]; simp, h2⟩
theorem inv_pow {p : List Nat} {c : Nat} (hp : p ≠ []) (h : ∃ a b, body p = 48 :: 120 :: (a ++ 112 :: b) ∧ HexOk a) : p ++ [c] ≠ [] ∧ ∃ a b, body (p ++ [c]) = 48 :: 120 :: (a ++ 112 :: b) ∧ HexOk a := by
  obtain ⟨a, b, h1, h2⟩ := h
  exact ⟨snoc_ne p c, a, b ++ [c], by rw [body_snoc p c hp, h1]; simp, h2⟩
theorem dec48 : DecOk [48] := fun x hx => by rw [List.mem_singleton.1 hx]; exact .inr rfl
theorem nhS_high (s c : Nat) (d h sg : Bool) (hs : 16 ≤ s) : 16 ≤ nhS s c d h sg := by
  unfold nhS; split <;> (try (split <;> omega)) <;> (try omega)
theorem inv_high {s : Nat} {p : List Nat} (hs : 16 ≤ s) (hp : p ≠ []) : Inv s p := by
  unfold Inv; rw [if_neg (by omega), if_neg (by omega), if_neg (by omega), if_neg (by omega), if_neg (by omega), if_neg (by omega), if_neg (by omega), if_neg (by omega)]; exact hp

theorem inv_step (s c : Nat) (p : List Nat) (h : Inv s p) : Inv (nextS s c) (p ++ [c]) := by
  by_cases hs : 16 ≤ s
  · have hp : p ++ [c] ≠ [] := snoc_ne p c
    rw [nextS_big s c (by omega)]
    exact inv_high (nhS_high s c _ _ _ hs) hp
  · have hc : s = 0 ∨ s = 1 ∨ s = 2 ∨ s = 3 ∨ s = 4 ∨ s = 5 ∨ s = 6 ∨ s = 7 ∨ s = 8 ∨ s = 9 ∨ s = 10 ∨ s = 11 ∨ s = 12 ∨ s = 13 ∨ s = 14 ∨ s = 15 := by omega
    have hdead : Inv 28 (p ++ [c]) := snoc_ne p c
    rcases hc with rfl | rfl | rfl | rfl | rfl | rfl | rfl | rfl | rfl | rfl | rfl | rfl | rfl | rfl | rfl | rfl
    · have hp : p = [] := h
      subst hp
      show Inv (if sgn c = true then 1 else beginS c) _
      by_cases h1 : sgn c = true
      · rw [if_pos h1]; exact ⟨c, rfl, h1⟩
      · rw [if_neg h1]; exact inv_begin [] c (by simp [body, h1])
    · obtain ⟨c0, hp, h0⟩ : ∃ c0, p = [c0] ∧ sgn c0 = true := h
      subst hp
      exact inv_begin [c0] c (by simp [body, h0])
    · obtain ⟨hp, hb⟩ : p ≠ [] ∧ body p = [48] := h
      have hd : DecOk (body p) := by rw [hb]; exact dec48
      show Inv (if c = 120 then 10 else if isDig c = true then 3 else if c = 46 then 4 else if c = 101 then 7 else 28) _
      by_cases h1 : c = 120
      · rw [if_pos h1]; exact ⟨snoc_ne p c, by rw [body_snoc p c hp, hb, h1]; rfl⟩
      · rw [if_neg h1]
        by_cases h2 : isDig c = true
        · rw [if_pos h2]; exact inv_dec hp hd (.inr h2)
        · rw [if_neg h2]
          by_cases h3 : c = 46
          · rw [if_pos h3]; exact inv_dec hp hd (.inl h3)
          · rw [if_neg h3]
            by_cases h4 : c = 101
            · rw [if_pos h4]; exact inv_e hp hd h4
            · rw [if_neg h4]; exact hdead
    · obtain ⟨hp, hd⟩ : p ≠ [] ∧ DecOk (body p) := h
      show Inv (if isDig c = true then 3 else if c = 46 then 4 else if c = 101 then 7 else 28) _
      by_cases h2 : isDig c = true
      · rw [if_pos h2]; exact inv_dec hp hd (.inr h2)
      · rw [if_neg h2]
        by_cases h3 : c = 46
        · rw [if_pos h3]; exact inv_dec hp hd (.inl h3)
        · rw [if_neg h3]
          by_cases h4 : c = 101
          · rw [if_pos h4]; exact inv_e hp hd h4
          · rw [if_neg h4]; exact hdead
    · obtain ⟨hp, hd⟩ : p ≠ [] ∧ DecOk (body p) := h
      show Inv (if isDig c = true then 6 else if c = 101 then 7 else 28) _
      by_cases h2 : isDig c = true
      · rw [if_pos h2]; exact inv_dec hp hd (.inr h2)
      · rw [if_neg h2]
        by_cases h4 : c = 101
        · rw [if_pos h4]; exact inv_e hp hd h4
        · rw [if_neg h4]; exact hdead
    · obtain ⟨hp, hd⟩ : p ≠ [] ∧ DecOk (body p) := h
      show Inv (if isDig c = true then 6 else 28) _
      by_cases h2 : isDig c = true
      · rw [if_pos h2]; exact inv_dec hp hd (.inr h2)
      · rw [if_neg h2]; exact hdead
    · obtain ⟨hp, hd⟩ : p ≠ [] ∧ DecOk (body p) := h
      show Inv (if isDig c = true then 6 else if c = 101 then 7 else 28) _
      by_cases h2 : isDig c = true
      · rw [if_pos h2]; exact inv_dec hp hd (.inr h2)
      · rw [if_neg h2]
        by_cases h4 : c = 101
        · rw [if_pos h4]; exact inv_e hp hd h4
        · rw [if_neg h4]; exact hdead
    · obtain ⟨hp, hd⟩ : p ≠ [] ∧ ∃ a b, body p = a ++ 101 :: b ∧ DecOk a := h
      show Inv (if isDig c = true then 9 else if sgn c = true then 8 else 28) _
      by_cases h2 : isDig c = true
      · rw [if_pos h2]; exact inv_exp hp hd
      · rw [if_neg h2]
        by_cases h4 : sgn c = true
        · rw [if_pos h4]; exact inv_exp hp hd
        · rw [if_neg h4]; exact hdead
    · obtain ⟨hp, hd⟩ : p ≠ [] ∧ ∃ a b, body p = a ++ 101 :: b ∧ DecOk a := h
      show Inv (if isDig c = true then 9 else 28) _
      by_cases h2 : isDig c = true
      · rw [if_pos h2]; exact inv_exp hp hd
      · rw [if_neg h2]; exact hdead
    · obtain ⟨hp, hd⟩ : p ≠ [] ∧ ∃ a b, body p = a ++ 101 :: b ∧ DecOk a := h
      show Inv (if isDig c = true then 9 else 28) _
      by_cases h2 : isDig c = true
      · rw [if_pos h2]; exact inv_exp hp hd
      · rw [if_neg h2]; exact hdead
    · obtain ⟨hp, hb⟩ : p ≠ [] ∧ body p = [48, 120] := h
      show Inv (if isHexc c = true then 11 else 28) _
      by_cases h2 : isHexc c = true
      · rw [if_pos h2]; exact inv_hex hp ⟨[], hb, fun x hx => by simp at hx⟩ (.inr h2)
      · rw [if_neg h2]; exact hdead
    · obtain ⟨hp, hd⟩ : p ≠ [] ∧ ∃ a, body p = 48 :: 120 :: a ∧ HexOk a := h
      show Inv (if isHexc c = true then 11 else if c = 46 then 12 else if c = 112 then 13 else 28) _
      by_cases h2 : isHexc c = true
      · rw [if_pos h2]; exact inv_hex hp hd (.inr h2)
      · rw [if_neg h2]
        by_cases h3 : c = 46
        · rw [if_pos h3]; exact inv_hex hp hd (.inl h3)
        · rw [if_neg h3]
          by_cases h4 : c = 112
          · rw [if_pos h4]; exact inv_p hp hd h4
          · rw [if_neg h4]; exact hdead
    · obtain ⟨hp, hd⟩ : p ≠ [] ∧ ∃ a, body p = 48 :: 120 :: a ∧ HexOk a := h
      show Inv (if isHexc c = true then 12 else if c = 112 then 13 else 28) _
      by_cases h2 : isHexc c = true
      · rw [if_pos h2]; exact inv_hex hp hd (.inr h2)
      · rw [if_neg h2]
        by_cases h4 : c = 112
        · rw [if_pos h4]; exact inv_p hp hd h4
        · rw [if_neg h4]; exact hdead
    · obtain ⟨hp, hd⟩ : p ≠ [] ∧ ∃ a b, body p = 48 :: 120 :: (a ++ 112 :: b) ∧ HexOk a := h
      show Inv (if isDig c = true then 15 else if sgn c = true then 14 else 28) _
      by_cases h2 : isDig c = true
      · rw [if_pos h2]; exact inv_pow hp hd
      · rw [if_neg h2]
        by_cases h4 : sgn c = true
        · rw [if_pos h4]; exact inv_pow hp hd
        · rw [if_neg h4]; exact hdead
    · obtain ⟨hp, hd⟩ : p ≠ [] ∧ ∃ a b, body p = 48 :: 120 :: (a ++ 112 :: b) ∧ HexOk a := h
      show Inv (if isDig c = true then 15 else 28) _
      by_cases h2 : isDig c = true
      · rw [if_pos h2]; exact inv_pow hp hd
      · rw [if_neg h2]; exact hdead
    · obtain ⟨hp, hd⟩ : p ≠ [] ∧ ∃ a b, body p = 48 :: 120 :: (a ++ 112 :: b) ∧ HexOk a := h
      show Inv (if isDig c = true then 15 else 28) _
      by_cases h2 : isDig c = true
      · rw [if_pos h2]; exact inv_pow hp hd
      · rw [if_neg h2]; exact hdead

theorem inv_at (l : List Nat) (k : Nat) (h : k ≤ l.length) : Inv (stAt l k) (l.take k) := by
  induction k with
  | zero => rfl
  | succ k ih => rw [stAt_succ l k (by omega), take_snoc_getD l k (by omega)]; exact inv_step _ _ _ (ih (by omega))

end Go.Proofs.Ytbkdaoicnobllaa

namespace Go.Proofs.Ytbkdaoicnobllaa
open Go.RowKit

theorem or_nat (a i : Nat) (ha : a < 2 ^ i) (hi : i ≤ 63) : ((BitVec.ofInt 64 (a : Int)) ||| (BitVec.ofInt 64 ((2 ^ i : Nat) : Int))).toNat = a + 2 ^ i := by
  have hp : 2 ^ i ≤ 2 ^ 63 := Nat.pow_le_pow_right (by omega) hi
  have h1 : (BitVec.ofInt 64 (a : Int)).toNat = a := by
    rw [BitVec.ofInt_natCast, BitVec.toNat_ofNat]; exact Nat.mod_eq_of_lt (by omega)
  have h2 : (BitVec.ofInt 64 ((2 ^ i : Nat) : Int)).toNat = 2 ^ i := by
    rw [BitVec.ofInt_natCast, BitVec.toNat_ofNat]; exact Nat.mod_eq_of_lt (by omega)
  have h3 := Nat.two_pow_add_eq_or_of_lt ha 1
  rw [Nat.mul_one] at h3
  rw [BitVec.toNat_or, h1, h2, Nat.or_comm, ← h3]; omega
theorem or_half (a : Nat) (h : a < 32768) : bits .or .i64 (a : Int) 32768 = (a : Int) + 32768 := by
  have := or_nat a 15 (by omega) (by omega)
  rw [show (32768 : Int) = ((2 ^ 15 : Nat) : Int) from by decide]
  unfold bits
  show IntKind.i64.wrap ((BitVec.ofInt 64 (a : Int) ||| BitVec.ofInt 64 ((2 ^ 15 : Nat) : Int)).toNat : Int) = _
  rw [this, IntKind.wrap_i64]; omega
theorem or_single (a : Nat) (h : a < 2147483648) : bits .or .i64 (a : Int) 2147483648 = (a : Int) + 2147483648 := by
  have := or_nat a 31 (by omega) (by omega)
  rw [show (2147483648 : Int) = ((2 ^ 31 : Nat) : Int) from by decide]
  unfold bits
  show IntKind.i64.wrap ((BitVec.ofInt 64 (a : Int) ||| BitVec.ofInt 64 ((2 ^ 31 : Nat) : Int)).toNat : Int) = _
  rw [this, IntKind.wrap_i64]; omega
theorem ofInt_min : BitVec.ofInt 64 (-9223372036854775808) = BitVec.ofInt 64 ((2 ^ 63 : Nat) : Int) := by decide
theorem or_double (a : Nat) (h : a < 9223372036854775808) : bits .or .i64 (a : Int) (-9223372036854775808) = (a : Int) + -9223372036854775808 := by
  have := or_nat a 63 (by omega) (by omega)
  unfold bits
  show IntKind.i64.wrap ((BitVec.ofInt 64 (a : Int) ||| BitVec.ofInt 64 (-9223372036854775808)).toNat : Int) = _
  rw [ofInt_min, this, IntKind.wrap_i64]; omega

/-- What the sign adds to an amount; the pattern of nan. -/
def sgnP (f : Int) : Int := if f = 0 then 32768 else if f = 1 then 2147483648 else -9223372036854775808
def nanP (f : Int) : Int := if f = 0 then 32256 else if f = 1 then 2143289344 else 9221120237041090560
def signedV (f : Int) (neg : Bool) (r : Int) : Int := if neg = true then r + sgnP f else r
theorem chs_drop (s : ByteArray) : chs (s.extract 1 s.size) = (chs s).drop 1 := by
  unfold chs; rw [Lib.extract_data, List.take_of_length_le (by simp), List.map_drop]
theorem mem_takeWhile_stop {q : Nat → Bool} {x : Nat} {b : List Nat} (hx : q x = false) : ∀ (a : List Nat) (c : Nat), c ∈ (a ++ x :: b).takeWhile q → c ∈ a := by
  intro a; induction a with
  | nil => intro c hc; simp [hx] at hc
  | cons y r ih =>
    intro c hc
    rw [List.cons_append] at hc
    by_cases hy : q y = true
    · rw [List.takeWhile_cons_of_pos hy] at hc
      rcases List.mem_cons.1 hc with h | h
      · rw [h]; exact List.mem_cons_self
      · exact List.mem_cons_of_mem _ (ih c h)
    · rw [List.takeWhile_cons_of_neg hy] at hc; cases hc
/-- Where a decimal ends well its bytes ahead of the power are digits and points. -/
theorem dec_ok (l : List Nat) (st : Nat) (h : st = stAt l l.length) (hs : st = 2 ∨ st = 3 ∨ st = 4 ∨ st = 6 ∨ st = 9) : ∀ c, c ∈ ahead (body l) 101 → c = 46 ∨ isDig c = true := by
  have hi := inv_at l l.length (Nat.le_refl _)
  rw [List.take_length, ← h] at hi
  have sub : ∀ c, c ∈ ahead (body l) 101 → c ∈ body l := fun c hc => List.takeWhile_subset _ hc
  rcases hs with rfl | rfl | rfl | rfl | rfl
  · obtain ⟨_, hb⟩ : l ≠ [] ∧ body l = [48] := hi
    intro c hc
    have := sub c hc
    rw [hb] at this
    exact dec48 c this
  · obtain ⟨_, hd⟩ : l ≠ [] ∧ DecOk (body l) := hi
    exact fun c hc => hd c (sub c hc)
  · obtain ⟨_, hd⟩ : l ≠ [] ∧ DecOk (body l) := hi
    exact fun c hc => hd c (sub c hc)
  · obtain ⟨_, hd⟩ : l ≠ [] ∧ DecOk (body l) := hi
    exact fun c hc => hd c (sub c hc)
  · obtain ⟨_, a, b, h1, h2⟩ : l ≠ [] ∧ ∃ a b, body l = a ++ 101 :: b ∧ DecOk a := hi
    intro c hc
    unfold ahead at hc
    rw [h1] at hc
    exact h2 c (mem_takeWhile_stop (by rfl) a c hc)
theorem hex_ok (l : List Nat) (st : Nat) (h : st = stAt l l.length) (hs : st = 15) : 2 ≤ (body l).length ∧ ∀ c, c ∈ ahead ((body l).drop 2) 112 → c = 46 ∨ isHexc c = true := by
  have hi := inv_at l l.length (Nat.le_refl _)
  rw [List.take_length, ← h, hs] at hi
  obtain ⟨_, a, b, h1, h2⟩ : l ≠ [] ∧ ∃ a b, body l = 48 :: 120 :: (a ++ 112 :: b) ∧ HexOk a := hi
  refine ⟨by rw [h1]; simp, fun c hc => ?_⟩
  unfold ahead at hc
  rw [h1] at hc
  exact h2 c (mem_takeWhile_stop (by rfl) a c hc)
theorem ok_ne (l : List Nat) (h : endsB (stAt l l.length) = true) : l ≠ [] := by
  intro h0; subst h0; simp [stAt, endsB] at h

theorem body_sign (s : ByteArray) (h : 0 < s.size) (hs : sgn ((chs s).getD 0 0) = true) : (chs s).drop 1 = body (chs s) := by
  have hl := chs_length s
  cases hc : chs s with
  | nil => rw [hc] at hl; simp at hl; omega
  | cons c r => rw [hc] at hs; simp at hs; simp [body, hs]
theorem body_none (s : ByteArray) (_h : 0 < s.size) (hs : sgn ((chs s).getD 0 0) = false) : chs s = body (chs s) := by
  have hl := chs_length s
  cases hc : chs s with
  | nil => rfl
  | cons c r => rw [hc] at hs; simp at hs; simp [body, hs]

/-- What Parse tells of a text that is a number: pattern and flags. -/
def NumSpec (K : Nat) (l : List Nat) (f mode : Int) (st : Nat) (bts fl : Int) : Prop :=
  (st = 27 ∧ bts = nanP f ∧ fl = 0) ∨
  ((st = 18 ∨ st = 23) ∧ bts = signedV f (decide (l.getD 0 0 = 45)) (infN f) ∧ fl = 0) ∨
  (st = 15 ∧ ∃ r : Int, RoundSpec K f mode (decide (l.getD 0 0 = 45)) (sixV K (hexScan (ahead ((body l).drop 2) 112)).1 (expOf (body l) 112 - 4 * (hexScan (ahead ((body l).drop 2) 112)).2.1)) r fl ∧ bts = signedV f (decide (l.getD 0 0 = 45)) r) ∨
  ((st = 2 ∨ st = 3 ∨ st = 4 ∨ st = 6 ∨ st = 9) ∧ ∃ (r : Int) (L : List Nat) (e : Int), Norm L ∧ (L = [] → e = 0) ∧ (L ≠ [] → expOf (body l) 101 - (decScan (ahead (body l) 101)).2.1 ≤ e) ∧
    (∀ K2 : Nat, -(K2 : Int) ≤ expOf (body l) 101 - (decScan (ahead (body l) 101)).2.1 → val K2 L e = val K2 (decScan (ahead (body l) 101)).1 (expOf (body l) 101 - (decScan (ahead (body l) 101)).2.1)) ∧
    RoundSpec K f mode (decide (l.getD 0 0 = 45)) (heldV K L e) r fl ∧ bts = signedV f (decide (l.getD 0 0 = 45)) r)
/-- What Parse tells (P4 to P7). -/
def ParseSpec (K : Nat) (l : List Nat) (f mode : Int) (bts fl at' err : Int) : Prop :=
  (¬ (0 ≤ f ∧ f ≤ 2 ∧ 0 ≤ mode ∧ mode ≤ 4) ∧ bts = 0 ∧ fl = 0 ∧ at' = 0 ∧ err = 1) ∨
  ((0 ≤ f ∧ f ≤ 2 ∧ 0 ≤ mode ∧ mode ≤ 4) ∧ 900 < l.length ∧ bts = 0 ∧ fl = 0 ∧ at' = 0 ∧ err = 2) ∨
  ((0 ≤ f ∧ f ≤ 2 ∧ 0 ≤ mode ∧ mode ≤ 4) ∧ l.length ≤ 900 ∧ ∃ (st a : Nat) (ok : Bool), ReadSpec l st a ok ∧
    ((ok = false ∧ bts = 0 ∧ fl = 0 ∧ at' = a ∧ err = 3) ∨ (ok = true ∧ at' = 0 ∧ err = 0 ∧ NumSpec K l f mode st bts fl)))

theorem round_bd {K : Nat} {f mode : Int} {neg : Bool} {X : Nat} {r fl : Int} (h : RoundSpec K f mode neg X r fl) : 0 ≤ r ∧ r ≤ infN f := by
  have hi := infN_le f
  rcases h with ⟨_, h, _⟩ | ⟨_, _, _, h⟩ | ⟨_, _, a, ha, _, _, ⟨_, h, _⟩ | ⟨_, h, _⟩⟩
  · omega
  · rw [h]; split <;> omega
  · omega
  · rw [h]; split <;> omega

end Go.Proofs.Ytbkdaoicnobllaa
