import Derived.Test.YtbkdaoicnobllabGreatDoorG07
import Derived.Test.YtbkdaoicnobllabGreatDoorG18
import Derived.Test.YtbkdaoicnobllabGreatDoorG14
import Derived.Lib.ItoaNum
import Derived.Laws.IdiomStrings
import Derived.Test.YtbkdaoicnobllabGreatDoorG01
import Derived.Lib.ItoaLen

namespace Go.Proofs.YtbkdaoicnobllabGreatDoor
set_option maxRecDepth 100000
set_option maxHeartbeats 1000000
open Go.RowKit

def BothPost (w w' : World) (r : Ending) : Prop := ∃ s : ByteArray, r = .returned (.tuple #[.string s, .bool true]) ∧ s.size ≤ 6000 ∧ Below w.heap.size w w'
theorem outT_length (f x : Int) (T : List UInt8) (h : T.length ≤ 5000) : (outT f x T).length ≤ 5001 := by
 unfold outT; repeat' split
 all_goals (simp; try omega)
theorem outT_same {f x : Int} {Q1 Q2 : List UInt8 → Prop} (hj : ∀ T T', Q1 T → Q2 T' → T = T') {T T' : List UInt8} (h1 : amtI f x < infN f → Q1 T) (h2 : amtI f x < infN f → Q2 T') : outT f x T' = outT f x T := by
 by_cases h : amtI f x < infN f
 ·rw [hj T T' (h1 h) (h2 h)]
 ·unfold outT; rw [if_neg h, if_neg h]
theorem formatted_any (cv : Value) (x f verb prec mode : Int) (Q1 Q2 : List UInt8 → Prop) (hj : ∀ T T', Q1 T → Q2 T' → T = T') (w : World) (ht : Tab w)
  (HP0 : ∀ w : World, Tab w → Calls Tryz.prog 21 #[cv, .int .i64 x, .int .i64 f, .int .i64 verb, .int .i64 prec, .int .i64 mode] w fun r w' => FmtPost f x verb prec mode w w' r Q1)
  (HR0 : ∀ w : World, Calls Tryz.prog 35 #[.int .i64 x, .int .i64 f, .int .i64 verb, .int .i64 prec, .int .i64 mode] w fun r w' => FmtPost f x verb prec mode w w' r Q2) :
  Calls Tryz.prog 25 #[cv, .int .i64 x, .int .i64 f, .int .i64 verb, .int .i64 prec, .int .i64 mode] w fun r w' => BothPost w w' r := by
 have HP := hid (HP0 w ht)
 have HR := hid HR0
 have HJ := hid hj
 clear HP0 HR0 ht hj
 go_enter Tryz.func25, Tryz.ntmps25
 go_wp2_with fail
 refine HP.out.mono ?_
 rintro r w1 (⟨g1, g2, T, rfl, hq, hl, hb⟩ | ⟨g1, rfl, hb⟩)
 ·obtain ⟨s, hs⟩ : ∃ s, str (outT f x T) = s := ⟨_, rfl⟩
  rw [hs]
  have HS : Hid (s.size ≤ 6000) := by unfold Hid; rw [← hs, str_size]; have := outT_length f x T hl; omega
  have HB := hid hb
  have HX : Hid (∀ w : World, Calls Tryz.prog 35 #[.int .i64 x, .int .i64 f, .int .i64 verb, .int .i64 prec, .int .i64 mode] w fun r w' => r = .returned (.tuple #[.string s, .int .i64 0]) ∧ Below w.heap.size w w') := fun w => by
   refine (HR.out w).mono ?_
   rintro r w' (⟨_, _, T', rfl, hq', _, hb'⟩ | ⟨g3, _⟩)
   ·exact ⟨by rw [outT_same HJ.out hq hq', hs], hb'⟩
   ·exact absurd ⟨g1, g2⟩ g3
  clear HP HR HJ g1 g2 hq hl hb hs
  go_wp2_with fail
  refine (HX.out _).mono ?_
  rintro r w2 ⟨rfl, hb2⟩
  have HB2 : Hid (Below w.heap.size w w2) := HB.out.trans (hb2.mono HB.out.size)
  clear hb2 HX
  go_wp2
  all_goals (go_ret2; exact ⟨_, rfl, HS.out, HB2.out⟩)
 ·have HB := hid hb
  have HX : Hid (∀ w : World, Calls Tryz.prog 35 #[.int .i64 x, .int .i64 f, .int .i64 verb, .int .i64 prec, .int .i64 mode] w fun r w' => r = .returned (.tuple #[.string (str []), .int .i64 1]) ∧ Below w.heap.size w w') := fun w => by
   refine (HR.out w).mono ?_
   rintro r w' (⟨g3, g4, _⟩ | ⟨_, rfl, hb'⟩)
   ·exact absurd ⟨g3, g4⟩ g1
   ·exact ⟨rfl, hb'⟩
  obtain ⟨s, hs⟩ : ∃ s, str [] = s := ⟨_, rfl⟩
  rw [hs] at HX ⊢
  have HS : Hid (s.size ≤ 6000) := by unfold Hid; rw [← hs, str_size]; simp
  clear HP HR HJ g1 hb hs
  go_wp2_with fail
  refine (HX.out _).mono ?_
  rintro r w2 ⟨rfl, hb2⟩
  have HB2 : Hid (Below w.heap.size w w2) := HB.out.trans (hb2.mono HB.out.size)
  clear hb2 HX
  go_wp2
  all_goals (go_ret2; exact ⟨_, rfl, HS.out, HB2.out⟩)
theorem formatted_none (cv : Value) (x f verb prec mode : Int) (hf : ¬ (0 ≤ f ∧ f ≤ 2)) (w : World) :
  Calls Tryz.prog 25 #[cv, .int .i64 x, .int .i64 f, .int .i64 verb, .int .i64 prec, .int .i64 mode] w fun r w' => BothPost w w' r := by
 have HP := hid (pformat_none cv x f verb prec mode hf)
 have HR := hid (rformat_none x f verb prec mode hf)
 obtain ⟨s, hs⟩ : ∃ s, str [] = s := ⟨_, rfl⟩
 rw [hs] at HP HR
 have HS : Hid (s.size ≤ 6000) := by unfold Hid; rw [← hs, str_size]; simp
 clear hf hs
 go_enter Tryz.func25, Tryz.ntmps25
 go_wp2_with fail
 refine (HP.out _).mono ?_
 rintro r w1 ⟨rfl, hb⟩
 have HB := hid hb
 clear hb HP
 go_wp2_with fail
 refine (HR.out _).mono ?_
 rintro r w2 ⟨rfl, rfl⟩
 clear HR
 go_wp2
 all_goals (go_ret2; exact ⟨_, rfl, HS.out, HB.out⟩)
end Go.Proofs.YtbkdaoicnobllabGreatDoor

namespace Go.Proofs.YtbkdaoicnobllabGreatDoor
set_option maxRecDepth 100000
set_option maxHeartbeats 1000000
open Go.RowKit
def dstr (n : Nat) : ByteArray := str [UInt8.ofNat (48 + n)]
theorem dstr_size (n : Nat) : (dstr n).size = 1 := by unfold dstr; rw [str_size]; rfl
theorem dec_small (n : Nat) (h : n < 10) : Lib.decDigits n = [UInt8.ofNat (48 + n)] := by rw [Lib.decDigits, dif_pos h]
theorem dec_more (n : Nat) (h : ¬ n < 10) : Lib.decDigits n = Lib.decDigits (n / 10) ++ [UInt8.ofNat (48 + n % 10)] := by rw [Lib.decDigits, dif_neg h]
theorem dec_len : ∀ (m n : Nat), n < 10 ^ (m + 1) → (Lib.decDigits n).length ≤ m + 1 := by
 intro m
 induction m with
 | zero => intro n h; rw [dec_small n (by simpa using h)]; simp
 | succ m ih =>
  intro n h
  by_cases h10 : n < 10
  ·rw [dec_small n h10]; simp
  ·rw [dec_more n h10]
   have := ih (n / 10) (by rw [Nat.div_lt_iff_lt_mul (by omega), ← Nat.pow_succ]; exact h)
   simp; omega
theorem conv_byte (n : Nat) (h : n < 10) (w : World) :
  (convert 53 9 (.slice (some ⟨w.heap.size, 0, none⟩) 1 1)).run Tryz.prog (w.alloc (.cells #[.int .u8 (48 + (n : Int))] 5)) = .ok (.string (dstr n)) (w.alloc (.cells #[.int .u8 (48 + (n : Int))] 5)) := by
 have := run_convert_bytes_back (P := Tryz.prog) (w.alloc (.cells #[.int .u8 (48 + (n : Int))] 5)) 53 9 5 ⟨w.heap.size, 0, none⟩ 1 [UInt8.ofNat (48 + n)] Tryz.underlying53 Tryz.underlying5 Tryz.underlying9 (fun j hj => by
  simp at hj
  subst hj
  have e : (UInt8.ofNat (48 + n)).toNat = 48 + n := by simp; omega
  simp [go_sem, Addr.add]
  omega)
 exact this
theorem rnumber_nat : ∀ (m n : Nat), m ≤ 4 → n < 10 ^ (m + 1) → ∀ w : World, Calls Tryz.prog 120 #[.int .i64 n] w fun e w' => e = .returned (.string (str (Lib.decDigits n))) ∧ Below w.heap.size w w' := by
 intro m
 induction m with
 | zero =>
  intro n _ hn w
  have h10 : n < 10 := by simpa using hn
  have t0 : decide ((n : Int) < 0) = false := by simp
  have t1 : decide ((n : Int) < 10) = true := by simp; omega
  have hm : (n : Int) % 10 = n := by omega
  have hn' : (n : Int) ≤ 9 := by omega
  have hcv := conv_byte n h10 w
  have HT : Hid (dstr n = str (Lib.decDigits n)) := by unfold Hid dstr; rw [dec_small n h10]
  clear hn h10
  go_enter Tryz.func120, Tryz.ntmps120
  go_wp2
  go_ret
  exact ⟨ret_str HT.out, (Below.refl _ _).alloc (Nat.le_refl _) _⟩
 | succ m ih =>
  intro n hm5 hn w
  by_cases h10 : n < 10
  ·have t0 : decide ((n : Int) < 0) = false := by simp
   have t1 : decide ((n : Int) < 10) = true := by simp; omega
   have hm : (n : Int) % 10 = n := by omega
   have hn' : (n : Int) ≤ 9 := by omega
   have hcv := conv_byte n h10 w
   have HT : Hid (dstr n = str (Lib.decDigits n)) := by unfold Hid dstr; rw [dec_small n h10]
   clear hn h10 ih
   go_enter Tryz.func120, Tryz.ntmps120
   go_wp2
   go_ret
   exact ⟨ret_str HT.out, (Below.refl _ _).alloc (Nat.le_refl _) _⟩
  ·have hlt : n / 10 < 10 ^ (m + 1) := by
    rw [Nat.div_lt_iff_lt_mul (by omega), ← Nat.pow_succ]; exact hn
   have hle : n < 100000 := Nat.lt_of_lt_of_le hn (Nat.pow_le_pow_right (by omega) (show m + 1 + 1 ≤ 5 by omega))
   obtain ⟨r, hr⟩ : ∃ r, r = n % 10 := ⟨_, rfl⟩
   obtain ⟨q, hq⟩ : ∃ q, q = n / 10 := ⟨_, rfl⟩
   obtain ⟨N, hN⟩ : ∃ N : Int, N = (n : Int) := ⟨_, rfl⟩
   have HT : Hid (str (Lib.decDigits q) ++ dstr r = str (Lib.decDigits n)) := by unfold Hid dstr; rw [str_append, dec_more n h10, ← hr, ← hq]
   have hr10 : r < 10 := by omega
   have t0 : decide (N < 0) = false := by simp; omega
   have t1 : decide (N < 10) = false := by simp; omega
   have hN0 : 0 ≤ N := by omega
   have hN1 : N ≤ 1000000 := by omega
   have hm : N % 10 = (r : Int) := by omega
   have hd : N / 10 = (q : Int) := by omega
   have hn' : (r : Int) ≤ 9 := by omega
   have hcv := conv_byte r hr10 w
   have HX := hid (ih q (by omega) (by rw [hq]; exact hlt) (w.alloc (.cells #[.int .u8 (48 + (r : Int))] 5)))
   have hql : (str (Lib.decDigits q)).size ≤ 9 := by
    rw [str_size]; have := dec_len m q (by rw [hq]; exact hlt); omega
   have hrl := dstr_size r
   rw [← hN]
   clear hn h10 ih hr hq hN hlt hle hr10
   go_enter Tryz.func120, Tryz.ntmps120
   go_wp2_with fail
   refine HX.out.mono ?_
   rintro e w1 ⟨rfl, hb⟩
   have HB : Hid (Below w.heap.size w w1) := ((Below.refl w.heap.size w).alloc (Nat.le_refl _) _).trans (hb.mono (by simp))
   clear HX hb hcv
   go_wp2
   go_ret
   exact ⟨ret_str HT.out, HB.out⟩
theorem rnumber_any (x : Int) (h1 : -9999 ≤ x) (h2 : x ≤ 9999) (w : World) : Calls Tryz.prog 120 #[.int .i64 x] w fun e w' => e = .returned (.string (str (Lib.itoa x))) ∧ Below w.heap.size w w' := by
 by_cases h0 : 0 ≤ x
 ·obtain ⟨n, rfl⟩ : ∃ n : Nat, x = (n : Int) := ⟨x.toNat, by omega⟩
  refine (rnumber_nat 3 n (by omega) (by simp; omega) w).mono ?_
  rintro e w' ⟨rfl, hb⟩
  exact ⟨by unfold Lib.itoa; rw [if_neg (by omega)]; simp, hb⟩
 ·obtain ⟨n, hn⟩ : ∃ n : Nat, -x = (n : Int) := ⟨(-x).toNat, by omega⟩
  have HX := hid (rnumber_nat 3 n (by omega) (by simp; omega) w)
  have t0 : decide (x < 0) = true := by simp; omega
  have HN : Hid ((⟨#[45]⟩ : ByteArray) ++ str (Lib.decDigits n) = str (Lib.itoa x)) := by
   unfold Hid Lib.itoa
   rw [if_pos (by omega), show x.natAbs = n from by omega, show (45 :: Lib.decDigits n : List UInt8) = [45] ++ Lib.decDigits n from rfl, ← str_append]; rfl
  have hql : (str (Lib.decDigits n)).size ≤ 9 := by
   rw [str_size]; have := dec_len 3 n (by simp; omega); omega
  clear h0
  go_enter Tryz.func120, Tryz.ntmps120
  go_wp2_with fail
  refine HX.out.mono ?_
  rintro e w1 ⟨rfl, hb⟩
  have HB := hid hb
  clear HX hb
  go_wp2
  go_ret
  exact ⟨ret_str HN.out, HB.out⟩
end Go.Proofs.YtbkdaoicnobllabGreatDoor

namespace Go.Proofs.YtbkdaoicnobllabGreatDoor
set_option maxRecDepth 100000
set_option maxHeartbeats 1000000
open Go.RowKit
theorem pointed_any (a b : List UInt8) (ha : a.length ≤ 100000) (hb : b.length ≤ 100000) (w : World) :
  Calls Tryz.prog 119 #[.string (str a), .string (str b)] w fun e w' => e = .returned (.string (str (ptd a b))) ∧ w' = w := by
 have hsa : (str a).size ≤ 100000 := by rw [str_size]; exact ha
 have hsb : (str b).size ≤ 100000 := by rw [str_size]; exact hb
 by_cases h : b = []
 ·subst h
  go_enter Tryz.func119, Tryz.ntmps119
  rw [str_nil]
  go_wp2
  go_ret
  exact ⟨rfl, rfl⟩
 ·have t : (str b).toList.isEmpty = false := by rw [str_toList]; simp [h]
  have HT : Hid (str (ptd a b) = str a ++ ⟨#[46]⟩ ++ str b) := by
   unfold Hid ptd
   rw [if_neg h, show (46 :: b : List UInt8) = [46] ++ b from rfl, ← List.append_assoc, ← str_append, ← str_append]; rfl
  clear h ha hb
  go_enter Tryz.func119, Tryz.ntmps119
  go_wp2
  go_ret
  exact ⟨ret_str HT.out.symm, rfl⟩
theorem row_any (v : Value) (L : List Nat) (e high low : Int) (w : World) (hr : Row w v L) (hd : Digs L) (hl : L.length ≤ 100000) (he : -100000 ≤ e ∧ e ≤ 100000) (hh : -20000 ≤ high ∧ high ≤ 20000) (hlo : -20000 ≤ low ∧ low ≤ 20000) :
  Calls Tryz.prog 118 #[.agg #[v, .int .i64 e], .int .i64 high, .int .i64 low] w fun r w' => r = .returned (.string (str (rowT L e high (high - low + 1).toNat))) ∧ Below w.heap.size w w' := by
 obtain ⟨ao, cap, hv⟩ := hr.isSlice
 subst hv
 have HR := hid (And.intro hr hd)
 clear hr hd
 go_enter Tryz.func118, Tryz.ntmps118
 go_wp2
 go_loopw [7, 8] (fun t p wr => ∃ k : Nat, t = .string (str (rowT L e high k)) ∧ p = .int .i64 (high - k) ∧ k ≤ (high - low + 1).toNat ∧ Below (w.heap.size + 1) (w.alloc (.cells #[.slice ao L.length cap, .int .i64 e] 95)) wr) (fun _ p _ => (intOf p - low + 1).toNat)
 case atStart => exact ⟨0, rfl, by simp, Nat.zero_le _, Below.refl _ _⟩
 case round =>
  obtain ⟨k, rfl, rfl, hk, hb⟩ := hrel
  have c0 : wr.cell? ⟨w.heap.size, 0, none⟩ = some (.slice ao L.length cap) := (hb.cell (p := ⟨w.heap.size, 0, none⟩) (by simp)).trans (by simp [go_sem])
  have c1 : wr.cell? ⟨w.heap.size, 1, none⟩ = some (.int .i64 e) := (hb.cell (p := ⟨w.heap.size, 1, none⟩) (by simp)).trans (by simp [go_sem])
  have hsz : w.heap.size + 1 ≤ wr.heap.size := by have := hb.size; simpa using this
  have HB : Hid (Below w.heap.size w wr) := ((Below.refl w.heap.size w).alloc (Nat.le_refl _) _).trans (hb.mono (by omega))
  obtain ⟨p, hp⟩ : ∃ p : Int, p = high - k := ⟨_, rfl⟩
  rw [← hp]
  by_cases hgo : low ≤ p
  ·have HX := hid (at_any (.slice ao L.length cap) L e p wr (HR.out.1.below HB.out (Nat.le_refl _)) (by omega) (by omega) (by omega))
   have hd9 := dig_le HR.out.2 e p
   have hs1 : (str (rowT L e high k)).size ≤ 100000 := by rw [str_size, rowT_length]; omega
   have HT : Hid (str (rowT L e high (k + 1)) = str (rowT L e high k) ++ dstr (dig L e p)) := by
    unfold Hid dstr; rw [str_append, hp]; rfl
   have hk2 : k + 1 ≤ (high - low + 1).toNat := by omega
   have HP := hid hp
   have hp1 : -20000 ≤ p ∧ p ≤ 20000 := by omega
   clear hp hk
   go_wp2_with fail
   refine HX.out.mono ?_
   rintro r w1 ⟨rfl, hb1⟩
   obtain ⟨d, hdd⟩ : ∃ d, d = dig L e p := ⟨_, rfl⟩
   rw [← hdd] at hd9 HT ⊢
   have hd9' : (d : Int) ≤ 9 := by omega
   have hcv := conv_byte d (by omega) w1
   have hb2 := hid ((below_next hb hb1 hsz).alloc (by have := hb1.size; omega) (.cells #[.int .u8 (48 + (d : Int))] 5))
   have hrl := dstr_size d
   clear HX hb hb1 c0 c1 hdd HB hsz
   go_wp2
   go_roundw
   case rel => exact ⟨k + 1, by rw [HT.out], by have := HP.out; go_num, hk2, hb2.out⟩
   case measure => have := HP.out; simp [intOf]; omega
  ·have HK : Hid ((high - low + 1).toNat = k) := by unfold Hid; omega
   clear hb c0 c1
   go_wp2
   go_ret
   exact ⟨ret_str (by rw [HK.out]), HB.out⟩
end Go.Proofs.YtbkdaoicnobllabGreatDoor

namespace Go.Proofs.YtbkdaoicnobllabGreatDoor
set_option maxRecDepth 100000
set_option maxHeartbeats 1000000
open Go.RowKit
def sizeS : Value → Nat
 | .string s => s.size
 | _ => 0
def hstr (d : Nat) : ByteArray := str [hexD d]
theorem hstr_size (d : Nat) : (hstr d).size = 1 := by unfold hstr; rw [str_size]; rfl
theorem hex_sub (d : Nat) (h : d < 16) : (⟨#[48, 49, 50, 51, 52, 53, 54, 55, 56, 57, 97, 98, 99, 100, 101, 102]⟩ : ByteArray).extract d (d + 1) = hstr d := by
 rcases (by omega : d = 0 ∨ d = 1 ∨ d = 2 ∨ d = 3 ∨ d = 4 ∨ d = 5 ∨ d = 6 ∨ d = 7 ∨ d = 8 ∨ d = 9 ∨ d = 10 ∨ d = 11 ∨ d = 12 ∨ d = 13 ∨ d = 14 ∨ d = 15) with rfl | rfl | rfl | rfl | rfl | rfl | rfl | rfl | rfl | rfl | rfl | rfl | rfl | rfl | rfl | rfl
 all_goals decide +kernel
theorem sixteenths0 (m0 : Nat) (e0 : Int) (w : World) (h0 : 0 < m0) (hm : m0 < 2048) (he1 : -3000 ≤ e0) (he2 : e0 ≤ 3000) :
  Calls Tryz.prog 87 #[.int .i64 m0, .int .i64 e0, .int .i64 11] w fun r w' => ∃ s : ByteArray, r = .returned (.string s) ∧ ∃ (T : List UInt8) (E : Int), HexText m0 e0 T E ∧ s = str (hexS T E) ∧ T.length ≤ 13 ∧ -4000 ≤ E ∧ E ≤ 4000 ∧ Below w.heap.size w w' := by
 obtain ⟨M0, hM0⟩ : ∃ M0 : Int, M0 = (m0 : Int) := ⟨_, rfl⟩
 rw [← hM0]
 have H0 := hid h0
 have HM0 := hid hM0
 have hM1 : 0 < M0 := by omega
 have hM2 : M0 < 2048 := by omega
 clear h0 hM0 hm
 go_enter Tryz.func87, Tryz.ntmps87
 go_wp2
 go_loop [0, 1] (fun mm ee => ∃ (M : Int) (k : Nat), mm = .int .i64 M ∧ ee = .int .i64 (e0 - k) ∧ 0 < M ∧ M < 2048 ∧ k ≤ 11 ∧ Hid (((m0 * 2 ^ k : Nat) : Int) = M)) (fun mm _ => (2048 - intOf mm).toNat)
 case atStart => exact ⟨M0, 0, rfl, by simp, hM1, hM2, Nat.zero_le _, by unfold Hid; rw [HM0.out]; simp⟩
 case round =>
  obtain ⟨M, k, rfl, rfl, hMp, hMl, hk, HM⟩ := hrel
  by_cases hlow : M < 1024
  ·have hq : M / 1024 = 0 := by omega
   have HK : Hid (((m0 * 2 ^ (k + 1) : Nat) : Int) = 2 * M) := by
    unfold Hid; rw [Nat.pow_succ, ← Nat.mul_assoc]; have := HM.out; omega
   have hk2 : k + 1 < 11 := by
    have h1 := HK.out
    exact pow_gt (m := m0) (M := (2 * M).toNat) (by omega) H0.out (by rw [show (2 : Nat) ^ 11 = 2048 from by decide]; omega)
   clear hM1 hM2
   go_wp2
   go_round
   case rel => exact ⟨2 * M, k + 1, rfl, by go_num, by omega, by omega, by omega, HK.out⟩
   case measure => simp [intOf]; omega
  ·have hq : M / 1024 = 1 := by omega
   obtain ⟨r, hr⟩ : ∃ r : Nat, (r : Int) = M - 1024 := ⟨(M - 1024).toNat, by omega⟩
   have hk2 : k ≤ 10 := by
    have h1 := HM.out
    have := pow_gt (m := m0) (M := M.toNat) (k := k) (B := 11) (by omega) H0.out (by rw [show (2 : Nat) ^ 11 = 2048 from by decide]; omega)
    omega
   have hr2 : r < 1024 := by omega
   have HJ : Hid (∀ n, HexEnd 1024 r n → HexText m0 e0 (hexP 1024 r n) (e0 - k + 11 - 1)) := fun n hn => by
    have e1 : (2 : Nat) ^ ((10 - k) + k) = 1024 := by rw [show 10 - k + k = 10 from by omega]
    have := hex_join (m0 := m0) (k := k) (j := 10 - k) (r := r) (n := n) (e0 := e0) (by rw [e1]; have := HM.out; omega) (by rw [e1]; exact hr2) (by rw [e1]; exact hn)
    rw [e1] at this
    rw [show e0 - (k : Int) + 11 - 1 = e0 + ((10 - k : Nat) : Int) from by omega]; exact this
   have hri : M - 1024 = (r : Int) := hr.symm
   obtain ⟨R0, hR0⟩ : ∃ R0 : Int, R0 = (r : Int) := ⟨_, rfl⟩
   rw [← hR0] at hri
   have HR0 := hid hR0
   have hR1 : 0 ≤ R0 := by omega
   have hR2 : R0 < 1024 := by omega
   clear hM1 hM2 hr hR0 hr2 hlow
   go_wp2
   go_loop [0, 7] (fun mm tt => ∃ (X : Int) (n : Nat), mm = .int .i64 X ∧ tt = .string (str (hexP 1024 r n)) ∧ 0 ≤ X ∧ X < 1024 ∧ n ≤ 13 ∧ Hid ((hexR 1024 r n : Int) = X ∧ ∀ i, i < n → hexR 1024 r i ≠ 0)) (fun _ tt => 14 - sizeS tt)
   case atStart => exact ⟨R0, 0, rfl, rfl, hR1, hR2, Nat.zero_le _, ⟨by rw [hexR_zero _ _ (by have := HR0.out; omega)]; exact HR0.out.symm, fun i hi => by omega⟩⟩
   case round =>
    clear hR1 hR2
    obtain ⟨X, n, rfl, rfl, hX1, hX2, hn, HX⟩ := hrel
    have hs1 : (str (hexP 1024 r n)).size ≤ 100 := by rw [str_size, hexP_length]; omega
    by_cases hX0 : 0 < X
    ·obtain ⟨d, hd⟩ : ∃ d : Nat, (d : Int) = 16 * X / 1024 := ⟨(16 * X / 1024).toNat, by omega⟩
     have hd16 : d < 16 := by omega
     obtain ⟨Y, hY⟩ : ∃ Y : Int, Y = 16 * X - d * 1024 := ⟨_, rfl⟩
     have hY1 : 0 ≤ Y := by omega
     have hY2 : Y < 1024 := by omega
     have HR : Hid (hexR 1024 r n = X.toNat) := by unfold Hid; have := HX.out.1; omega
     have HY : Hid ((hexR 1024 r (n + 1) : Int) = Y) := by
      unfold Hid; rw [hexR_succ, HR.out]; omega
     have hn13 : n < 13 := by
      refine hexR_more 10 r n (by omega) ?_
      rw [show (2 : Nat) ^ 10 = 1024 from by decide, HR.out]; omega
     have HT : Hid (str (hexP 1024 r n) ++ hstr d = str (hexP 1024 r (n + 1))) := by
      unfold Hid hstr; rw [str_append]
      show _ = str (hexP 1024 r n ++ [hexD (hexR 1024 r n * 16 / 1024)])
      rw [HR.out, show X.toNat * 16 / 1024 = d from by omega]
     have HZ : Hid (hexR 1024 r n ≠ 0) := by unfold Hid; rw [HR.out]; omega
     have hdi : 16 * X / 1024 = (d : Int) := hd.symm
     have hYi : 16 * X - (d : Int) * 1024 = Y := hY.symm
     have hsub := hex_sub d hd16
     have hss := hstr_size d
     have hs3 : Hid ((str (hexP 1024 r (n + 1))).size = n + 1) := by unfold Hid; rw [str_size, hexP_length]
     have hs4 : Hid ((str (hexP 1024 r n)).size = n) := by unfold Hid; rw [str_size, hexP_length]
     clear hd hY
     go_wp2
     go_round
     case rel => exact ⟨Y, n + 1, rfl, by rw [HT.out], hY1, hY2, by omega, ⟨HY.out, fun i hi => if h : i = n then h ▸ HZ.out else HX.out.2 i (by omega)⟩⟩
     case measure => rw [HT.out]; simp only [sizeS]; rw [hs3.out, hs4.out]; omega
    ·have hX00 : X = 0 := by omega
     subst hX00
     have HE : Hid (HexEnd 1024 r n) := ⟨by have := HX.out.1; omega, HX.out.2⟩
     have HP := hid (pointed_any [48, 120, 49] (hexP 1024 r n) (by simp) (by rw [hexP_length]; omega) w)
     have HNB := hid (rnumber_any (e0 - k + 11 - 1) (by omega) (by omega) w)
     have hps : (str (ptd [48, 120, 49] (hexP 1024 r n))).size ≤ 100 := by
      rw [str_size]; unfold ptd; split <;> simp [hexP_length]; omega
     have hns : (str (Lib.itoa (e0 - k + 11 - 1))).size ≤ 100 := by
      rw [str_size]; have := Lib.itoa_length_le (e0 - k + 11 - 1) (by omega) (by omega); omega
     have HS : Hid (str (ptd [48, 120, 49] (hexP 1024 r n)) ++ ⟨#[112]⟩ ++ str (Lib.itoa (e0 - k + 11 - 1)) = str (hexS (hexP 1024 r n) (e0 - k + 11 - 1))) := by
      unfold Hid hexS
      rw [show (112 :: Lib.itoa (e0 - k + 11 - 1) : List UInt8) = [112] ++ Lib.itoa (e0 - k + 11 - 1) from rfl, ← List.append_assoc, ← str_append, ← str_append]; rfl
     have HEB : Hid (-4000 ≤ e0 - k + 11 - 1 ∧ e0 - k + 11 - 1 ≤ 4000) := by unfold Hid; omega
     clear hX0
     go_wp2_with fail
     refine HP.out.mono ?_
     rintro r1 w1 ⟨rfl, rfl⟩
     go_wp2_with fail
     refine HNB.out.mono ?_
     rintro r1 w2 ⟨rfl, hb⟩
     have HB := hid hb
     clear hb HP HNB
     go_wp2
     go_ret
     exact ⟨_, rfl, _, _, HJ.out n HE.out, HS.out, by rw [hexP_length]; exact hn, HEB.out.1, HEB.out.2, HB.out⟩
theorem sixteenths1 (m0 : Nat) (e0 : Int) (w : World) (h0 : 0 < m0) (hm : m0 < 16777216) (he1 : -3000 ≤ e0) (he2 : e0 ≤ 3000) :
  Calls Tryz.prog 87 #[.int .i64 m0, .int .i64 e0, .int .i64 24] w fun r w' => ∃ s : ByteArray, r = .returned (.string s) ∧ ∃ (T : List UInt8) (E : Int), HexText m0 e0 T E ∧ s = str (hexS T E) ∧ T.length ≤ 13 ∧ -4000 ≤ E ∧ E ≤ 4000 ∧ Below w.heap.size w w' := by
 obtain ⟨M0, hM0⟩ : ∃ M0 : Int, M0 = (m0 : Int) := ⟨_, rfl⟩
 rw [← hM0]
 have H0 := hid h0
 have HM0 := hid hM0
 have hM1 : 0 < M0 := by omega
 have hM2 : M0 < 16777216 := by omega
 clear h0 hM0 hm
 go_enter Tryz.func87, Tryz.ntmps87
 go_wp2
 go_loop [0, 1] (fun mm ee => ∃ (M : Int) (k : Nat), mm = .int .i64 M ∧ ee = .int .i64 (e0 - k) ∧ 0 < M ∧ M < 16777216 ∧ k ≤ 24 ∧ Hid (((m0 * 2 ^ k : Nat) : Int) = M)) (fun mm _ => (16777216 - intOf mm).toNat)
 case atStart => exact ⟨M0, 0, rfl, by simp, hM1, hM2, Nat.zero_le _, by unfold Hid; rw [HM0.out]; simp⟩
 case round =>
  obtain ⟨M, k, rfl, rfl, hMp, hMl, hk, HM⟩ := hrel
  by_cases hlow : M < 8388608
  ·have hq : M / 8388608 = 0 := by omega
   have HK : Hid (((m0 * 2 ^ (k + 1) : Nat) : Int) = 2 * M) := by
    unfold Hid; rw [Nat.pow_succ, ← Nat.mul_assoc]; have := HM.out; omega
   have hk2 : k + 1 < 24 := by
    have h1 := HK.out
    exact pow_gt (m := m0) (M := (2 * M).toNat) (by omega) H0.out (by rw [show (2 : Nat) ^ 24 = 16777216 from by decide]; omega)
   clear hM1 hM2
   go_wp2
   go_round
   case rel => exact ⟨2 * M, k + 1, rfl, by go_num, by omega, by omega, by omega, HK.out⟩
   case measure => simp [intOf]; omega
  ·have hq : M / 8388608 = 1 := by omega
   obtain ⟨r, hr⟩ : ∃ r : Nat, (r : Int) = M - 8388608 := ⟨(M - 8388608).toNat, by omega⟩
   have hk2 : k ≤ 23 := by
    have h1 := HM.out
    have := pow_gt (m := m0) (M := M.toNat) (k := k) (B := 24) (by omega) H0.out (by rw [show (2 : Nat) ^ 24 = 16777216 from by decide]; omega)
    omega
   have hr2 : r < 8388608 := by omega
   have HJ : Hid (∀ n, HexEnd 8388608 r n → HexText m0 e0 (hexP 8388608 r n) (e0 - k + 24 - 1)) := fun n hn => by
    have e1 : (2 : Nat) ^ ((23 - k) + k) = 8388608 := by rw [show 23 - k + k = 23 from by omega]
    have := hex_join (m0 := m0) (k := k) (j := 23 - k) (r := r) (n := n) (e0 := e0) (by rw [e1]; have := HM.out; omega) (by rw [e1]; exact hr2) (by rw [e1]; exact hn)
    rw [e1] at this
    rw [show e0 - (k : Int) + 24 - 1 = e0 + ((23 - k : Nat) : Int) from by omega]; exact this
   have hri : M - 8388608 = (r : Int) := hr.symm
   obtain ⟨R0, hR0⟩ : ∃ R0 : Int, R0 = (r : Int) := ⟨_, rfl⟩
   rw [← hR0] at hri
   have HR0 := hid hR0
   have hR1 : 0 ≤ R0 := by omega
   have hR2 : R0 < 8388608 := by omega
   clear hM1 hM2 hr hR0 hr2 hlow
   go_wp2
   go_loop [0, 7] (fun mm tt => ∃ (X : Int) (n : Nat), mm = .int .i64 X ∧ tt = .string (str (hexP 8388608 r n)) ∧ 0 ≤ X ∧ X < 8388608 ∧ n ≤ 13 ∧ Hid ((hexR 8388608 r n : Int) = X ∧ ∀ i, i < n → hexR 8388608 r i ≠ 0)) (fun _ tt => 14 - sizeS tt)
   case atStart => exact ⟨R0, 0, rfl, rfl, hR1, hR2, Nat.zero_le _, ⟨by rw [hexR_zero _ _ (by have := HR0.out; omega)]; exact HR0.out.symm, fun i hi => by omega⟩⟩
   case round =>
    clear hR1 hR2
    obtain ⟨X, n, rfl, rfl, hX1, hX2, hn, HX⟩ := hrel
    have hs1 : (str (hexP 8388608 r n)).size ≤ 100 := by rw [str_size, hexP_length]; omega
    by_cases hX0 : 0 < X
    ·obtain ⟨d, hd⟩ : ∃ d : Nat, (d : Int) = 16 * X / 8388608 := ⟨(16 * X / 8388608).toNat, by omega⟩
     have hd16 : d < 16 := by omega
     obtain ⟨Y, hY⟩ : ∃ Y : Int, Y = 16 * X - d * 8388608 := ⟨_, rfl⟩
     have hY1 : 0 ≤ Y := by omega
     have hY2 : Y < 8388608 := by omega
     have HR : Hid (hexR 8388608 r n = X.toNat) := by unfold Hid; have := HX.out.1; omega
     have HY : Hid ((hexR 8388608 r (n + 1) : Int) = Y) := by
      unfold Hid; rw [hexR_succ, HR.out]; omega
     have hn13 : n < 13 := by
      refine hexR_more 23 r n (by omega) ?_
      rw [show (2 : Nat) ^ 23 = 8388608 from by decide, HR.out]; omega
     have HT : Hid (str (hexP 8388608 r n) ++ hstr d = str (hexP 8388608 r (n + 1))) := by
      unfold Hid hstr; rw [str_append]
      show _ = str (hexP 8388608 r n ++ [hexD (hexR 8388608 r n * 16 / 8388608)])
      rw [HR.out, show X.toNat * 16 / 8388608 = d from by omega]
     have HZ : Hid (hexR 8388608 r n ≠ 0) := by unfold Hid; rw [HR.out]; omega
     have hdi : 16 * X / 8388608 = (d : Int) := hd.symm
     have hYi : 16 * X - (d : Int) * 8388608 = Y := hY.symm
     have hsub := hex_sub d hd16
     have hss := hstr_size d
     have hs3 : Hid ((str (hexP 8388608 r (n + 1))).size = n + 1) := by unfold Hid; rw [str_size, hexP_length]
     have hs4 : Hid ((str (hexP 8388608 r n)).size = n) := by unfold Hid; rw [str_size, hexP_length]
     clear hd hY
     go_wp2
     go_round
     case rel => exact ⟨Y, n + 1, rfl, by rw [HT.out], hY1, hY2, by omega, ⟨HY.out, fun i hi => if h : i = n then h ▸ HZ.out else HX.out.2 i (by omega)⟩⟩
     case measure => rw [HT.out]; simp only [sizeS]; rw [hs3.out, hs4.out]; omega
    ·have hX00 : X = 0 := by omega
     subst hX00
     have HE : Hid (HexEnd 8388608 r n) := ⟨by have := HX.out.1; omega, HX.out.2⟩
     have HP := hid (pointed_any [48, 120, 49] (hexP 8388608 r n) (by simp) (by rw [hexP_length]; omega) w)
     have HNB := hid (rnumber_any (e0 - k + 24 - 1) (by omega) (by omega) w)
     have hps : (str (ptd [48, 120, 49] (hexP 8388608 r n))).size ≤ 100 := by
      rw [str_size]; unfold ptd; split <;> simp [hexP_length]; omega
     have hns : (str (Lib.itoa (e0 - k + 24 - 1))).size ≤ 100 := by
      rw [str_size]; have := Lib.itoa_length_le (e0 - k + 24 - 1) (by omega) (by omega); omega
     have HS : Hid (str (ptd [48, 120, 49] (hexP 8388608 r n)) ++ ⟨#[112]⟩ ++ str (Lib.itoa (e0 - k + 24 - 1)) = str (hexS (hexP 8388608 r n) (e0 - k + 24 - 1))) := by
      unfold Hid hexS
      rw [show (112 :: Lib.itoa (e0 - k + 24 - 1) : List UInt8) = [112] ++ Lib.itoa (e0 - k + 24 - 1) from rfl, ← List.append_assoc, ← str_append, ← str_append]; rfl
     have HEB : Hid (-4000 ≤ e0 - k + 24 - 1 ∧ e0 - k + 24 - 1 ≤ 4000) := by unfold Hid; omega
     clear hX0
     go_wp2_with fail
     refine HP.out.mono ?_
     rintro r1 w1 ⟨rfl, rfl⟩
     go_wp2_with fail
     refine HNB.out.mono ?_
     rintro r1 w2 ⟨rfl, hb⟩
     have HB := hid hb
     clear hb HP HNB
     go_wp2
     go_ret
     exact ⟨_, rfl, _, _, HJ.out n HE.out, HS.out, by rw [hexP_length]; exact hn, HEB.out.1, HEB.out.2, HB.out⟩
theorem sixteenths2 (m0 : Nat) (e0 : Int) (w : World) (h0 : 0 < m0) (hm : m0 < 9007199254740992) (he1 : -3000 ≤ e0) (he2 : e0 ≤ 3000) :
  Calls Tryz.prog 87 #[.int .i64 m0, .int .i64 e0, .int .i64 53] w fun r w' => ∃ s : ByteArray, r = .returned (.string s) ∧ ∃ (T : List UInt8) (E : Int), HexText m0 e0 T E ∧ s = str (hexS T E) ∧ T.length ≤ 13 ∧ -4000 ≤ E ∧ E ≤ 4000 ∧ Below w.heap.size w w' := by
 obtain ⟨M0, hM0⟩ : ∃ M0 : Int, M0 = (m0 : Int) := ⟨_, rfl⟩
 rw [← hM0]
 have H0 := hid h0
 have HM0 := hid hM0
 have hM1 : 0 < M0 := by omega
 have hM2 : M0 < 9007199254740992 := by omega
 clear h0 hM0 hm
 go_enter Tryz.func87, Tryz.ntmps87
 go_wp2
 go_loop [0, 1] (fun mm ee => ∃ (M : Int) (k : Nat), mm = .int .i64 M ∧ ee = .int .i64 (e0 - k) ∧ 0 < M ∧ M < 9007199254740992 ∧ k ≤ 53 ∧ Hid (((m0 * 2 ^ k : Nat) : Int) = M)) (fun mm _ => (9007199254740992 - intOf mm).toNat)
 case atStart => exact ⟨M0, 0, rfl, by simp, hM1, hM2, Nat.zero_le _, by unfold Hid; rw [HM0.out]; simp⟩
 case round =>
  obtain ⟨M, k, rfl, rfl, hMp, hMl, hk, HM⟩ := hrel
  by_cases hlow : M < 4503599627370496
  ·have hq : M / 4503599627370496 = 0 := by omega
   have HK : Hid (((m0 * 2 ^ (k + 1) : Nat) : Int) = 2 * M) := by
    unfold Hid; rw [Nat.pow_succ, ← Nat.mul_assoc]; have := HM.out; omega
   have hk2 : k + 1 < 53 := by
    have h1 := HK.out
    exact pow_gt (m := m0) (M := (2 * M).toNat) (by omega) H0.out (by rw [show (2 : Nat) ^ 53 = 9007199254740992 from by decide]; omega)
   clear hM1 hM2
   go_wp2
   go_round
   case rel => exact ⟨2 * M, k + 1, rfl, by go_num, by omega, by omega, by omega, HK.out⟩
   case measure => simp [intOf]; omega
  ·have hq : M / 4503599627370496 = 1 := by omega
   obtain ⟨r, hr⟩ : ∃ r : Nat, (r : Int) = M - 4503599627370496 := ⟨(M - 4503599627370496).toNat, by omega⟩
   have hk2 : k ≤ 52 := by
    have h1 := HM.out
    have := pow_gt (m := m0) (M := M.toNat) (k := k) (B := 53) (by omega) H0.out (by rw [show (2 : Nat) ^ 53 = 9007199254740992 from by decide]; omega)
    omega
   have hr2 : r < 4503599627370496 := by omega
   have HJ : Hid (∀ n, HexEnd 4503599627370496 r n → HexText m0 e0 (hexP 4503599627370496 r n) (e0 - k + 53 - 1)) := fun n hn => by
    have e1 : (2 : Nat) ^ ((52 - k) + k) = 4503599627370496 := by rw [show 52 - k + k = 52 from by omega]
    have := hex_join (m0 := m0) (k := k) (j := 52 - k) (r := r) (n := n) (e0 := e0) (by rw [e1]; have := HM.out; omega) (by rw [e1]; exact hr2) (by rw [e1]; exact hn)
    rw [e1] at this
    rw [show e0 - (k : Int) + 53 - 1 = e0 + ((52 - k : Nat) : Int) from by omega]; exact this
   have hri : M - 4503599627370496 = (r : Int) := hr.symm
   obtain ⟨R0, hR0⟩ : ∃ R0 : Int, R0 = (r : Int) := ⟨_, rfl⟩
   rw [← hR0] at hri
   have HR0 := hid hR0
   have hR1 : 0 ≤ R0 := by omega
   have hR2 : R0 < 4503599627370496 := by omega
   clear hM1 hM2 hr hR0 hr2 hlow
   go_wp2
   go_loop [0, 7] (fun mm tt => ∃ (X : Int) (n : Nat), mm = .int .i64 X ∧ tt = .string (str (hexP 4503599627370496 r n)) ∧ 0 ≤ X ∧ X < 4503599627370496 ∧ n ≤ 13 ∧ Hid ((hexR 4503599627370496 r n : Int) = X ∧ ∀ i, i < n → hexR 4503599627370496 r i ≠ 0)) (fun _ tt => 14 - sizeS tt)
   case atStart => exact ⟨R0, 0, rfl, rfl, hR1, hR2, Nat.zero_le _, ⟨by rw [hexR_zero _ _ (by have := HR0.out; omega)]; exact HR0.out.symm, fun i hi => by omega⟩⟩
   case round =>
    clear hR1 hR2
    obtain ⟨X, n, rfl, rfl, hX1, hX2, hn, HX⟩ := hrel
    have hs1 : (str (hexP 4503599627370496 r n)).size ≤ 100 := by rw [str_size, hexP_length]; omega
    by_cases hX0 : 0 < X
    ·obtain ⟨d, hd⟩ : ∃ d : Nat, (d : Int) = 16 * X / 4503599627370496 := ⟨(16 * X / 4503599627370496).toNat, by omega⟩
     have hd16 : d < 16 := by omega
     obtain ⟨Y, hY⟩ : ∃ Y : Int, Y = 16 * X - d * 4503599627370496 := ⟨_, rfl⟩
     have hY1 : 0 ≤ Y := by omega
     have hY2 : Y < 4503599627370496 := by omega
     have HR : Hid (hexR 4503599627370496 r n = X.toNat) := by unfold Hid; have := HX.out.1; omega
     have HY : Hid ((hexR 4503599627370496 r (n + 1) : Int) = Y) := by
      unfold Hid; rw [hexR_succ, HR.out]; omega
     have hn13 : n < 13 := by
      refine hexR_more 52 r n (by omega) ?_
      rw [show (2 : Nat) ^ 52 = 4503599627370496 from by decide, HR.out]; omega
     have HT : Hid (str (hexP 4503599627370496 r n) ++ hstr d = str (hexP 4503599627370496 r (n + 1))) := by
      unfold Hid hstr; rw [str_append]
      show _ = str (hexP 4503599627370496 r n ++ [hexD (hexR 4503599627370496 r n * 16 / 4503599627370496)])
      rw [HR.out, show X.toNat * 16 / 4503599627370496 = d from by omega]
     have HZ : Hid (hexR 4503599627370496 r n ≠ 0) := by unfold Hid; rw [HR.out]; omega
     have hdi : 16 * X / 4503599627370496 = (d : Int) := hd.symm
     have hYi : 16 * X - (d : Int) * 4503599627370496 = Y := hY.symm
     have hsub := hex_sub d hd16
     have hss := hstr_size d
     have hs3 : Hid ((str (hexP 4503599627370496 r (n + 1))).size = n + 1) := by unfold Hid; rw [str_size, hexP_length]
     have hs4 : Hid ((str (hexP 4503599627370496 r n)).size = n) := by unfold Hid; rw [str_size, hexP_length]
     clear hd hY
     go_wp2
     go_round
     case rel => exact ⟨Y, n + 1, rfl, by rw [HT.out], hY1, hY2, by omega, ⟨HY.out, fun i hi => if h : i = n then h ▸ HZ.out else HX.out.2 i (by omega)⟩⟩
     case measure => rw [HT.out]; simp only [sizeS]; rw [hs3.out, hs4.out]; omega
    ·have hX00 : X = 0 := by omega
     subst hX00
     have HE : Hid (HexEnd 4503599627370496 r n) := ⟨by have := HX.out.1; omega, HX.out.2⟩
     have HP := hid (pointed_any [48, 120, 49] (hexP 4503599627370496 r n) (by simp) (by rw [hexP_length]; omega) w)
     have HNB := hid (rnumber_any (e0 - k + 53 - 1) (by omega) (by omega) w)
     have hps : (str (ptd [48, 120, 49] (hexP 4503599627370496 r n))).size ≤ 100 := by
      rw [str_size]; unfold ptd; split <;> simp [hexP_length]; omega
     have hns : (str (Lib.itoa (e0 - k + 53 - 1))).size ≤ 100 := by
      rw [str_size]; have := Lib.itoa_length_le (e0 - k + 53 - 1) (by omega) (by omega); omega
     have HS : Hid (str (ptd [48, 120, 49] (hexP 4503599627370496 r n)) ++ ⟨#[112]⟩ ++ str (Lib.itoa (e0 - k + 53 - 1)) = str (hexS (hexP 4503599627370496 r n) (e0 - k + 53 - 1))) := by
      unfold Hid hexS
      rw [show (112 :: Lib.itoa (e0 - k + 53 - 1) : List UInt8) = [112] ++ Lib.itoa (e0 - k + 53 - 1) from rfl, ← List.append_assoc, ← str_append, ← str_append]; rfl
     have HEB : Hid (-4000 ≤ e0 - k + 53 - 1 ∧ e0 - k + 53 - 1 ≤ 4000) := by unfold Hid; omega
     clear hX0
     go_wp2_with fail
     refine HP.out.mono ?_
     rintro r1 w1 ⟨rfl, rfl⟩
     go_wp2_with fail
     refine HNB.out.mono ?_
     rintro r1 w2 ⟨rfl, hb⟩
     have HB := hid hb
     clear hb HP HNB
     go_wp2
     go_ret
     exact ⟨_, rfl, _, _, HJ.out n HE.out, HS.out, by rw [hexP_length]; exact hn, HEB.out.1, HEB.out.2, HB.out⟩
end Go.Proofs.YtbkdaoicnobllabGreatDoor
