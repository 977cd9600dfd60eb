import Derived.Test.YtbkdaoicnobllabGreatDoorG38
import Derived.Test.YtbkdaoicnobllabGreatDoorG06
import Derived.Test.YtbkdaoicnobllabGreatDoorG14
import Derived.Test.YtbkdaoicnobllabGreatDoorG17
import Derived.Test.YtbkdaoicnobllabGreatDoorG04
import Derived.Test.YtbkdaoicnobllabGreatDoorG15
import Derived.Deep.DeepCutAuto
import Derived.Deep.RegionWith
import Derived.Deep.DrawnRows

namespace Go.Proofs.YtbkdaoicnobllabGreatDoor
set_option maxRecDepth 100000
set_option maxHeartbeats 1000000
open Go.RowKit
theorem ends0 (w : World) : Calls Tryz.prog 70 #[.int .i64 0] w fun e w' => e = .returned (.bool (endsB 0)) ∧ w' = w := by
 go_enter Tryz.func70, Tryz.ntmps70
 go_wp2
 go_ret
 exact ⟨rfl, rfl⟩
theorem ends1 (w : World) : Calls Tryz.prog 70 #[.int .i64 1] w fun e w' => e = .returned (.bool (endsB 1)) ∧ w' = w := by
 go_enter Tryz.func70, Tryz.ntmps70
 go_wp2
 go_ret
 exact ⟨rfl, rfl⟩
theorem ends2 (w : World) : Calls Tryz.prog 70 #[.int .i64 2] w fun e w' => e = .returned (.bool (endsB 2)) ∧ w' = w := by
 go_enter Tryz.func70, Tryz.ntmps70
 go_wp2
 go_ret
 exact ⟨rfl, rfl⟩
theorem ends3 (w : World) : Calls Tryz.prog 70 #[.int .i64 3] w fun e w' => e = .returned (.bool (endsB 3)) ∧ w' = w := by
 go_enter Tryz.func70, Tryz.ntmps70
 go_wp2
 go_ret
 exact ⟨rfl, rfl⟩
theorem ends4 (w : World) : Calls Tryz.prog 70 #[.int .i64 4] w fun e w' => e = .returned (.bool (endsB 4)) ∧ w' = w := by
 go_enter Tryz.func70, Tryz.ntmps70
 go_wp2
 go_ret
 exact ⟨rfl, rfl⟩
theorem ends5 (w : World) : Calls Tryz.prog 70 #[.int .i64 5] w fun e w' => e = .returned (.bool (endsB 5)) ∧ w' = w := by
 go_enter Tryz.func70, Tryz.ntmps70
 go_wp2
 go_ret
 exact ⟨rfl, rfl⟩
theorem ends6 (w : World) : Calls Tryz.prog 70 #[.int .i64 6] w fun e w' => e = .returned (.bool (endsB 6)) ∧ w' = w := by
 go_enter Tryz.func70, Tryz.ntmps70
 go_wp2
 go_ret
 exact ⟨rfl, rfl⟩
theorem ends7 (w : World) : Calls Tryz.prog 70 #[.int .i64 7] w fun e w' => e = .returned (.bool (endsB 7)) ∧ w' = w := by
 go_enter Tryz.func70, Tryz.ntmps70
 go_wp2
 go_ret
 exact ⟨rfl, rfl⟩
theorem ends8 (w : World) : Calls Tryz.prog 70 #[.int .i64 8] w fun e w' => e = .returned (.bool (endsB 8)) ∧ w' = w := by
 go_enter Tryz.func70, Tryz.ntmps70
 go_wp2
 go_ret
 exact ⟨rfl, rfl⟩
theorem ends9 (w : World) : Calls Tryz.prog 70 #[.int .i64 9] w fun e w' => e = .returned (.bool (endsB 9)) ∧ w' = w := by
 go_enter Tryz.func70, Tryz.ntmps70
 go_wp2
 go_ret
 exact ⟨rfl, rfl⟩
theorem ends10 (w : World) : Calls Tryz.prog 70 #[.int .i64 10] w fun e w' => e = .returned (.bool (endsB 10)) ∧ w' = w := by
 go_enter Tryz.func70, Tryz.ntmps70
 go_wp2
 go_ret
 exact ⟨rfl, rfl⟩
theorem ends11 (w : World) : Calls Tryz.prog 70 #[.int .i64 11] w fun e w' => e = .returned (.bool (endsB 11)) ∧ w' = w := by
 go_enter Tryz.func70, Tryz.ntmps70
 go_wp2
 go_ret
 exact ⟨rfl, rfl⟩
theorem ends12 (w : World) : Calls Tryz.prog 70 #[.int .i64 12] w fun e w' => e = .returned (.bool (endsB 12)) ∧ w' = w := by
 go_enter Tryz.func70, Tryz.ntmps70
 go_wp2
 go_ret
 exact ⟨rfl, rfl⟩
theorem ends13 (w : World) : Calls Tryz.prog 70 #[.int .i64 13] w fun e w' => e = .returned (.bool (endsB 13)) ∧ w' = w := by
 go_enter Tryz.func70, Tryz.ntmps70
 go_wp2
 go_ret
 exact ⟨rfl, rfl⟩
theorem ends14 (w : World) : Calls Tryz.prog 70 #[.int .i64 14] w fun e w' => e = .returned (.bool (endsB 14)) ∧ w' = w := by
 go_enter Tryz.func70, Tryz.ntmps70
 go_wp2
 go_ret
 exact ⟨rfl, rfl⟩
theorem ends15 (w : World) : Calls Tryz.prog 70 #[.int .i64 15] w fun e w' => e = .returned (.bool (endsB 15)) ∧ w' = w := by
 go_enter Tryz.func70, Tryz.ntmps70
 go_wp2
 go_ret
 exact ⟨rfl, rfl⟩
theorem ends16 (w : World) : Calls Tryz.prog 70 #[.int .i64 16] w fun e w' => e = .returned (.bool (endsB 16)) ∧ w' = w := by
 go_enter Tryz.func70, Tryz.ntmps70
 go_wp2
 go_ret
 exact ⟨rfl, rfl⟩
theorem ends17 (w : World) : Calls Tryz.prog 70 #[.int .i64 17] w fun e w' => e = .returned (.bool (endsB 17)) ∧ w' = w := by
 go_enter Tryz.func70, Tryz.ntmps70
 go_wp2
 go_ret
 exact ⟨rfl, rfl⟩
theorem ends18 (w : World) : Calls Tryz.prog 70 #[.int .i64 18] w fun e w' => e = .returned (.bool (endsB 18)) ∧ w' = w := by
 go_enter Tryz.func70, Tryz.ntmps70
 go_wp2
 go_ret
 exact ⟨rfl, rfl⟩
theorem ends19 (w : World) : Calls Tryz.prog 70 #[.int .i64 19] w fun e w' => e = .returned (.bool (endsB 19)) ∧ w' = w := by
 go_enter Tryz.func70, Tryz.ntmps70
 go_wp2
 go_ret
 exact ⟨rfl, rfl⟩
theorem ends20 (w : World) : Calls Tryz.prog 70 #[.int .i64 20] w fun e w' => e = .returned (.bool (endsB 20)) ∧ w' = w := by
 go_enter Tryz.func70, Tryz.ntmps70
 go_wp2
 go_ret
 exact ⟨rfl, rfl⟩
theorem ends21 (w : World) : Calls Tryz.prog 70 #[.int .i64 21] w fun e w' => e = .returned (.bool (endsB 21)) ∧ w' = w := by
 go_enter Tryz.func70, Tryz.ntmps70
 go_wp2
 go_ret
 exact ⟨rfl, rfl⟩
theorem ends22 (w : World) : Calls Tryz.prog 70 #[.int .i64 22] w fun e w' => e = .returned (.bool (endsB 22)) ∧ w' = w := by
 go_enter Tryz.func70, Tryz.ntmps70
 go_wp2
 go_ret
 exact ⟨rfl, rfl⟩
theorem ends23 (w : World) : Calls Tryz.prog 70 #[.int .i64 23] w fun e w' => e = .returned (.bool (endsB 23)) ∧ w' = w := by
 go_enter Tryz.func70, Tryz.ntmps70
 go_wp2
 go_ret
 exact ⟨rfl, rfl⟩
theorem ends24 (w : World) : Calls Tryz.prog 70 #[.int .i64 24] w fun e w' => e = .returned (.bool (endsB 24)) ∧ w' = w := by
 go_enter Tryz.func70, Tryz.ntmps70
 go_wp2
 go_ret
 exact ⟨rfl, rfl⟩
theorem ends25 (w : World) : Calls Tryz.prog 70 #[.int .i64 25] w fun e w' => e = .returned (.bool (endsB 25)) ∧ w' = w := by
 go_enter Tryz.func70, Tryz.ntmps70
 go_wp2
 go_ret
 exact ⟨rfl, rfl⟩
theorem ends26 (w : World) : Calls Tryz.prog 70 #[.int .i64 26] w fun e w' => e = .returned (.bool (endsB 26)) ∧ w' = w := by
 go_enter Tryz.func70, Tryz.ntmps70
 go_wp2
 go_ret
 exact ⟨rfl, rfl⟩
theorem ends27 (w : World) : Calls Tryz.prog 70 #[.int .i64 27] w fun e w' => e = .returned (.bool (endsB 27)) ∧ w' = w := by
 go_enter Tryz.func70, Tryz.ntmps70
 go_wp2
 go_ret
 exact ⟨rfl, rfl⟩
theorem ends28 (w : World) : Calls Tryz.prog 70 #[.int .i64 28] w fun e w' => e = .returned (.bool (endsB 28)) ∧ w' = w := by
 go_enter Tryz.func70, Tryz.ntmps70
 go_wp2
 go_ret
 exact ⟨rfl, rfl⟩
theorem ends_any (s : Nat) (w : World) (hs : s ≤ 28) : Calls Tryz.prog 70 #[.int .i64 (s : Int)] w fun e w' => e = .returned (.bool (endsB s)) ∧ w' = w := by
 have hc : s = 0 ∨ s = 1 ∨ s = 2 ∨ s = 3 ∨ s = 4 ∨ s = 5 ∨ s = 6 ∨ s = 7 ∨ s = 8 ∨ s = 9 ∨ s = 10 ∨ s = 11 ∨ s = 12 ∨ s = 13 ∨ s = 14 ∨ s = 15 ∨ s = 16 ∨ s = 17 ∨ s = 18 ∨ s = 19 ∨ s = 20 ∨ s = 21 ∨ s = 22 ∨ s = 23 ∨ s = 24 ∨ s = 25 ∨ s = 26 ∨ s = 27 ∨ s = 28 := by omega
 rcases hc with rfl | rfl | rfl | rfl | rfl | rfl | rfl | rfl | rfl | rfl | rfl | rfl | rfl | rfl | rfl | rfl | rfl | rfl | rfl | rfl | rfl | rfl | rfl | rfl | rfl | rfl | rfl | rfl | rfl
 ·exact ends0 w
 ·exact ends1 w
 ·exact ends2 w
 ·exact ends3 w
 ·exact ends4 w
 ·exact ends5 w
 ·exact ends6 w
 ·exact ends7 w
 ·exact ends8 w
 ·exact ends9 w
 ·exact ends10 w
 ·exact ends11 w
 ·exact ends12 w
 ·exact ends13 w
 ·exact ends14 w
 ·exact ends15 w
 ·exact ends16 w
 ·exact ends17 w
 ·exact ends18 w
 ·exact ends19 w
 ·exact ends20 w
 ·exact ends21 w
 ·exact ends22 w
 ·exact ends23 w
 ·exact ends24 w
 ·exact ends25 w
 ·exact ends26 w
 ·exact ends27 w
 ·exact ends28 w

theorem read_any (s : ByteArray) (w : World) (hs : s.size ≤ 900) : Calls Tryz.prog 44 #[.string s] w fun e w' => w' = w ∧ ∃ (st at' : Nat) (ok : Bool), e = .returned (.tuple #[.int .i64 st, .int .i64 at', .bool ok]) ∧ ReadSpec (chs s) st at' ok := by
 have HL := hid (chs_length s)
 go_enter Tryz.func44, Tryz.ntmps44
 go_wp2
 go_loop [5, 6] (fun st i => ∃ k q : Nat, k ≤ s.size ∧ i = .int .i64 k ∧ st = .int .i64 q ∧ q ≤ 28 ∧ Hid (q = stAt (chs s) k) ∧ Hid (∀ j, j ≤ k → stAt (chs s) j ≠ 28)) (fun _ i => s.size - (intOf i).toNat)
 case atStart => exact ⟨0, 0, Nat.zero_le _, rfl, rfl, by omega, rfl, fun j hj => by rw [Nat.le_zero.1 hj]; show (0 : Nat) ≠ 28; omega⟩
 case round =>
  obtain ⟨k, q, hk, rfl, rfl, hq, HQ, HN⟩ := hrel
  by_cases hlt : k < s.size
  ·have HG := hid (chs_get s k hlt)
   have HS := hid (stAt_succ (chs s) k (by rw [HL.out]; exact hlt))
   rw [← HQ.out, HG.out] at HS
   obtain ⟨q2, hq2⟩ : ∃ q2, q2 = nextS q s[k].toNat := ⟨_, rfl⟩
   have hq28 : q2 ≤ 28 := by rw [hq2]; exact nextS_le _ _
   have hnx := next_any q s[k].toNat w hq
   rw [← hq2] at hnx HS
   clear hq2
   by_cases hd : q2 = 28
   ·have hb : ((q2 : Int) == 28) = true := by rw [hd]; rfl
    have HD := hid hd
    clear hd
    go_wp2_with fail
    refine hnx.mono ?_
    rintro e w' ⟨rfl, rfl⟩
    clear hnx
    go_wp2
    go_ret3
    exact ⟨rfl, q2, k, false, rfl, .inl ⟨k, by rw [HL.out]; exact hlt, HN.out, by rw [HS.out, HD.out], HD.out, rfl, rfl⟩⟩
   ·have hb : ((q2 : Int) == 28) = false := by rw [beq_eq_false_iff_ne]; omega
    have HD := hid hd
    clear hd
    go_wp2_with fail
    refine hnx.mono ?_
    rintro e w' ⟨rfl, rfl⟩
    clear hnx
    go_wp2
    go_round
    case rel => exact ⟨k + 1, q2, by omega, by go_num, rfl, hq28, HS.out.symm, fun j hj => if h : j = k + 1 then by rw [h, HS.out]; exact HD.out else HN.out j (by omega)⟩
    case measure => simp [intOf]; omega
  ·have hkk : k = s.size := by omega
   have HK := hid hkk
   have hen := ends_any q w hq
   clear hkk
   go_wp2_with fail
   refine hen.mono ?_
   rintro e w' ⟨rfl, rfl⟩
   clear hen
   go_wp2
   go_ret3
   refine ⟨rfl, q, s.size, endsB q, rfl, .inr ⟨fun j hj => HN.out j (by rw [HL.out] at hj; rw [HK.out]; exact hj), ?_, HL.out.symm, rfl⟩⟩
   rw [HL.out, ← HK.out]; exact HQ.out

end Go.Proofs.YtbkdaoicnobllabGreatDoor

namespace Go.Proofs.YtbkdaoicnobllabGreatDoor
open Go.RowKit

theorem tight {L : List Nat} {e : Int} {K : Nat} {H : Int} (hn : Norm L) (hne : L ≠ []) (hk : -(K : Int) ≤ e) (h : val K L e < 10 ^ (H + K).toNat) (hH : -(K : Int) ≤ H) : e + L.length ≤ H := by
 have hl : 0 < L.length := List.length_pos_iff.2 hne
 have h1 := num_pos hn hl
 have h2 : 10 ^ (L.length - 1 + (e + K).toNat) ≤ val K L e := by
  unfold val; rw [Nat.pow_add]; exact Nat.mul_le_mul_right _ h1
 have h3 := (Nat.pow_lt_pow_iff_right (a := 10) (by omega)).1 (Nat.lt_of_le_of_lt h2 h)
 omega
theorem Out.tight {w : World} {v : Value} {L : List Nat} {e : Int} {len : Nat} {lo hi : Int} {own : Nat → Prop} {V : Nat → Nat} (h : Out w v L e len lo hi own V) (K : Nat) (H : Int) (hK : -(K : Int) ≤ lo) (hH : -(K : Int) ≤ H) (hV : V K < 10 ^ (H + K).toNat) (hlo : lo ≤ H) :
  Out w v L e (H - lo).toNat lo H own V := by
 have key : L ≠ [] → lo ≤ e ∧ e + L.length ≤ H := fun hne => ⟨(h.ne hne).1, Go.Proofs.YtbkdaoicnobllabGreatDoor.tight h.norm hne (Int.le_trans hK (h.ne hne).1) (by rw [h.val K hK]; exact hV) hH⟩
 refine ⟨h.row, h.own, h.norm, ?_, h.nil, key, h.val⟩
 by_cases h0 : L = []
 ·rw [h0]; simp
 ·have := key h0; omega
theorem two_lt (K : Nat) (t : Int) (hk : -(K : Int) ≤ t) : two K t < 10 ^ (max t 0 + 1 + K).toNat := by
 unfold two; split
 ·rename_i h
  rw [show (max t 0 + 1 + K).toNat = t.toNat + 1 + K from by omega, Nat.pow_add]
  apply Nat.mul_lt_mul_of_pos_right _ (Nat.pow_pos (by omega))
  calc 2 ^ t.toNat ≤ 10 ^ t.toNat := Nat.pow_le_pow_left (by omega) _
   _ < 10 ^ (t.toNat + 1) := Nat.pow_lt_pow_right (by omega) (by omega)
 ·rename_i h
  rw [show (max t 0 + 1 + K).toNat = (-t).toNat + (K + t).toNat + 1 from by omega]
  calc 5 ^ (-t).toNat * 10 ^ (K + t).toNat ≤ 10 ^ (-t).toNat * 10 ^ (K + t).toNat := Nat.mul_le_mul_right _ (Nat.pow_le_pow_left (by omega) _)
   _ = 10 ^ ((-t).toNat + (K + t).toNat) := by rw [Nat.pow_add]
   _ < 10 ^ ((-t).toNat + (K + t).toNat + 1) := Nat.pow_lt_pow_right (by omega) (by omega)

theorem two_tight (e0 : Int) (w : World) (he : -5000 ≤ e0 ∧ e0 ≤ 5000) :
  Calls Tryz.prog 76 #[.int .i64 e0] w fun r w' => Below w.heap.size w w' ∧
   ∃ v' L' e', r = .returned (.agg #[v', .int .i64 e']) ∧ Out w' v' L' e' (e0.natAbs + 1) (min e0 0) (max e0 0 + 1) (fun g => w.heap.size ≤ g) (fun K => two K e0) := by
 refine (two_any e0 w he).mono ?_
 rintro r w' ⟨hb, v', L', e', rfl, ho⟩
 refine ⟨hb, v', L', e', rfl, ?_⟩
 have h := ho.tight 5000 (max e0 0 + 1) (by omega) (by omega) (two_lt 5000 e0 (by omega)) (by omega)
 exact h.mono (by omega) (Int.le_refl _) (Int.le_refl _) (fun _ h => h) (fun _ _ => rfl)

end Go.Proofs.YtbkdaoicnobllabGreatDoor

namespace Go.Proofs.YtbkdaoicnobllabGreatDoor
set_option maxRecDepth 100000
set_option maxHeartbeats 2000000
open Go.RowKit

structure PFrame (w wr : World) (sa sb : Value) (ea eb : Int) : Prop where
 below : Below w.heap.size w wr
 size : w.heap.size + 4 ≤ wr.heap.size
 a0 : wr.cell? ⟨w.heap.size, 0, none⟩ = some sa
 a1 : wr.cell? ⟨w.heap.size, 1, none⟩ = some (.int .i64 ea)
 b0 : wr.cell? ⟨w.heap.size + 1, 0, none⟩ = some sb
 b1 : wr.cell? ⟨w.heap.size + 1, 1, none⟩ = some (.int .i64 eb)
 r0 : wr.cell? ⟨w.heap.size + 1 + 1, 0, none⟩ = some (.slice none 0 0)
 r1 : wr.cell? ⟨w.heap.size + 1 + 1, 1, none⟩ = some (.int .i64 0)
 rf0 : wr.frozen? ⟨w.heap.size + 1 + 1, 0, none⟩ = false
 rf1 : wr.frozen? ⟨w.heap.size + 1 + 1, 1, none⟩ = false
 of0 : wr.frozen? ⟨w.heap.size + 1 + 1 + 1, 0, none⟩ = false
 of1 : wr.frozen? ⟨w.heap.size + 1 + 1 + 1, 1, none⟩ = false

theorem PFrame.next {w wr w1 : World} {sa sb : Value} {ea eb : Int} (h : PFrame w wr sa sb ea eb) (hb : Below wr.heap.size wr w1) : PFrame w w1 sa sb ea eb := by
 have hs := h.size
 have hs1 := hb.size
 have fz : ∀ b o, b < wr.heap.size → w1.frozen? ⟨b, o, none⟩ = wr.frozen? ⟨b, o, none⟩ := fun b o hh => hb.frozen (p := ⟨b, o, none⟩) hh
 exact ⟨h.below.trans (hb.mono (by omega)), by omega, keep_cell hb h.a0, keep_cell hb h.a1, keep_cell hb h.b0, keep_cell hb h.b1, keep_cell hb h.r0, keep_cell hb h.r1,
  (fz _ _ (by omega)).trans h.rf0, (fz _ _ (by omega)).trans h.rf1, (fz _ _ (by omega)).trans h.of0, (fz _ _ (by omega)).trans h.of1⟩

theorem PFrame.store {w wr : World} {sa sb : Value} {ea eb : Int} (h : PFrame w wr sa sb ea eb) (x y : Value) :
  PFrame w ((wr.setCell ⟨w.heap.size + 1 + 1 + 1, 0, none⟩ x).setCell ⟨w.heap.size + 1 + 1 + 1, 1, none⟩ y) sa sb ea eb := by
 have oth : ∀ b o, b < w.heap.size + 3 → ((wr.setCell ⟨w.heap.size + 1 + 1 + 1, 0, none⟩ x).setCell ⟨w.heap.size + 1 + 1 + 1, 1, none⟩ y).cell? ⟨b, o, none⟩ = wr.cell? ⟨b, o, none⟩ := fun b o hh => by
  rw [World.cell?_setCell_other _ _ _ _ (by simp <;> omega), World.cell?_setCell_other _ _ _ _ (by simp <;> omega)]
 refine ⟨below_two h.below (by omega) _ _, by simpa [World.setCell] using h.size, ?_, ?_, ?_, ?_, ?_, ?_, ?_, ?_, ?_, ?_⟩
 ·rw [oth _ _ (by omega)]; exact h.a0
 ·rw [oth _ _ (by omega)]; exact h.a1
 ·rw [oth _ _ (by omega)]; exact h.b0
 ·rw [oth _ _ (by omega)]; exact h.b1
 ·rw [oth _ _ (by omega)]; exact h.r0
 ·rw [oth _ _ (by omega)]; exact h.r1
 ·rw [frozen_set, frozen_set]; exact h.rf0
 ·rw [frozen_set, frozen_set]; exact h.rf1
 ·rw [frozen_set, frozen_set]; exact h.of0
 ·rw [frozen_set, frozen_set]; exact h.of1

theorem PFrame.store1 {w wr : World} {sa sb : Value} {ea eb : Int} (h : PFrame w wr sa sb ea eb) (y : Value) :
  PFrame w (wr.setCell ⟨w.heap.size + 1 + 1 + 1, 1, none⟩ y) sa sb ea eb := by
 have oth : ∀ b o, b < w.heap.size + 3 → (wr.setCell ⟨w.heap.size + 1 + 1 + 1, 1, none⟩ y).cell? ⟨b, o, none⟩ = wr.cell? ⟨b, o, none⟩ := fun b o hh => by
  rw [World.cell?_setCell_other _ _ _ _ (by simp <;> omega)]
 refine ⟨h.below.setCell (p := ⟨w.heap.size + 1 + 1 + 1, 1, none⟩) (by show w.heap.size ≤ w.heap.size + 1 + 1 + 1; omega) _, by simpa [World.setCell] using h.size, ?_, ?_, ?_, ?_, ?_, ?_, ?_, ?_, ?_, ?_⟩
 ·rw [oth _ _ (by omega)]; exact h.a0
 ·rw [oth _ _ (by omega)]; exact h.a1
 ·rw [oth _ _ (by omega)]; exact h.b0
 ·rw [oth _ _ (by omega)]; exact h.b1
 ·rw [oth _ _ (by omega)]; exact h.r0
 ·rw [oth _ _ (by omega)]; exact h.r1
 ·rw [frozen_set]; exact h.rf0
 ·rw [frozen_set]; exact h.rf1
 ·rw [frozen_set]; exact h.of0
 ·rw [frozen_set]; exact h.of1
theorem prod_end {La Lb L : List Nat} {ea eb e : Int} {K : Nat} (h : ∀ K : Nat, -(K : Int) ≤ 0 → val K L e = val K La ea * num Lb) (hk : -(K : Int) ≤ min eb 0) (he : 0 ≤ e) (hea : 0 ≤ ea) : val K L (e + eb) = num La * num Lb * 10 ^ (ea + eb + K).toNat := by
 have h1 := h (K + eb).toNat (by omega)
 unfold val at *
 rw [show (e + eb + K).toNat = (e + ((K + eb).toNat : Nat)).toNat from by omega, h1, show (ea + ((K + eb).toNat : Nat)).toNat = (ea + eb + K).toNat from by omega]
 grind

theorem prod_lt {La Lb : List Nat} {ea : Int} {K i : Nat} (ha : Digs La) (hb : Digs Lb) (hk : -(K : Int) ≤ ea) : val K La ea * num (Lb.take i) < 10 ^ (ea + La.length + i + K).toNat := by
 have h1 : val K La ea < 10 ^ (ea + La.length + K).toNat := by
  unfold val
  rw [show (ea + La.length + K).toNat = La.length + (ea + K).toNat from by omega, Nat.pow_add]
  exact Nat.mul_lt_mul_of_pos_right (num_lt ha) (Nat.pow_pos (by omega))
 have h2 : num (Lb.take i) < 10 ^ i := by
  have := num_lt (hb.take i)
  refine Nat.lt_of_lt_of_le this (Nat.pow_le_pow_right (by omega) ?_)
  rw [List.length_take]; omega
 rw [show (ea + La.length + i + K).toNat = (ea + La.length + K).toNat + i from by omega, Nat.pow_add]
 exact Nat.mul_lt_mul'' h1 h2

theorem prod_step {wr W2 wc w3 : World} {s0 s1 s2 s4 : Value} {L L1 L2 L4 La Lb : List Nat} {e e1 e2 e4 ea hi0 hi1 hi2 hi4 : Int} {len0 len1 len2 len4 i x b1 b2 b3 B : Nat} {own0 : Nat → Prop}
  (HO : Out wr s0 L e len0 0 hi0 own0 (fun K => val K La ea * num (Lb.take i))) (HO2 : Out W2 s1 L1 e1 len1 e hi1 (fun g => b1 ≤ g) (fun K => val K L e * 10)) (HO3 : Out wc s2 L2 e2 len2 0 hi2 (fun g => b2 ≤ g) (fun K => val K La ea * x))
  (o4 : Out w3 s4 L4 e4 len4 (min e1 e2) hi4 (fun g => s1.ownBlock = some g ∨ s2.ownBlock = some g ∨ b3 ≤ g) (fun K => val K L1 e1 + val K L2 e2)) (hx : x = Lb.getD i 0) (hi : i < Lb.length) (da : Digs La) (db : Digs Lb) (hea : 0 ≤ ea) (h1 : B ≤ b1) (h2 : B ≤ b2) (h3 : B ≤ b3) :
  Out w3 s4 L4 e4 (ea + La.length + (i + 1 : Nat)).toNat 0 (ea + La.length + (i + 1 : Nat)) (fun g => B ≤ g) (fun K => val K La ea * num (Lb.take (i + 1))) := by
 have he : 0 ≤ e := by
  by_cases h0 : L = []
  ·rw [HO.nil h0]; omega
  ·exact (HO.ne h0).1
 have he1 : 0 ≤ e1 := by
  by_cases h0 : L1 = []
  ·rw [HO2.nil h0]; omega
  ·have := (HO2.ne h0).1; omega
 have he2 : 0 ≤ e2 := by
  by_cases h0 : L2 = []
  ·rw [HO3.nil h0]; omega
  ·exact (HO3.ne h0).1
 have hv : ∀ K : Nat, val K L1 e1 + val K L2 e2 = val K La ea * num (Lb.take (i + 1)) := fun K => by
  rw [HO2.val K (by omega), HO3.val K (by omega), HO.val K (by omega), take_succ_getD Lb i hi, num_snoc, ← hx]
  grind
 have h5 : Out w3 s4 L4 e4 len4 0 hi4 (fun g => B ≤ g) (fun K => val K La ea * num (Lb.take (i + 1))) :=
  o4.mono (Nat.le_refl _) (by omega) (Int.le_refl _) (fun g hg => by
   rcases hg with hg | hg | hg
   ·have := HO2.own g hg; omega
   ·have := HO3.own g hg; omega
   ·omega) (fun K _ => hv K)
 have h6 := h5.tight 0 (ea + La.length + (i + 1 : Nat)) (by omega) (by omega) (by have := prod_lt (La := La) (Lb := Lb) (ea := ea) (K := 0) (i := i + 1) da db (by omega); simpa using this) (by omega)
 rwa [Int.sub_zero] at h6

attribute [local go_sem ↓] Go.wp_at_zero Go.wp_at_succ
theorem product_any (va vb : Value) (La Lb : List Nat) (ea eb : Int) (w : World) (ra : Row w va La) (rb : Row w vb Lb) (na : Norm La) (nb : Norm Lb) (la : La.length ≤ 1000) (lb : Lb.length ≤ 6000) (ba : 0 ≤ ea ∧ ea ≤ 1000) (bb : -6000 ≤ eb ∧ eb ≤ 6000) (hne : Lb ≠ []) :
  Calls Tryz.prog 77 #[.agg #[va, .int .i64 ea], .agg #[vb, .int .i64 eb]] w fun r w' => Below w.heap.size w w' ∧
   ∃ v' L' e', r = .returned (.agg #[v', .int .i64 e']) ∧ Out w' v' L' e' 20000 (min eb 0) 20000 (fun g => w.heap.size ≤ g) (fun K => num La * num Lb * 10 ^ (ea + eb + K).toNat) := by
 obtain ⟨aa, ca, hva⟩ := ra.isSlice
 subst hva
 have HRA := hid (And.intro ra (And.intro na nb))
 clear ra na nb
 rcases rb with ⟨h0, hvb⟩ | ⟨bb', off, cb, hvb, q1, q2, q3, q4⟩
 ·exact absurd h0 hne
 ·subst hvb
  clear hne
  obtain ⟨n, hn⟩ : ∃ n, n = Lb.length := ⟨_, rfl⟩
  rw [← hn] at lb q1 q4 ⊢
  have HN := hid hn
  have H4 : Hid (∀ j, j < n → w.cell? ⟨bb', off + j, none⟩ = some (.int .i64 (Lb.getD j 0 : Nat))) := q4
  unfold maxLen at q2
  clear hn q4
  go_enter Tryz.func77, Tryz.ntmps77
  go_wp2
  go_loopw [6] (fun k wr => ∃ i : Nat, ∃ ao cap L e, k = .int .i64 i ∧ i ≤ n ∧ PFrame w wr (.slice aa La.length ca) (.slice (some ⟨bb', off, none⟩) n cb) ea eb ∧ wr.cell? ⟨w.heap.size + 1 + 1 + 1, 0, none⟩ = some (.slice ao (List.length L) cap) ∧ wr.cell? ⟨w.heap.size + 1 + 1 + 1, 1, none⟩ = some (.int .i64 e) ∧
   Out wr (.slice ao (List.length L) cap) L e (ea + La.length + i).toNat 0 (ea + La.length + i) (fun g => w.heap.size + 4 ≤ g) (fun K => val K La ea * num (Lb.take i))) (fun k _ => n - (intOf k).toNat)
  case atStart =>
   refine ⟨0, none, 0, [], 0, rfl, Nat.zero_le _, ⟨?_, ?_, ?_, ?_, ?_, ?_, ?_, ?_, ?_, ?_, ?_, ?_⟩, ?_, ?_, ⟨Row.nil _, fun g hg => by simp [Value.ownBlock] at hg, norm_nil, by simp, fun _ => rfl, fun h => absurd rfl h, fun K _ => by simp [val_nil, num_nil]⟩⟩
   ·exact box6_below.alloc (by simp; omega) _
   ·simp
   ·simp [go_sem]
   ·simp [go_sem]
   ·simp [go_sem]
   ·simp [go_sem]
   ·rw [World.cell?_alloc_past _ _ _ (by simp)]; exact World.cell?_alloc_at _ _ _ _ (by simp)
   ·rw [World.cell?_alloc_past _ _ _ (by simp)]; exact World.cell?_alloc_at _ _ _ _ (by simp)
   ·simp [go_sem]
   ·simp [go_sem]
   ·simp [go_sem]
   ·simp [go_sem]
   ·exact World.cell?_alloc_at _ _ _ _ (by simp)
   ·exact World.cell?_alloc_at _ _ _ _ (by simp)
  case round =>
   obtain ⟨i, ao, cap, L, e, rfl, hi, hfr, o0, o1, hout⟩ := hrel
   by_cases hlt : i < n
   ·have hl := hout.len
    have hbd := hout.bounds 20000 (by omega) (by omega) (by omega)
    have HO := hid hout
    have b0 := hfr.b0
    have b1 := hfr.b1
    clear hout
    go_wp2_with fail
    refine (times_any _ L e 10 _ HO.out.row HO.out.norm.digs (by omega) (by omega) (by omega)).mono ?_
    rintro r w1 ⟨hb1, v1, L1, e1, rfl, o1'⟩
    obtain ⟨ao1, cap1, hv1⟩ := o1'.row.isSlice
    rw [hv1] at o1'
    subst hv1
    have hfr1 := hfr.next hb1
    have of0 := hfr1.of0
    have of1 := hfr1.of1
    have y0 := keep_cell hb1 o0
    have y1 := keep_cell hb1 o1
    have hs := hfr.size
    have hfr2 := hfr1.store (.slice ao1 L1.length cap1) (.int .i64 e1)
    have hc2 := two_cells (x := .slice ao1 L1.length cap1) (y := .int .i64 e1) y0 y1
    have hout2 := (o1'.setCell ⟨w.heap.size + 1 + 1 + 1, 0, none⟩ (.slice ao1 L1.length cap1) (by simp; omega)).setCell ⟨w.heap.size + 1 + 1 + 1, 1, none⟩ (.int .i64 e1) (by simp; omega)
    have l1 := hout2.len
    have bd1 := hout2.bounds 30000 (by omega) (by omega) (by omega)
    obtain ⟨x, hx⟩ : ∃ x, x = Lb.getD i 0 := ⟨_, rfl⟩
    have hx9 : x ≤ 9 := by rw [hx]; exact HRA.out.2.2.digs.getD _
    have HX := hid hx
    have HO2 := hid hout2
    have HFR := hid hfr2
    have HC2 := hid hc2
    have HSZ := hid (show wr.heap.size ≤ w1.heap.size from hb1.size)
    clear hx b0 b1 hfr hfr1 o0 o1 hb1 o1' hout2 hfr2 hc2
    go_upto_region 6 with fail
    generalize (w1.setCell ⟨w.heap.size + 1 + 1 + 1, 0, none⟩ (.slice ao1 L1.length cap1)).setCell ⟨w.heap.size + 1 + 1 + 1, 1, none⟩ (.int .i64 e1) = W2 at *
    have a0 := HFR.out.a0
    have a1 := HFR.out.a1
    have b0 := HFR.out.b0
    have b1 := HFR.out.b1
    have hs2 := HFR.out.size
    have hbw := HFR.out.below
    have cx : W2.cell? ⟨bb', off + i, none⟩ = some (.int .i64 x) := by
     rw [hbw.cell (p := ⟨bb', off + i, none⟩) (by exact q3), HX.out]; exact H4.out i hlt
    have lt0 : w.heap.size < W2.heap.size := by omega
    have lt1 : w.heap.size + 1 < W2.heap.size := by omega
    have lt2 : bb' < W2.heap.size := by omega
    have i0 : (0 : Int) ≤ (i : Int) := by omega
    have i1 : (i : Int) < (n : Int) := by omega
    clear hbw of0 of1 y0 y1
    go_cut [7] (fun s wx => Boxed W2.heap.size s wx 1017 0 2017 (fun K => val K La ea * x) ∧ Below W2.heap.size W2 wx)
    case first =>
     have HRAW : Hid (∀ W, Below W2.heap.size W2 W → Row W (.slice aa La.length ca) La) := fun W hW => HRA.out.1.below (HFR.out.below.trans (hW.mono (by omega))) (Nat.le_refl _)
     go_region_with (go_at_call 73; refine (times_any _ La ea x _ (HRAW.out _ (by first | exact (Below.refl _ _).drew | exact ((Below.refl _ _).alloc (Nat.le_refl _) _).drew)) HRA.out.2.1.digs (by omega) (by omega) (by omega)).mono ?_; rintro r w2 ⟨hb6, v2, L2, e2, rfl, hout⟩; obtain ⟨ao2, cap2, hv2⟩ := hout.row.isSlice; rw [hv2] at hout; subst hv2; (first | (refine after_alloc_then hb6 ?_; intro q0 q1 q2 q3 q4) | skip))
     all_goals (go_wp2_with fail; go_meet)
     all_goals first
      | exact boxed_after (Below.refl _ _) (Nat.le_refl _) (Nat.le_refl _) hb6 hout (by omega) (by omega) (by omega) (fun _ _ => rfl)
      | exact boxed_ahead (Below.refl _ _) (Nat.le_refl _) (Nat.le_refl _) hb6 hout (by omega) (by omega) (by omega) (fun _ _ => rfl)
    case rest =>
     obtain ⟨⟨g, ao2, cap2, L2, e2, rfl, hg, cg0, cg1, hout3⟩, hb7⟩ := hcut
     have hl3 := hout3.len
     have bd3 := hout3.bounds 30000 (by omega) (by omega) (by omega)
     have hfr3 := HFR.out.next hb7
     have p0 := keep_cell hb7 HC2.out.1
     have p1 := keep_cell hb7 HC2.out.2
     have hout2 := HO2.out.below hb7 (Nat.le_refl _)
     have HO3 := hid hout3
     have HO2' := hid hout2
     clear hout3 hout2 a0 a1 b0 b1 cx lt0 lt1 lt2
     go_wp2_with fail
     refine (add_any _ _ L1 L2 e1 e2 _ HO2'.out.row HO3.out.row HO2'.out.norm HO3.out.norm HO2'.out.nil HO3.out.nil (by omega) (by omega) (by omega) (by omega)).mono ?_
     rintro r w3 ⟨hb8, v4, L4, e4, rfl, o4⟩
     obtain ⟨ao4, cap4, hv4⟩ := o4.row.isSlice
     rw [hv4] at o4
     subst hv4
     have hfr4 := hfr3.next hb8
     have of0 := hfr4.of0
     have of1 := hfr4.of1
     have y0 := keep_cell hb8 p0
     have y1 := keep_cell hb8 p1
     have hfr5 := hfr4.store (.slice ao4 L4.length cap4) (.int .i64 e4)
     have hc5 := two_cells (x := .slice ao4 L4.length cap4) (y := .int .i64 e4) y0 y1
     have hs5 := hfr4.size
     have hs6 : W2.heap.size ≤ wc.heap.size := hb7.size
     have HST := hid (And.intro hfr5 (And.intro hc5 o4))
     clear cg0 cg1 p0 p1 hb8 hfr3 hfr4 hfr5 hc5 o4 hb7
     go_wp2
     go_roundw
     case rel => exact ⟨i + 1, ao4, cap4, L4, e4, by go_num, by omega, HST.out.1, HST.out.2.1.1, HST.out.2.1.2, ((prod_step (B := w.heap.size + 4) HO.out HO2'.out HO3.out HST.out.2.2 HX.out (by rw [← HN.out]; exact hlt) HRA.out.2.1.digs HRA.out.2.2.digs ba.1 (by have := HSZ.out; omega) (by omega) (by have := hs5; omega)).setCell _ _ (by simp <;> omega)).setCell _ _ (by simp <;> omega)⟩
     case measure => simp [intOf]; omega
   ·have hin : i = n := by omega
    have HIN := hid hin
    have hl := hout.len
    have hbd := hout.bounds 20000 (by omega) (by omega) (by omega)
    have hs := hfr.size
    have b0 := hfr.b0
    have b1 := hfr.b1
    have of0 := hfr.of0
    have of1 := hfr.of1
    have hfr2 := hfr.store1 (.int .i64 (e + eb))
    have hout2 := hout.setCell ⟨w.heap.size + 1 + 1 + 1, 1, none⟩ (.int .i64 (e + eb)) (by simp <;> omega)
    have he0 : 0 ≤ e := by
     by_cases h0 : L = []
     ·rw [hout.nil h0]; omega
     ·exact (hout.ne h0).1
    have hhi : e + L.length ≤ 8000 := by
     by_cases h0 : L = []
     ·rw [hout.nil h0, h0]; simp
     ·have := (hout.ne h0).2; omega
    have HO := hid hout
    have HO2 := hid hout2
    have HS2 := hid hfr2
    clear hout hin hfr hfr2 hout2
    go_wp2_with fail
    refine (made_any _ L (e + eb) _ HO2.out.row HO.out.norm.digs (by omega) (by omega)).mono ?_
    rintro r w1 ⟨hb1, v', L', e', rfl, hout3⟩
    have hfr3 := HS2.out.next hb1
    have r0 := hfr3.r0
    have r1 := hfr3.r1
    have rf0 := hfr3.rf0
    have rf1 := hfr3.rf1
    obtain ⟨ao', cp, hv⟩ := hout3.row.isSlice
    rw [hv] at hout3
    subst hv
    have HB := hid hfr3.below
    clear b0 b1 of0 of1 hb1 hfr3 o0 o1
    go_wp2
    refine bodyPost_ret (v := .agg #[.slice ao' L'.length cp, .int .i64 e']) (dec_results rfl _ _ (w.heap.size + 1 + 1) _ _ rfl (two_cells r0 r1).1 (two_cells r0 r1).2) rfl ⟨below_two HB.out (by omega) _ _, _, L', e', rfl, ?_⟩
    have hval : ∀ K : Nat, -(K : Int) ≤ 0 → val K L e = val K La ea * num Lb := fun K hK => by
     have h1 := HO.out.val K hK
     rw [HIN.out, HN.out, List.take_length] at h1
     exact h1
    have h9 : Out w1 (.slice ao' L'.length cp) L' e' 20000 (min eb 0) 20000 (fun g => w.heap.size + 4 ≤ g) (fun K => num La * num Lb * 10 ^ (ea + eb + K).toNat) :=
     hout3.mono (by omega) (by omega) (by omega) (fun g hg => HO.out.own g hg) (fun K hK => prod_end hval hK he0 ba.1)
    exact ((h9.setCell _ _ (by simp <;> omega)).setCell _ _ (by simp <;> omega)).mono (Nat.le_refl _) (Int.le_refl _) (Int.le_refl _) (fun g hg => by omega) (fun _ _ => rfl)

end Go.Proofs.YtbkdaoicnobllabGreatDoor
