import Derived.Test.YtbkdaoicnobllabGreatDoorG07
import Derived.Test.YtbkdaoicnobllabGreatDoorG14
import Derived.Test.YtbkdaoicnobllabGreatDoorG08
import Derived.Test.YtbkdaoicnobllabGreatDoorG04
import Derived.Test.YtbkdaoicnobllabGreatDoorG13

namespace Go.Proofs.YtbkdaoicnobllabGreatDoor
open Go.RowKit

theorem pExpF (cv : Value) (f x prec mode : Int) (hf : 0 ≤ f ∧ f ≤ 2) (h1 : -9223372036854775808 ≤ x) (h2 : x ≤ 9223372036854775807) (w : World) (ht : Tab w) : Calls Tryz.prog 21 #[cv, .int .i64 x, .int .i64 f, .int .i64 2, .int .i64 prec, .int .i64 mode] w fun r w' => FmtPost f x 2 prec mode w w' r (ExpQ (awayB mode (negI f x)) (valA 3000 f (amtI f x).toNat) prec.toNat) :=
 pformat_any cv f x 2 prec mode _ hf h1 h2 w ht (fun ha a hA hlt w hw => by
  obtain ⟨p1, p2, p3, p4⟩ := allow_exact (by omega) ha
  have := numExp_any f hf a (negI f x) prec mode p1 p2 hlt w hw
  rw [show (amtI f x).toNat = a from by omega]; exact this)
theorem pFixF (cv : Value) (f x prec mode : Int) (hf : 0 ≤ f ∧ f ≤ 2) (h1 : -9223372036854775808 ≤ x) (h2 : x ≤ 9223372036854775807) (w : World) (ht : Tab w) : Calls Tryz.prog 21 #[cv, .int .i64 x, .int .i64 f, .int .i64 3, .int .i64 prec, .int .i64 mode] w fun r w' => FmtPost f x 3 prec mode w w' r (FixQ (awayB mode (negI f x)) (valA 3000 f (amtI f x).toNat) prec.toNat) :=
 pformat_any cv f x 3 prec mode _ hf h1 h2 w ht (fun ha a hA hlt w hw => by
  obtain ⟨p1, p2, p3, p4⟩ := allow_exact (by omega) ha
  have := numFix_any f hf a (negI f x) prec mode p1 p2 hlt w hw
  rw [show (amtI f x).toNat = a from by omega]; exact this)
end Go.Proofs.YtbkdaoicnobllabGreatDoor

namespace Go.Proofs.YtbkdaoicnobllabGreatDoor
open Go.RowKit

theorem phexF (cv : Value) (f x prec mode : Int) (hf : 0 ≤ f ∧ f ≤ 2) (h1 : -9223372036854775808 ≤ x) (h2 : x ≤ 9223372036854775807) (w : World) (ht : Tab w) : Calls Tryz.prog 21 #[cv, .int .i64 x, .int .i64 f, .int .i64 4, .int .i64 prec, .int .i64 mode] w fun r w' => FmtPost f x 4 prec mode w w' r (HexQ f (amtI f x).toNat) :=
 pformat_any cv f x 4 prec mode _ hf h1 h2 w ht (fun _ a hA hlt w hw => by
  have := numHex_any f hf a (negI f x) prec mode hlt w hw
  rw [show (amtI f x).toNat = a from by omega]; exact this)
end Go.Proofs.YtbkdaoicnobllabGreatDoor

namespace Go.Proofs.YtbkdaoicnobllabGreatDoor

open Go.RowKit in
theorem after_alloc {w w2 : World} {x y : Value} {t : TypeId} (h : Below (w.alloc (.cells #[x, y] t)).drew.heap.size (w.alloc (.cells #[x, y] t)).drew w2) :
  w2.cell? ⟨w.heap.size, 0, none⟩ = some x ∧ w2.cell? ⟨w.heap.size, 1, none⟩ = some y ∧ w2.frozen? ⟨w.heap.size, 0, none⟩ = false ∧ w2.frozen? ⟨w.heap.size, 1, none⟩ = false ∧ w.heap.size < w2.heap.size := by
 have hz : (w.alloc (.cells #[x, y] t)).drew.heap.size = w.heap.size + 1 := by simp [World.drew]
 rw [hz] at h
 refine ⟨?_, ?_, ?_, ?_, ?_⟩
 ·exact (h.cell (p := ⟨w.heap.size, 0, none⟩) (by simp)).trans (by simp [go_sem])
 ·exact (h.cell (p := ⟨w.heap.size, 1, none⟩) (by simp)).trans (by simp [go_sem])
 ·exact (h.frozen (p := ⟨w.heap.size, 0, none⟩) (by simp)).trans (by simp [go_sem])
 ·exact (h.frozen (p := ⟨w.heap.size, 1, none⟩) (by simp)).trans (by simp [go_sem])
 ·have := h.size; rw [hz] at this; omega

open Go.RowKit in
theorem after_alloc_then {w w2 : World} {x y : Value} {t : TypeId} {C : Prop} (h : Below (w.alloc (.cells #[x, y] t)).drew.heap.size (w.alloc (.cells #[x, y] t)).drew w2)
  (k : w2.cell? ⟨w.heap.size, 0, none⟩ = some x → w2.cell? ⟨w.heap.size, 1, none⟩ = some y → w2.frozen? ⟨w.heap.size, 0, none⟩ = false → w2.frozen? ⟨w.heap.size, 1, none⟩ = false → w.heap.size < w2.heap.size → C) : C :=
 have a := after_alloc h
 k a.1 a.2.1 a.2.2.1 a.2.2.2.1 a.2.2.2.2

open Go.RowKit in
def Boxed (b : Nat) (s : Value) (wx : World) (len : Nat) (lo hi : Int) (V : Nat → Nat) : Prop :=
 ∃ g ao cap L e, s = .pointer (some ⟨g, 0, none⟩) ∧ g < wx.heap.size ∧ wx.cell? ⟨g, 0, none⟩ = some (.slice ao (List.length L) cap) ∧ wx.cell? ⟨g, 1, none⟩ = some (.int .i64 e) ∧ Out wx (.slice ao (List.length L) cap) L e len lo hi (fun g => b ≤ g) V
open Go.RowKit in
theorem boxed_after {B0 b : Nat} {W0 wr w2 : World} {ao : Option Addr} {cap : Nat} {L : List Nat} {e : Int} {len len' : Nat} {lo hi lo' hi' : Int} {V V' : Nat → Nat} {t : TypeId} (hb : Below B0 W0 wr) (hB : B0 ≤ wr.heap.size) (hbb : b ≤ wr.heap.size)
  (hb6 : Below wr.drew.heap.size wr.drew w2) (ho : Out w2 (.slice ao L.length cap) L e len lo hi (fun g => wr.drew.heap.size ≤ g) V) (h1 : len ≤ len') (h2 : lo' ≤ lo) (h3 : hi ≤ hi') (h5 : ∀ K : Nat, -(K : Int) ≤ lo' → V K = V' K) :
  Boxed b (.pointer (some ⟨w2.heap.size, 0, none⟩)) (w2.alloc (.cells #[.slice ao L.length cap, .int .i64 e] t)) len' lo' hi' V' ∧ Below B0 W0 (w2.alloc (.cells #[.slice ao L.length cap, .int .i64 e] t)) := by
 have hz : wr.drew.heap.size = wr.heap.size := rfl
 have hs := hb6.size
 refine ⟨⟨_, ao, cap, L, e, rfl, by simp, by simp [go_sem], by simp [go_sem], ?_⟩, ?_⟩
 ·exact (ho.below ((Below.refl w2.heap.size w2).alloc (Nat.le_refl _) _) (Nat.le_refl _)).mono h1 h2 h3 (fun g hg => by omega) h5
 ·exact (hb.trans ((Below.refl _ _).drew.trans (hb6.mono (by omega)))).alloc (by omega) _
open Go.RowKit in
theorem boxed_ahead {B0 b : Nat} {W0 wr w2 : World} {ao : Option Addr} {cap : Nat} {L : List Nat} {e : Int} {len len' : Nat} {lo hi lo' hi' : Int} {V V' : Nat → Nat} {t : TypeId} {x y : Value} (hb : Below B0 W0 wr) (hB : B0 ≤ wr.heap.size) (hbb : b ≤ wr.heap.size)
  (hb6 : Below (wr.alloc (.cells #[x, y] t)).drew.heap.size (wr.alloc (.cells #[x, y] t)).drew w2) (ho : Out w2 (.slice ao L.length cap) L e len lo hi (fun g => (wr.alloc (.cells #[x, y] t)).drew.heap.size ≤ g) V) (h1 : len ≤ len') (h2 : lo' ≤ lo) (h3 : hi ≤ hi') (h5 : ∀ K : Nat, -(K : Int) ≤ lo' → V K = V' K) :
  Boxed b (.pointer (some ⟨wr.heap.size, 0, none⟩)) ((w2.setCell ⟨wr.heap.size, 0, none⟩ (.slice ao L.length cap)).setCell ⟨wr.heap.size, 1, none⟩ (.int .i64 e)) len' lo' hi' V' ∧
   Below B0 W0 ((w2.setCell ⟨wr.heap.size, 0, none⟩ (.slice ao L.length cap)).setCell ⟨wr.heap.size, 1, none⟩ (.int .i64 e)) := by
 obtain ⟨q0, q1, q2, q3, q4⟩ := after_alloc hb6
 have hz : (wr.alloc (.cells #[x, y] t)).drew.heap.size = wr.heap.size + 1 := by simp [World.drew]
 refine ⟨⟨_, ao, cap, L, e, rfl, by simpa [World.setCell] using q4, (two_cells q0 q1).1, (two_cells q0 q1).2, ?_⟩, ?_⟩
 ·exact ((ho.setCell _ _ (by simp [hz])).setCell _ _ (by simp [hz])).mono h1 h2 h3 (fun g hg => by omega) h5
 ·exact below_two (hb.trans (((Below.refl _ _).alloc hB _).drew.trans (hb6.mono (by omega)))) hB _ _

end Go.Proofs.YtbkdaoicnobllabGreatDoor

namespace Go.Proofs.YtbkdaoicnobllabGreatDoor
set_option maxRecDepth 100000
set_option maxHeartbeats 1000000
open Go.RowKit

theorem cmp_any (v1 v2 : Value) (L1 L2 : List Nat) (e1 e2 : Int) (K : Nat) (w : World) (r1 : Row w v1 L1) (r2 : Row w v2 L2) (n1 : Norm L1) (n2 : Norm L2) (l1 : L1.length ≤ 400000) (l2 : L2.length ≤ 400000)
  (b1 : -400000 ≤ e1 ∧ e1 ≤ 400000) (b2 : -400000 ≤ e2 ∧ e2 ≤ 400000) (k1 : -(K : Int) ≤ e1) (k2 : -(K : Int) ≤ e2) :
  Calls Tryz.prog 80 #[.agg #[v1, .int .i64 e1], .agg #[v2, .int .i64 e2]] w fun r w' => Below w.heap.size w w' ∧ r = .returned (.int .i64 (cmpN (val K L1 e1) (val K L2 e2))) := by
 obtain ⟨a1, c1, hv1⟩ := r1.isSlice
 obtain ⟨a2, c2, hv2⟩ := r2.isSlice
 subst hv1 hv2
 by_cases hz1 : L1.length = 0
 ·have h10 := List.length_eq_zero_iff.1 hz1
  by_cases hz2 : L2.length = 0
  ·have h20 := List.length_eq_zero_iff.1 hz2
   have HC : Hid (cmpN (val K L1 e1) (val K L2 e2) = 0) := cmpN_eq (by rw [h10, h20, val_nil, val_nil])
   clear r1 r2 h10 h20
   rw [hz1, hz2]
   go_enter Tryz.func80, Tryz.ntmps80
   go_wp2
   go_ret
   exact ⟨((Below.refl _ _).alloc (Nat.le_refl _) _).alloc (by simp) _, ret_int (by rw [HC.out])⟩
  ·have HC : Hid (cmpN (val K L1 e1) (val K L2 e2) = -1) := cmpN_lt (by rw [h10, val_nil]; exact val_pos n2 (by omega) K e2)
   have hp2 : (((L2.length : Int)) == 0) = false := beq_eq_false_iff_ne.2 (by omega)
   clear r1 r2 h10
   rw [hz1]
   go_enter Tryz.func80, Tryz.ntmps80
   go_wp2
   go_ret
   exact ⟨((Below.refl _ _).alloc (Nat.le_refl _) _).alloc (by simp) _, ret_int (by rw [HC.out])⟩
 ·have hp1 : (((L1.length : Int)) == 0) = false := beq_eq_false_iff_ne.2 (by omega)
  by_cases hz2 : L2.length = 0
  ·have h20 := List.length_eq_zero_iff.1 hz2
   have HC : Hid (cmpN (val K L1 e1) (val K L2 e2) = 1) := cmpN_gt (by rw [h20, val_nil]; exact val_pos n1 (by omega) K e1)
   clear r1 r2 h20
   rw [hz2]
   go_enter Tryz.func80, Tryz.ntmps80
   go_wp2
   go_ret
   exact ⟨((Below.refl _ _).alloc (Nat.le_refl _) _).alloc (by simp) _, ret_int (by rw [HC.out])⟩
  ·have hp2 : (((L2.length : Int)) == 0) = false := beq_eq_false_iff_ne.2 (by omega)
   have HR : Hid (Row w (.slice a1 L1.length c1) L1 ∧ Row w (.slice a2 L2.length c2) L2 ∧ Norm L1 ∧ Norm L2) := ⟨r1, r2, n1, n2⟩
   clear r1 r2 n1 n2
   go_enter Tryz.func80, Tryz.ntmps80
   go_wp2_with fail
   refine (top_any _ L1 e1 _ (HR.out.1.below box4_below (Nat.le_refl _)) (by omega) (by omega)).mono ?_
   rintro r w3 ⟨rfl, hb3⟩
   have hb := box4_start hb3
   clear hb3
   obtain ⟨x1, x2, x3, x4, _, _, _, _, hs⟩ := box4 hb
   go_wp2_with fail
   refine (top_any _ L2 e2 _ (HR.out.2.1.below (box4_up hb) (Nat.le_refl _)) (by omega) (by omega)).mono ?_
   rintro r w4 ⟨rfl, hb4⟩
   have hb := below_next hb hb4 hs
   clear x1 x2 x3 x4 hs hb4
   obtain ⟨x1, x2, x3, x4, _, _, _, _, hs⟩ := box4 hb
   go_wp2_with fail
   refine (least_any e1 e2 w4).mono ?_
   rintro r w5 ⟨rfl, rfl⟩
   go_wp2_with fail
   refine (most_any _ _ w5).mono ?_
   rintro r w6 ⟨rfl, rfl⟩
   clear x1 x2 x3 x4 hs
   go_wp2_with fail
   go_loopw [8] (fun p wr => ∃ P : Int, p = .int .i64 P ∧ min e1 e2 - 1 ≤ P ∧ P ≤ max (e1 + L1.length - 1) (e2 + L2.length - 1) ∧ Hid (val K L1 e1 / 10 ^ (P + 1 + K).toNat = val K L2 e2 / 10 ^ (P + 1 + K).toNat) ∧
     Below (w.heap.size + 2) ((w.alloc (.cells #[.slice a1 L1.length c1, .int .i64 e1] 95)).alloc (.cells #[.slice a2 L2.length c2, .int .i64 e2] 95)) wr)
    (fun p _ => (intOf p - min e1 e2 + 1).toNat)
   case atStart =>
    refine ⟨_, rfl, by omega, by omega, ?_, hb⟩
    unfold Hid
    rw [val_hi HR.out.2.2.1.digs K e1 _ (by omega) k1, val_hi HR.out.2.2.2.digs K e2 _ (by omega) k2]
   case round =>
    obtain ⟨P, rfl, hP1, hP2, HV, hbr⟩ := hrel
    obtain ⟨x1, x2, x3, x4, _, _, _, _, hs⟩ := box4 hbr
    by_cases hge : min e1 e2 ≤ P
    ·have hst := cmp_step HR.out.2.2.1.digs HR.out.2.2.2.digs k1 k2 (by omega) HV.out
     have q1 := dig_le HR.out.2.2.1.digs e1 P
     have q2 := dig_le HR.out.2.2.2.digs e2 P
     go_wp2_with fail
     refine (at_any _ L1 e1 P _ (HR.out.1.below (box4_up hbr) (Nat.le_refl _)) (by omega) (by omega) (by omega)).mono ?_
     rintro r w7 ⟨rfl, hb7⟩
     have hb8 := below_next hbr hb7 hs
     clear x1 x2 x3 x4 hs hb7 hbr
     obtain ⟨x1, x2, x3, x4, _, _, _, _, hs⟩ := box4 hb8
     go_wp2_with fail
     refine (at_any _ L2 e2 P _ (HR.out.2.1.below (box4_up hb8) (Nat.le_refl _)) (by omega) (by omega) (by omega)).mono ?_
     rintro r w8 ⟨rfl, hb9⟩
     have hb10 := below_next hb8 hb9 hs
     clear x1 x2 x3 x4 hs hb9 hb8
     generalize hd1 : dig L1 e1 P = d1 at *
     generalize hd2 : dig L2 e2 P = d2 at *
     clear hd1 hd2
     have HST : Hid ((d1 = d2 → val K L1 e1 / 10 ^ (P + K).toNat = val K L2 e2 / 10 ^ (P + K).toNat) ∧ (d1 < d2 → val K L1 e1 < val K L2 e2) ∧ (d2 < d1 → val K L2 e2 < val K L1 e1)) := hst
     clear hst
     by_cases hgt : d2 < d1
     ·go_wp2
      go_ret
      exact ⟨box4_up hb10, ret_int (cmpN_gt (HST.out.2.2 hgt)).symm⟩
     ·by_cases hlt : d1 < d2
      ·go_wp2
       go_ret
       exact ⟨box4_up hb10, ret_int (cmpN_lt (HST.out.2.1 hlt)).symm⟩
      ·go_wp2
       go_roundw
       case rel => exact ⟨P - 1, rfl, by omega, by omega, by have := HST.out.1 (by omega); unfold Hid; rw [show P - 1 + 1 + (K : Int) = P + K from by omega]; exact this, hb10⟩
       case measure => simp [intOf]; omega
    ·have HEQ : Hid (val K L1 e1 = val K L2 e2) := cmp_done k1 k2 (by have := HV.out; rw [show P + 1 + (K : Int) = min e1 e2 + K from by omega] at this; exact this)
     clear x1 x2 x3 x4 hs
     go_wp2
     go_ret
     exact ⟨box4_up hbr, ret_int (cmpN_eq HEQ.out).symm⟩

end Go.Proofs.YtbkdaoicnobllabGreatDoor
