import Derived.Test.YtbkdaoicnobllabGreatDoorG31

namespace Go.Proofs.YtbkdaoicnobllabGreatDoor
set_option maxRecDepth 100000
set_option maxHeartbeats 2000000
open Go.RowKit

structure Run (s : ByteArray) (base a k : Nat) : Prop where
 ge : a ≤ k
 le : k ≤ s.size
 all : ∀ c, c ∈ cut (chs s) a k → 0 ≤ digV c base
theorem Run.refl {s : ByteArray} {base a : Nat} (h : a ≤ s.size) : Run s base a a := ⟨Nat.le_refl _, h, fun c hc => by rw [cut_self] at hc; simp at hc⟩
theorem Run.step {s : ByteArray} {base a k : Nat} (h : Run s base a k) (hk : k < s.size) (hd : 0 ≤ digV ((chs s).getD k 0) base) : Run s base a (k + 1) :=
 ⟨by have := h.ge; omega, hk, fun c hc => by
  rw [cut_snoc _ _ _ h.ge (by rw [chs_length]; exact hk)] at hc
  rcases List.mem_append.1 hc with hc | hc
  ·exact h.all c hc
  ·rw [List.mem_singleton.1 hc]; exact hd⟩
def RunEnd (s : ByteArray) (base a k : Nat) : Prop := Run s base a k ∧ (k < s.size → digV ((chs s).getD k 0) base = -1)
theorem digV_bd (x base : Nat) : digV x base = -1 ∨ (0 ≤ digV x base ∧ digV x base ≤ 15) := by
 unfold digV; split
 ·omega
 ·split <;> omega
theorem digV_ten {x : Nat} (h : 0 ≤ digV x 10) : digV x 10 = ((x - 48 : Nat) : Int) ∧ x - 48 ≤ 9 := by
 unfold digV at h ⊢
 split at h
 ·rename_i h1; rw [if_pos h1]; omega
 ·simp at h
theorem sgnL_le {s : ByteArray} {a : Nat} (ha : a ≤ s.size) : sgnL s a ≤ s.size := by
 unfold sgnL; split
 ·rename_i h1; rcases h1 with h1 | h1 <;> (have := atB_lt h1; omega)
 ·exact ha
theorem RPost.meas {w w' : World} {b k : Nat} {s : ByteArray} (h : RPost w w' b s k) : intOf ((w'.cell? ⟨b, 1, none⟩).getD undef) = (k : Int) := by rw [h.rdr.c1]; rfl

theorem power_read (b a a1 : Nat) (ng : Bool) (s : ByteArray) (w : World) (h : RdrAt w b s a) (ha : a ≤ s.size) (hs : s.size ≤ 900) (e1 : sgnL s a = a1) (e2 : atB s a 45 = ng) :
  Calls Tryz.prog 104 #[.pointer (some ⟨b, 0, none⟩)] w fun e w' => ∃ k, RPost w w' b s k ∧ RunEnd s 10 a1 k ∧
   e = .returned (.tuple #[.int .i64 (sgnI ng (capPow (cut (chs s) a1 k))), .bool (decide (a1 < k))]) := by
 have HX := hid (sign_any b a s w h ha hs)
 have hal := sgnL_le ha
 rw [e1] at HX hal
 rw [e2] at HX
 clear h e1 e2
 go_enter Tryz.func104, Tryz.ntmps104
 go_wp2_with fail
 refine HX.out.mono ?_
 rintro e w0 ⟨rfl, h0⟩
 have H0 := hid h0
 have c1 := h0.rdr.c1
 clear HX h0
 go_wp2
 go_loopw [6, 7] (fun pp _dd wr => ∃ (k : Nat) (p : Int), pp = .int .i64 p ∧ k ≤ s.size ∧ 0 ≤ p ∧ p ≤ 20000000 ∧ Hid (p = (capPow (cut (chs s) a1 k) : Nat)) ∧ Hid (Run s 10 a1 k) ∧ Hid (RPost w wr b s k)) (fun _ _ wr => s.size - (intOf ((wr.cell? ⟨b, 1, none⟩).getD undef)).toNat)
 case atStart => exact ⟨a1, 0, rfl, hal, by omega, by omega, by unfold Hid; rw [cut_self]; rfl, Run.refl hal, H0.out⟩
 case round =>
  clear c1 H0
  obtain ⟨k, p, rfl, hk, hp0, hp, HP, HR, HW⟩ := hrel
  have HM := hid HW.out.meas
  have c0 := HW.out.rdr.c0
  have c1 := HW.out.rdr.c1
  by_cases hlt : k < s.size
  ·have HG := hid (chs_get s k hlt)
   have hx : s[k].toNat < 256 := s[k].toNat_lt
   have HD : Hid (∀ wx, Calls Tryz.prog 130 #[.int .u8 (s[k].toNat : Nat), .int .i64 10] wx fun e w' => e = .returned (.int .i64 (digV s[k].toNat 10)) ∧ w' = wx) := fun wx => digitValue_any s[k].toNat 10 wx hx
   go_wp2_with fail
   go_quiet (fail)
   have HW1 := hid (HW.out.trans (RPost.still HW.out.rdr ((Still.refl wr).drewN nq)))
   clear c0 c1 HW
   generalize wr.drewN nq = w1 at *
   have c0 := HW1.out.rdr.c0
   have c1 := HW1.out.rdr.c1
   go_wp2_with fail
   go_quiet ((go_at_call 130; exact Calls.quiet_of_same (HD.out _)))
   have HW2 := hid (HW1.out.trans (RPost.still HW1.out.rdr ((Still.refl w1).drewN nq)))
   clear c0 c1 HW1 HD
   generalize w1.drewN nq = w2 at *
   have c0 := HW2.out.rdr.c0
   have c1 := HW2.out.rdr.c1
   have fz := HW2.out.rdr.fz
   rcases digV_bd s[k].toNat 10 with hd | ⟨hd, _⟩
   ·have HE : Hid (RunEnd s 10 a1 k) := ⟨HR.out, fun _ => by rw [HG.out]; exact hd⟩
    rw [hd]
    clear hd HR HG hx
    cases ng
    ·go_wp2_with fail
     go_quiet (fail)
     have HW9 := hid (HW2.out.trans (RPost.still HW2.out.rdr ((Still.refl _).drewN nq)))
     clear c0 c1 HW2
     generalize w2.drewN nq = w9 at *
     go_wp2
     go_ret2
     exact ⟨k, HW9.out, HE.out, by rw [← HP.out]; rfl⟩
    ·go_wp2_with fail
     go_quiet (fail)
     have HW9 := hid (HW2.out.trans (RPost.still HW2.out.rdr ((Still.refl _).drewN nq)))
     clear c0 c1 HW2
     generalize w2.drewN nq = w9 at *
     go_wp2
     go_ret2
     exact ⟨k, HW9.out, HE.out, by rw [← HP.out]; rfl⟩
   ·obtain ⟨hv, hv9⟩ := digV_ten hd
    have HR2 : Hid (Run s 10 a1 (k + 1)) := HR.out.step hlt (by rw [HG.out]; exact hd)
    have HS := hid (cut_snoc (chs s) a1 k HR.out.ge (by rw [chs_length]; exact hlt))
    rw [hv]
    obtain ⟨d, hd2⟩ : ∃ d, d = s[k].toNat - 48 := ⟨_, rfl⟩
    have HD2 := hid hd2
    rw [← hd2] at hv9 ⊢
    clear hd hv hd2 HR hx
    have hdi : (d : Int) ≤ 9 := by omega
    by_cases hc : p < 1000000
    ·have HP2 : Hid (p * 10 + d = (capPow (cut (chs s) a1 (k + 1)) : Nat)) := by
      unfold Hid
      have h1 := HP.out
      rw [HS.out, capPow_snoc, if_pos (by omega), HG.out, h1, HD2.out]; push_cast; rfl
     have t1 : decide (p < 1000000) = true := by simpa using hc
     clear HP HS HG HD2 hv9
     go_wp2
     go_roundw
     case rel =>
      refine ⟨k + 1, p * 10 + d, by go_num, by omega, by omega, by omega, HP2.out, HR2.out, HW2.out.trans ?_⟩
      rw [show (k : Int) + 1 = ((k + 1 : Nat) : Int) from by omega]
      exact HW2.out.rdr.set (k + 1)
     case measure =>
      have hm : intOf (((w2.setCell ⟨b, 1, none⟩ (.int .i64 ((k + 1 : Nat) : Int))).cell? ⟨b, 1, none⟩).getD undef) = ((k + 1 : Nat) : Int) := (HW2.out.rdr.set (k + 1)).meas
      rw [show ((k + 1 : Nat) : Int) = (k : Int) + 1 from by omega] at hm
      rw [HM.out, hm]
      omega
    ·have HP2 : Hid (p = (capPow (cut (chs s) a1 (k + 1)) : Nat)) := by
      unfold Hid
      have h1 := HP.out
      rw [HS.out, capPow_snoc, if_neg (by omega)]; exact h1
     have t1 : decide (p < 1000000) = false := by simpa using hc
     clear HP HS HG HD2 hv9
     go_wp2
     go_roundw
     case rel =>
      refine ⟨k + 1, p, rfl, by omega, hp0, hp, HP2.out, HR2.out, HW2.out.trans ?_⟩
      rw [show (k : Int) + 1 = ((k + 1 : Nat) : Int) from by omega]
      exact HW2.out.rdr.set (k + 1)
     case measure =>
      have hm : intOf (((w2.setCell ⟨b, 1, none⟩ (.int .i64 ((k + 1 : Nat) : Int))).cell? ⟨b, 1, none⟩).getD undef) = ((k + 1 : Nat) : Int) := (HW2.out.rdr.set (k + 1)).meas
      rw [show ((k + 1 : Nat) : Int) = (k : Int) + 1 from by omega] at hm
      rw [HM.out, hm]
      omega
  ·have HE : Hid (RunEnd s 10 a1 k) := ⟨HR.out, fun h => absurd h hlt⟩
   clear HR
   go_wp2_with fail
   go_quiet (fail)
   have HW2 := hid (HW.out.trans (RPost.still HW.out.rdr ((Still.refl wr).drewN nq)))
   clear c0 c1 HW
   generalize wr.drewN nq = w2 at *
   have c0 := HW2.out.rdr.c0
   have c1 := HW2.out.rdr.c1
   cases ng
   ·go_wp2_with fail
    go_quiet (fail)
    have HW9 := hid (HW2.out.trans (RPost.still HW2.out.rdr ((Still.refl _).drewN nq)))
    clear c0 c1 HW2
    generalize w2.drewN nq = w9 at *
    go_wp2
    go_ret2
    exact ⟨k, HW9.out, HE.out, by rw [← HP.out]; rfl⟩
   ·go_wp2_with fail
    go_quiet (fail)
    have HW9 := hid (HW2.out.trans (RPost.still HW2.out.rdr ((Still.refl _).drewN nq)))
    clear c0 c1 HW2
    generalize w2.drewN nq = w9 at *
    go_wp2
    go_ret2
    exact ⟨k, HW9.out, HE.out, by rw [← HP.out]; rfl⟩
end Go.Proofs.YtbkdaoicnobllabGreatDoor

namespace Go.Proofs.YtbkdaoicnobllabGreatDoor
set_option maxRecDepth 100000
set_option maxHeartbeats 3000000
open Go.RowKit

structure NumAt (w : World) (nb : Nat) (kd : Int) (v : Value) (L : List Nat) (pw : Int) : Prop where
 c0 : w.cell? ⟨nb, 0, none⟩ = some (.int .i64 kd)
 c1 : w.cell? ⟨nb, 1, none⟩ = some (.bool false)
 c2 : w.cell? ⟨nb, 2, none⟩ = some v
 c3 : w.cell? ⟨nb, 3, none⟩ = some (.int .i64 pw)
 f2 : w.frozen? ⟨nb, 2, none⟩ = false
 f3 : w.frozen? ⟨nb, 3, none⟩ = false
 own : Own w 0 v L
 apart : v.ownBlock ≠ some nb
structure DPost (w w' : World) (b nb : Nat) (s : ByteArray) (kd pw : Int) (v : Value) (k : Nat) (v' : Value) (L' : List Nat) : Prop where
 rdr : RdrAt w' b s k
 num : NumAt w' nb kd v' L' pw
 vb : v'.ownBlock ≠ some b
 ne : b ≠ nb
 turn : Turn (fun j => j = b ∨ j = nb ∨ v.ownBlock = some j) w w'
 blk : v'.ownBlock = v.ownBlock ∨ ∃ g, v'.ownBlock = some g ∧ w.heap.size ≤ g
theorem Own.heap {w w' : World} {v : Value} {L : List Nat} (h : Own w 0 v L) (hh : ∀ g, v.ownBlock = some g → w'.heap[g]? = w.heap[g]?) : Own w' 0 v L := by
 refine ⟨h.1, ?_⟩
 rcases h.2 with h2 | ⟨g, cap, cur, hv, hg, hb, r⟩
 ·exact .inl h2
 ·exact .inr ⟨g, cap, cur, hv, hg, by rw [hh g (by rw [hv]; rfl)]; exact hb, r⟩
theorem NumAt.still {w w1 : World} {nb : Nat} {kd pw : Int} {v : Value} {L : List Nat} (h : NumAt w nb kd v L pw) (hs : Still w w1) : NumAt w1 nb kd v L pw :=
 ⟨(hs.cell _).trans h.c0, (hs.cell _).trans h.c1, (hs.cell _).trans h.c2, (hs.cell _).trans h.c3, by rw [World.frozen?_of_block (w := w) (by rw [hs.heap])]; exact h.f2, by rw [World.frozen?_of_block (w := w) (by rw [hs.heap])]; exact h.f3, h.own.heap (fun g _ => by rw [hs.heap]), h.apart⟩
theorem DPost.still {w w1 w2 : World} {b nb k : Nat} {s : ByteArray} {kd pw : Int} {v v' : Value} {L' : List Nat} (h : DPost w w1 b nb s kd pw v k v' L') (hs : Still w1 w2) : DPost w w2 b nb s kd pw v k v' L' :=
 ⟨h.rdr.still hs, h.num.still hs, h.vb, h.ne, h.turn.trans (hs.turn (fun j => j = b ∨ j = nb ∨ v.ownBlock = some j)) (fun _ _ h => h), h.blk⟩
theorem DPost.move {w w1 : World} {b nb k : Nat} {s : ByteArray} {kd pw : Int} {v v' : Value} {L' : List Nat} (h : DPost w w1 b nb s kd pw v k v' L') (k' : Nat) : DPost w (w1.setCell ⟨b, 1, none⟩ (.int .i64 (k' : Nat))) b nb s kd pw v k' v' L' := by
 have hne : nb ≠ b := fun e => h.ne e.symm
 have fr : ∀ i, (w1.setCell ⟨b, 1, none⟩ (.int .i64 (k' : Nat))).frozen? ⟨nb, i, none⟩ = w1.frozen? ⟨nb, i, none⟩ := fun i => by simp [go_sem]
 refine ⟨(h.rdr.set k').rdr, ⟨?_, ?_, ?_, ?_, by rw [fr]; exact h.num.f2, by rw [fr]; exact h.num.f3, h.num.own.heap (fun g hg => Below.heap_setCell _ _ _ _ (fun e => h.vb (by rw [hg, e]))), h.num.apart⟩, h.vb, h.ne, h.turn.setCell _ _ (.inl rfl), h.blk⟩
 ·rw [World.cell?_setCell_other _ _ _ _ (by simp <;> omega)]; exact h.num.c0
 ·rw [World.cell?_setCell_other _ _ _ _ (by simp <;> omega)]; exact h.num.c1
 ·rw [World.cell?_setCell_other _ _ _ _ (by simp <;> omega)]; exact h.num.c2
 ·rw [World.cell?_setCell_other _ _ _ _ (by simp <;> omega)]; exact h.num.c3
theorem DPost.append {w wr w1 : World} {b nb k : Nat} {s : ByteArray} {kd pw : Int} {v v' v2 : Value} {L' L2 : List Nat} {o : Obj} (h : DPost w wr b nb s kd pw v k v' L') (hown2 : Own w1 0 v2 L2) (hgrow : (wr.alloc o).grownBy w1 v'.ownBlock) (hat : v2.ownBlock = v'.ownBlock ∨ ∃ g, v2.ownBlock = some g ∧ wr.heap.size ≤ g) :
  DPost w (w1.setCell ⟨nb, 2, none⟩ v2) b nb s kd pw v k v2 L2 := by
 have hbl : b < wr.heap.size := World.block_lt_of_cell? wr _ h.rdr.c0
 have hnl : nb < wr.heap.size := World.block_lt_of_cell? wr _ h.num.c0
 have far : ∀ (x i : Nat), x < wr.heap.size → v'.ownBlock ≠ some x → w1.cell? ⟨x, i, none⟩ = wr.cell? ⟨x, i, none⟩ := fun x i hx hv => by
  rw [hgrow.cell_far ⟨x, i, none⟩ (by simp; omega) (fun e => hv e.symm), World.cell?_alloc_past _ _ _ hx]
 have ffar : ∀ (x i : Nat), x < wr.heap.size → v'.ownBlock ≠ some x → w1.frozen? ⟨x, i, none⟩ = wr.frozen? ⟨x, i, none⟩ := fun x i hx hv => by
  rw [hgrow.frozen_far ⟨x, i, none⟩ (by simp; omega) (fun e => hv e.symm)]; simp [go_sem, hx]
 have hne : nb ≠ b := fun e => h.ne e.symm
 have v2ne : ∀ x, x < wr.heap.size → v'.ownBlock ≠ some x → v2.ownBlock ≠ some x := fun x hx hv e => by
  rcases hat with g | ⟨g, g1, g2⟩
  ·exact hv (by rw [← g]; exact e)
  ·rw [g1] at e; cases e; omega
 have fr : ∀ x i, (w1.setCell ⟨nb, 2, none⟩ v2).frozen? ⟨x, i, none⟩ = w1.frozen? ⟨x, i, none⟩ := fun x i => by simp [go_sem]
 have ht : Turn (fun j => j = b ∨ j = nb ∨ v.ownBlock = some j) w w1 := (h.turn.below ((Below.refl wr.heap.size wr).alloc (Nat.le_refl _) o)).grown hgrow (fun k hk hkw => by
  rcases h.blk with g | ⟨g, g1, g2⟩
  ·exact .inr (.inr (by rw [← g]; exact hk))
  ·rw [g1] at hk; cases hk; omega)
 refine ⟨⟨?_, ?_, ?_⟩, ⟨?_, ?_, ?_, ?_, ?_, ?_, ?_, ?_⟩, v2ne b hbl h.vb, h.ne, ht.setCell _ _ (.inr (.inl rfl)), ?_⟩
 ·rw [World.cell?_setCell_other _ _ _ _ (by simp <;> omega), far b 0 hbl h.vb]; exact h.rdr.c0
 ·rw [World.cell?_setCell_other _ _ _ _ (by simp <;> omega), far b 1 hbl h.vb]; exact h.rdr.c1
 ·rw [fr, ffar b 1 hbl h.vb]; exact h.rdr.fz
 ·rw [World.cell?_setCell_other _ _ _ _ (by simp), far nb 0 hnl h.num.apart]; exact h.num.c0
 ·rw [World.cell?_setCell_other _ _ _ _ (by simp), far nb 1 hnl h.num.apart]; exact h.num.c1
 ·exact World.cell?_setCell_same' _ _ _ (by rw [far nb 2 hnl h.num.apart, h.num.c2]; rfl)
 ·rw [World.cell?_setCell_other _ _ _ _ (by simp), far nb 3 hnl h.num.apart]; exact h.num.c3
 ·rw [fr, ffar nb 2 hnl h.num.apart]; exact h.num.f2
 ·rw [fr, ffar nb 3 hnl h.num.apart]; exact h.num.f3
 ·exact hown2.heap (fun g hg => Below.heap_setCell _ _ _ _ (fun e => v2ne nb hnl h.num.apart (by rw [hg, e])))
 ·exact v2ne nb hnl h.num.apart
 ·have hs := h.turn.size
  rcases hat with g | ⟨g, g1, g2⟩
  ·rcases h.blk with e | ⟨x, e1, e2⟩
   ·exact .inl (g.trans e)
   ·exact .inr ⟨x, g.trans e1, e2⟩
  ·exact .inr ⟨g, g1, by omega⟩
theorem DPost.meas {w w' : World} {b nb k : Nat} {s : ByteArray} {kd pw : Int} {v v' : Value} {L' : List Nat} (h : DPost w w' b nb s kd pw v k v' L') : intOf ((w'.cell? ⟨b, 1, none⟩).getD undef) = (k : Int) := by rw [h.rdr.c1]; rfl
theorem push_yes {base : Nat} {D : List Nat} {c d : Nat} (h : digV c base = (d : Int)) (hd : 0 < d ∨ 0 < D.length) : push base D c = D ++ [d] := by unfold push; rw [h, if_pos (by omega)]; simp
theorem push_no {base : Nat} {c : Nat} (h : digV c base = 0) : push base [] c = [] := by unfold push; rw [h, if_neg (by simp)]

def DigsPost (w w' : World) (b nb : Nat) (s : ByteArray) (kd pw : Int) (v : Value) (L : List Nat) (base a : Nat) (e : Ending) : Prop :=
 ∃ k v', DPost w w' b nb s kd pw v k v' (pushes base L (cut (chs s) a k)) ∧ RunEnd s base a k ∧ e = .returned (.int .i64 ((k - a : Nat) : Int))

theorem digits_any (b nb a base : Nat) (s : ByteArray) (kd pw : Int) (v : Value) (L : List Nat) (w : World) (h : DPost w w b nb s kd pw v a v L) (ha : a ≤ s.size) (hs : s.size ≤ 900) (hl : L.length ≤ 900) :
  Calls Tryz.prog 103 #[.pointer (some ⟨b, 0, none⟩), .pointer (some ⟨nb, 0, none⟩), .int .i64 base] w fun e w' => DigsPost w w' b nb s kd pw v L base a e := by
 have HH := hid h
 have c1 := h.rdr.c1
 obtain ⟨i0, hi, hz0, hz1, hz2⟩ := info_parts Tryz.info_int
 clear h
 go_enter Tryz.func103, Tryz.ntmps103
 go_wp2
 go_loopw [8] (fun _dd wr => ∃ (k : Nat) (v' : Value) (L' : List Nat), k ≤ s.size ∧ Hid (Run s base a k) ∧ Hid (L' = pushes base L (cut (chs s) a k)) ∧ Hid (DPost w wr b nb s kd pw v k v' L')) (fun _ wr => s.size - (intOf ((wr.cell? ⟨b, 1, none⟩).getD undef)).toNat)
 case atStart => exact ⟨a, v, L, ha, Run.refl ha, by unfold Hid; rw [cut_self]; rfl, HH.out⟩
 case round =>
  clear c1 HH
  obtain ⟨k, v', L', hk, HR, HLL, HW⟩ := hrel
  have HM := hid HW.out.meas
  have c0 := HW.out.rdr.c0
  have c1 := HW.out.rdr.c1
  by_cases hlt : k < s.size
  ·have HG := hid (chs_get s k hlt)
   have hx : s[k].toNat < 256 := s[k].toNat_lt
   have HD : Hid (∀ wx, Calls Tryz.prog 130 #[.int .u8 (s[k].toNat : Nat), .int .i64 base] wx fun e w' => e = .returned (.int .i64 (digV s[k].toNat base)) ∧ w' = wx) := fun wx => digitValue_any s[k].toNat base wx hx
   go_wp2_with fail
   go_quiet (fail)
   have HW1 := hid (HW.out.still ((Still.refl wr).drewN nq))
   clear c0 c1 HW
   generalize wr.drewN nq = w1 at *
   have c0 := HW1.out.rdr.c0
   have c1 := HW1.out.rdr.c1
   go_wp2_with fail
   go_quiet ((go_at_call 130; exact Calls.quiet_of_same (HD.out _)))
   have HW2 := hid (HW1.out.still ((Still.refl w1).drewN nq))
   clear c0 c1 HW1 HD
   generalize w1.drewN nq = w2 at *
   have c0 := HW2.out.rdr.c0
   have c1 := HW2.out.rdr.c1
   have fz := HW2.out.rdr.fz
   rcases digV_bd s[k].toNat base with hd | ⟨hd, hd15⟩
   ·have HE : Hid (RunEnd s base a k) := ⟨HR.out, fun _ => by rw [HG.out]; exact hd⟩
    have hak := HR.out.ge
    rw [hd]
    clear hd HR HG hx
    go_wp2
    go_ret
    exact ⟨k, v', by rw [← HLL.out]; exact HW2.out, HE.out, ret_int (by omega)⟩
   ·have HR2 : Hid (Run s base a (k + 1)) := HR.out.step hlt (by rw [HG.out]; exact hd)
    have HS := hid (cut_snoc (chs s) a k HR.out.ge (by rw [chs_length]; exact hlt))
    obtain ⟨d, hd2⟩ : ∃ d : Nat, (d : Int) = digV s[k].toNat base := ⟨(digV s[k].toNat base).toNat, by omega⟩
    have HDV : Hid (digV s[k].toNat base = (d : Int)) := hd2.symm
    have hd15 : (d : Int) ≤ 15 := by omega
    have n2 := HW2.out.num.c2
    have hnl : nb < w2.heap.size := World.block_lt_of_cell? w2 _ HW2.out.num.c0
    have HLEN : Hid (L'.length ≤ 2000) := by
     unfold Hid
     rw [HLL.out]
     have h1 := pushes_len base L (cut (chs s) a k)
     have h2 : (cut (chs s) a k).length ≤ s.size := by unfold cut; rw [List.length_drop, List.length_take, chs_length]; omega
     omega
    rw [← hd2]
    clear hd hd2 HR hx
    rcases HW2.out.num.own.form with ⟨hL0, hv0⟩ | ⟨g, cap, hv0, _, _, hcap, hcap2⟩
    ·subst hv0
     subst hL0
     have HL := hid (show ([] : List Nat).length = 0 from rfl)
     by_cases hd0 : 0 < d
     ·have hown' : w2.ownsRow 0 3 1 (.slice none 0 0) 0 (ints []) := World.ownsRow_nil _ _ _ _
      have HPOS : Hid (0 < d ∨ 0 < ([] : List Nat).length) := .inl hd0
      have t0 : decide ((0 : Int) < (d : Int)) = true := by simpa using hd0
      go_wp2_with (at_builtin; refine wpList_append_lies _ rfl (.tmp 50) (.tmp 52) 69 rfl 0 3 i0 (.int .i64 0) 1 8 Tryz.underlying69 hi hz0 hz1 hz2 rfl (by decide) _ _ _ rfl (hown'.alloc _) ⟨w2.heap.size, 0, none⟩ 1 1 [.int .i64 (d : Int)] rfl rfl ?c1 ?c2 (by omega) ?c3 ?c4 ?c5 (w2.heap.size + 1) (by simp) ?_)
      case c1 => exact cell_one_new _ _ _
      case c2 => intro u hu; simp at hu; subst hu; rfl
      case c3 => unfold maxLen; omega
      case c4 => omega
      case c5 => omega
      intro g2 cap2 w3 hown1 hgrow hat hlt2
      have hown2 : Own w3 0 (.slice (some ⟨g2, 0, none⟩) (0 + 1) cap2) ([] ++ [d]) := Own.snoc hown1 HL.out rfl
      have HF : Hid (DPost w (w3.setCell ⟨nb, 2, none⟩ (.slice (some ⟨g2, 0, none⟩) (0 + 1) cap2)) b nb s kd pw v k (.slice (some ⟨g2, 0, none⟩) (0 + 1) cap2) ([] ++ [d])) := HW2.out.append hown2 hgrow (by
       rcases hat with hat | hat
       ·first | (exact .inl (by simp [Value.ownBlock] at hat ⊢; first | exact hat | exact hat.symm)) | (simp [Value.ownBlock] at hat)
       ·exact .inr ⟨g2, rfl, by omega⟩)
      obtain ⟨v3, hv3⟩ : ∃ v3 : Value, v3 = .slice (some ⟨g2, 0, none⟩) (0 + 1) cap2 := ⟨_, rfl⟩
      have n2' : w3.cell? ⟨nb, 2, none⟩ = some (.slice none 0 0) := by
       have := HF.out.num.c2
       rw [hgrow.cell_far ⟨nb, 2, none⟩ (by simp; omega) (fun e => HW2.out.num.apart e.symm), World.cell?_alloc_past _ _ _ hnl]; exact n2
      have n2f : w3.frozen? ⟨nb, 2, none⟩ = false := by
       rw [hgrow.frozen_far ⟨nb, 2, none⟩ (by simp; omega) (fun e => HW2.out.num.apart e.symm)]; simp [go_sem, hnl]; exact HW2.out.num.f2
      have b1' : (w3.setCell ⟨nb, 2, none⟩ (.slice (some ⟨g2, 0, none⟩) (0 + 1) cap2)).cell? ⟨b, 1, none⟩ = some (.int .i64 k) := HF.out.rdr.c1
      have b1f : (w3.setCell ⟨nb, 2, none⟩ (.slice (some ⟨g2, 0, none⟩) (0 + 1) cap2)).frozen? ⟨b, 1, none⟩ = false := HF.out.rdr.fz
      obtain ⟨w4, hw4⟩ : ∃ w4, w4 = w3.setCell ⟨nb, 2, none⟩ (.slice (some ⟨g2, 0, none⟩) (0 + 1) cap2) := ⟨_, rfl⟩
      rw [← hw4] at HF b1' b1f
      have HW4 := hid hw4
      have HM2 := hid HF.out.move
      clear hown' hgrow hat hown1 hown2 hv3 c0 c1 n2 hw4
      go_wp2_with (rw [← HW4.out])
      go_wp2
      go_roundw
      case rel =>
       refine ⟨k + 1, .slice (some ⟨g2, 0, none⟩) (0 + 1) cap2, [] ++ [d], by omega, HR2.out, ?_, ?_⟩
       ·unfold Hid; rw [HS.out, pushes_snoc, HG.out, ← HLL.out]; exact (push_yes HDV.out HPOS.out).symm
       ·have := HM2.out (k + 1); rw [show (k : Int) + 1 = ((k + 1 : Nat) : Int) from by omega]; exact this
      case measure =>
       have hm := (HM2.out (k + 1)).meas
       rw [show ((k + 1 : Nat) : Int) = (k : Int) + 1 from by omega] at hm
       rw [HM.out, hm]
       omega

     ·have hdz : d = 0 := by omega
      subst hdz
      have HN : Hid (pushes base L (cut (chs s) a (k + 1)) = []) := by
       unfold Hid
       rw [HS.out, pushes_snoc, HG.out, ← HLL.out]
       exact push_no (by rw [HDV.out]; rfl)
      have HM2 := hid HW2.out.move
      go_wp2
      go_roundw
      case rel =>
       refine ⟨k + 1, .slice none 0 0, [], by omega, HR2.out, HN.out.symm, ?_⟩
       have := HM2.out (k + 1); rw [show (k : Int) + 1 = ((k + 1 : Nat) : Int) from by omega]; exact this
      case measure =>
       have hm := (HM2.out (k + 1)).meas
       rw [show ((k + 1 : Nat) : Int) = (k : Int) + 1 from by omega] at hm
       rw [HM.out, hm]
       omega
    ·obtain ⟨n, hn⟩ : ∃ n, n = L'.length := ⟨_, rfl⟩
     have HL : Hid (L'.length = n) := hn.symm
     have hn2 : n ≤ 2000 := by have := HLEN.out; omega
     rw [← hn] at hv0 hcap
     subst hv0
     unfold maxLen at hcap2
     clear hn
     by_cases hn0 : 0 < n
     ·have hown' : w2.ownsRow 0 3 1 (.slice (some ⟨g, 0, none⟩) n cap) n (ints L') := by have := HW2.out.num.own; unfold Own at this; rwa [HL.out] at this
      have HPOS : Hid (0 < d ∨ 0 < L'.length) := .inr (by rw [HL.out]; exact hn0)
      have t1 : decide ((0 : Int) < (n : Int)) = true := by simpa using hn0
      have hgw : g < w2.heap.size := (hown'.lt g rfl).2
      by_cases hd0 : 0 < d
      ·have t0 : decide ((0 : Int) < (d : Int)) = true := by simpa using hd0
       go_wp2_with (at_builtin; refine wpList_append_lies _ rfl (.tmp 50) (.tmp 52) 69 rfl 0 3 i0 (.int .i64 0) 1 8 Tryz.underlying69 hi hz0 hz1 hz2 rfl (by decide) _ _ _ rfl (hown'.alloc _) ⟨w2.heap.size, 0, none⟩ 1 1 [.int .i64 (d : Int)] rfl rfl ?c1 ?c2 (by omega) ?c3 ?c4 ?c5 (w2.heap.size + 1) (by simp) ?_)
       case c1 => exact cell_one_new _ _ _
       case c2 => intro u hu; simp at hu; subst hu; rfl
       case c3 => unfold maxLen; omega
       case c4 => omega
       case c5 => omega
       intro g2 cap2 w3 hown1 hgrow hat hlt2
       have hown2 : Own w3 0 (.slice (some ⟨g2, 0, none⟩) (n + 1) cap2) (L' ++ [d]) := Own.snoc hown1 HL.out rfl
       have HF : Hid (DPost w (w3.setCell ⟨nb, 2, none⟩ (.slice (some ⟨g2, 0, none⟩) (n + 1) cap2)) b nb s kd pw v k (.slice (some ⟨g2, 0, none⟩) (n + 1) cap2) (L' ++ [d])) := HW2.out.append hown2 hgrow (by
        rcases hat with hat | hat
        ·first | (exact .inl (by simp [Value.ownBlock] at hat ⊢; first | exact hat | exact hat.symm)) | (simp [Value.ownBlock] at hat)
        ·exact .inr ⟨g2, rfl, by omega⟩)
       obtain ⟨v3, hv3⟩ : ∃ v3 : Value, v3 = .slice (some ⟨g2, 0, none⟩) (n + 1) cap2 := ⟨_, rfl⟩
       have n2' : w3.cell? ⟨nb, 2, none⟩ = some (.slice (some ⟨g, 0, none⟩) n cap) := by
        have := HF.out.num.c2
        rw [hgrow.cell_far ⟨nb, 2, none⟩ (by simp; omega) (fun e => HW2.out.num.apart e.symm), World.cell?_alloc_past _ _ _ hnl]; exact n2
       have n2f : w3.frozen? ⟨nb, 2, none⟩ = false := by
        rw [hgrow.frozen_far ⟨nb, 2, none⟩ (by simp; omega) (fun e => HW2.out.num.apart e.symm)]; simp [go_sem, hnl]; exact HW2.out.num.f2
       have b1' : (w3.setCell ⟨nb, 2, none⟩ (.slice (some ⟨g2, 0, none⟩) (n + 1) cap2)).cell? ⟨b, 1, none⟩ = some (.int .i64 k) := HF.out.rdr.c1
       have b1f : (w3.setCell ⟨nb, 2, none⟩ (.slice (some ⟨g2, 0, none⟩) (n + 1) cap2)).frozen? ⟨b, 1, none⟩ = false := HF.out.rdr.fz
       obtain ⟨w4, hw4⟩ : ∃ w4, w4 = w3.setCell ⟨nb, 2, none⟩ (.slice (some ⟨g2, 0, none⟩) (n + 1) cap2) := ⟨_, rfl⟩
       rw [← hw4] at HF b1' b1f
       have HW4 := hid hw4
       have HM2 := hid HF.out.move
       clear hown' hgrow hat hown1 hown2 hv3 c0 c1 n2 hw4
       go_wp2_with (rw [← HW4.out])
       go_wp2
       go_roundw
       case rel =>
        refine ⟨k + 1, .slice (some ⟨g2, 0, none⟩) (n + 1) cap2, L' ++ [d], by omega, HR2.out, ?_, ?_⟩
        ·unfold Hid; rw [HS.out, pushes_snoc, HG.out, ← HLL.out]; exact (push_yes HDV.out HPOS.out).symm
        ·have := HM2.out (k + 1); rw [show (k : Int) + 1 = ((k + 1 : Nat) : Int) from by omega]; exact this
       case measure =>
        have hm := (HM2.out (k + 1)).meas
        rw [show ((k + 1 : Nat) : Int) = (k : Int) + 1 from by omega] at hm
        rw [HM.out, hm]
        omega

      ·have t0 : decide ((0 : Int) < (d : Int)) = false := by simp; omega
       go_wp2_with (at_builtin; refine wpList_append_lies _ rfl (.tmp 50) (.tmp 52) 69 rfl 0 3 i0 (.int .i64 0) 1 8 Tryz.underlying69 hi hz0 hz1 hz2 rfl (by decide) _ _ _ rfl (hown'.alloc _) ⟨w2.heap.size, 0, none⟩ 1 1 [.int .i64 (d : Int)] rfl rfl ?c1 ?c2 (by omega) ?c3 ?c4 ?c5 (w2.heap.size + 1) (by simp) ?_)
       case c1 => exact cell_one_new _ _ _
       case c2 => intro u hu; simp at hu; subst hu; rfl
       case c3 => unfold maxLen; omega
       case c4 => omega
       case c5 => omega
       intro g2 cap2 w3 hown1 hgrow hat hlt2
       have hown2 : Own w3 0 (.slice (some ⟨g2, 0, none⟩) (n + 1) cap2) (L' ++ [d]) := Own.snoc hown1 HL.out rfl
       have HF : Hid (DPost w (w3.setCell ⟨nb, 2, none⟩ (.slice (some ⟨g2, 0, none⟩) (n + 1) cap2)) b nb s kd pw v k (.slice (some ⟨g2, 0, none⟩) (n + 1) cap2) (L' ++ [d])) := HW2.out.append hown2 hgrow (by
        rcases hat with hat | hat
        ·first | (exact .inl (by simp [Value.ownBlock] at hat ⊢; first | exact hat | exact hat.symm)) | (simp [Value.ownBlock] at hat)
        ·exact .inr ⟨g2, rfl, by omega⟩)
       obtain ⟨v3, hv3⟩ : ∃ v3 : Value, v3 = .slice (some ⟨g2, 0, none⟩) (n + 1) cap2 := ⟨_, rfl⟩
       have n2' : w3.cell? ⟨nb, 2, none⟩ = some (.slice (some ⟨g, 0, none⟩) n cap) := by
        have := HF.out.num.c2
        rw [hgrow.cell_far ⟨nb, 2, none⟩ (by simp; omega) (fun e => HW2.out.num.apart e.symm), World.cell?_alloc_past _ _ _ hnl]; exact n2
       have n2f : w3.frozen? ⟨nb, 2, none⟩ = false := by
        rw [hgrow.frozen_far ⟨nb, 2, none⟩ (by simp; omega) (fun e => HW2.out.num.apart e.symm)]; simp [go_sem, hnl]; exact HW2.out.num.f2
       have b1' : (w3.setCell ⟨nb, 2, none⟩ (.slice (some ⟨g2, 0, none⟩) (n + 1) cap2)).cell? ⟨b, 1, none⟩ = some (.int .i64 k) := HF.out.rdr.c1
       have b1f : (w3.setCell ⟨nb, 2, none⟩ (.slice (some ⟨g2, 0, none⟩) (n + 1) cap2)).frozen? ⟨b, 1, none⟩ = false := HF.out.rdr.fz
       obtain ⟨w4, hw4⟩ : ∃ w4, w4 = w3.setCell ⟨nb, 2, none⟩ (.slice (some ⟨g2, 0, none⟩) (n + 1) cap2) := ⟨_, rfl⟩
       rw [← hw4] at HF b1' b1f
       have HW4 := hid hw4
       have HM2 := hid HF.out.move
       clear hown' hgrow hat hown1 hown2 hv3 c0 c1 n2 hw4
       go_wp2_with (rw [← HW4.out])
       go_wp2
       go_roundw
       case rel =>
        refine ⟨k + 1, .slice (some ⟨g2, 0, none⟩) (n + 1) cap2, L' ++ [d], by omega, HR2.out, ?_, ?_⟩
        ·unfold Hid; rw [HS.out, pushes_snoc, HG.out, ← HLL.out]; exact (push_yes HDV.out HPOS.out).symm
        ·have := HM2.out (k + 1); rw [show (k : Int) + 1 = ((k + 1 : Nat) : Int) from by omega]; exact this
       case measure =>
        have hm := (HM2.out (k + 1)).meas
        rw [show ((k + 1 : Nat) : Int) = (k : Int) + 1 from by omega] at hm
        rw [HM.out, hm]
        omega

     ·have hnz : n = 0 := by omega
      subst hnz
      have hL0 : L' = [] := List.length_eq_zero_iff.1 HL.out
      subst hL0
      by_cases hd0 : 0 < d
      ·have hown' : w2.ownsRow 0 3 1 (.slice (some ⟨g, 0, none⟩) 0 cap) 0 (ints []) := HW2.out.num.own
       have HPOS : Hid (0 < d ∨ 0 < ([] : List Nat).length) := .inl hd0
       have hgw : g < w2.heap.size := (hown'.lt g rfl).2
       have t0 : decide ((0 : Int) < (d : Int)) = true := by simpa using hd0
       go_wp2_with (at_builtin; refine wpList_append_lies _ rfl (.tmp 50) (.tmp 52) 69 rfl 0 3 i0 (.int .i64 0) 1 8 Tryz.underlying69 hi hz0 hz1 hz2 rfl (by decide) _ _ _ rfl (hown'.alloc _) ⟨w2.heap.size, 0, none⟩ 1 1 [.int .i64 (d : Int)] rfl rfl ?c1 ?c2 (by omega) ?c3 ?c4 ?c5 (w2.heap.size + 1) (by simp) ?_)
       case c1 => exact cell_one_new _ _ _
       case c2 => intro u hu; simp at hu; subst hu; rfl
       case c3 => unfold maxLen; omega
       case c4 => omega
       case c5 => omega
       intro g2 cap2 w3 hown1 hgrow hat hlt2
       have hown2 : Own w3 0 (.slice (some ⟨g2, 0, none⟩) (0 + 1) cap2) ([] ++ [d]) := Own.snoc hown1 HL.out rfl
       have HF : Hid (DPost w (w3.setCell ⟨nb, 2, none⟩ (.slice (some ⟨g2, 0, none⟩) (0 + 1) cap2)) b nb s kd pw v k (.slice (some ⟨g2, 0, none⟩) (0 + 1) cap2) ([] ++ [d])) := HW2.out.append hown2 hgrow (by
        rcases hat with hat | hat
        ·first | (exact .inl (by simp [Value.ownBlock] at hat ⊢; first | exact hat | exact hat.symm)) | (simp [Value.ownBlock] at hat)
        ·exact .inr ⟨g2, rfl, by omega⟩)
       obtain ⟨v3, hv3⟩ : ∃ v3 : Value, v3 = .slice (some ⟨g2, 0, none⟩) (0 + 1) cap2 := ⟨_, rfl⟩
       have n2' : w3.cell? ⟨nb, 2, none⟩ = some (.slice (some ⟨g, 0, none⟩) 0 cap) := by
        have := HF.out.num.c2
        rw [hgrow.cell_far ⟨nb, 2, none⟩ (by simp; omega) (fun e => HW2.out.num.apart e.symm), World.cell?_alloc_past _ _ _ hnl]; exact n2
       have n2f : w3.frozen? ⟨nb, 2, none⟩ = false := by
        rw [hgrow.frozen_far ⟨nb, 2, none⟩ (by simp; omega) (fun e => HW2.out.num.apart e.symm)]; simp [go_sem, hnl]; exact HW2.out.num.f2
       have b1' : (w3.setCell ⟨nb, 2, none⟩ (.slice (some ⟨g2, 0, none⟩) (0 + 1) cap2)).cell? ⟨b, 1, none⟩ = some (.int .i64 k) := HF.out.rdr.c1
       have b1f : (w3.setCell ⟨nb, 2, none⟩ (.slice (some ⟨g2, 0, none⟩) (0 + 1) cap2)).frozen? ⟨b, 1, none⟩ = false := HF.out.rdr.fz
       obtain ⟨w4, hw4⟩ : ∃ w4, w4 = w3.setCell ⟨nb, 2, none⟩ (.slice (some ⟨g2, 0, none⟩) (0 + 1) cap2) := ⟨_, rfl⟩
       rw [← hw4] at HF b1' b1f
       have HW4 := hid hw4
       have HM2 := hid HF.out.move
       clear hown' hgrow hat hown1 hown2 hv3 c0 c1 n2 hw4
       go_wp2_with (rw [← HW4.out])
       go_wp2
       go_roundw
       case rel =>
        refine ⟨k + 1, .slice (some ⟨g2, 0, none⟩) (0 + 1) cap2, [] ++ [d], by omega, HR2.out, ?_, ?_⟩
        ·unfold Hid; rw [HS.out, pushes_snoc, HG.out, ← HLL.out]; exact (push_yes HDV.out HPOS.out).symm
        ·have := HM2.out (k + 1); rw [show (k : Int) + 1 = ((k + 1 : Nat) : Int) from by omega]; exact this
       case measure =>
        have hm := (HM2.out (k + 1)).meas
        rw [show ((k + 1 : Nat) : Int) = (k : Int) + 1 from by omega] at hm
        rw [HM.out, hm]
        omega

      ·have hdz : d = 0 := by omega
       subst hdz
       have HN : Hid (pushes base L (cut (chs s) a (k + 1)) = []) := by
        unfold Hid
        rw [HS.out, pushes_snoc, HG.out, ← HLL.out]
        exact push_no (by rw [HDV.out]; rfl)
       have HM2 := hid HW2.out.move
       go_wp2
       go_roundw
       case rel =>
        refine ⟨k + 1, .slice (some ⟨g, 0, none⟩) 0 cap, [], by omega, HR2.out, HN.out.symm, ?_⟩
        have := HM2.out (k + 1); rw [show (k : Int) + 1 = ((k + 1 : Nat) : Int) from by omega]; exact this
       case measure =>
        have hm := (HM2.out (k + 1)).meas
        rw [show ((k + 1 : Nat) : Int) = (k : Int) + 1 from by omega] at hm
        rw [HM.out, hm]
        omega
  ·have HE : Hid (RunEnd s base a k) := ⟨HR.out, fun h => absurd h hlt⟩
   have hak := HR.out.ge
   clear HR
   go_wp2_with fail
   go_quiet (fail)
   have HW2 := hid (HW.out.still ((Still.refl wr).drewN nq))
   clear c0 c1 HW
   generalize wr.drewN nq = w2 at *
   have c0 := HW2.out.rdr.c0
   have c1 := HW2.out.rdr.c1
   go_wp2
   go_ret
   exact ⟨k, v', by rw [← HLL.out]; exact HW2.out, HE.out, ret_int (by omega)⟩
end Go.Proofs.YtbkdaoicnobllabGreatDoor
