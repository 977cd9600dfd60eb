import Derived.Test.YtbkdaoicnobllaaDoorGComp

namespace Go.Proofs.YtbkdaoicnobllaaDoor
open Go.RowKit

def holdB (cl : Bool) (X L H : Nat) : Bool := if cl = true then decide (L ≤ X ∧ X ≤ H) else decide (L < X ∧ X < H)
theorem hold_closed (X L H : Nat) : holdB true X L H = (decide (0 ≤ cmpN X L) && decide (0 ≤ cmpN H X)) := by
  unfold holdB cmpN
  rw [if_pos rfl, Bool.eq_iff_iff]
  simp only [decide_eq_true_eq, Bool.and_eq_true]
  repeat' split
  all_goals omega
theorem hold_open (X L H : Nat) : holdB false X L H = (decide (0 < cmpN X L) && decide (0 < cmpN H X)) := by
  unfold holdB cmpN
  rw [if_neg (by decide), Bool.eq_iff_iff]
  simp only [decide_eq_true_eq, Bool.and_eq_true]
  repeat' split
  all_goals omega
set_option maxRecDepth 100000 in
set_option maxHeartbeats 1000000 in
theorem hold_any (l h d : Nat) (vl vh vd : Value) (L H D : List Nat) (el eh ed : Int) (cl : Bool) (w : World) (hl : DecAt w l vl L el) (hh : DecAt w h vh H eh) (hd : DecAt w d vd D ed) :
    Calls Tryd.prog 83 #[.agg #[.pointer (some ⟨l, 0, none⟩), .pointer (some ⟨h, 0, none⟩), .bool cl], .pointer (some ⟨d, 0, none⟩)] w fun r w' => r = .returned (.bool (holdB cl (val 20000 D ed) (val 20000 L el) (val 20000 H eh))) ∧ Below w.heap.size w w' := by
  obtain ⟨W, hW⟩ : ∃ W, W = w.alloc (.cells #[.pointer (some ⟨l, 0, none⟩), .pointer (some ⟨h, 0, none⟩), .bool cl] 97) := ⟨_, rfl⟩
  have hbx : Below w.heap.size w W := by rw [hW]; exact (Below.refl _ _).alloc (Nat.le_refl _) _
  have s0 : W.cell? ⟨w.heap.size, 0, none⟩ = some (.pointer (some ⟨l, 0, none⟩)) := by rw [hW]; simp [go_sem]
  have s1 : W.cell? ⟨w.heap.size, 1, none⟩ = some (.pointer (some ⟨h, 0, none⟩)) := by rw [hW]; simp [go_sem]
  have s2 : W.cell? ⟨w.heap.size, 2, none⟩ = some (.bool cl) := by rw [hW]; simp [go_sem]
  obtain ⟨C1, hC1⟩ : ∃ C1 : Int, C1 = cmpN (val 20000 D ed) (val 20000 L el) := ⟨_, rfl⟩
  obtain ⟨C2, hC2⟩ : ∃ C2 : Int, C2 = cmpN (val 20000 H eh) (val 20000 D ed) := ⟨_, rfl⟩
  have HX1 : Hid (∀ w1, Below w.heap.size w w1 → Calls Tryd.prog 92 #[.pointer (some ⟨d, 0, none⟩), .pointer (some ⟨l, 0, none⟩)] w1 fun r w' => r = .returned (.int .i64 C1) ∧ Still w1 w') := fun w1 hb => by
    rw [hC1]; exact compareD_any d l vd vl D L ed el w1 (hd.below hb) (hl.below hb)
  have HX2 : Hid (∀ w1, Below w.heap.size w w1 → Calls Tryd.prog 92 #[.pointer (some ⟨h, 0, none⟩), .pointer (some ⟨d, 0, none⟩)] w1 fun r w' => r = .returned (.int .i64 C2) ∧ Still w1 w') := fun w1 hb => by
    rw [hC2]; exact compareD_any h d vh vd H D eh ed w1 (hh.below hb) (hd.below hb)
  have HRC : Hid (holdB true (val 20000 D ed) (val 20000 L el) (val 20000 H eh) = (decide (0 ≤ C1) && decide (0 ≤ C2))) := by unfold Hid; rw [hC1, hC2]; exact hold_closed _ _ _
  have HRO : Hid (holdB false (val 20000 D ed) (val 20000 L el) (val 20000 H eh) = (decide (0 < C1) && decide (0 < C2))) := by unfold Hid; rw [hC1, hC2]; exact hold_open _ _ _
  have HBX := hid hbx
  have HWW := hid hW
  clear hl hh hd hC1 hC2 hbx hW
  cases cl
  · go_enter Tryd.func83, Tryd.ntmps83
    go_wp2_with fail
    rw [← HWW.out]
    refine (HX1.out W HBX.out).mono ?_
    rintro r w1 ⟨rfl, hs1⟩
    have HB1 : Hid (Below w.heap.size w w1) := HBX.out.trans (hs1.below _)
    have a0 := (hs1.cell _).trans s0
    have a1 := (hs1.cell _).trans s1
    have a2 := (hs1.cell _).trans s2
    clear hs1 HWW s0 s1 s2
    go_wp2_with fail
    refine (HX2.out w1 HB1.out).mono ?_
    rintro r w2 ⟨rfl, hs2⟩
    have HB2 : Hid (Below w.heap.size w w2) := HB1.out.trans (hs2.below _)
    have b2 := (hs2.cell _).trans a2
    clear hs2 a0 a1 a2
    by_cases q1 : 0 < C1
    · by_cases q2 : 0 < C2
      · have HR : Hid (true = holdB false (val 20000 D ed) (val 20000 L el) (val 20000 H eh)) := by unfold Hid; rw [HRO.out]; simp [q1, q2]
        go_wp2
        go_ret
        exact ⟨ret_bool HR.out, HB2.out⟩
      · have HR : Hid (false = holdB false (val 20000 D ed) (val 20000 L el) (val 20000 H eh)) := by unfold Hid; rw [HRO.out]; simp [q2]
        go_wp2
        go_ret
        exact ⟨ret_bool ((decide_eq_false (by omega)).trans HR.out), HB2.out⟩
    · have HR : Hid (false = holdB false (val 20000 D ed) (val 20000 L el) (val 20000 H eh)) := by unfold Hid; rw [HRO.out]; simp [q1]
      go_wp2
      go_ret
      exact ⟨ret_bool HR.out, HB2.out⟩
  · go_enter Tryd.func83, Tryd.ntmps83
    go_wp2_with fail
    rw [← HWW.out]
    refine (HX1.out W HBX.out).mono ?_
    rintro r w1 ⟨rfl, hs1⟩
    have HB1 : Hid (Below w.heap.size w w1) := HBX.out.trans (hs1.below _)
    have a0 := (hs1.cell _).trans s0
    have a1 := (hs1.cell _).trans s1
    have a2 := (hs1.cell _).trans s2
    clear hs1 HWW s0 s1 s2
    go_wp2_with fail
    refine (HX2.out w1 HB1.out).mono ?_
    rintro r w2 ⟨rfl, hs2⟩
    have HB2 : Hid (Below w.heap.size w w2) := HB1.out.trans (hs2.below _)
    have b2 := (hs2.cell _).trans a2
    clear hs2 a0 a1 a2
    by_cases q1 : 0 ≤ C1
    · by_cases q2 : 0 ≤ C2
      · have HR : Hid (true = holdB true (val 20000 D ed) (val 20000 L el) (val 20000 H eh)) := by unfold Hid; rw [HRC.out]; simp [q1, q2]
        go_wp2
        go_ret
        exact ⟨ret_bool HR.out, HB2.out⟩
      · have HR : Hid (false = holdB true (val 20000 D ed) (val 20000 L el) (val 20000 H eh)) := by unfold Hid; rw [HRC.out]; simp [q2]
        go_wp2
        go_ret
        exact ⟨ret_bool ((decide_eq_false (by omega)).trans HR.out), HB2.out⟩
    · have HR : Hid (false = holdB true (val 20000 D ed) (val 20000 L el) (val 20000 H eh)) := by unfold Hid; rw [HRC.out]; simp [q1]
      go_wp2
      go_ret
      exact ⟨ret_bool HR.out, HB2.out⟩
end Go.Proofs.YtbkdaoicnobllaaDoor

namespace Go.Proofs.YtbkdaoicnobllaaDoor
open Go.RowKit

/-- What the mode md makes of a number in steps of 10^p. -/
def nbV (D : List Nat) (e p : Int) (md : Int) (K : Nat) : Nat := rndN (awayB md false) (val K D e) (10 ^ (p + K).toNat) * 10 ^ (p + K).toNat
def FirstOf (hold : Nat → Bool) (D : List Nat) (e p md : Int) : Prop :=
  (md = 0 ∧ hold (nbV D e p 0 20000) = true) ∨ (md = 3 ∧ hold (nbV D e p 0 20000) = false ∧ hold (nbV D e p 3 20000) = true) ∨ (md = 2 ∧ hold (nbV D e p 0 20000) = false ∧ hold (nbV D e p 3 20000) = false ∧ hold (nbV D e p 2 20000) = true)
def NoneOf (hold : Nat → Bool) (D : List Nat) (e p : Int) : Prop := hold (nbV D e p 0 20000) = false ∧ hold (nbV D e p 3 20000) = false ∧ hold (nbV D e p 2 20000) = false
def TriedTo (hold : Nat → Bool) (D : List Nat) (e p : Int) (k : Nat) : Prop := (0 < k → hold (nbV D e p 0 20000) = false) ∧ (1 < k → hold (nbV D e p 3 20000) = false) ∧ (2 < k → hold (nbV D e p 2 20000) = false)
def NearPost (w w' : World) (r : Ending) (hold : Nat → Bool) (D : List Nat) (e p : Int) : Prop :=
  (∃ md : Int, FirstOf hold D e p md ∧ ∃ b : Nat, r = .returned (.tuple #[.pointer (some ⟨b, 0, none⟩), .bool true]) ∧ ∃ (v : Value) (D' : List Nat) (e' : Int), DecAt w' b v D' e' ∧ Norm D' ∧ (p ≤ e' ∧ e' + (D'.length : Int) ≤ 401) ∧ (∀ K : Nat, 2000 ≤ K → val K D' e' = nbV D e p md K) ∧ w.heap.size ≤ b ∧ Below w.heap.size w w') ∨
  (NoneOf hold D e p ∧ r = .returned (.tuple #[.pointer none, .bool false]) ∧ Below w.heap.size w w')
theorem index_arr (W : World) (i : Int) (x : Value) (h0 : 0 ≤ i ∧ i < (3 : Nat)) (hx : (#[.int .i64 0, .int .i64 3, .int .i64 2] : Array Value)[i.toNat]? = some x) : (Instr.index 108 (.agg #[.int .i64 0, .int .i64 3, .int .i64 2]) (.int .i64 i)).run Tryd.prog W = .ok x W := by
  simp [Instr.index, run_underlying Tryd.underlying108, asIntOf, go_sem]
  rw [if_pos (by omega), show ([.int .i64 0, .int .i64 3, .int .i64 2] : List Value)[i.toNat]? = some x from by simpa using hx]
  rfl
set_option maxRecDepth 100000 in
set_option maxHeartbeats 1000000 in
theorem nearest_any (l h b : Nat) (vl vh v : Value) (L H D : List Nat) (el eh e p : Int) (cl : Bool) (w : World) (hl : DecAt w l vl L el) (hh : DecAt w h vh H eh) (hd : DecAt w b v D e) (he : -2000 ≤ e) (ht : e + D.length ≤ 400) (hp1 : e ≤ p) (hp2 : p ≤ e + D.length - 1) :
    Calls Tryd.prog 71 #[.agg #[.pointer (some ⟨l, 0, none⟩), .pointer (some ⟨h, 0, none⟩), .bool cl], .pointer (some ⟨b, 0, none⟩), .int .i64 p] w fun r w' => NearPost w w' r (fun X => holdB cl X (val 20000 L el) (val 20000 H eh)) D e p := by
  have HNB : Hid (∀ (md : Int) (w1 : World), Below w.heap.size w w1 → Calls Tryd.prog 82 #[.pointer (some ⟨b, 0, none⟩), .int .i64 p, .int .i64 md] w1 fun r w' => NeighPost w1 w' r p (nbV D e p md)) := fun md w1 hb => neighbour_any b v D e p md w1 (hd.below hb) he ht hp1 hp2
  have HHO : Hid (∀ (d : Nat) (vd : Value) (Dd : List Nat) (ed : Int) (w1 : World), Below w.heap.size w w1 → DecAt w1 d vd Dd ed → Calls Tryd.prog 83 #[.agg #[.pointer (some ⟨l, 0, none⟩), .pointer (some ⟨h, 0, none⟩), .bool cl], .pointer (some ⟨d, 0, none⟩)] w1 fun r w' => r = .returned (.bool (holdB cl (val 20000 Dd ed) (val 20000 L el) (val 20000 H eh))) ∧ Below w1.heap.size w1 w') := fun d vd Dd ed w1 hb hx => hold_any l h d vl vh vd L H Dd el eh ed cl w1 (hl.below hb) (hh.below hb) hx
  obtain ⟨hold, hho⟩ : ∃ hold : Nat → Bool, hold = fun X => holdB cl X (val 20000 L el) (val 20000 H eh) := ⟨_, rfl⟩
  rw [← hho]
  have HHE := hid hho
  clear hl hh hd he ht hp1 hp2 hho
  have ix0 := fun W => index_arr W 0 (.int .i64 0) (by omega) rfl
  have ix1 := fun W => index_arr W 1 (.int .i64 3) (by omega) rfl
  have ix2 := fun W => index_arr W 2 (.int .i64 2) (by omega) rfl
  go_enter Tryd.func71, Tryd.ntmps71
  go_wp2_with fail
  obtain ⟨W, hW⟩ : ∃ W, W = w.alloc (.cells #[.pointer (some ⟨l, 0, none⟩), .pointer (some ⟨h, 0, none⟩), .bool cl] 97) := ⟨_, rfl⟩
  have hbx : Below w.heap.size w W := by rw [hW]; exact (Below.refl _ _).alloc (Nat.le_refl _) _
  have s0 : W.cell? ⟨w.heap.size, 0, none⟩ = some (.pointer (some ⟨l, 0, none⟩)) := by rw [hW]; simp [go_sem]
  have s1 : W.cell? ⟨w.heap.size, 1, none⟩ = some (.pointer (some ⟨h, 0, none⟩)) := by rw [hW]; simp [go_sem]
  have s2 : W.cell? ⟨w.heap.size, 2, none⟩ = some (.bool cl) := by rw [hW]; simp [go_sem]
  rw [← hW]
  have HBX := hid hbx
  clear hW hbx
  go_loopw [12] (fun ii wr => ∃ k : Nat, ii = .int .i64 k ∧ k ≤ 3 ∧ TriedTo hold D e p k ∧ Below W.heap.size W wr) (fun ii _ => 3 - (intOf ii).toNat)
  case atStart => exact ⟨0, rfl, by omega, ⟨fun h => by omega, fun h => by omega, fun h => by omega⟩, Below.refl _ _⟩
  case round =>
    obtain ⟨k, rfl, hk, htr, hbw⟩ := hrel
    have c0 := keep_cell' hbw s0
    have c1 := keep_cell' hbw s1
    have c2 := keep_cell' hbw s2
    have HT := hid htr
    have HB : Hid (Below W.heap.size W wr) := hbw
    have HBW : Hid (Below w.heap.size w wr) := HBX.out.trans (hbw.mono HBX.out.size)
    clear htr hbw s0 s1 s2
    rcases (by omega : k = 0 ∨ k = 1 ∨ k = 2 ∨ k = 3) with rfl | rfl | rfl | rfl
    · go_wp2_with fail
      refine (HNB.out 0 wr HBW.out).mono ?_
      rintro r w1 ⟨d, rfl, vd, Dd, ed, hdec, hnorm, hpe, hval, hbd, hb1⟩
      have HB1 : Hid (Below w.heap.size w w1) := HBW.out.trans (hb1.mono HBW.out.size)
      have d0 := keep_cell' hb1 c0
      have d1 := keep_cell' hb1 c1
      have d2 := keep_cell' hb1 c2
      obtain ⟨t, ht⟩ : ∃ t, t = hold (nbV D e p 0 20000) := ⟨_, rfl⟩
      have HHX : Hid (Calls Tryd.prog 83 #[.agg #[.pointer (some ⟨l, 0, none⟩), .pointer (some ⟨h, 0, none⟩), .bool cl], .pointer (some ⟨d, 0, none⟩)] w1 fun r w' => r = .returned (.bool t) ∧ Below w1.heap.size w1 w') := by
        have := HHO.out d vd Dd ed w1 HB1.out hdec
        rw [hval 20000 (by omega)] at this
        rw [ht, HHE.out]; exact this
      have HX := hid (And.intro hdec (And.intro hnorm (And.intro hpe (And.intro hval hbd))))
      have HBK : Hid (Below W.heap.size W w1) := HB.out.trans (hb1.mono HB.out.size)
      have HSZ := hid HBW.out.size
      clear hdec hnorm hpe hval hbd hb1 c0 c1 c2
      cases t
      · have HN : Hid (TriedTo hold D e p 1) := by
          have q := HT.out
          unfold Hid
          refine ⟨fun h => ?_, fun h => ?_, fun h => ?_⟩
          · exact ht.symm
          · omega
          · omega
        clear ht
        go_wp2_with fail
        refine HHX.out.mono ?_
        rintro r w2 ⟨rfl, hb2⟩
        have HB2 : Hid (Below W.heap.size W w2) := HBK.out.trans (hb2.mono HBK.out.size)
        clear hb2
        go_wp2
        go_roundw
        case rel => exact ⟨1, by go_num, by omega, HN.out, HB2.out⟩
        case measure => simp [intOf]
      · have HF : Hid (FirstOf hold D e p 0) := by
          have q := HT.out
          unfold Hid FirstOf
          exact .inl ⟨rfl, ht.symm⟩
        clear ht
        go_wp2_with fail
        refine HHX.out.mono ?_
        rintro r w2 ⟨rfl, hb2⟩
        have HP : Hid (NearPost w w2 (.returned (.tuple #[.pointer (some ⟨d, 0, none⟩), .bool true])) hold D e p) :=
          .inl ⟨0, HF.out, d, rfl, vd, Dd, ed, HX.out.1.below hb2, HX.out.2.1, HX.out.2.2.1, HX.out.2.2.2.1, by have := HX.out.2.2.2.2; have := HSZ.out; omega, HB1.out.trans (hb2.mono HB1.out.size)⟩
        clear hb2
        go_wp2
        go_ret2
        exact HP.out
    · go_wp2_with fail
      refine (HNB.out 3 wr HBW.out).mono ?_
      rintro r w1 ⟨d, rfl, vd, Dd, ed, hdec, hnorm, hpe, hval, hbd, hb1⟩
      have HB1 : Hid (Below w.heap.size w w1) := HBW.out.trans (hb1.mono HBW.out.size)
      have d0 := keep_cell' hb1 c0
      have d1 := keep_cell' hb1 c1
      have d2 := keep_cell' hb1 c2
      obtain ⟨t, ht⟩ : ∃ t, t = hold (nbV D e p 3 20000) := ⟨_, rfl⟩
      have HHX : Hid (Calls Tryd.prog 83 #[.agg #[.pointer (some ⟨l, 0, none⟩), .pointer (some ⟨h, 0, none⟩), .bool cl], .pointer (some ⟨d, 0, none⟩)] w1 fun r w' => r = .returned (.bool t) ∧ Below w1.heap.size w1 w') := by
        have := HHO.out d vd Dd ed w1 HB1.out hdec
        rw [hval 20000 (by omega)] at this
        rw [ht, HHE.out]; exact this
      have HX := hid (And.intro hdec (And.intro hnorm (And.intro hpe (And.intro hval hbd))))
      have HBK : Hid (Below W.heap.size W w1) := HB.out.trans (hb1.mono HB.out.size)
      have HSZ := hid HBW.out.size
      clear hdec hnorm hpe hval hbd hb1 c0 c1 c2
      cases t
      · have HN : Hid (TriedTo hold D e p 2) := by
          have q := HT.out
          unfold Hid
          refine ⟨fun h => ?_, fun h => ?_, fun h => ?_⟩
          · exact q.1 (by omega)
          · exact ht.symm
          · omega
        clear ht
        go_wp2_with fail
        refine HHX.out.mono ?_
        rintro r w2 ⟨rfl, hb2⟩
        have HB2 : Hid (Below W.heap.size W w2) := HBK.out.trans (hb2.mono HBK.out.size)
        clear hb2
        go_wp2
        go_roundw
        case rel => exact ⟨2, by go_num, by omega, HN.out, HB2.out⟩
        case measure => simp [intOf]
      · have HF : Hid (FirstOf hold D e p 3) := by
          have q := HT.out
          unfold Hid FirstOf
          exact .inr (.inl ⟨rfl, q.1 (by omega), ht.symm⟩)
        clear ht
        go_wp2_with fail
        refine HHX.out.mono ?_
        rintro r w2 ⟨rfl, hb2⟩
        have HP : Hid (NearPost w w2 (.returned (.tuple #[.pointer (some ⟨d, 0, none⟩), .bool true])) hold D e p) :=
          .inl ⟨3, HF.out, d, rfl, vd, Dd, ed, HX.out.1.below hb2, HX.out.2.1, HX.out.2.2.1, HX.out.2.2.2.1, by have := HX.out.2.2.2.2; have := HSZ.out; omega, HB1.out.trans (hb2.mono HB1.out.size)⟩
        clear hb2
        go_wp2
        go_ret2
        exact HP.out
    · go_wp2_with fail
      refine (HNB.out 2 wr HBW.out).mono ?_
      rintro r w1 ⟨d, rfl, vd, Dd, ed, hdec, hnorm, hpe, hval, hbd, hb1⟩
      have HB1 : Hid (Below w.heap.size w w1) := HBW.out.trans (hb1.mono HBW.out.size)
      have d0 := keep_cell' hb1 c0
      have d1 := keep_cell' hb1 c1
      have d2 := keep_cell' hb1 c2
      obtain ⟨t, ht⟩ : ∃ t, t = hold (nbV D e p 2 20000) := ⟨_, rfl⟩
      have HHX : Hid (Calls Tryd.prog 83 #[.agg #[.pointer (some ⟨l, 0, none⟩), .pointer (some ⟨h, 0, none⟩), .bool cl], .pointer (some ⟨d, 0, none⟩)] w1 fun r w' => r = .returned (.bool t) ∧ Below w1.heap.size w1 w') := by
        have := HHO.out d vd Dd ed w1 HB1.out hdec
        rw [hval 20000 (by omega)] at this
        rw [ht, HHE.out]; exact this
      have HX := hid (And.intro hdec (And.intro hnorm (And.intro hpe (And.intro hval hbd))))
      have HBK : Hid (Below W.heap.size W w1) := HB.out.trans (hb1.mono HB.out.size)
      have HSZ := hid HBW.out.size
      clear hdec hnorm hpe hval hbd hb1 c0 c1 c2
      cases t
      · have HN : Hid (TriedTo hold D e p 3) := by
          have q := HT.out
          unfold Hid
          refine ⟨fun h => ?_, fun h => ?_, fun h => ?_⟩
          · exact q.1 (by omega)
          · exact q.2.1 (by omega)
          · exact ht.symm
        clear ht
        go_wp2_with fail
        refine HHX.out.mono ?_
        rintro r w2 ⟨rfl, hb2⟩
        have HB2 : Hid (Below W.heap.size W w2) := HBK.out.trans (hb2.mono HBK.out.size)
        clear hb2
        go_wp2
        go_roundw
        case rel => exact ⟨3, by go_num, by omega, HN.out, HB2.out⟩
        case measure => simp [intOf]
      · have HF : Hid (FirstOf hold D e p 2) := by
          have q := HT.out
          unfold Hid FirstOf
          exact .inr (.inr ⟨rfl, q.1 (by omega), q.2.1 (by omega), ht.symm⟩)
        clear ht
        go_wp2_with fail
        refine HHX.out.mono ?_
        rintro r w2 ⟨rfl, hb2⟩
        have HP : Hid (NearPost w w2 (.returned (.tuple #[.pointer (some ⟨d, 0, none⟩), .bool true])) hold D e p) :=
          .inl ⟨2, HF.out, d, rfl, vd, Dd, ed, HX.out.1.below hb2, HX.out.2.1, HX.out.2.2.1, HX.out.2.2.2.1, by have := HX.out.2.2.2.2; have := HSZ.out; omega, HB1.out.trans (hb2.mono HB1.out.size)⟩
        clear hb2
        go_wp2
        go_ret2
        exact HP.out
    · have HP : Hid (NearPost w wr (.returned (.tuple #[.pointer none, .bool false])) hold D e p) := .inr ⟨⟨HT.out.1 (by omega), HT.out.2.1 (by omega), HT.out.2.2 (by omega)⟩, rfl, HBW.out⟩
      go_wp2
      go_ret2
      exact HP.out
end Go.Proofs.YtbkdaoicnobllaaDoor
