import Derived.Test.YtbkdaoicnobllabGreatDoorG15
import Derived.Test.YtbkdaoicnobllabGreatDoorG12
import Derived.Test.YtbkdaoicnobllabGreatDoorG16

namespace Go.Proofs.YtbkdaoicnobllabGreatDoor
open Go.RowKit

/-- A reader of package scan at block b. -/
structure RdrAt (w : World) (b : Nat) (s : ByteArray) (a : Nat) : Prop where
  c0 : w.cell? ⟨b, 0, none⟩ = some (.string s)
  c1 : w.cell? ⟨b, 1, none⟩ = some (.int .i64 a)
  fz : w.frozen? ⟨b, 1, none⟩ = false
/-- What a call leaves that moves the reader alone. -/
structure RPost (w w' : World) (b : Nat) (s : ByteArray) (a : Nat) : Prop where
  rdr : RdrAt w' b s a
  turn : Turn (fun k => k = b) w w'
/-- The byte x stands at a. -/
def atB (s : ByteArray) (a x : Nat) : Bool := decide (a < s.size) && ((chs s).getD a 0 == x)
/-- Where the reader is behind a pass of x. -/
def passTo (s : ByteArray) (a x : Nat) : Nat := if atB s a x = true then a + 1 else a
theorem passTo_yes {s : ByteArray} {a x : Nat} (h : atB s a x = true) : passTo s a x = a + 1 := if_pos h
theorem passTo_no {s : ByteArray} {a x : Nat} (h : atB s a x = false) : passTo s a x = a := if_neg (by rw [h]; simp)
theorem RdrAt.still {w w1 : World} {b a : Nat} {s : ByteArray} (h : RdrAt w b s a) (hs : Still w w1) : RdrAt w1 b s a :=
  ⟨(hs.cell _).trans h.c0, (hs.cell _).trans h.c1, by rw [World.frozen?_of_block (w := w) (by rw [hs.heap])]; exact h.fz⟩
theorem RPost.still {w w1 : World} {b a : Nat} {s : ByteArray} (h : RdrAt w b s a) (hs : Still w w1) : RPost w w1 b s a := ⟨h.still hs, hs.turn _⟩
theorem RPost.trans {w w1 w2 : World} {b a a2 : Nat} {s : ByteArray} (h : RPost w w1 b s a) (k : RPost w1 w2 b s a2) : RPost w w2 b s a2 := ⟨k.rdr, h.turn.trans k.turn (fun _ _ h => h)⟩
theorem RdrAt.set {w : World} {b a : Nat} {s : ByteArray} (h : RdrAt w b s a) (a' : Nat) : RPost w (w.setCell ⟨b, 1, none⟩ (.int .i64 (a' : Nat))) b s a' := by
  refine ⟨⟨?_, World.cell?_setCell_same' _ _ _ (by rw [h.c1]; rfl), ?_⟩, (Turn.refl _ _).setCell _ _ rfl⟩
  · rw [World.cell?_setCell_other _ _ _ _ (by simp)]; exact h.c0
  · rw [show (w.setCell ⟨b, 1, none⟩ (.int .i64 (a' : Nat))).frozen? ⟨b, 1, none⟩ = w.frozen? ⟨b, 1, none⟩ from by simp [go_sem]]; exact h.fz

set_option maxRecDepth 100000 in
set_option maxHeartbeats 1000000 in
theorem pass_any (b a x : Nat) (s : ByteArray) (w : World) (h : RdrAt w b s a) (ha : a ≤ s.size) (hs : s.size ≤ 900) :
    Calls Tryz.prog 58 #[.pointer (some ⟨b, 0, none⟩), .int .u8 x] w fun e w' => e = .returned (.bool (atB s a x)) ∧ RPost w w' b s (passTo s a x) := by
  have c0 := h.c0
  have c1 := h.c1
  have HH := hid h
  clear h
  go_enter Tryz.func58, Tryz.ntmps58
  by_cases hlt : a < s.size
  · have tb : decide ((s.size : Int) ≤ (a : Int)) = false := by simp; omega
    have hg := chs_get s a hlt
    by_cases hx : s[a].toNat = x
    · have tx : (((s[a].toNat : Nat) : Int) != (x : Int)) = false := by simp [hx]
      have HA : Hid (atB s a x = true) := by unfold Hid atB; rw [hg, hx]; simp [hlt]
      have HG := hid hg
      clear hx hg
      go_wp2_with fail
      go_quiet (fail)
      have HR := hid (RPost.still HH.out ((Still.refl w).drewN nq))
      clear c0 c1 HH
      generalize w.drewN nq = w1 at *
      have c1 := HR.out.rdr.c1
      have fz := HR.out.rdr.fz
      go_wp2
      go_ret
      refine ⟨by rw [HA.out]; rfl, HR.out.trans ?_⟩
      rw [passTo_yes HA.out, show (a : Int) + 1 = ((a + 1 : Nat) : Int) from by omega]
      exact HR.out.rdr.set (a + 1)
    · have tx : (((s[a].toNat : Nat) : Int) != (x : Int)) = true := by simp; omega
      have HA : Hid (atB s a x = false) := by unfold Hid atB; rw [hg]; simp [hx]
      clear hx hg
      go_wp2_with fail
      go_quiet (fail)
      have HR := hid (RPost.still HH.out ((Still.refl w).drewN nq))
      clear c0 c1 HH
      generalize w.drewN nq = w1 at *
      go_wp2
      go_ret
      exact ⟨by rw [HA.out]; rfl, by rw [passTo_no HA.out]; exact HR.out⟩
  · have tb : decide ((s.size : Int) ≤ (a : Int)) = true := by simp; omega
    have HA : Hid (atB s a x = false) := by unfold Hid atB; simp [hlt]
    go_wp2_with fail
    go_quiet (fail)
    have HR := hid (RPost.still HH.out ((Still.refl w).drewN nq))
    clear c0 c1 HH
    generalize w.drewN nq = w1 at *
    go_wp2
    go_ret
    exact ⟨by rw [HA.out]; rfl, by rw [passTo_no HA.out]; exact HR.out⟩

/-- The number of bytes of a sign at a. -/
def sgnL (s : ByteArray) (a : Nat) : Nat := if atB s a 45 = true ∨ atB s a 43 = true then a + 1 else a
set_option maxRecDepth 100000 in
set_option maxHeartbeats 1000000 in
theorem sign_any (b a : Nat) (s : ByteArray) (w : World) (h : RdrAt w b s a) (ha : a ≤ s.size) (hs : s.size ≤ 900) :
    Calls Tryz.prog 38 #[.pointer (some ⟨b, 0, none⟩)] w fun e w' => e = .returned (.bool (atB s a 45)) ∧ RPost w w' b s (sgnL s a) := by
  have HX := hid (pass_any b a 45 s w h ha hs)
  clear h
  go_enter Tryz.func38, Tryz.ntmps38
  go_wp2_with fail
  refine HX.out.mono ?_
  rintro e w1 ⟨rfl, h1⟩
  clear HX
  cases h45 : atB s a 45
  · rw [passTo_no h45] at h1
    have HX2 := hid (pass_any b a 43 s w1 h1.rdr ha hs)
    have H1 := hid h1
    have H45 := hid h45
    clear h1 h45
    go_wp2_with fail
    refine HX2.out.mono ?_
    rintro e w2 ⟨rfl, h2⟩
    have HF : Hid (RPost w w2 b s (sgnL s a)) := by
      have e : sgnL s a = passTo s a 43 := by unfold sgnL passTo; rw [H45.out]; simp
      rw [e]
      exact H1.out.trans h2
    clear HX2 h2
    go_wp2
    go_ret
    exact ⟨by rw [H45.out]; rfl, HF.out⟩
  · rw [passTo_yes h45] at h1
    have HF : Hid (RPost w w1 b s (sgnL s a)) := by
      unfold Hid sgnL
      rw [if_pos (.inl h45)]
      exact h1
    have H45 := hid h45
    clear h1 h45
    go_wp2
    go_ret
    exact ⟨by rw [H45.out]; rfl, HF.out⟩

set_option maxRecDepth 100000 in
set_option maxHeartbeats 1000000 in
theorem next_byte (b a : Nat) (s : ByteArray) (w : World) (h : RdrAt w b s a) (ha : a ≤ s.size) (_hs : s.size ≤ 900) :
    Calls Tryz.prog 59 #[.pointer (some ⟨b, 0, none⟩)] w fun e w' => e = .returned (.int .u8 ((chs s).getD a 0 : Nat)) ∧ Still w w' := by
  have c0 := h.c0
  have c1 := h.c1
  clear h
  go_enter Tryz.func59, Tryz.ntmps59
  by_cases hlt : a < s.size
  · have HG := hid (chs_get s a hlt)
    have tb : decide ((s.size : Int) ≤ (a : Int)) = false := by simp; omega
    go_wp2_with fail
    go_quiet (fail)
    have hst := (Still.refl w).drewN nq
    have HS := hid hst
    have d0 := (hst.cell _).trans c0
    have d1 := (hst.cell _).trans c1
    clear c0 c1 hst
    generalize w.drewN nq = w1 at *
    have tb2 : decide (s.size ≤ a) = false := by simp; omega
    go_wp2_with fail
    go_quiet (fail)
    have HS2 := hid (HS.out.drewN nq)
    clear d0 d1 HS
    generalize w1.drewN nq = w2 at *
    go_wp2
    go_ret
    exact ⟨by rw [HG.out]; rfl, HS2.out⟩
  · have HG : Hid ((chs s).getD a 0 = 0) := by unfold Hid; rw [List.getD_eq_getElem?_getD, List.getElem?_eq_none (by rw [chs_length]; omega)]; rfl
    have tb : decide ((s.size : Int) ≤ (a : Int)) = true := by simp; omega
    go_wp2_with fail
    go_quiet (fail)
    have HS := hid ((Still.refl w).drewN nq)
    clear c0 c1
    generalize w.drewN nq = w1 at *
    have tb2 : decide (s.size ≤ a) = true := by simp; omega
    go_wp2
    go_ret
    exact ⟨by rw [HG.out]; rfl, HS.out⟩

/-- What a digit is worth. -/
def digV (x base : Nat) : Int := if 48 ≤ x ∧ x ≤ 57 then (x : Int) - 48 else if base = 16 ∧ 97 ≤ x ∧ x ≤ 102 then (x : Int) - 87 else -1
set_option maxRecDepth 100000 in
set_option maxHeartbeats 1000000 in
theorem digitValue_any (x base : Nat) (w : World) (hx : x < 256) :
    Calls Tryz.prog 130 #[.int .u8 x, .int .i64 base] w fun e w' => e = .returned (.int .i64 (digV x base)) ∧ w' = w := by
  go_enter Tryz.func130, Tryz.ntmps130
  by_cases h1 : 48 ≤ x ∧ x ≤ 57
  · have HD : Hid (digV x base = (x : Int) - 48) := by unfold Hid digV; rw [if_pos h1]
    obtain ⟨h2, h3⟩ := h1
    go_wp2
    all_goals (go_ret; exact ⟨by rw [HD.out]; rfl, rfl⟩)
  · by_cases h5 : base = 16 ∧ 97 ≤ x ∧ x ≤ 102
    · have HD : Hid (digV x base = (x : Int) - 97 + 10) := by unfold Hid digV; rw [if_neg h1, if_pos h5]; omega
      obtain ⟨rfl, h6, h7⟩ := h5
      have h8 : 57 < (x : Int) := by omega
      clear h1
      go_wp2
      all_goals (go_ret; exact ⟨by rw [HD.out]; rfl, rfl⟩)
    · have HD : Hid (digV x base = -1) := by unfold Hid digV; rw [if_neg h1, if_neg h5]
      by_cases h48 : x < 48
      · have h8 : (x : Int) < 48 := by omega
        have h9 : (x : Int) < 97 := by omega
        have t1 : decide ((48 : Int) ≤ x) = false := by simp; omega
        have t2 : decide ((97 : Int) ≤ x) = false := by simp; omega
        clear h1 h5 h48
        by_cases hb : base = 16
        · subst hb
          go_wp2
          all_goals (go_ret; exact ⟨by rw [HD.out]; rfl, rfl⟩)
        · have hbb : ((base : Int) == 16) = false := by simp; omega
          go_wp2
          all_goals (go_ret; exact ⟨by rw [HD.out]; rfl, rfl⟩)
      · have h57 : 57 < x := by omega
        have t0 : decide ((48 : Int) ≤ x) = true := by simp; omega
        have t1 : decide ((x : Int) ≤ 57) = false := by simp; omega
        by_cases hb : base = 16
        · subst hb
          by_cases h97 : 97 ≤ x
          · have t3 : decide ((97 : Int) ≤ x) = true := by simp; omega
            have t4 : decide ((x : Int) ≤ 102) = false := by simp; omega
            clear h1 h5
            go_wp2
            all_goals (go_ret; exact ⟨by rw [HD.out]; rfl, rfl⟩)
          · have t3 : decide ((97 : Int) ≤ x) = false := by simp; omega
            clear h1 h5
            go_wp2
            all_goals (go_ret; exact ⟨by rw [HD.out]; rfl, rfl⟩)
        · have hbb : ((base : Int) == 16) = false := by simp; omega
          clear h1 h5
          go_wp2
          all_goals (go_ret; exact ⟨by rw [HD.out]; rfl, rfl⟩)
end Go.Proofs.YtbkdaoicnobllabGreatDoor

namespace Go.Proofs.YtbkdaoicnobllabGreatDoor
open Go.RowKit

def hexB (s : ByteArray) (a : Nat) : Bool := atB s a 48 && atB s (a + 1) 120
set_option maxRecDepth 100000 in
set_option maxHeartbeats 1000000 in
theorem hexAhead_any (b a : Nat) (s : ByteArray) (w : World) (h : RdrAt w b s a) (ha : a ≤ s.size) (hs : s.size ≤ 900) :
    Calls Tryz.prog 61 #[.pointer (some ⟨b, 0, none⟩)] w fun e w' => e = .returned (.bool (hexB s a)) ∧ Still w w' := by
  have c0 := h.c0
  have c1 := h.c1
  clear h
  go_enter Tryz.func61, Tryz.ntmps61
  go_wp2_with fail
  go_quiet (fail)
  have hst := (Still.refl w).drewN nq
  have HS := hid hst
  have d0 := (hst.cell _).trans c0
  have d1 := (hst.cell _).trans c1
  clear c0 c1 hst
  generalize w.drewN nq = w1 at *
  by_cases hlt : a + 2 ≤ s.size
  · have hl1 : a < s.size := by omega
    obtain ⟨a1, ha1⟩ : ∃ a1 : Nat, a1 = a + 1 := ⟨_, rfl⟩
    have hl2 : a1 < s.size := by omega
    have hai : (a : Int) + 1 = (a1 : Int) := by omega
    have g1 := chs_get s a hl1
    have g2 := chs_get s a1 hl2
    have t0 : decide ((s.size : Int) - a < 2) = false := by simp; omega
    have hw1 : IntKind.i64.wrap (a1 : Int) = (a1 : Int) := by rw [IntKind.wrap_i64]; omega
    have HA1 := hid ha1
    by_cases h0 : s[a].toNat = 48
    · have t1 : (((s[a].toNat : Nat) : Int) == 48) = true := by simp [h0]
      have HA : Hid (hexB s a = (((s[a1].toNat : Nat) : Int) == 120)) := by
        unfold Hid hexB atB
        rw [← ha1, g1, g2, h0]
        generalize s[a1].toNat = x
        rw [decide_eq_true hl1, decide_eq_true hl2]
        cases hh : (x == 120)
        · have : ¬ x = 120 := by simpa using hh
          symm; simp; omega
        · have : x = 120 := by simpa using hh
          symm; simp; omega
      clear g1 g2 h0 ha1
      go_wp2_with fail
      go_quiet (fail)
      have HS2 := hid (HS.out.drewN nq)
      clear d0 d1 HS
      generalize w1.drewN nq = w2 at *
      go_wp2
      go_ret
      exact ⟨by rw [HA.out]; rfl, HS2.out⟩
    · have t1 : (((s[a].toNat : Nat) : Int) == 48) = false := by simp; omega
      have HA : Hid (hexB s a = false) := by
        unfold Hid hexB atB
        rw [g1]
        simp [h0]
      clear g1 g2 h0 ha1
      go_wp2_with fail
      go_quiet (fail)
      have HS2 := hid (HS.out.drewN nq)
      clear d0 d1 HS
      generalize w1.drewN nq = w2 at *
      go_wp2
      go_ret
      exact ⟨by rw [HA.out]; rfl, HS2.out⟩
  · have t0 : decide ((s.size : Int) - a < 2) = true := by simp; omega
    have HA : Hid (hexB s a = false) := by
      unfold Hid hexB atB
      rw [decide_eq_false (show ¬ a + 1 < s.size by omega)]
      simp
    go_wp2
    go_ret
    exact ⟨by rw [HA.out]; rfl, HS.out⟩
end Go.Proofs.YtbkdaoicnobllabGreatDoor

namespace Go.Proofs.YtbkdaoicnobllabGreatDoor
open Go.RowKit

/-- How many bytes of a word stand at a. -/
def wordN (s : ByteArray) : Nat → List Nat → Nat
  | _, [] => 0
  | a, x :: r => if atB s a x = true then 1 + wordN s (a + 1) r else 0
theorem wordN_at (s : ByteArray) (l : List Nat) : ∀ (a n : Nat), n ≤ l.length → (∀ j, j < n → atB s (a + j) (l.getD j 0) = true) → (n < l.length → atB s (a + n) (l.getD n 0) = false) → wordN s a l = n := by
  induction l with
  | nil => intro a n h _ _; simp at h; rw [h]; rfl
  | cons x r ih =>
    intro a n hn h1 h2
    cases n with
    | zero =>
      have := h2 (by simp)
      simp at this
      simp [wordN, this]
    | succ n =>
      have h0 := h1 0 (by omega)
      simp at h0
      have := ih (a + 1) n (by simpa using hn) (fun j hj => by have := h1 (j + 1) (by omega); simpa [Nat.add_assoc, Nat.add_comm 1] using this) (fun hl => by have := h2 (by simpa using hl); simpa [Nat.add_assoc, Nat.add_comm 1] using this)
      simp [wordN, h0, this]; omega
theorem atB_lt {s : ByteArray} {a x : Nat} (h : atB s a x = true) : a < s.size := by
  unfold atB at h; simp at h; exact h.1

set_option maxRecDepth 100000 in
set_option maxHeartbeats 1000000 in
theorem word_any (b a : Nat) (s wd : ByteArray) (w : World) (h : RdrAt w b s a) (ha : a ≤ s.size) (hs : s.size ≤ 900) (hwd : wd.size ≤ 100) :
    Calls Tryz.prog 60 #[.pointer (some ⟨b, 0, none⟩), .string wd] w fun e w' => e = .returned (.int .i64 (wordN s a (chs wd))) ∧ RPost w w' b s (a + wordN s a (chs wd)) := by
  have HH := hid h
  clear h
  go_enter Tryz.func60, Tryz.ntmps60
  go_wp2
  go_loopw [5] (fun nn wr => ∃ n : Nat, nn = .int .i64 n ∧ n ≤ wd.size ∧ Hid (RPost w wr b s (a + n)) ∧ a + n ≤ s.size ∧ Hid (∀ j, j < n → atB s (a + j) ((chs wd).getD j 0) = true)) (fun nn _ => wd.size - (intOf nn).toNat)
  case atStart => exact ⟨0, rfl, Nat.zero_le _, RPost.still HH.out (Still.refl w), by omega, fun j hj => absurd hj (by omega)⟩
  case round =>
    clear HH
    obtain ⟨n, rfl, hn, HR, han, HJ⟩ := hrel
    by_cases hlt : n < wd.size
    · have HG := hid (chs_get wd n hlt)
      have HX := hid (pass_any b (a + n) wd[n].toNat s wr HR.out.rdr han hs)
      go_wp2_with fail
      refine HX.out.mono ?_
      rintro e w1 ⟨rfl, h1⟩
      have HR1 := hid (HR.out.trans h1)
      clear HX HR h1
      cases hc : atB s (a + n) wd[n].toNat
      · have HW : Hid (wordN s a (chs wd) = n) := wordN_at s (chs wd) a n (by rw [chs_length]; omega) HJ.out (fun _ => by rw [HG.out]; exact hc)
        rw [passTo_no hc] at HR1
        clear hc HJ HG
        go_wp2
        go_ret
        exact ⟨by rw [HW.out]; rfl, by rw [HW.out]; exact HR1.out⟩
      · have han2 : a + (n + 1) ≤ s.size := by have := atB_lt hc; omega
        have HJ2 : Hid (∀ j, j < n + 1 → atB s (a + j) ((chs wd).getD j 0) = true) := by
          intro j hj
          rcases Nat.lt_or_ge j n with h | h
          · exact HJ.out j h
          · rw [show j = n from by omega, HG.out]; exact hc
        rw [passTo_yes hc] at HR1
        clear hc HJ HG
        go_wp2
        go_roundw
        case rel => exact ⟨n + 1, by go_num, by omega, HR1.out, han2, HJ2.out⟩
        case measure => simp [intOf]; omega
    · have hnn : n = wd.size := by omega
      have HW : Hid (wordN s a (chs wd) = n) := wordN_at s (chs wd) a n (by rw [chs_length]; omega) HJ.out (fun h => by rw [chs_length] at h; omega)
      clear HJ
      go_wp2
      go_ret
      exact ⟨by rw [HW.out]; rfl, by rw [HW.out]; exact HR.out⟩
end Go.Proofs.YtbkdaoicnobllabGreatDoor

/- Plain mathematics: a text read by parts, and by states. -/
namespace Go.Proofs.YtbkdaoicnobllabGreatDoor

/-- The text's first a bytes lead to the state. -/
structure Path (l : List Nat) (a st : Nat) : Prop where
  le : a ≤ l.length
  st : stAt l a = st
  ok : ∀ j, j ≤ a → stAt l j ≠ 28
theorem Path.zero (l : List Nat) : Path l 0 0 := ⟨Nat.zero_le _, rfl, fun j hj => by rw [show j = 0 from by omega]; show (0 : Nat) ≠ 28; omega⟩
theorem Path.step {l : List Nat} {a st st' : Nat} (h : Path l a st) (ha : a < l.length) (hn : nextS st (l.getD a 0) = st') (h28 : st' ≠ 28) : Path l (a + 1) st' := by
  have e : stAt l (a + 1) = st' := by rw [stAt_succ l a ha, h.st]; exact hn
  refine ⟨ha, e, fun j hj => ?_⟩
  rcases Nat.lt_or_ge a j with g | g
  · rw [show j = a + 1 from by omega, e]; exact h28
  · exact h.ok j g
/-- As far as bytes of a kind stand. -/
structure LRun (q : Nat → Bool) (l : List Nat) (a k : Nat) : Prop where
  ge : a ≤ k
  le : k ≤ l.length
  all : ∀ c, c ∈ cut l a k → q c = true
  fin : k < l.length → q (l.getD k 0) = false
theorem mem_cut {l : List Nat} {a k j : Nat} (h1 : a ≤ j) (h2 : j < k) (h3 : k ≤ l.length) : l.getD j 0 ∈ cut l a k := by
  unfold cut
  rw [List.mem_iff_getElem?]
  refine ⟨j - a, ?_⟩
  rw [List.getElem?_drop, show a + (j - a) = j from by omega, List.getElem?_take_of_lt h2, List.getD_eq_getElem?_getD, List.getElem?_eq_getElem (by omega)]; rfl
theorem Path.run {l : List Nat} {a st : Nat} (h : Path l a st) (h28 : st ≠ 28) (q : Nat → Bool) (hq : ∀ c, q c = true → nextS st c = st) : ∀ k, a ≤ k → k ≤ l.length → (∀ c, c ∈ cut l a k → q c = true) → Path l k st := by
  intro k
  induction k with
  | zero => intro hk _ _; rw [show (0 : Nat) = a from by omega]; exact h
  | succ k ih =>
    intro hk hkl hall
    rcases Nat.lt_or_ge a (k + 1) with g | g
    · have h1 := ih (by omega) (by omega) (fun c hc => hall c (by rw [cut_snoc l a k (by omega) (by omega)]; exact List.mem_append_left _ hc))
      exact h1.step hkl (hq _ (hall _ (mem_cut (by omega) (by omega) hkl))) h28
    · rw [show k + 1 = a from by omega]; exact h
/-- A first byte of the kind leads to another state, which then stays. -/
theorem Path.run1 {l : List Nat} {a st st' k : Nat} (h : Path l a st) (h28 : st' ≠ 28) (q : Nat → Bool) (hq : ∀ c, q c = true → nextS st c = st') (hq2 : ∀ c, q c = true → nextS st' c = st') (hr : LRun q l a k) (hak : a < k) : Path l k st' := by
  have h1 := h.step (Nat.lt_of_lt_of_le hak hr.le) (hq _ (hr.all _ (mem_cut (Nat.le_refl _) hak hr.le))) h28
  refine h1.run h28 q hq2 k hak hr.le (fun c hc => hr.all c ?_)
  unfold cut at hc ⊢
  rw [← List.drop_drop] at hc
  exact List.mem_of_mem_drop hc
theorem cut_nil {l : List Nat} {a k : Nat} (h1 : a ≤ k) (h2 : k ≤ l.length) : cut l a k = [] ↔ k = a := by
  unfold cut; rw [List.drop_eq_nil_iff, List.length_take, Nat.min_eq_left h2]; omega

theorem digV_isDig (c : Nat) : (0 ≤ digV c 10 ↔ isDig c = true) ∧ (digV c 10 = -1 → isDig c = false) ∧ (isDig c = true → digV c 10 = ((c - 48 : Nat) : Int)) := by
  unfold digV isDig
  by_cases h : 48 ≤ c ∧ c ≤ 57
  · rw [if_pos h]; simp [h]; omega
  · rw [if_neg h]; simp
    by_cases h1 : 48 ≤ c
    · simp [h1]; omega
    · simp [h1]
theorem digV_isHexc (c : Nat) : (0 ≤ digV c 16 ↔ isHexc c = true) ∧ (digV c 16 = -1 → isHexc c = false) ∧ (isHexc c = true → digV c 16 = (hexv c : Int)) := by
  unfold digV isHexc isDig hexv
  by_cases h : 48 ≤ c ∧ c ≤ 57
  · rw [if_pos h]; simp [h]; omega
  · rw [if_neg h]
    by_cases h2 : 97 ≤ c ∧ c ≤ 102
    · rw [if_pos ⟨rfl, h2⟩, if_neg (show ¬ c ≤ 57 by omega)]; simp [h2]; omega
    · rw [if_neg (fun hh => h2 hh.2)]
      have e1 : (decide (48 ≤ c) && decide (c ≤ 57)) = false := by simp; omega
      have e2 : (decide (97 ≤ c) && decide (c ≤ 102)) = false := by simp; omega
      rw [e1, e2]; simp
/-- Digits behind others, from the first that is not 0. -/
def push (base : Nat) (D : List Nat) (c : Nat) : List Nat := if 0 < digV c base ∨ 0 < D.length then D ++ [(digV c base).toNat] else D
def pushes (base : Nat) (D : List Nat) (X : List Nat) : List Nat := X.foldl (push base) D
theorem pushes_snoc (base : Nat) (D X : List Nat) (c : Nat) : pushes base D (X ++ [c]) = push base (pushes base D X) c := by unfold pushes; rw [List.foldl_append]; rfl
theorem pushes_append (base : Nat) (D X Y : List Nat) : pushes base D (X ++ Y) = pushes base (pushes base D X) Y := by unfold pushes; rw [List.foldl_append]
theorem pushes_len (base : Nat) (D X : List Nat) : (pushes base D X).length ≤ D.length + X.length := by
  induction X generalizing D with
  | nil => simp [pushes]
  | cons c r ih =>
    have h := ih (push base D c)
    have h2 : (push base D c).length ≤ D.length + 1 := by unfold push; split <;> simp
    show (pushes base (push base D c) r).length ≤ _
    simp; omega

/-- The part ahead of the power. -/
def Mant (q : Nat → Bool) (l : List Nat) (a k2 : Nat) (X : List Nat) (b : Nat) (pt : Bool) : Prop :=
  (pt = false ∧ LRun q l a k2 ∧ (k2 < l.length → l.getD k2 0 ≠ 46) ∧ X = cut l a k2 ∧ b = 0) ∨
  (pt = true ∧ ∃ k1, LRun q l a k1 ∧ k1 < l.length ∧ l.getD k1 0 = 46 ∧ LRun q l (k1 + 1) k2 ∧ X = cut l a k1 ++ cut l (k1 + 1) k2 ∧ b = k2 - (k1 + 1))
def capPow (l : List Nat) : Nat := l.foldl (fun p c => if p < 1000000 then p * 10 + (c - 48) else p) 0
theorem capPow_snoc (l : List Nat) (c : Nat) : capPow (l ++ [c]) = if capPow l < 1000000 then capPow l * 10 + (c - 48) else capPow l := by unfold capPow; rw [List.foldl_append]; rfl
def sgnI (ng : Bool) (p : Int) : Int := if ng = true then -p else p
/-- The power, from behind its letter. -/
def Powr (l : List Nat) (a k : Nat) (ok : Bool) (x : Int) : Prop :=
  ∃ (a1 : Nat) (ng : Bool), ((a < l.length ∧ sgn (l.getD a 0) = true ∧ a1 = a + 1 ∧ ng = (l.getD a 0 == 45)) ∨ ((a < l.length → sgn (l.getD a 0) = false) ∧ a1 = a ∧ ng = false)) ∧
    LRun isDig l a1 k ∧ ok = decide (a1 < k) ∧ x = sgnI ng (capPow (cut l a1 k))
def DecRes (l : List Nat) (a k : Nat) (ok : Bool) (D : List Nat) (pw : Int) : Prop :=
  ∃ k2 X b pt, Mant isDig l a k2 X b pt ∧ D = pushes 10 [] X ∧
    ((X = [] ∧ ok = false ∧ k = k2) ∨ (X ≠ [] ∧ ok = true ∧ k = k2 ∧ pw = -(b : Int) ∧ (k2 < l.length → l.getD k2 0 ≠ 101)) ∨
     (X ≠ [] ∧ k2 < l.length ∧ l.getD k2 0 = 101 ∧ ∃ x, Powr l (k2 + 1) k ok x ∧ pw = -(b : Int) + x))
def HexRes (l : List Nat) (a k : Nat) (ok : Bool) (D : List Nat) (pw : Int) : Prop :=
  (LRun isHexc l a a ∧ ok = false ∧ k = a) ∨
  (∃ k2 X b pt, Mant isHexc l a k2 X b pt ∧ (a < l.length ∧ isHexc (l.getD a 0) = true) ∧ D = pushes 16 [] X ∧
    ((ok = false ∧ k = k2 ∧ (k2 < l.length → l.getD k2 0 ≠ 112)) ∨ (k2 < l.length ∧ l.getD k2 0 = 112 ∧ ∃ x, Powr l (k2 + 1) k ok x ∧ pw = -4 * (b : Int) + x)))

/-- The state where reading stops. -/
structure Stop (l : List Nat) (k : Nat) (ok : Bool) (st : Nat) : Prop where
  path : Path l k st
  fin : k < l.length → nextS st (l.getD k 0) = 28
  ok : ok = endsB st
theorem powr_stop {l : List Nat} {a k : Nat} {ok : Bool} {x : Int} (e0 e1 e2 : Nat) (hp : Path l a e0)
    (h0 : ∀ c, nextS e0 c = if isDig c = true then e2 else if sgn c = true then e1 else 28) (h1 : ∀ c, nextS e1 c = if isDig c = true then e2 else 28) (h2 : ∀ c, nextS e2 c = if isDig c = true then e2 else 28)
    (n1 : e1 ≠ 28) (n2 : e2 ≠ 28) (k0 : endsB e0 = false) (k1 : endsB e1 = false) (k2 : endsB e2 = true) (h : Powr l a k ok x) : ∃ st, Stop l k ok st ∧ (ok = true → st = e2) := by
  obtain ⟨a1, ng, hs, hr, hok, _⟩ := h
  have sg : ∀ c, sgn c = true → isDig c = false := by
    intro c hc; unfold sgn at hc; simp at hc; rcases hc with rfl | rfl <;> rfl
  -- the state at a1, if no digit follows
  have key : ∃ e, Path l a1 e ∧ (∀ c, isDig c = true → nextS e c = e2) ∧ (a1 < l.length → isDig (l.getD a1 0) = false → nextS e (l.getD a1 0) = 28) ∧ endsB e = false := by
    rcases hs with ⟨g1, g2, g3, _⟩ | ⟨g1, g2, _⟩
    · refine ⟨e1, ?_, fun c hc => by rw [h1, if_pos hc], fun _ hd => by rw [h1, hd]; rfl, k1⟩
      rw [g3]
      exact hp.step g1 (by rw [h0, sg _ g2, g2]; rfl) n1
    · refine ⟨e0, by rw [g2]; exact hp, fun c hc => by rw [h0, if_pos hc], fun hl hd => by rw [h0, hd, g2, g1 (by rw [← g2]; exact hl)]; rfl, k0⟩
  obtain ⟨e, p1, p2, p3, p4⟩ := key
  rcases Nat.lt_or_ge a1 k with hlt | hge
  · have hp2 := p1.run1 n2 isDig p2 (fun c hc => by rw [h2, if_pos hc]) hr hlt
    exact ⟨e2, ⟨hp2, fun hk => by rw [h2, hr.fin hk]; rfl, by rw [hok, k2]; simpa using hlt⟩, fun _ => rfl⟩
  · have hk : k = a1 := Nat.le_antisymm hge hr.ge
    subst hk
    exact ⟨e, ⟨p1, fun hk => p3 hk (hr.fin hk), by rw [hok, p4]; simp⟩, fun h => by rw [hok] at h; simp at h⟩
end Go.Proofs.YtbkdaoicnobllabGreatDoor

namespace Go.Proofs.YtbkdaoicnobllabGreatDoor
open Go.RowKit

/-- The digits of the base that stand from a on, as far as k. -/
structure Run (s : ByteArray) (base a k : Nat) : Prop where
  ge : a ≤ k
  le : k ≤ s.size
  all : ∀ c, c ∈ cut (chs s) a k → 0 ≤ digV c base
theorem Run.refl {s : ByteArray} {base a : Nat} (h : a ≤ s.size) : Run s base a a := ⟨Nat.le_refl _, h, fun c hc => by rw [cut_self] at hc; simp at hc⟩
theorem Run.step {s : ByteArray} {base a k : Nat} (h : Run s base a k) (hk : k < s.size) (hd : 0 ≤ digV ((chs s).getD k 0) base) : Run s base a (k + 1) :=
  ⟨by have := h.ge; omega, hk, fun c hc => by
    rw [cut_snoc _ _ _ h.ge (by rw [chs_length]; exact hk)] at hc
    rcases List.mem_append.1 hc with hc | hc
    · exact h.all c hc
    · rw [List.mem_singleton.1 hc]; exact hd⟩
/-- .. and no further. -/
def RunEnd (s : ByteArray) (base a k : Nat) : Prop := Run s base a k ∧ (k < s.size → digV ((chs s).getD k 0) base = -1)
theorem digV_bd (x base : Nat) : digV x base = -1 ∨ (0 ≤ digV x base ∧ digV x base ≤ 15) := by
  unfold digV; split
  · omega
  · split <;> omega
theorem digV_ten {x : Nat} (h : 0 ≤ digV x 10) : digV x 10 = ((x - 48 : Nat) : Int) ∧ x - 48 ≤ 9 := by
  unfold digV at h ⊢
  split at h
  · rename_i h1; rw [if_pos h1]; omega
  · simp at h
theorem sgnL_le {s : ByteArray} {a : Nat} (ha : a ≤ s.size) : sgnL s a ≤ s.size := by
  unfold sgnL; split
  · rename_i h1; rcases h1 with h1 | h1 <;> (have := atB_lt h1; omega)
  · exact ha
theorem RPost.meas {w w' : World} {b k : Nat} {s : ByteArray} (h : RPost w w' b s k) : intOf ((w'.cell? ⟨b, 1, none⟩).getD undef) = (k : Int) := by rw [h.rdr.c1]; rfl

set_option maxRecDepth 100000 in
set_option maxHeartbeats 2000000 in
theorem power_read (b a a1 : Nat) (ng : Bool) (s : ByteArray) (w : World) (h : RdrAt w b s a) (ha : a ≤ s.size) (hs : s.size ≤ 900) (e1 : sgnL s a = a1) (e2 : atB s a 45 = ng) :
    Calls Tryz.prog 104 #[.pointer (some ⟨b, 0, none⟩)] w fun e w' => ∃ k, RPost w w' b s k ∧ RunEnd s 10 a1 k ∧
      e = .returned (.tuple #[.int .i64 (sgnI ng (capPow (cut (chs s) a1 k))), .bool (decide (a1 < k))]) := by
  have HX := hid (sign_any b a s w h ha hs)
  have hal := sgnL_le ha
  rw [e1] at HX hal
  rw [e2] at HX
  clear h e1 e2
  go_enter Tryz.func104, Tryz.ntmps104
  go_wp2_with fail
  refine HX.out.mono ?_
  rintro e w0 ⟨rfl, h0⟩
  have H0 := hid h0
  have c1 := h0.rdr.c1
  clear HX h0
  go_wp2
  go_loopw [6, 7] (fun pp _dd wr => ∃ (k : Nat) (p : Int), pp = .int .i64 p ∧ k ≤ s.size ∧ 0 ≤ p ∧ p ≤ 20000000 ∧ Hid (p = (capPow (cut (chs s) a1 k) : Nat)) ∧ Hid (Run s 10 a1 k) ∧ Hid (RPost w wr b s k)) (fun _ _ wr => s.size - (intOf ((wr.cell? ⟨b, 1, none⟩).getD undef)).toNat)
  case atStart => exact ⟨a1, 0, rfl, hal, by omega, by omega, by unfold Hid; rw [cut_self]; rfl, Run.refl hal, H0.out⟩
  case round =>
    clear c1 H0
    obtain ⟨k, p, rfl, hk, hp0, hp, HP, HR, HW⟩ := hrel
    have HM := hid HW.out.meas
    have c0 := HW.out.rdr.c0
    have c1 := HW.out.rdr.c1
    by_cases hlt : k < s.size
    · have HG := hid (chs_get s k hlt)
      have hx : s[k].toNat < 256 := s[k].toNat_lt
      have HD : Hid (∀ wx, Calls Tryz.prog 130 #[.int .u8 (s[k].toNat : Nat), .int .i64 10] wx fun e w' => e = .returned (.int .i64 (digV s[k].toNat 10)) ∧ w' = wx) := fun wx => digitValue_any s[k].toNat 10 wx hx
      go_wp2_with fail
      go_quiet (fail)
      have HW1 := hid (HW.out.trans (RPost.still HW.out.rdr ((Still.refl wr).drewN nq)))
      clear c0 c1 HW
      generalize wr.drewN nq = w1 at *
      have c0 := HW1.out.rdr.c0
      have c1 := HW1.out.rdr.c1
      go_wp2_with fail
      go_quiet ((go_at_call 130; exact Calls.quiet_of_same (HD.out _)))
      have HW2 := hid (HW1.out.trans (RPost.still HW1.out.rdr ((Still.refl w1).drewN nq)))
      clear c0 c1 HW1 HD
      generalize w1.drewN nq = w2 at *
      have c0 := HW2.out.rdr.c0
      have c1 := HW2.out.rdr.c1
      have fz := HW2.out.rdr.fz
      rcases digV_bd s[k].toNat 10 with hd | ⟨hd, _⟩
      · have HE : Hid (RunEnd s 10 a1 k) := ⟨HR.out, fun _ => by rw [HG.out]; exact hd⟩
        rw [hd]
        clear hd HR HG hx
        cases ng
        · go_wp2_with fail
          go_quiet (fail)
          have HW9 := hid (HW2.out.trans (RPost.still HW2.out.rdr ((Still.refl _).drewN nq)))
          clear c0 c1 HW2
          generalize w2.drewN nq = w9 at *
          go_wp2
          go_ret2
          exact ⟨k, HW9.out, HE.out, by rw [← HP.out]; rfl⟩
        · go_wp2_with fail
          go_quiet (fail)
          have HW9 := hid (HW2.out.trans (RPost.still HW2.out.rdr ((Still.refl _).drewN nq)))
          clear c0 c1 HW2
          generalize w2.drewN nq = w9 at *
          go_wp2
          go_ret2
          exact ⟨k, HW9.out, HE.out, by rw [← HP.out]; rfl⟩
      · obtain ⟨hv, hv9⟩ := digV_ten hd
        have HR2 : Hid (Run s 10 a1 (k + 1)) := HR.out.step hlt (by rw [HG.out]; exact hd)
        have HS := hid (cut_snoc (chs s) a1 k HR.out.ge (by rw [chs_length]; exact hlt))
        rw [hv]
        obtain ⟨d, hd2⟩ : ∃ d, d = s[k].toNat - 48 := ⟨_, rfl⟩
        have HD2 := hid hd2
        rw [← hd2] at hv9 ⊢
        clear hd hv hd2 HR hx
        have hdi : (d : Int) ≤ 9 := by omega
        by_cases hc : p < 1000000
        · have HP2 : Hid (p * 10 + d = (capPow (cut (chs s) a1 (k + 1)) : Nat)) := by
            unfold Hid
            have h1 := HP.out
            rw [HS.out, capPow_snoc, if_pos (by omega), HG.out, h1, HD2.out]; push_cast; rfl
          have t1 : decide (p < 1000000) = true := by simpa using hc
          clear HP HS HG HD2 hv9
          go_wp2
          go_roundw
          case rel =>
            refine ⟨k + 1, p * 10 + d, by go_num, by omega, by omega, by omega, HP2.out, HR2.out, HW2.out.trans ?_⟩
            rw [show (k : Int) + 1 = ((k + 1 : Nat) : Int) from by omega]
            exact HW2.out.rdr.set (k + 1)
          case measure =>
            have hm : intOf (((w2.setCell ⟨b, 1, none⟩ (.int .i64 ((k + 1 : Nat) : Int))).cell? ⟨b, 1, none⟩).getD undef) = ((k + 1 : Nat) : Int) := (HW2.out.rdr.set (k + 1)).meas
            rw [show ((k + 1 : Nat) : Int) = (k : Int) + 1 from by omega] at hm
            rw [HM.out, hm]
            omega
        · have HP2 : Hid (p = (capPow (cut (chs s) a1 (k + 1)) : Nat)) := by
            unfold Hid
            have h1 := HP.out
            rw [HS.out, capPow_snoc, if_neg (by omega)]; exact h1
          have t1 : decide (p < 1000000) = false := by simpa using hc
          clear HP HS HG HD2 hv9
          go_wp2
          go_roundw
          case rel =>
            refine ⟨k + 1, p, rfl, by omega, hp0, hp, HP2.out, HR2.out, HW2.out.trans ?_⟩
            rw [show (k : Int) + 1 = ((k + 1 : Nat) : Int) from by omega]
            exact HW2.out.rdr.set (k + 1)
          case measure =>
            have hm : intOf (((w2.setCell ⟨b, 1, none⟩ (.int .i64 ((k + 1 : Nat) : Int))).cell? ⟨b, 1, none⟩).getD undef) = ((k + 1 : Nat) : Int) := (HW2.out.rdr.set (k + 1)).meas
            rw [show ((k + 1 : Nat) : Int) = (k : Int) + 1 from by omega] at hm
            rw [HM.out, hm]
            omega
    · have HE : Hid (RunEnd s 10 a1 k) := ⟨HR.out, fun h => absurd h hlt⟩
      clear HR
      go_wp2_with fail
      go_quiet (fail)
      have HW2 := hid (HW.out.trans (RPost.still HW.out.rdr ((Still.refl wr).drewN nq)))
      clear c0 c1 HW
      generalize wr.drewN nq = w2 at *
      have c0 := HW2.out.rdr.c0
      have c1 := HW2.out.rdr.c1
      cases ng
      · go_wp2_with fail
        go_quiet (fail)
        have HW9 := hid (HW2.out.trans (RPost.still HW2.out.rdr ((Still.refl _).drewN nq)))
        clear c0 c1 HW2
        generalize w2.drewN nq = w9 at *
        go_wp2
        go_ret2
        exact ⟨k, HW9.out, HE.out, by rw [← HP.out]; rfl⟩
      · go_wp2_with fail
        go_quiet (fail)
        have HW9 := hid (HW2.out.trans (RPost.still HW2.out.rdr ((Still.refl _).drewN nq)))
        clear c0 c1 HW2
        generalize w2.drewN nq = w9 at *
        go_wp2
        go_ret2
        exact ⟨k, HW9.out, HE.out, by rw [← HP.out]; rfl⟩
end Go.Proofs.YtbkdaoicnobllabGreatDoor
