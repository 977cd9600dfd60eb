import Derived.Test.YtbkdaoicnobllabGreatDoorG26
import Derived.Test.YtbkdaoicnobllabGreatDoorG22
import Derived.Test.YtbkdaoicnobllabGreatDoorG21
import Derived.Test.YtbkdaoicnobllabGreatDoorG01
import Derived.Test.YtbkdaoicnobllabGreatDoorG05
import Derived.Test.YtbkdaoicnobllabGreatDoorG10

namespace Go.Proofs.YtbkdaoicnobllabGreatDoor
open Go.RowKit

theorem bytesRow_get (d : List UInt8) (cap j : Nat) (hj : j < d.length) : (bytesRow (str d) cap)[j]? = some (.int .u8 (d[j].toNat : Int)) := by
  have := bytesRow_at (str d) cap j (by unfold str; simpa using hj)
  rw [this]; rfl
set_option maxRecDepth 100000 in
set_option maxHeartbeats 4000000 in
theorem more_any (d : List UInt8) (hd : ∀ c ∈ d, 48 ≤ c.toNat ∧ c.toNat ≤ 57) (hl : d.length ≤ 20) (w : World) :
    Calls Tryz.prog 15 #[.string (str d)] w fun e w' => ∃ r : List UInt8, e = .returned (.string (str r)) ∧ MoreOf d r ∧ Below w.heap.size w w' := by
  have HC := hid (run_bytes_of_string (P := Tryz.prog) w 9 53 5 (str d) Tryz.underlying9 Tryz.underlying53 Tryz.underlying5)
  have hsz := str_size d
  rw [hsz] at HC
  obtain ⟨cap, hcap⟩ : ∃ cap, cap = grownCap w d.length 0 5 := ⟨_, rfl⟩
  rw [← hcap] at HC
  obtain ⟨C, hC⟩ : ∃ C, C = bytesRow (str d) cap := ⟨_, rfl⟩
  rw [← hC] at HC
  obtain ⟨G, hG⟩ : ∃ G, G = w.heap.size := ⟨_, rfl⟩
  obtain ⟨w1, hw1⟩ : ∃ w1, w1 = w.drew.alloc (.cells C 5 (C.size, C.size + 1)) := ⟨_, rfl⟩
  have HB1 : Hid (Below w.heap.size w w1) := by unfold Hid; rw [hw1]; exact (Below.refl _ _).drew.alloc (Nat.le_refl _) _
  have HA1 : Hid (BytesAt w1 G d) := by
    unfold Hid
    rw [hw1, hG]
    refine BytesAt.new w.drew d C _ C.size ?_ (fun j hj => by rw [hC]; exact bytesRow_get d cap j hj)
    rw [hC]; unfold bytesRow; simp [str]
  rw [← hw1, ← hG] at HC
  have hc := HC.out
  clear hw1 hC hcap HC
  have HD := hid hd
  have HBK : Hid (∀ (wx : World) (l : List UInt8), l.length = d.length → BytesAt wx G l → (convert 53 9 (.slice (some ⟨G, 0, none⟩) d.length cap)).run Tryz.prog wx = .ok (.string (str l)) wx) := fun wx l hll hb => by
    rw [← hll]
    exact run_convert_bytes_back (P := Tryz.prog) wx 53 9 5 ⟨G, 0, none⟩ cap l Tryz.underlying53 Tryz.underlying5 Tryz.underlying9 (fun j hj => by
      have e : (⟨G, 0, none⟩ : Addr).add j = ⟨G, j, none⟩ := by
        by_cases h0 : j = 0
        · subst h0; simp [Addr.add]
        · simp [Addr.add, h0]
      rw [e]; exact (hb j hj).1)
  have HGB : Hid (w.heap.size ≤ G) := by unfold Hid; omega
  clear hd hG
  obtain ⟨s, hs⟩ : ∃ s, s = str d := ⟨_, rfl⟩
  rw [← hs] at hc hsz ⊢
  obtain ⟨n, hn⟩ : ∃ n, n = d.length := ⟨_, rfl⟩
  rw [← hn] at hc hsz hl HBK
  have HN := hid hn
  clear hs hn
  go_enter Tryz.func15, Tryz.ntmps15
  go_wp2
  go_loopw [4] (fun ii wr => ∃ k : Nat, ii = .int .i64 ((k : Int) - 1) ∧ k ≤ n ∧ Hid (BytesAt wr G (moreL d k)) ∧ Hid (∀ i (hi : i < d.length), k ≤ i → d[i] = 57) ∧ Hid (Below w.heap.size w wr)) (fun ii _ => (intOf ii + 1).toNat)
  case atStart => exact ⟨n, rfl, Nat.le_refl _, by unfold Hid; rw [HN.out, moreL_all]; exact HA1.out, fun i hi h => absurd hi (by have := HN.out; omega), HB1.out⟩
  case round =>
    obtain ⟨k, rfl, hk, HA, H9, HB⟩ := hrel
    clear HA1 HB1 hc
    cases k with
    | zero =>
      have hb := HBK.out wr (moreL d 0) (by rw [moreL_length d 0 (by omega), HN.out]) HA.out
      have HM := hid (more_all d (fun i hi => H9.out i hi (by omega)))
      have HS : Hid ((⟨#[49]⟩ : ByteArray) ++ str (moreL d 0) = str (49 :: moreL d 0)) := by
        unfold Hid; rw [show (⟨#[49]⟩ : ByteArray) = str [49] from rfl, str_append]; rfl
      have hsz2 : (str (moreL d 0)).size ≤ 20 := by rw [str_size, moreL_length d 0 (by omega)]; have := HN.out; omega
      have t0 : decide ((0 : Int) ≤ ((0 : Nat) : Int) - 1) = false := by decide
      clear HA H9 HBK HD HGB
      go_wp2
      go_ret
      exact ⟨49 :: moreL d 0, by rw [← HS.out]; rfl, HM.out, HB.out⟩
    | succ j =>
      have hj : j < d.length := by have := HN.out; omega
      have hjm : j < (moreL d (j + 1)).length := by rw [moreL_length d (j + 1) (by omega)]; exact hj
      obtain ⟨c1, f1⟩ := HA.out j hjm
      rw [moreL_get d j hj] at c1
      have hdj := HD.out d[j] (List.getElem_mem hj)
      have e1 : ((j + 1 : Nat) : Int) - 1 = (j : Int) := by omega
      rw [e1]
      obtain ⟨z, hz⟩ : ∃ z : Int, z = (d[j].toNat : Int) := ⟨_, rfl⟩
      rw [← hz] at c1
      have z1 : 48 ≤ z := by omega
      have z2 : z ≤ 57 := by omega
      have HZ := hid hz
      have hjn : j < n := by omega
      clear hz hdj e1
      by_cases h9 : z = 57
      · have t9 : (z != 57) = false := by rw [h9]; rfl
        have HA2 : Hid (BytesAt (wr.setCell ⟨G, j, none⟩ (.int .u8 48)) G (moreL d j)) := by
          unfold Hid
          rw [← moreL_set d j hj]
          exact HA.out.set j hjm 48 48 rfl
        have H92 : Hid (∀ i (hi : i < d.length), j ≤ i → d[i] = 57) := fun i hi hji => by
          rcases Nat.lt_or_ge j i with h | h
          · exact H9.out i hi h
          · obtain rfl : i = j := by omega
            apply UInt8.toNat_inj.1
            show d[i].toNat = 57
            have := HZ.out; omega
        have HB2 : Hid (Below w.heap.size w (wr.setCell ⟨G, j, none⟩ (.int .u8 48))) := HB.out.setCell (p := ⟨G, j, none⟩) HGB.out _
        clear HA H9 HBK HD HZ HB h9 hj hjm
        go_wp2
        go_round
        case rel => exact ⟨j, by go_num, by omega, HA2.out, H92.out, HB2.out⟩
        case measure => simp [intOf]
      · have t9 : (z != 57) = true := by simpa using h9
        have z3 : z ≤ 56 := by omega
        obtain ⟨b, hb⟩ : ∃ b : UInt8, b.toNat = d[j].toNat + 1 := ⟨UInt8.ofNat (d[j].toNat + 1), by
          have := HZ.out
          simp; omega⟩
        have HA2 : Hid (BytesAt (wr.setCell ⟨G, j, none⟩ (.int .u8 (z + 1))) G ((moreL d (j + 1)).set j b)) := HA.out.set j hjm b (z + 1) (by rw [hb, HZ.out]; omega)
        have hbk := HBK.out (wr.setCell ⟨G, j, none⟩ (.int .u8 (z + 1))) ((moreL d (j + 1)).set j b) (by rw [List.length_set, moreL_length d (j + 1) (by omega), HN.out]) HA2.out
        have HM : Hid (MoreOf d ((moreL d (j + 1)).set j b)) := more_up d j hj HD.out (fun i hi hji => H9.out i hi (by omega)) (fun h => h9 (by rw [HZ.out, h]; rfl)) b hb
        have HB2 : Hid (Below w.heap.size w (wr.setCell ⟨G, j, none⟩ (.int .u8 (z + 1)))) := HB.out.setCell (p := ⟨G, j, none⟩) HGB.out _
        clear HA H9 HBK HD HZ HB h9 hj hjm hb HA2
        go_wp2
        go_ret
        exact ⟨_, rfl, HM.out, HB2.out⟩
end Go.Proofs.YtbkdaoicnobllabGreatDoor

namespace Go.Proofs.YtbkdaoicnobllabGreatDoor
open Go.RowKit

set_option exponentiation.threshold 5000
set_option maxRecDepth 100000 in
set_option maxHeartbeats 1000000 in
theorem prints_out (cv : Value) (v f verb prec : Int) (Q : List UInt8 → Prop) (w : World) (hh : hasB f v = true ∧ allowB verb prec 0 = true)
    (HF0 : Calls Tryz.prog 21 #[cv, .int .i64 v, .int .i64 f, .int .i64 verb, .int .i64 prec, .int .i64 0] w fun r w' => FmtPost f v verb prec 0 w w' r Q) :
    Calls Tryz.prog 13 #[cv, .int .i64 v, .int .i64 f, .int .i64 verb, .int .i64 prec] w fun r w' => OutPost f v w w' r Q := by
  have HF := hid HF0
  have HH := hid hh
  clear HF0 hh
  go_enter Tryz.func13, Tryz.ntmps13
  go_wp2_with fail
  refine HF.out.mono ?_
  intro r w1 hp
  rcases hp with ⟨_, _, T, rfl, hq, hl, hb⟩ | ⟨hn, _⟩
  · have HP : Hid (OutPost f v w w1 (.returned (.string (str (outT f v T)))) Q) := ⟨T, rfl, hq, hl, hb⟩
    clear hq hl hb HF
    go_wp2
    all_goals (go_ret; exact HP.out)
  · exact absurd HH.out hn
end Go.Proofs.YtbkdaoicnobllabGreatDoor

/- Known texts: what is told of them, by reckoning. -/
namespace Go.Proofs.YtbkdaoicnobllabGreatDoor

/-- Where a number lies, the amount below it being known. -/
def RoundAt (K : Nat) (f mode : Int) (neg : Bool) (X : Nat) (r fl : Int) (a : Nat) : Prop :=
  (X = 0 ∧ r = 0 ∧ fl = 0) ∨
  (0 < X ∧ valA K f (infN f) ≤ X ∧ fl = 3 ∧ r = if awayB mode neg 3 true = true then (infN f : Int) else (infN f : Int) - 1) ∨
  (0 < X ∧ X < valA K f (infN f) ∧ a < infN f ∧ valA K f a ≤ X ∧ X < valA K f (a + 1) ∧
    ((X = valA K f a ∧ r = a ∧ fl = 0) ∨
     (X ≠ valA K f a ∧ r = (if awayB mode neg (cmpN (X * 2) (valA K f a + valA K f (a + 1)) + 2) (a % 2 == 1) = true then (a : Int) + 1 else (a : Int)) ∧
      fl = 1 + (if X < two K (fLow f) then 4 else 0) + (if r = infN f then 2 else 0))))
instance (K : Nat) (f mode : Int) (neg : Bool) (X : Nat) (r fl : Int) (a : Nat) : Decidable (RoundAt K f mode neg X r fl a) := by unfold RoundAt; infer_instance
theorem RoundAt.spec {K : Nat} {f mode : Int} {neg : Bool} {X : Nat} {r fl : Int} {a : Nat} (h : RoundAt K f mode neg X r fl a) : RoundSpec K f mode neg X r fl := by
  rcases h with h | h | ⟨h1, h2, h3, h4, h5, h6⟩
  · exact .inl h
  · exact .inr (.inl h)
  · exact .inr (.inr ⟨h1, h2, a, h3, h4, h5, h6⟩)
/-- No state on the way is the dead one. -/
def liveB (l : List Nat) (k : Nat) : Bool := (List.range (k + 1)).all (fun j => stAt l j != 28)
theorem liveB_of {l : List Nat} {k : Nat} (h : liveB l k = true) : ∀ j, j ≤ k → stAt l j ≠ 28 := by
  intro j hj
  unfold liveB at h
  rw [List.all_eq_true] at h
  have := h j (List.mem_range.2 (by omega))
  simpa using this
/-- The text says a number; r and fl are what it comes to. -/
def numOK (l : List Nat) (f mode : Int) (st a : Nat) (r fl : Int) : Bool :=
  decide (l.length ≤ 900) && liveB l l.length && (stAt l l.length == st) && (st == 15 || st == 2 || st == 3 || st == 4 || st == 6 || st == 9) && decide (RoundAt 30000 f mode (decide (l.getD 0 0 = 45)) (numX 30000 (body l) st) r fl a)
/-- The text is none, and it is told where. -/
def failOK (l : List Nat) (k : Nat) : Bool :=
  decide (l.length ≤ 900) && liveB l k && ((decide (k < l.length) && stAt l (k + 1) == 28) || (k == l.length && !(endsB (stAt l k))))
theorem num_eval {l : List Nat} {f mode : Int} {st a : Nat} {r fl b g at' err : Int} (hv : 0 ≤ f ∧ f ≤ 2 ∧ 0 ≤ mode ∧ mode ≤ 4) (h : numOK l f mode st a r fl = true) (hp : ProgSpec 30000 l f mode b g at' err) :
    b = signedV f (decide (l.getD 0 0 = 45)) r ∧ g = fl ∧ at' = 0 ∧ err = 0 := by
  unfold numOK at h
  simp only [Bool.and_eq_true, decide_eq_true_eq, beq_iff_eq, Bool.or_eq_true] at h
  obtain ⟨⟨⟨⟨h1, h2⟩, h3⟩, h4⟩, h5⟩ := h
  have he : endsB st = true := by
    rcases h4 with ((((h | h) | h) | h) | h) | h <;> (subst h; rfl)
  have hr : ReadSpec l st l.length true := .inr ⟨liveB_of h2, h3.symm, rfl, he.symm⟩
  rcases hp with ⟨gv, _⟩ | ⟨_, gl, _⟩ | ⟨_, _, st2, a2, ok2, hr2, hc⟩
  · exact absurd hv gv
  · omega
  · obtain ⟨e1, e2, e3⟩ := ReadSpec.one hr hr2
    subst e1 e3
    rcases hc with ⟨g0, _⟩ | ⟨_, g1, g2, ho⟩
    · cases g0
    · rcases ho with ⟨o1, _⟩ | ⟨o1, _⟩ | ⟨_, r2, o1, o2⟩
      · omega
      · omega
      · obtain ⟨z1, z2⟩ := RoundSpec.one (by decide) h5.spec o1
        exact ⟨by rw [o2, z1], z2.symm, g1, g2⟩
theorem fail_eval {l : List Nat} {f mode : Int} {k : Nat} {b g at' err : Int} (hv : 0 ≤ f ∧ f ≤ 2 ∧ 0 ≤ mode ∧ mode ≤ 4) (h : failOK l k = true) (hp : ProgSpec 30000 l f mode b g at' err) :
    b = 0 ∧ g = 0 ∧ at' = k ∧ err = 3 := by
  unfold failOK at h
  simp only [Bool.and_eq_true, decide_eq_true_eq, beq_iff_eq, Bool.or_eq_true, Bool.not_eq_true'] at h
  obtain ⟨⟨h1, h2⟩, h3⟩ := h
  have hr : ∃ st, ReadSpec l st k false := by
    rcases h3 with ⟨h3, h4⟩ | ⟨h3, h4⟩
    · exact ⟨28, .inl ⟨k, h3, liveB_of h2, h4, rfl, rfl, rfl⟩⟩
    · exact ⟨_, .inr ⟨by rw [← h3]; exact liveB_of h2, rfl, h3, by rw [← h3, h4]⟩⟩
  obtain ⟨st, hr⟩ := hr
  rcases hp with ⟨gv, _⟩ | ⟨_, gl, _⟩ | ⟨_, _, st2, a2, ok2, hr2, hc⟩
  · exact absurd hv gv
  · omega
  · obtain ⟨e1, e2, e3⟩ := ReadSpec.one hr hr2
    subst e3
    rcases hc with ⟨_, g1, g2, g3, g4⟩ | ⟨g0, _⟩
    · exact ⟨g1, g2, by omega, g4⟩
    · cases g0
theorem one_half : numOK [49] 0 0 3 15360 15360 0 = true := by decide +kernel
theorem known_tiny : numOK [49, 101, 45, 57, 57, 57, 57, 57, 57, 57, 57, 57, 57, 57, 57, 57, 57, 57, 57, 57, 57, 57, 57] 0 3 9 0 1 5 = true := by decide +kernel
end Go.Proofs.YtbkdaoicnobllabGreatDoor

namespace Go.Proofs.YtbkdaoicnobllabGreatDoor
open Go.RowKit

theorem new_any (w : World) : Calls Tryz.prog 6 #[] w fun e w' => ∃ v, e = .returned v ∧ Below w.heap.size w w' := by
  go_enter Tryz.func6, Tryz.ntmps6
  go_wp2
  go_ret
  exact ⟨_, rfl, (Below.refl _ _).alloc (Nat.le_refl _) _⟩
end Go.Proofs.YtbkdaoicnobllabGreatDoor

namespace Go.Proofs.YtbkdaoicnobllabGreatDoor
open Go.RowKit

set_option maxRecDepth 100000 in
set_option maxHeartbeats 1000000 in
theorem says_any (cv : Value) (s : ByteArray) (f mode bits flags : Int) (w : World) :
    Calls Tryz.prog 18 #[cv, .string s, .int .i64 f, .int .i64 mode, .int .i64 bits, .int .i64 flags] w fun e w' =>
      ∃ b g at' err : Int, PParse s f mode b g at' err ∧ e = .returned (.bool (decide (b = bits ∧ g = flags ∧ at' = 0 ∧ err = 0))) ∧ Below w.heap.size w w' := by
  have HX := hid (parse_any cv s f mode w)
  go_enter Tryz.func18, Tryz.ntmps18
  go_wp2_with fail
  refine HX.out.mono ?_
  rintro e w1 ⟨b, g, at', err, rfl, hb, hp⟩
  have HB := hid hb
  have HP := hid hp
  clear HX hb hp
  by_cases h1 : b = bits
  · have t1 : (b == bits) = true := by simpa using h1
    by_cases h2 : g = flags
    · have t2 : (g == flags) = true := by simpa using h2
      by_cases h3 : at' = 0
      · have t3 : (at' == 0) = true := by simpa using h3
        by_cases h4 : err = 0
        · have t4 : (err == 0) = true := by simpa using h4
          have HE : Hid (decide (b = bits ∧ g = flags ∧ at' = 0 ∧ err = 0) = true) := by unfold Hid; simp [h1, h2, h3, h4]
          clear h1 h2 h3 h4
          go_wp2
          all_goals (go_ret; exact ⟨b, g, at', err, HP.out, by rw [HE.out]; rfl, HB.out⟩)
        · have t4 : (err == 0) = false := by simpa using h4
          have HE : Hid (decide (b = bits ∧ g = flags ∧ at' = 0 ∧ err = 0) = false) := by unfold Hid; simp [h4]
          clear h1 h2 h3 h4
          go_wp2
          all_goals (go_ret; exact ⟨b, g, at', err, HP.out, by rw [HE.out]; rfl, HB.out⟩)
      · have t3 : (at' == 0) = false := by simpa using h3
        have HE : Hid (decide (b = bits ∧ g = flags ∧ at' = 0 ∧ err = 0) = false) := by unfold Hid; simp [h3]
        clear h1 h2 h3
        go_wp2
        all_goals (go_ret; exact ⟨b, g, at', err, HP.out, by rw [HE.out]; rfl, HB.out⟩)
    · have t2 : (g == flags) = false := by simpa using h2
      have HE : Hid (decide (b = bits ∧ g = flags ∧ at' = 0 ∧ err = 0) = false) := by unfold Hid; simp [h2]
      clear h1 h2
      go_wp2
      all_goals (go_ret; exact ⟨b, g, at', err, HP.out, by rw [HE.out]; rfl, HB.out⟩)
  · have t1 : (b == bits) = false := by simpa using h1
    have HE : Hid (decide (b = bits ∧ g = flags ∧ at' = 0 ∧ err = 0) = false) := by unfold Hid; simp [h1]
    clear h1
    go_wp2
    all_goals (go_ret; exact ⟨b, g, at', err, HP.out, by rw [HE.out]; rfl, HB.out⟩)
set_option maxRecDepth 100000 in
set_option maxHeartbeats 1000000 in
theorem reads_any (cv : Value) (s : ByteArray) (f bits : Int) (w : World) :
    Calls Tryz.prog 17 #[cv, .string s, .int .i64 f, .int .i64 bits] w fun e w' =>
      ∃ b g at' err : Int, PParse s f 0 b g at' err ∧ e = .returned (.bool (decide (b = bits ∧ err = 0))) ∧ Below w.heap.size w w' := by
  have HX := hid (parse_any cv s f 0 w)
  go_enter Tryz.func17, Tryz.ntmps17
  go_wp2_with fail
  refine HX.out.mono ?_
  rintro e w1 ⟨b, g, at', err, rfl, hb, hp⟩
  have HB := hid hb
  have HP := hid hp
  clear HX hb hp
  by_cases h1 : b = bits
  · have t1 : (b == bits) = true := by simpa using h1
    by_cases h4 : err = 0
    · have t4 : (err == 0) = true := by simpa using h4
      have HE : Hid (decide (b = bits ∧ err = 0) = true) := by unfold Hid; simp [h1, h4]
      clear h1 h4
      go_wp2
      all_goals (go_ret; exact ⟨b, g, at', err, HP.out, by rw [HE.out]; rfl, HB.out⟩)
    · have t4 : (err == 0) = false := by simpa using h4
      have HE : Hid (decide (b = bits ∧ err = 0) = false) := by unfold Hid; simp [h4]
      clear h1 h4
      go_wp2
      all_goals (go_ret; exact ⟨b, g, at', err, HP.out, by rw [HE.out]; rfl, HB.out⟩)
  · have t1 : (b == bits) = false := by simpa using h1
    have HE : Hid (decide (b = bits ∧ err = 0) = false) := by unfold Hid; simp [h1]
    clear h1
    go_wp2
    all_goals (go_ret; exact ⟨b, g, at', err, HP.out, by rw [HE.out]; rfl, HB.out⟩)
end Go.Proofs.YtbkdaoicnobllabGreatDoor

namespace Go.Proofs.YtbkdaoicnobllabGreatDoor
open Go.RowKit

theorem pnew_any (w : World) : Calls Tryz.prog 6 #[] w fun e w' => ∃ v, e = .returned v ∧ Below w.heap.size w w' := by
  go_enter Tryz.func6, Tryz.ntmps6
  go_wp2
  go_ret
  exact ⟨_, rfl, (Below.refl _ _).alloc (Nat.le_refl _) _⟩
theorem allow_short {v prec mode : Int} (hv : v = 0 ∨ v = 1 ∨ v = 4) (h : allowB v prec mode = true) : prec = -1 ∧ mode = 0 := by
  unfold allowB at h; rw [if_pos hv] at h; simpa using h
theorem allow_exact {v prec mode : Int} (hv : v = 2 ∨ v = 3) (h : allowB v prec mode = true) : 0 ≤ prec ∧ prec ≤ 800 ∧ 0 ≤ mode ∧ mode ≤ 4 := by
  unfold allowB at h; rw [if_neg (by omega), if_pos hv] at h; simpa using h
end Go.Proofs.YtbkdaoicnobllabGreatDoor

/- Plain mathematics: decimals compared by their digits. -/
namespace Go.Proofs.YtbkdaoicnobllabGreatDoor

def SameTo (A B : List Nat) (k : Nat) : Prop := ∀ j, j < k → A.getD j 0 = B.getD j 0
theorem SameTo.zero (A B : List Nat) : SameTo A B 0 := fun j h => by omega
theorem SameTo.next {A B : List Nat} {k : Nat} (h : SameTo A B k) (h1 : A.getD k 0 = B.getD k 0) : SameTo A B (k + 1) := fun j hj => by
  rcases (by omega : j < k ∨ j = k) with g | g
  · exact h j g
  · rw [g]; exact h1
theorem SameTo.symm {A B : List Nat} {k : Nat} (h : SameTo A B k) : SameTo B A k := fun j hj => (h j hj).symm
theorem SameTo.first {A B : List Nat} {k : Nat} (h : SameTo A B k) : firstL A k = firstL B k := by
  unfold firstL
  exact List.map_congr_left fun i hi => h i (List.mem_range.1 hi)
theorem cmp_top {A B : List Nat} {ea eb : Int} {K : Nat} (hA : Digs A) (hB : Headed B) (lB : 0 < B.length) (k1 : -(K : Int) ≤ ea) (k2 : -(K : Int) ≤ eb) (h : ea + A.length < eb + B.length) : val K A ea < val K B eb := by
  have a := val_hi hA K ea (ea + A.length) (by omega) k1
  have hp : 0 < 10 ^ (ea + A.length + K).toNat := Nat.pow_pos (by omega)
  have b : 10 ^ (ea + A.length + K).toNat ≤ val K B eb := by
    unfold val
    refine Nat.le_trans ?_ (Nat.mul_le_mul_right _ (hB.lo lB))
    rw [← Nat.pow_add]
    exact Nat.pow_le_pow_right (by omega) (by omega)
  rcases Nat.div_eq_zero_iff.1 a with g | g
  · omega
  · omega
theorem cmp_at {A B : List Nat} {ea eb : Int} {K i : Nat} (hA : Digs A) (hB : Digs B) (k1 : -(K : Int) ≤ ea) (k2 : -(K : Int) ≤ eb) (h : ea + A.length = eb + B.length) (hs : SameTo A B i) (hi : A.getD i 0 < B.getD i 0) : val K A ea < val K B eb := by
  have hib : i < B.length := by
    apply Nat.lt_of_not_le; intro hle
    rw [List.getD_eq_getElem?_getD (l := B), List.getElem?_eq_none hle] at hi
    simp at hi
  obtain ⟨p, hp⟩ : ∃ p : Int, p = eb + B.length - (i + 1 : Nat) := ⟨_, rfl⟩
  have q1 := kept_num hA K ea p k1 (by omega)
  have q2 := kept_num hB K eb p k2 (by omega)
  rw [show (A.length + ea - p).toNat = i + 1 from by omega, firstL_succ, num_snoc, hs.first] at q1
  rw [show (B.length + eb - p).toNat = i + 1 from by omega, firstL_succ, num_snoc] at q2
  apply Nat.lt_of_not_le; intro hle
  have := Nat.div_le_div_right (c := 10 ^ (p + K).toNat) hle
  omega
theorem cmp_all {A B : List Nat} {ea eb : Int} {K n : Nat} (hA : Digs A) (hB : Digs B) (k1 : -(K : Int) ≤ ea) (k2 : -(K : Int) ≤ eb) (h : ea + A.length = eb + B.length) (hn : n = max A.length B.length) (hs : SameTo A B n) : val K A ea = val K B eb := by
  obtain ⟨p, hp⟩ : ∃ p : Int, p = eb + B.length - n := ⟨_, rfl⟩
  have q1 := kept_num hA K ea p k1 (by omega)
  have q2 := kept_num hB K eb p k2 (by omega)
  rw [show (A.length + ea - p).toNat = n from by omega, hs.first] at q1
  rw [show (B.length + eb - p).toNat = n from by omega] at q2
  have hd : ∀ (L : List Nat) (e : Int), p ≤ e → -(K : Int) ≤ p → val K L e = val K L e / 10 ^ (p + K).toNat * 10 ^ (p + K).toNat := fun L e g1 g2 => by
    unfold val
    rw [show (e + K).toNat = (e - p).toNat + (p + K).toNat from by omega, Nat.pow_add, ← Nat.mul_assoc, Nat.mul_div_cancel _ (Nat.pow_pos (by omega))]
  rw [hd A ea (by omega) (by omega), hd B eb (by omega) (by omega), ← q1, ← q2]
theorem cmpN_scale (a b c : Nat) (h : 0 < c) : cmpN (a * c) (b * c) = cmpN a b := by
  rcases Nat.lt_trichotomy a b with g | g | g
  · rw [cmpN_lt g, cmpN_lt (Nat.mul_lt_mul_of_pos_right g h)]
  · rw [cmpN_eq g, cmpN_eq (by rw [g])]
  · rw [cmpN_gt g, cmpN_gt (Nat.mul_lt_mul_of_pos_right g h)]
theorem cmp_val (A B : List Nat) (ea eb : Int) (K c : Nat) (k1 : -(K : Int) ≤ ea) (k2 : -(K : Int) ≤ eb) : cmpN (val (K + c) A ea) (val (K + c) B eb) = cmpN (val K A ea) (val K B eb) := by
  rw [val_more K c A ea k1, val_more K c B eb k2, cmpN_scale _ _ _ (Nat.pow_pos (by omega))]
end Go.Proofs.YtbkdaoicnobllabGreatDoor

namespace Go.Proofs.YtbkdaoicnobllabGreatDoor
open Go.RowKit

def ordI (a b : Int) : Int := if a < b then -1 else 1
set_option maxRecDepth 100000 in
set_option maxHeartbeats 1000000 in
theorem order2_any (a b : Int) (w : World) : Calls Tryz.prog 152 #[.int .i64 a, .int .i64 b] w fun r w' => r = .returned (.int .i64 (ordI a b)) ∧ w' = w := by
  by_cases h : a < b
  · have HO : Hid (ordI a b = -1) := by unfold Hid ordI; rw [if_pos h]
    go_enter Tryz.func152, Tryz.ntmps152
    go_wp2
    go_ret
    exact ⟨ret_int HO.out.symm, rfl⟩
  · have HO : Hid (ordI a b = 1) := by unfold Hid ordI; rw [if_neg h]
    go_enter Tryz.func152, Tryz.ntmps152
    go_wp2
    go_ret
    exact ⟨ret_int HO.out.symm, rfl⟩
set_option maxRecDepth 100000 in
set_option maxHeartbeats 1000000 in
theorem compareD_any (a b : Nat) (va vb : Value) (A B : List Nat) (ea eb : Int) (w : World) (ha : DecAt w a va A ea) (hb : DecAt w b vb B eb) :
    Calls Tryz.prog 147 #[.pointer (some ⟨a, 0, none⟩), .pointer (some ⟨b, 0, none⟩)] w fun r w' => r = .returned (.int .i64 (cmpN (val 20000 A ea) (val 20000 B eb))) ∧ Still w w' := by
  obtain ⟨ga, oa, ca, rfl, _, _, _, _⟩ := ha.form
  obtain ⟨gb, ob, cb, rfl, _, _, _, _⟩ := hb.form
  have a0 := ha.c0
  have b0 := hb.c0
  have la := ha.len
  have lb := hb.len
  have HA := hid ha
  have HB := hid hb
  obtain ⟨n, hn⟩ : ∃ n, n = A.length := ⟨_, rfl⟩
  obtain ⟨m, hm⟩ : ∃ m, m = B.length := ⟨_, rfl⟩
  obtain ⟨F, hF⟩ : ∃ F : Int, F = ea + A.length - 1 := ⟨_, rfl⟩
  obtain ⟨G, hG⟩ : ∃ G : Int, G = eb + B.length - 1 := ⟨_, rfl⟩
  have HAF : Hid (∀ w1, Still w w1 → Calls Tryz.prog 96 #[.pointer (some ⟨a, 0, none⟩)] w1 fun r w' => r = .returned (.int .i64 F) ∧ Still w1 w') := fun w1 hs => by
    rw [hF]; exact firstPower_any a _ A ea w1 (ha.below (hs.below _))
  have HBF : Hid (∀ w1, Still w w1 → Calls Tryz.prog 96 #[.pointer (some ⟨b, 0, none⟩)] w1 fun r w' => r = .returned (.int .i64 G) ∧ Still w1 w') := fun w1 hs => by
    rw [hG]; exact firstPower_any b _ B eb w1 (hb.below (hs.below _))
  have HK1 : Hid (-((20000 : Nat) : Int) ≤ ea) := by have := ha.elo; unfold Hid; omega
  have HK2 : Hid (-((20000 : Nat) : Int) ≤ eb) := by have := hb.elo; unfold Hid; omega
  rw [← hn] at a0 la
  rw [← hm] at b0 lb
  have HN := hid hn
  have HM := hid hm
  have HF := hid hF
  have HG := hid hG
  obtain ⟨C, hC⟩ : ∃ C : Int, C = cmpN (val 20000 A ea) (val 20000 B eb) := ⟨_, rfl⟩
  rw [← hC]
  have HC := hid hC
  clear ha hb hn hm hF hG hC
  by_cases hFG : F = G
  · have HEQ : Hid (ea + A.length = eb + B.length) := by have := HF.out; have := HG.out; unfold Hid; omega
    subst hFG
    go_enter Tryz.func147, Tryz.ntmps147
    go_wp2_with fail
    refine (HAF.out w (Still.refl w)).mono ?_
    rintro r w1 ⟨rfl, hs1⟩
    have HS1 := hid hs1
    clear hs1
    go_wp2_with fail
    refine (HBF.out w1 HS1.out).mono ?_
    rintro r w2 ⟨rfl, hs2⟩
    have HS2 : Hid (Still w w2) := HS1.out.trans hs2
    clear hs2 HS1
    go_wp2
    go_loopw [7] (fun ii wr => ∃ k : Nat, ii = .int .i64 k ∧ k ≤ max n m ∧ SameTo A B k ∧ Still w wr) (fun ii _ => max n m - (intOf ii).toNat)
    case atStart => exact ⟨0, rfl, Nat.zero_le _, SameTo.zero A B, HS2.out⟩
    case round =>
      obtain ⟨k, rfl, hk, hsame, hst⟩ := hrel
      have HSM := hid hsame
      have HST := hid hst
      have a0' := (hst.cell _).trans a0
      have b0' := (hst.cell _).trans b0
      clear hsame hst
      by_cases hlt : k < max n m
      · have HXA := hid (digitAt_any a _ A ea k wr (HA.out.below (HST.out.below _)))
        have HXB := hid (digitAt_any b _ B eb k wr (HB.out.below (HST.out.below _)))
        obtain ⟨x, hx⟩ : ∃ x : Int, x = (dAt A (k : Int) : Nat) := ⟨_, rfl⟩
        obtain ⟨y, hy⟩ : ∃ y : Int, y = (dAt B (k : Int) : Nat) := ⟨_, rfl⟩
        rw [← hx] at HXA
        rw [← hy] at HXB
        have ex : x = (A.getD k 0 : Nat) := by rw [hx]; unfold dAt; rw [if_neg (by omega), Int.toNat_natCast]
        have ey : y = (B.getD k 0 : Nat) := by rw [hy]; unfold dAt; rw [if_neg (by omega), Int.toNat_natCast]
        have HEX := hid ex
        have HEY := hid ey
        have hk0 : k ≤ 20000 := by omega
        clear hx hy ex ey
        by_cases hxy : x = y
        · have HSN : Hid (SameTo A B (k + 1)) := HSM.out.next (by have := HEX.out; have := HEY.out; omega)
          subst hxy
          rcases (by omega : k < n ∨ (¬ k < n ∧ k < m)) with hkn | ⟨hkn, hkm⟩
          all_goals
            go_wp2_with fail
            refine HXA.out.mono ?_
            rintro r w3 ⟨rfl, rfl⟩
            go_wp2_with fail
            refine HXB.out.mono ?_
            rintro r w4 ⟨rfl, rfl⟩
            go_wp2
            go_roundw
            case rel => exact ⟨k + 1, by go_num, by omega, HSN.out, HST.out⟩
            case measure => simp [intOf]; omega
        · have HRES : Hid (ordI x y = C) := by
            unfold Hid; rw [HC.out]; unfold ordI
            have e1 := HEX.out
            have e2 := HEY.out
            by_cases hlt2 : x < y
            · rw [if_pos hlt2, cmpN_lt (cmp_at HA.out.digs HB.out.digs HK1.out HK2.out HEQ.out HSM.out (by omega))]
            · rw [if_neg hlt2, cmpN_gt (cmp_at HB.out.digs HA.out.digs HK2.out HK1.out HEQ.out.symm HSM.out.symm (by omega))]
          rcases (by omega : k < n ∨ (¬ k < n ∧ k < m)) with hkn | ⟨hkn, hkm⟩
          all_goals
            go_wp2_with fail
            refine HXA.out.mono ?_
            rintro r w3 ⟨rfl, rfl⟩
            go_wp2_with fail
            refine HXB.out.mono ?_
            rintro r w4 ⟨rfl, rfl⟩
            go_wp2_with fail
            refine (order2_any x y _).mono ?_
            rintro r w5 ⟨rfl, rfl⟩
            go_wp2
            go_ret
            exact ⟨ret_int HRES.out, HST.out⟩
      · have HRES : Hid (0 = C) := by
          unfold Hid; rw [HC.out, cmpN_eq (cmp_all (n := k) HA.out.digs HB.out.digs HK1.out HK2.out HEQ.out (by rw [← HN.out, ← HM.out]; omega) HSM.out)]
        have h1 : ¬ k < n := by omega
        have h2 : ¬ k < m := by omega
        go_wp2
        go_ret
        exact ⟨ret_int HRES.out, HST.out⟩
  · have HRES : Hid (ordI F G = C) := by
      unfold Hid; rw [HC.out]; unfold ordI
      have e1 := HF.out
      have e2 := HG.out
      by_cases hlt : F < G
      · rw [if_pos hlt, cmpN_lt (cmp_top HA.out.digs HB.out.head HB.out.pos HK1.out HK2.out (by omega))]
      · rw [if_neg hlt, cmpN_gt (cmp_top HB.out.digs HA.out.head HA.out.pos HK2.out HK1.out (by omega))]
    go_enter Tryz.func147, Tryz.ntmps147
    go_wp2_with fail
    refine (HAF.out w (Still.refl w)).mono ?_
    rintro r w1 ⟨rfl, hs1⟩
    have HS1 := hid hs1
    clear hs1
    go_wp2_with fail
    refine (HBF.out w1 HS1.out).mono ?_
    rintro r w2 ⟨rfl, hs2⟩
    have HS2 : Hid (Still w w2) := HS1.out.trans hs2
    clear hs2 HS1
    go_wp2_with fail
    refine (order2_any F G _).mono ?_
    rintro r w3 ⟨rfl, rfl⟩
    go_wp2
    go_ret
    exact ⟨ret_int HRES.out, HS2.out⟩
end Go.Proofs.YtbkdaoicnobllabGreatDoor

namespace Go.Proofs.YtbkdaoicnobllabGreatDoor
open Go.RowKit

def TrimTo (R : List Nat) (c l : Nat) : Prop := ∀ j, c ≤ j → j < l → R.getD j 0 = 0
theorem TrimTo.next {R : List Nat} {d l : Nat} (h : TrimTo R (d + 1) l) (h0 : R.getD d 0 = 0) : TrimTo R d l := fun j h1 h2 => by
  rcases (by omega : j = d ∨ d + 1 ≤ j) with g | g
  · rw [g]; exact h0
  · exact h j g h2
theorem trim_val {R : List Nat} {c : Nat} {p : Int} (hd : Digs R) (hc : c ≤ R.length) (ht : TrimTo R c R.length) (K : Nat) (hK : -(K : Int) ≤ p) : val K (R.take c) (p + (R.length - c : Nat)) = val K R p := by
  have hz : num (R.drop c) = 0 := (num_zero_iff _).2 fun d hd => by
    obtain ⟨i, hi, rfl⟩ := List.mem_iff_getElem.1 hd
    rw [List.length_drop] at hi
    have := ht (c + i) (by omega) (by omega)
    rw [List.getD_eq_getElem?_getD, List.getElem?_eq_getElem (by omega)] at this
    simpa using this
  have h1 := num_take hd c hc
  have h2 := num_drop hd c hc
  rw [hz] at h2
  have h3 := Nat.div_add_mod (num R) (10 ^ (R.length - c))
  rw [← h2, ← h1, Nat.add_zero] at h3
  unfold val
  rw [← h3, show (p + ((R.length - c : Nat) : Int) + K).toNat = (R.length - c) + (p + K).toNat from by omega, Nat.pow_add, ← Nat.mul_assoc, Nat.mul_comm (10 ^ (R.length - c))]
theorem trim_norm {R : List Nat} {c : Nat} (hd : Digs R) (hh : Headed R) (hc : c ≤ R.length) (h0 : 0 < c) (hl : c = 1 ∨ R.getD (c - 1) 0 ≠ 0) : Norm (R.take c) := by
  refine ⟨hd.take c, fun h => ?_, fun h => ?_⟩
  · have := hh (by omega)
    simpa using this
  · have hlen : (R.take c).length = c := by rw [List.length_take]; omega
    have e : ∀ (h : (R.take c).length - 1 < (R.take c).length), (R.take c)[(R.take c).length - 1] = R.getD (c - 1) 0 := fun h => by
      rw [List.getElem_take, List.getD_eq_getElem?_getD, List.getElem?_eq_getElem (by omega)]
      simp [hlen]
    rw [e]
    rcases hl with hl | hl
    · subst hl
      have := hh (by omega)
      rw [List.getD_eq_getElem?_getD, List.getElem?_eq_getElem (by omega)]
      simpa using this
    · exact hl
/-- A decimal that a call hands back: of the number V K / 10^K, without noughts at its ends. -/
def NeighPost (w w' : World) (r : Ending) (p : Int) (V : Nat → Nat) : Prop :=
  ∃ b : Nat, r = .returned (.pointer (some ⟨b, 0, none⟩)) ∧ ∃ (v : Value) (D : List Nat) (e : Int), DecAt w' b v D e ∧ Norm D ∧ (p ≤ e ∧ e + (D.length : Int) ≤ 401) ∧ (∀ K : Nat, 2000 ≤ K → val K D e = V K) ∧ w.heap.size ≤ b ∧ Below w.heap.size w w'
set_option maxRecDepth 100000 in
set_option maxHeartbeats 1000000 in
theorem neighbour_any (b : Nat) (v : Value) (D : List Nat) (e p mode : Int) (w : World) (h : DecAt w b v D e) (he : -2000 ≤ e) (ht : e + D.length ≤ 400) (hp1 : e ≤ p) (hp2 : p ≤ e + D.length - 1) :
    Calls Tryz.prog 136 #[.pointer (some ⟨b, 0, none⟩), .int .i64 p, .int .i64 mode] w fun r w' => NeighPost w w' r p (fun K => rndN (awayB mode false) (val K D e) (10 ^ (p + K).toNat) * 10 ^ (p + K).toNat) := by
  have HRD := hid (drounded_any b v D e p mode false w h (by omega) (by omega) (by omega))
  have HD := hid (And.intro h.pos (And.intro he hp1))
  have hp3 : -2000 ≤ p := by omega
  have hp4 : p ≤ 400 := by omega
  have HLE : Hid (∀ R : List Nat, Rnd (awayB mode false) D e p R → 1 ≤ R.length ∧ (R.length : Int) + p ≤ 401) := fun R hr => by
    have a := hr.ge
    have c := hr.len
    omega
  clear h he ht hp1 hp2
  go_enter Tryz.func136, Tryz.ntmps136
  go_wp2_with fail
  refine HRD.out.mono ?_
  rintro r w1 ⟨v1, rfl, ⟨g, l, cp, rfl⟩, R, hrnd, ho, hb⟩
  obtain ⟨hl, hc1, hc2, hg⟩ := ho.sliceLen
  have HR := hid (And.intro hrnd (And.intro ho (And.intro hb hl)))
  have hll := HLE.out R hrnd
  rw [hl] at hll
  obtain ⟨hl1, hl2⟩ := hll
  clear HRD hrnd ho hb hl hg HLE
  go_wp2
  go_loopw [1, 7] (fun pp dd wr => ∃ c : Nat, 0 < c ∧ c ≤ l ∧ pp = .int .i64 (p + (l - c : Nat)) ∧ dd = .slice (some ⟨g, 0, none⟩) c cp ∧ TrimTo R c l ∧ Still w1 wr) (fun _ dd _ => lenOf dd)
  case atStart => exact ⟨l, by omega, Nat.le_refl _, by simp, rfl, fun j h1 h2 => by omega, Still.refl w1⟩
  case round =>
    obtain ⟨c, h0, hcl, rfl, rfl, htr, hst⟩ := hrel
    obtain ⟨q, hq⟩ : ∃ q : Int, q = p + (l - c : Nat) := ⟨_, rfl⟩
    rw [← hq]
    have HQ := hid hq
    have hq1 : -2000 ≤ q := by omega
    have hq2 : q ≤ 2000 := by omega
    obtain ⟨d, rfl⟩ : ∃ d, c = d + 1 := ⟨c - 1, by omega⟩
    obtain ⟨x, hx⟩ : ∃ x, x = R.getD d 0 := ⟨_, rfl⟩
    have cx : wr.cell? ⟨g, d, none⟩ = some (.int .i64 x) := by
      rw [hst.cell, hx]; exact HR.out.2.1.cell HR.out.2.2.2 d (by omega)
    have HX := hid hx
    have HT := hid htr
    have HS := hid hst
    clear hx htr hst hq
    have HFIN : Hid (x ≠ 0 ∨ d = 0 → NeighPost w (wr.alloc (.cells #[.slice (some ⟨g, 0, none⟩) (d + 1) cp, .int .i64 q] 156)) (.returned (.pointer (some ⟨wr.heap.size, 0, none⟩))) p (fun K => rndN (awayB mode false) (val K D e) (10 ^ (p + K).toNat) * 10 ^ (p + K).toNat)) := fun hfin => by
      obtain ⟨hrnd, ho, hb, hl⟩ := HR.out
      have hbw : Below w.heap.size w wr := hb.trans (HS.out.below _)
      have how : Own wr 0 (.slice (some ⟨g, 0, none⟩) (d + 1) cp) (R.take (d + 1)) := ((ho.mono (Nat.zero_le _)).below (HS.out.below w1.heap.size) (Nat.le_refl _)).cutTo hl (d + 1) hcl
      have hlen : (R.take (d + 1)).length = d + 1 := by rw [List.length_take]; omega
      have hnorm : Norm (R.take (d + 1)) := trim_norm hrnd.digs hrnd.headed (by omega) (by omega) (by
        rcases hfin with hf | hf
        · right; rw [Nat.add_sub_cancel, ← HX.out]; exact hf
        · left; omega)
      have hqq : q = p + ((R.length - (d + 1) : Nat) : Int) := by rw [hl]; exact HQ.out
      refine ⟨wr.heap.size, rfl, .slice (some ⟨g, 0, none⟩) (d + 1) cp, R.take (d + 1), q, ⟨by simp [go_sem], by simp [go_sem], how.row.below ((Below.refl _ _).alloc (Nat.le_refl _) _) (Nat.le_refl _), hnorm.digs, hnorm.headed, by omega, by omega, by omega, by omega⟩, hnorm, (by rw [hlen]; omega), fun K hK => ?_, hbw.size, hbw.alloc hbw.size _⟩
      rw [hqq, trim_val hrnd.digs (by omega) (by rw [hl]; exact HT.out) K (by omega)]
      unfold val
      rw [hrnd.nval K (by have := HD.out.2.1; omega) (by omega)]
      rfl
    by_cases hd0 : d = 0
    · have HF2 := hid (HFIN.out (.inr hd0))
      subst hd0
      clear HFIN cx
      go_wp2
      go_ret
      exact HF2.out
    · by_cases hx0 : x = 0
      · have hb0 : ((x : Int) == 0) = true := by simp [hx0]
        have HN : Hid (TrimTo R d l) := HT.out.next (by rw [← HX.out]; exact hx0)
        have HQ2 : Hid (q + 1 = p + (l - d : Nat)) := by unfold Hid; rw [HQ.out]; omega
        clear hx0 HFIN
        go_wp2
        all_goals go_roundw
        all_goals first
          | (case rel => exact ⟨d, by omega, by omega, congrArg (Value.int .i64) HQ2.out, rfl, HN.out, HS.out⟩)
          | skip
        all_goals simp [lenOf]
      · have HF2 := hid (HFIN.out (.inl hx0))
        have hb0 : ((x : Int) == 0) = false := by rw [beq_eq_false_iff_ne]; omega
        clear hx0 HFIN
        go_wp2
        go_ret
        exact HF2.out
end Go.Proofs.YtbkdaoicnobllabGreatDoor

namespace Go.Proofs.YtbkdaoicnobllabGreatDoor
open Go.RowKit

def holdB (cl : Bool) (X L H : Nat) : Bool := if cl = true then decide (L ≤ X ∧ X ≤ H) else decide (L < X ∧ X < H)
theorem hold_closed (X L H : Nat) : holdB true X L H = (decide (0 ≤ cmpN X L) && decide (0 ≤ cmpN H X)) := by
  unfold holdB cmpN
  rw [if_pos rfl, Bool.eq_iff_iff]
  simp only [decide_eq_true_eq, Bool.and_eq_true]
  repeat' split
  all_goals omega
theorem hold_open (X L H : Nat) : holdB false X L H = (decide (0 < cmpN X L) && decide (0 < cmpN H X)) := by
  unfold holdB cmpN
  rw [if_neg (by decide), Bool.eq_iff_iff]
  simp only [decide_eq_true_eq, Bool.and_eq_true]
  repeat' split
  all_goals omega
set_option maxRecDepth 100000 in
set_option maxHeartbeats 1000000 in
theorem hold_any (l h d : Nat) (vl vh vd : Value) (L H D : List Nat) (el eh ed : Int) (cl : Bool) (w : World) (hl : DecAt w l vl L el) (hh : DecAt w h vh H eh) (hd : DecAt w d vd D ed) :
    Calls Tryz.prog 137 #[.agg #[.pointer (some ⟨l, 0, none⟩), .pointer (some ⟨h, 0, none⟩), .bool cl], .pointer (some ⟨d, 0, none⟩)] w fun r w' => r = .returned (.bool (holdB cl (val 20000 D ed) (val 20000 L el) (val 20000 H eh))) ∧ Below w.heap.size w w' := by
  obtain ⟨W, hW⟩ : ∃ W, W = w.alloc (.cells #[.pointer (some ⟨l, 0, none⟩), .pointer (some ⟨h, 0, none⟩), .bool cl] 152) := ⟨_, rfl⟩
  have hbx : Below w.heap.size w W := by rw [hW]; exact (Below.refl _ _).alloc (Nat.le_refl _) _
  have s0 : W.cell? ⟨w.heap.size, 0, none⟩ = some (.pointer (some ⟨l, 0, none⟩)) := by rw [hW]; simp [go_sem]
  have s1 : W.cell? ⟨w.heap.size, 1, none⟩ = some (.pointer (some ⟨h, 0, none⟩)) := by rw [hW]; simp [go_sem]
  have s2 : W.cell? ⟨w.heap.size, 2, none⟩ = some (.bool cl) := by rw [hW]; simp [go_sem]
  obtain ⟨C1, hC1⟩ : ∃ C1 : Int, C1 = cmpN (val 20000 D ed) (val 20000 L el) := ⟨_, rfl⟩
  obtain ⟨C2, hC2⟩ : ∃ C2 : Int, C2 = cmpN (val 20000 H eh) (val 20000 D ed) := ⟨_, rfl⟩
  have HX1 : Hid (∀ w1, Below w.heap.size w w1 → Calls Tryz.prog 147 #[.pointer (some ⟨d, 0, none⟩), .pointer (some ⟨l, 0, none⟩)] w1 fun r w' => r = .returned (.int .i64 C1) ∧ Still w1 w') := fun w1 hb => by
    rw [hC1]; exact compareD_any d l vd vl D L ed el w1 (hd.below hb) (hl.below hb)
  have HX2 : Hid (∀ w1, Below w.heap.size w w1 → Calls Tryz.prog 147 #[.pointer (some ⟨h, 0, none⟩), .pointer (some ⟨d, 0, none⟩)] w1 fun r w' => r = .returned (.int .i64 C2) ∧ Still w1 w') := fun w1 hb => by
    rw [hC2]; exact compareD_any h d vh vd H D eh ed w1 (hh.below hb) (hd.below hb)
  have HRC : Hid (holdB true (val 20000 D ed) (val 20000 L el) (val 20000 H eh) = (decide (0 ≤ C1) && decide (0 ≤ C2))) := by unfold Hid; rw [hC1, hC2]; exact hold_closed _ _ _
  have HRO : Hid (holdB false (val 20000 D ed) (val 20000 L el) (val 20000 H eh) = (decide (0 < C1) && decide (0 < C2))) := by unfold Hid; rw [hC1, hC2]; exact hold_open _ _ _
  have HBX := hid hbx
  have HWW := hid hW
  clear hl hh hd hC1 hC2 hbx hW
  cases cl
  · go_enter Tryz.func137, Tryz.ntmps137
    go_wp2_with fail
    rw [← HWW.out]
    refine (HX1.out W HBX.out).mono ?_
    rintro r w1 ⟨rfl, hs1⟩
    have HB1 : Hid (Below w.heap.size w w1) := HBX.out.trans (hs1.below _)
    have a0 := (hs1.cell _).trans s0
    have a1 := (hs1.cell _).trans s1
    have a2 := (hs1.cell _).trans s2
    clear hs1 HWW s0 s1 s2
    go_wp2_with fail
    refine (HX2.out w1 HB1.out).mono ?_
    rintro r w2 ⟨rfl, hs2⟩
    have HB2 : Hid (Below w.heap.size w w2) := HB1.out.trans (hs2.below _)
    have b2 := (hs2.cell _).trans a2
    clear hs2 a0 a1 a2
    by_cases q1 : 0 < C1
    · by_cases q2 : 0 < C2
      · have HR : Hid (true = holdB false (val 20000 D ed) (val 20000 L el) (val 20000 H eh)) := by unfold Hid; rw [HRO.out]; simp [q1, q2]
        go_wp2
        go_ret
        exact ⟨ret_bool HR.out, HB2.out⟩
      · have HR : Hid (false = holdB false (val 20000 D ed) (val 20000 L el) (val 20000 H eh)) := by unfold Hid; rw [HRO.out]; simp [q2]
        go_wp2
        go_ret
        exact ⟨ret_bool ((decide_eq_false (by omega)).trans HR.out), HB2.out⟩
    · have HR : Hid (false = holdB false (val 20000 D ed) (val 20000 L el) (val 20000 H eh)) := by unfold Hid; rw [HRO.out]; simp [q1]
      go_wp2
      go_ret
      exact ⟨ret_bool HR.out, HB2.out⟩
  · go_enter Tryz.func137, Tryz.ntmps137
    go_wp2_with fail
    rw [← HWW.out]
    refine (HX1.out W HBX.out).mono ?_
    rintro r w1 ⟨rfl, hs1⟩
    have HB1 : Hid (Below w.heap.size w w1) := HBX.out.trans (hs1.below _)
    have a0 := (hs1.cell _).trans s0
    have a1 := (hs1.cell _).trans s1
    have a2 := (hs1.cell _).trans s2
    clear hs1 HWW s0 s1 s2
    go_wp2_with fail
    refine (HX2.out w1 HB1.out).mono ?_
    rintro r w2 ⟨rfl, hs2⟩
    have HB2 : Hid (Below w.heap.size w w2) := HB1.out.trans (hs2.below _)
    have b2 := (hs2.cell _).trans a2
    clear hs2 a0 a1 a2
    by_cases q1 : 0 ≤ C1
    · by_cases q2 : 0 ≤ C2
      · have HR : Hid (true = holdB true (val 20000 D ed) (val 20000 L el) (val 20000 H eh)) := by unfold Hid; rw [HRC.out]; simp [q1, q2]
        go_wp2
        go_ret
        exact ⟨ret_bool HR.out, HB2.out⟩
      · have HR : Hid (false = holdB true (val 20000 D ed) (val 20000 L el) (val 20000 H eh)) := by unfold Hid; rw [HRC.out]; simp [q2]
        go_wp2
        go_ret
        exact ⟨ret_bool ((decide_eq_false (by omega)).trans HR.out), HB2.out⟩
    · have HR : Hid (false = holdB true (val 20000 D ed) (val 20000 L el) (val 20000 H eh)) := by unfold Hid; rw [HRC.out]; simp [q1]
      go_wp2
      go_ret
      exact ⟨ret_bool HR.out, HB2.out⟩
end Go.Proofs.YtbkdaoicnobllabGreatDoor
