import Derived.Test.YtbkdaoicnobllabGreatDoorTie
import Derived.Test.YtbkdaoicnobllabGreatDoorCards
import Derived.Test.YtbkdaoicnobllabGreatDoorG45
import Derived.LaidMore
import Derived.Lay
import Derived.SevenTiedAt
import Derived.Stop.Joined
import Derived.Lib.LaidTab
import Derived.Stop.LaidErr
import Derived.WalkKit
import Derived.ProofKit
import Derived.OpenShut
import Derived.ShutString
import Derived.ChangeOld
import Derived.Below
import Derived.Deep.Slices
import Derived.WideKeyArgs
import Derived.DataReads

namespace Go.Proofs.YtbkdaoicnobllabGreatDoor.all
set_option maxRecDepth 100000
open Go.ChangeShapes Go.WideShapes Go.ChangeAt Go.RowKit
open Go.ChangeMaps (open_string shut_string)

theorem bd {n : Int} (h : (Lit.int .i64 n).wf = true) : -9223372036854775808 ≤ n ∧ n ≤ 9223372036854775807 := by
 unfold Lit.wf at h
 simp only [Bool.and_eq_true, decide_eq_true_eq] at h
 exact h
theorem laidOut : laidOutB Tryz.prog = true := by kernel_rfl
theorem own : ownKnob Tryz.prog.godebug = none := by kernel_rfl

theorem table {W : World} (h : laidMetH Tryz.prog Rows.allRow.laid W) : Lib.TabIs Tryz.prog W "internal/strconv.uint64pow10" .u64 Lib.pow10Tab := by
 rw [MakeChecks.laidMetH_plain _ _ _ (by kernel_rfl)] at h
 have h1 : laidMet Tryz.prog (("math/bits.deBruijn32tab", Rows.laid_math_bits_deBruijn32tab) :: ("math/bits.deBruijn64tab", Rows.laid_math_bits_deBruijn64tab) :: [("internal/strconv.uint64pow10", Lib.tabData .u64 Lib.pow10Tab)]) W := h
 have h2 : laidMet Tryz.prog [("internal/strconv.uint64pow10", Lib.tabData .u64 Lib.pow10Tab)] W := laidMet.tail (laidMet.tail h1)
 exact Lib.tabIs_of_head (g := 0) (t := 178) (e := 172) (n := 20) (by kernel_rfl) (by kernel_rfl) Tryz.underlying178 Tryz.underlying172 (by kernel_rfl) (by kernel_rfl) h2

instance : Inhabited OpV := ⟨⟨0, 0, 0, 0, ⟨#[]⟩, ⟨#[]⟩⟩⟩
theorem trod_struct6 {H : Type} {enc : TypeId × Value → H} {P : Program} {w : World} {base : Nat} {spare : Nat → Bool} {held : Bool} {t : TypeId} {f0 f1 f2 f3 f4 f5 : Field} {fuel : Nat} {cs : List Value} {x : DataW H × List MemPlace} (ht : P.underlying t = some (.struct #[f0, f1, f2, f3, f4, f5])) (h : DataW.trod enc P w base spare held fuel t cs = some x) :
  ∃ y0 y1 y2 y3 y4 y5 n, DataW.trod enc P w base spare held n f0.type ((cs.drop f0.offset).take (P.cellsOf f0.type)) = some y0 ∧ DataW.trod enc P w base spare held n f1.type ((cs.drop f1.offset).take (P.cellsOf f1.type)) = some y1 ∧
   DataW.trod enc P w base spare held n f2.type ((cs.drop f2.offset).take (P.cellsOf f2.type)) = some y2 ∧ DataW.trod enc P w base spare held n f3.type ((cs.drop f3.offset).take (P.cellsOf f3.type)) = some y3 ∧
   DataW.trod enc P w base spare held n f4.type ((cs.drop f4.offset).take (P.cellsOf f4.type)) = some y4 ∧ DataW.trod enc P w base spare held n f5.type ((cs.drop f5.offset).take (P.cellsOf f5.type)) = some y5 := by
 obtain ⟨xs, n, _, _, _, hlen, hf⟩ := DataW.trod_struct ht h
 match xs, hlen with
 | [y0, y1, y2, y3, y4, y5], _ => exact ⟨y0, y1, y2, y3, y4, y5, n, by simpa using hf 0 f0 rfl, by simpa using hf 1 f1 rfl, by simpa using hf 2 f2 rfl, by simpa using hf 3 f3 rfl, by simpa using hf 4 f4 rfl, by simpa using hf 5 f5 rfl⟩
theorem one_op {H : Type} {enc : TypeId × Value → H} {W : World} {a : Addr} {cs : List Value} {fuel : Nat} {x : DataW H × List MemPlace} (h1 : W.cells? 0 a 6 = some cs) (h2 : DataW.trod enc Tryz.prog W 0 (fun _ => true) true fuel 44 cs = some x) :
  ∃ o : OpV, o.ok ∧ o.t.size ≤ maxLen ∧ W.cell? (a.add 0) = some (.int .i64 o.kind) ∧ W.cell? (a.add 1) = some (.int .i64 o.a) ∧ W.cell? (a.add 2) = some (.int .i64 o.b) ∧ W.cell? (a.add 3) = some (.int .i64 o.c) ∧ W.cell? (a.add 4) = some (.string o.s) ∧ W.cell? (a.add 5) = some (.string o.t) := by
 obtain ⟨_, hlen, hc⟩ := World.cells?_some h1
 obtain ⟨y0, y1, y2, y3, y4, y5, n, g0, g1, g2, g3, g4, g5⟩ := trod_struct6 Tryz.underlying44 h2
 have ci : Tryz.prog.cellsOf 3 = 1 := by kernel_rfl
 have cst : Tryz.prog.cellsOf 9 = 1 := by kernel_rfl
 dsimp only at g0 g1 g2 g3 g4 g5
 rw [ci] at g0 g1 g2 g3
 rw [cst] at g4 g5
 match cs, hlen with
 | [v0, v1, v2, v3, v4, v5], _ =>
  obtain ⟨n0, e0, _, w0⟩ := DataW.trod_int Tryz.underlying3 g0
  obtain ⟨n1, e1, _, w1⟩ := DataW.trod_int Tryz.underlying3 g1
  obtain ⟨n2, e2, _, w2⟩ := DataW.trod_int Tryz.underlying3 g2
  obtain ⟨n3, e3, _, w3⟩ := DataW.trod_int Tryz.underlying3 g3
  obtain ⟨s4, e4, _, z4⟩ := DataW.trod_string Tryz.underlying9 g4
  obtain ⟨s5, e5, _, z5⟩ := DataW.trod_string Tryz.underlying9 g5
  have q0 : v0 = .int .i64 n0 := (List.cons.inj e0).1
  have q1 : v1 = .int .i64 n1 := (List.cons.inj e1).1
  have q2 : v2 = .int .i64 n2 := (List.cons.inj e2).1
  have q3 : v3 = .int .i64 n3 := (List.cons.inj e3).1
  have q4 : v4 = .string s4 := (List.cons.inj e4).1
  have q5 : v5 = .string s5 := (List.cons.inj e5).1
  clear e0 e1 e2 e3 e4 e5
  subst q0 q1 q2 q3 q4 q5
  exact ⟨⟨n0, n1, n2, n3, s4, s5⟩, ⟨(bd w1).1, (bd w1).2, (bd w2).1, (bd w2).2, (bd w3).1, (bd w3).2, z4⟩, z5, hc 0 (by omega), hc 1 (by omega), hc 2 (by omega), hc 3 (by omega), hc 4 (by omega), hc 5 (by omega)⟩
theorem all_any {H : Type} {enc : TypeId × Value → H} {W : World} {sa : Option Addr} {len cap : Nat} {fuel : Nat} {x : DataW H × List MemPlace} (ht : Tab W) (h : DataW.trod enc Tryz.prog W 0 (fun _ => true) true fuel 28 [.slice sa len cap] = some x) :
  Calls Tryz.prog 5 #[.slice sa len cap] W fun e w' => e = .returned (.bool true) ∧ Below W.heap.size W w' := by
 have c6 : Tryz.prog.cellsOf 44 = 6 := by kernel_rfl
 rcases Go.Deep.open_slice Tryz.underlying28 h with ⟨hc, _⟩ | ⟨a, len', cap', m, n, D, Pl, hc, _, hl, hm, hmm, _, hall⟩
 ·simp only [List.cons.injEq, Value.slice.injEq, and_true] at hc
  obtain ⟨rfl, rfl, rfl⟩ := hc
  exact all_nil W none 0
 ·simp only [List.cons.injEq, Value.slice.injEq, and_true] at hc
  obtain ⟨rfl, rfl, rfl⟩ := hc
  simp only [if_true] at hmm
  subst hmm
  rw [c6] at hall
  rcases Nat.eq_zero_or_pos len with h0 | h0
  ·subst h0; exact all_nil W (some a) m
  ·obtain ⟨os, hos⟩ := Go.Deep.choose_lt (α := OpV) (n := len) (p := fun i o => o.ok ∧ o.t.size ≤ maxLen ∧ W.cell? ((a.add (i * 6)).add 0) = some (.int .i64 o.kind) ∧ W.cell? ((a.add (i * 6)).add 1) = some (.int .i64 o.a) ∧ W.cell? ((a.add (i * 6)).add 2) = some (.int .i64 o.b) ∧ W.cell? ((a.add (i * 6)).add 3) = some (.int .i64 o.c) ∧ W.cell? ((a.add (i * 6)).add 4) = some (.string o.s) ∧ W.cell? ((a.add (i * 6)).add 5) = some (.string o.t)) (fun i hi => by
    obtain ⟨cs', g1, g2⟩ := hall i (by omega)
    exact one_op g1 g2)
   obtain ⟨sb, so, spot⟩ := a
   have hspot : spot = none := by
    have := World.cell?_spot (hos 0 h0).2.2.1
    simpa [Addr.add] using this
   subst hspot
   have ea : ∀ i j : Nat, ((⟨sb, so, none⟩ : Addr).add (i * 6)).add j = ⟨sb, so + i * 6 + j, none⟩ := fun i j => by
    rw [Go.Deep.add_add]
    by_cases hz : i * 6 + j = 0
    ·rw [hz, show so + i * 6 + j = so from by omega]; simp [Addr.add]
    ·rw [Nat.add_assoc]
     generalize i * 6 + j = q at hz ⊢
     simp [Addr.add, hz]
   simp only [ea, Nat.add_zero] at hos
   exact all_some W sb so len m os ⟨fun i hi => ⟨(hos i hi).1, (hos i hi).2.1⟩, fun i hi => (hos i hi).2.2.1, fun i hi => (hos i hi).2.2.2.1, fun i hi => (hos i hi).2.2.2.2.1, fun i hi => (hos i hi).2.2.2.2.2.1, fun i hi => (hos i hi).2.2.2.2.2.2.1, fun i hi => (hos i hi).2.2.2.2.2.2.2⟩ ht

theorem lifted (os : Os) (started : os.Started) (H : Type) (enc : TypeId × Value → H) :
  ReturnsInHanded {} Tryz.checked os 5 .any (fun w args => (Rows.allSpec.pre enc Tryz.prog Tryz.f5 Rows.allRow.domain false w args ∧ laidMetH Tryz.prog Rows.allRow.laid w) ∧ sizedMet enc Tryz.prog Tryz.f5 (OpenSpec.ofChange Rows.allSpec) false w args)
   (Rows.allSpec.post enc Tryz.prog Tryz.f5 false true false false) := by
 refine returnsInHanded_of_change_and (C := Tryz.checked) (X := fun w _ => laidMetH Tryz.prog Rows.allRow.laid w) (fun _ _ _ hh h => h.of_heap hh) own started (by kernel_rfl) Tryz.func5
  (ChangeSpec.witness_shaped (enc := enc) (C := Tryz.checked) (os := os) (X := fun w _ => laidMetH Tryz.prog Rows.allRow.laid w) false (World.laidAll Tryz.prog os Rows.allRow.laid) #[.slice none 0 0] 8 (World.laidAll_os _ _ _)
   (World.shaped_of_ZipB (by kernel_rfl) (by kernel_rfl)) (by kernel_rfl) (by kernel_rfl) (by kernel_rfl)
   (by rw [MakeChecks.laidMetH_plain _ _ _ (by kernel_rfl)]; exact laidMet_laidAll _ (by kernel_rfl) (by kernel_rfl))) ?_
 intro W base args ds gs before hval0 hW hcnd _ hL _
 have hval : ∀ (j : Nat) t v, Tryz.f5.params[j]? = some t → args[j]? = some v → Value.okWide Tryz.prog W .any base t v := hval0
 have hW' := hW
 obtain ⟨p, q, hA0, hV, rfl, hfz, hnd⟩ := hW
 have hA : DataW.TrodAll enc Tryz.prog W 0 (fun _ => true) true Tryz.f5.params.toList args.toList ds p := hA0
 rw [Tryz.params5] at hA hval
 obtain ⟨v0, d0, rfl, rfl, h0⟩ := trodAll_one hA
 obtain ⟨rfl, rfl⟩ := trodVars_none hV
 obtain ⟨sa, len, cap, rfl⟩ := okWide_slice Tryz.underlying28 (hval 0 28 v0 rfl rfl)
 have h0k := h0
 obtain ⟨fuel0, hf⟩ := h0
 have htab := table hL
 have hlt : ∀ x ∈ p, x.block < W.heap.size := fun x hx => hW'.lt x (by simpa using hx)
 clear hA0 hval0 hL
 refine (all_any htab hf).mono fun e W' ⟨he, bel⟩ => ?_
 subst he
 exact ⟨_, rfl, _, _, _, [], _, [], hW', trodAll_mk1 (shut_bool Tryz.underlying4 _), trodAll_mk1 (WideElems.Trod_stays (P := Tryz.prog) laidOut (by kernel_rfl) (of_decide_eq_true (by kernel_rfl)) h0k (fun x hx => bel.same (hlt x hx)) (fun x hx => by simpa using hlt x hx)), rfl, bel.frame _, fun h => by cases h⟩

theorem over : Rows.allRow.holds Tryz.pinned (OpenSpec.ofChange Rows.allSpec) :=
 OpenClaim.holds_of_wide 5 Tryz.f5 rfl rfl rfl rfl rfl rfl rfl ⟨rfl, rfl, rfl, rfl, rfl⟩ rfl rfl rfl rfl rfl (by kernel_rfl) Tryz.func5 (by kernel_rfl)
  (of_decide_eq_true (by kernel_rfl)) (by unfold Func.isWrapper; first | (rw [if_pos (by decide +kernel)]; kernel_rfl) | (rw [if_neg (by decide +kernel)]; exact ⟨rfl, rfl⟩))
  (fun os started H enc _ => lifted os started H enc)
end Go.Proofs.YtbkdaoicnobllabGreatDoor.all
namespace Go.Proofs.YtbkdaoicnobllabGreatDoor
theorem all_card : Rows.AllCardSaid :=
 Claim7.holds_tied_plain_at .later [] [.data, .data, .data] true (true, "c7ac54291756098138eba8e4b12fe1bd422a290909209235350cd67aaf901474") false all.over (fun _ h => by cases h) (by kernel_rfl) (fun _ h => by cases h) all_row_tie rfl ⟨rfl, rfl⟩ (by kernel_rfl) rfl
  (fun f fn hf hfn => by
   obtain rfl : f = 5 := Option.some.inj ((show Tryz.prog.funcNamed "figures/figureslaw.All" = some 5 by kernel_rfl).symm.trans hf) |>.symm
   obtain rfl : fn = Tryz.f5 := (Option.some.inj (Tryz.func5.symm.trans hfn)).symm
   exact ⟨by kernel_rfl, fun j t ht => by
    rw [Tryz.params5] at ht
    have hm : t ∈ [28] := by simpa using Array.mem_of_getElem? ht
    have hall : ([28].all fun u => !Tryz.prog.wantsStandIn u) = true := by kernel_rfl
    exact (show Tryz.prog.wantsStandIn t = false by simpa using List.all_eq_true.1 hall t hm)⟩)
  (by kernel_rfl)
#print axioms all_card
end Go.Proofs.YtbkdaoicnobllabGreatDoor
