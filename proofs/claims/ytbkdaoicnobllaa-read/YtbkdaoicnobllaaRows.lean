/-
  No cell of these rows narrows 'for every input' (looked for: loops, veiled, ifaces, maps, wideKeys, modest, calm, conditions, laid).
  DERIVED. THE GIVEN ROWS OF THIS SEAT. 5 by the template 'for every input the law returns true; each argument reads behind the call as it read before'; 0 by the template 'total and deterministic' (their statements: YtbkdaoicnobllaaTotals.lean).
  GIVEN WITH THE SEED: the statements are not yours to turn. If you find one false, say at which input.
  Laid BY PROGRAM, IN A SANDBOX (cutbox-rows.mjs): the forced cells as the released guide's own fill.sh prints them over the translation 3c8c306aa4b4a80d… (all of the seat's roots in one cut). By AI agents, Wed Nov 11 2026. No macro, syntax, notation, axiom, sorry.
-/
import Derived.Test.YtbkdaoicnobllaaChecked
import GoSem.Claim
import GoSem.ClaimJoined
import GoSem.ClaimMapViews
import Derived.JoinedTies
import Derived.KernelRfl
namespace Go.Proofs.Ytbkdaoicnobllaa
/- THE CELL 'sum', in the pinned program and in every row, IS THE sha256 OF THE DUMP (.gsa) THAT YtbkdaoicnobllaaProg.lean LOADS. Nothing in Lean hashes anything: it is a label: what it is worth is what the hold of that sum in a sandbox is worth. -/
noncomputable def Try.pinned : Pinned := { name := "ytbkdaoicnobllaa", sum := "3c8c306aa4b4a80d709e47ecb240d01915c382e7a49f5edbb2837bfb45dd2d48", checked := Try.checked }
namespace Rows
def none {H : Type} : Left H := { results := [], args := [] }

/-- 'figureslaw.Parses': WHATEVER THE INPUT: true; the input reads as it did. -/
def parsesSpec : ChangeSpec := { name := "parses", fn := fun _ => fun
  | [d1, d2, d3] => { results := [.lit (.bool true)], args := [d1, d2, d3] }
  | _ => none }
def parsesRow : OpenClaim := { program := "ytbkdaoicnobllaa", sum := "3c8c306aa4b4a80d709e47ecb240d01915c382e7a49f5edbb2837bfb45dd2d48", func := "figures/figureslaw.Parses", spec := "parses", apart := false }
def ParsesSaid : Prop := parsesRow.holds Try.pinned (OpenSpec.ofChange parsesSpec)

/-- ITS FALSE NEIGHBOUR: 'it returns false'. Refute it at one input. -/
def parsesWrong : ChangeSpec := { name := "parses", fn := fun _ => fun
  | [d1, d2, d3] => { results := [.lit (.bool false)], args := [d1, d2, d3] }
  | _ => none }
def ParsesWrongFalsely : Prop := parsesRow.holds Try.pinned (OpenSpec.ofChange parsesWrong)

/-- 'figureskeep.Read': WHATEVER THE INPUT: true; the input reads as it did. -/
def readSpec : ChangeSpec := { name := "read", fn := fun _ => fun
  | [d] => { results := [.lit (.bool true)], args := [d] }
  | _ => none }
def readRow : OpenClaim := { program := "ytbkdaoicnobllaa", sum := "3c8c306aa4b4a80d709e47ecb240d01915c382e7a49f5edbb2837bfb45dd2d48", func := "figures/figureskeep.Read", spec := "read", apart := false }
def ReadSaid : Prop := readRow.holds Try.pinned (OpenSpec.ofChange readSpec)

/-- ITS FALSE NEIGHBOUR: 'it returns false'. Refute it at one input. -/
def readWrong : ChangeSpec := { name := "read", fn := fun _ => fun
  | [d] => { results := [.lit (.bool false)], args := [d] }
  | _ => none }
def ReadWrongFalsely : Prop := readRow.holds Try.pinned (OpenSpec.ofChange readWrong)

/-- 'figureskeep.Modes': WHATEVER THE INPUT: true; the input reads as it did. -/
def modesSpec : ChangeSpec := { name := "modes", fn := fun _ => fun
  | [d1, d2] => { results := [.lit (.bool true)], args := [d1, d2] }
  | _ => none }
def modesRow : OpenClaim := { program := "ytbkdaoicnobllaa", sum := "3c8c306aa4b4a80d709e47ecb240d01915c382e7a49f5edbb2837bfb45dd2d48", func := "figures/figureskeep.Modes", spec := "modes", apart := false }
def ModesSaid : Prop := modesRow.holds Try.pinned (OpenSpec.ofChange modesSpec)

/-- ITS FALSE NEIGHBOUR: 'it returns false'. Refute it at one input. -/
def modesWrong : ChangeSpec := { name := "modes", fn := fun _ => fun
  | [d1, d2] => { results := [.lit (.bool false)], args := [d1, d2] }
  | _ => none }
def ModesWrongFalsely : Prop := modesRow.holds Try.pinned (OpenSpec.ofChange modesWrong)

/-- 'figureskeep.Mirrored': WHATEVER THE INPUT: true; the input reads as it did. -/
def mirroredSpec : ChangeSpec := { name := "mirrored", fn := fun _ => fun
  | [d1, d2] => { results := [.lit (.bool true)], args := [d1, d2] }
  | _ => none }
def mirroredRow : OpenClaim := { program := "ytbkdaoicnobllaa", sum := "3c8c306aa4b4a80d709e47ecb240d01915c382e7a49f5edbb2837bfb45dd2d48", func := "figures/figureskeep.Mirrored", spec := "mirrored", apart := false }
def MirroredSaid : Prop := mirroredRow.holds Try.pinned (OpenSpec.ofChange mirroredSpec)

/-- ITS FALSE NEIGHBOUR: 'it returns false'. Refute it at one input. -/
def mirroredWrong : ChangeSpec := { name := "mirrored", fn := fun _ => fun
  | [d1, d2] => { results := [.lit (.bool false)], args := [d1, d2] }
  | _ => none }
def MirroredWrongFalsely : Prop := mirroredRow.holds Try.pinned (OpenSpec.ofChange mirroredWrong)

/-- 'figureskeep.Like': WHATEVER THE INPUT: true; the input reads as it did. -/
def likeSpec : ChangeSpec := { name := "like", fn := fun _ => fun
  | [d1, d2, d3, d4] => { results := [.lit (.bool true)], args := [d1, d2, d3, d4] }
  | _ => none }
def likeRow : OpenClaim := { program := "ytbkdaoicnobllaa", sum := "3c8c306aa4b4a80d709e47ecb240d01915c382e7a49f5edbb2837bfb45dd2d48", func := "figures/figureskeep.Like", spec := "like", recurses := true, apart := false }
def LikeSaid : Prop := likeRow.holds Try.pinned (OpenSpec.ofChange likeSpec)

/-- ITS FALSE NEIGHBOUR: 'it returns false'. Refute it at one input. -/
def likeWrong : ChangeSpec := { name := "like", fn := fun _ => fun
  | [d1, d2, d3, d4] => { results := [.lit (.bool false)], args := [d1, d2, d3, d4] }
  | _ => none }
def LikeWrongFalsely : Prop := likeRow.holds Try.pinned (OpenSpec.ofChange likeWrong)

/- THE SECOND FORM. 'bulk': how many values and letters a reading holds, each counted each time it is reached (what is shared counts as often as it is met; a slice's spare places count too). A statement '..UptoSaid' is the law's where the arguments, and the package variables that the reading takes, are together of bulk at most 1048576: NARROWER than '..Said'. Prove '..Said' where nothing that the law and all that it calls make is longer than what came in: it says more and counts as full. Else prove '..UptoSaid'. A law counts once. -/
mutual
def uptoBulk {H : Type} : DataW H → Nat
  | .lit (.string bytes) => bytes.length + 1
  | .lit _ => 1
  | .nil => 1
  | .ptr d => uptoBulk d + 1
  | .slice elems spare => uptoBulkAll elems + uptoBulkAll spare + 1
  | .agg parts => uptoBulkAll parts + 1
  | .iface _ d => uptoBulk d + 1
  | .map entries => uptoBulkEntries entries + 1
  | .held _ => 1
def uptoBulkAll {H : Type} : List (DataW H) → Nat
  | [] => 0
  | d :: r => uptoBulk d + uptoBulkAll r
def uptoBulkEntries {H : Type} : List (Lit × DataW H) → Nat
  | [] => 0
  | x :: r => uptoBulkEntry x + uptoBulkEntries r
def uptoBulkEntry {H : Type} : Lit × DataW H → Nat
  | (.string bytes, d) => bytes.length + uptoBulk d + 1
  | (_, d) => uptoBulk d + 1
 end
def uptoSmall : (H : Type) → List (DataW H) → Bool := fun _ ds => decide (uptoBulkAll ds ≤ 1048576)
def OpenSpec.upto (s : _root_.Go.ChangeSpec) : _root_.Go.OpenSpec := { _root_.Go.OpenSpec.ofChange s with cond := some uptoSmall }

/-- 'figureslaw.Parses', WHERE WHAT IT READS IS OF BULK AT MOST 1048576: true; the input reads as it did. -/
def parsesUptoRow : OpenClaim := { program := "ytbkdaoicnobllaa", sum := "3c8c306aa4b4a80d709e47ecb240d01915c382e7a49f5edbb2837bfb45dd2d48", func := "figures/figureslaw.Parses", spec := "parses", apart := false, narrowed := true }
def ParsesUptoSaid : Prop := parsesUptoRow.holds Try.pinned (OpenSpec.upto parsesSpec)

/-- 'figureskeep.Read', WHERE WHAT IT READS IS OF BULK AT MOST 1048576: true; the input reads as it did. -/
def readUptoRow : OpenClaim := { program := "ytbkdaoicnobllaa", sum := "3c8c306aa4b4a80d709e47ecb240d01915c382e7a49f5edbb2837bfb45dd2d48", func := "figures/figureskeep.Read", spec := "read", apart := false, narrowed := true }
def ReadUptoSaid : Prop := readUptoRow.holds Try.pinned (OpenSpec.upto readSpec)

/-- 'figureskeep.Modes', WHERE WHAT IT READS IS OF BULK AT MOST 1048576: true; the input reads as it did. -/
def modesUptoRow : OpenClaim := { program := "ytbkdaoicnobllaa", sum := "3c8c306aa4b4a80d709e47ecb240d01915c382e7a49f5edbb2837bfb45dd2d48", func := "figures/figureskeep.Modes", spec := "modes", apart := false, narrowed := true }
def ModesUptoSaid : Prop := modesUptoRow.holds Try.pinned (OpenSpec.upto modesSpec)

/-- 'figureskeep.Mirrored', WHERE WHAT IT READS IS OF BULK AT MOST 1048576: true; the input reads as it did. -/
def mirroredUptoRow : OpenClaim := { program := "ytbkdaoicnobllaa", sum := "3c8c306aa4b4a80d709e47ecb240d01915c382e7a49f5edbb2837bfb45dd2d48", func := "figures/figureskeep.Mirrored", spec := "mirrored", apart := false, narrowed := true }
def MirroredUptoSaid : Prop := mirroredUptoRow.holds Try.pinned (OpenSpec.upto mirroredSpec)

/-- 'figureskeep.Like', WHERE WHAT IT READS IS OF BULK AT MOST 1048576: true; the input reads as it did. -/
def likeUptoRow : OpenClaim := { program := "ytbkdaoicnobllaa", sum := "3c8c306aa4b4a80d709e47ecb240d01915c382e7a49f5edbb2837bfb45dd2d48", func := "figures/figureskeep.Like", spec := "like", recurses := true, apart := false, narrowed := true }
def LikeUptoSaid : Prop := likeUptoRow.holds Try.pinned (OpenSpec.upto likeSpec)

end Rows
end Go.Proofs.Ytbkdaoicnobllaa
