/-
  DERIVED. GIVEN WITH THE SEED: THE CARDS: each row of YtbkdaoicnobllaaGreatDoorRows.lean that lists a variable, with what it lists TIED to the program's text (the seventh form; the later family's looks); each row that meets fmt, with fmt's text TOLD by the authors' own Lean function (tested against real Go, not proved from fmt's source: count such statements apart). THE CARD IS WHAT COUNTS. Prove the row's statement (the work); the ties are given (YtbkdaoicnobllaaGreatDoorTie.lean); close each card by the builder's one call (the guide's Derived/Test/ToyasCard.lean, 'card_holds'). Laid BY PROGRAM, IN A SANDBOX (cutbox-door.mjs). By AI agents, Wed Nov 11 2026. No macro, syntax, notation, axiom, sorry.
-/
import Derived.Test.YtbkdaoicnobllaaGreatDoorRows
import GoSem.ClaimSeven
namespace Go.Proofs.YtbkdaoicnobllaaGreatDoor
namespace Rows

/-- THE TIED CARD OF 'figureskeep.Half'. -/
def halfCard : Claim7 := { stood := { row := halfRow, standIns := [], harness := (true, "d51ae0cd5bb3a431fb17285b2b1280c886db6acc1b30088224c6790b70e5d8eb"), looks := false }, kinds := [], alts := [], laidByText := true, laidKinds := [.data, .data, .data], laidTests := true, laidLooks := .later }
def HalfCardSaid : Prop := Claim7.holds Tryz.pinned (.plain (OpenSpec.ofChange halfSpec)) halfCard

/-- THE TIED CARD OF 'figureskeep.Whole'. -/
def wholeCard : Claim7 := { stood := { row := wholeRow, standIns := [], harness := (true, "d51ae0cd5bb3a431fb17285b2b1280c886db6acc1b30088224c6790b70e5d8eb"), looks := false }, kinds := [], alts := [], laidByText := true, laidKinds := [.data, .data, .data], laidTests := true, laidLooks := .later }
def WholeCardSaid : Prop := Claim7.holds Tryz.pinned (.plain (OpenSpec.ofChange wholeSpec)) wholeCard

/-- THE SECOND FORM's CARD OF 'figureskeep.Half'. -/
def halfUptoCard : Claim7 := { stood := { row := halfUptoRow, standIns := [], harness := (true, "d51ae0cd5bb3a431fb17285b2b1280c886db6acc1b30088224c6790b70e5d8eb"), looks := false }, kinds := [], alts := [], laidByText := true, laidKinds := [.data, .data, .data], laidTests := true, laidLooks := .later }
def HalfUptoCardSaid : Prop := Claim7.holds Tryz.pinned (.plain (OpenSpec.upto halfSpec)) halfUptoCard

/-- THE SECOND FORM's CARD OF 'figureskeep.Whole'. -/
def wholeUptoCard : Claim7 := { stood := { row := wholeUptoRow, standIns := [], harness := (true, "d51ae0cd5bb3a431fb17285b2b1280c886db6acc1b30088224c6790b70e5d8eb"), looks := false }, kinds := [], alts := [], laidByText := true, laidKinds := [.data, .data, .data], laidTests := true, laidLooks := .later }
def WholeUptoCardSaid : Prop := Claim7.holds Tryz.pinned (.plain (OpenSpec.upto wholeSpec)) wholeUptoCard
end Rows
end Go.Proofs.YtbkdaoicnobllaaGreatDoor
