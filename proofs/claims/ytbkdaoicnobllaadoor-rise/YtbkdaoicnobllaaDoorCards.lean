/-
  DERIVED. GIVEN WITH THE SEED: THE CARDS: each row of YtbkdaoicnobllaaDoorRows.lean that lists a variable, with what it lists TIED to the program's text (the seventh form; the later family's looks); each row that meets fmt, with fmt's text TOLD by the authors' own Lean function (tested against real Go, not proved from fmt's source: count such statements apart). THE CARD IS WHAT COUNTS. Prove the row's statement (the work); the ties are given (YtbkdaoicnobllaaDoorTie.lean); close each card by the builder's one call (the guide's Derived/Test/ToyasCard.lean, 'card_holds'). Laid BY PROGRAM, IN A SANDBOX (cutbox-door.mjs). By AI agents, Wed Nov 11 2026. No macro, syntax, notation, axiom, sorry.
-/
import Derived.Test.YtbkdaoicnobllaaDoorRows
import GoSem.ClaimSeven
namespace Go.Proofs.YtbkdaoicnobllaaDoor
namespace Rows

/-- THE TIED CARD OF 'figureslaw.Hexes'. -/
def hexesCard : Claim7 := { stood := { row := hexesRow, standIns := [], harness := (true, "5a9d027e8512f970e327b7e5e2b46ac86679053edd021b80fbd8565b684e28d0"), looks := false }, kinds := [], alts := [], laidByText := true, laidKinds := [.data, .data, .data], laidTests := true, laidLooks := .later }
def HexesCardSaid : Prop := Claim7.holds Tryd.pinned (.plain (OpenSpec.ofChange hexesSpec)) hexesCard

/-- THE TIED CARD OF 'figureslaw.Digits'. -/
def digitsCard : Claim7 := { stood := { row := digitsRow, standIns := [], harness := (true, "5a9d027e8512f970e327b7e5e2b46ac86679053edd021b80fbd8565b684e28d0"), looks := false }, kinds := [], alts := [], laidByText := true, laidKinds := [.data, .data, .data], laidTests := true, laidLooks := .later }
def DigitsCardSaid : Prop := Claim7.holds Tryd.pinned (.plain (OpenSpec.ofChange digitsSpec)) digitsCard

/-- THE TIED CARD OF 'figureskeep.Rise'. -/
def riseCard : Claim7 := { stood := { row := riseRow, standIns := [], harness := (true, "5a9d027e8512f970e327b7e5e2b46ac86679053edd021b80fbd8565b684e28d0"), looks := false }, kinds := [], alts := [], laidByText := true, laidKinds := [.data, .data, .data], laidTests := true, laidLooks := .later }
def RiseCardSaid : Prop := Claim7.holds Tryd.pinned (.plain (OpenSpec.ofChange riseSpec)) riseCard

/-- THE TIED CARD OF 'figureslaw.Asked'. -/
def askedCard : Claim7 := { stood := { row := askedRow, standIns := [], harness := (true, "5a9d027e8512f970e327b7e5e2b46ac86679053edd021b80fbd8565b684e28d0"), looks := false }, kinds := [], alts := [], laidByText := true, laidKinds := [.data, .data, .data], laidTests := true, laidLooks := .later }
def AskedCardSaid : Prop := Claim7.holds Tryd.pinned (.plain (OpenSpec.ofChange askedSpec)) askedCard

/-- THE TIED CARD OF 'figureslaw.Shorts'. -/
def shortsCard : Claim7 := { stood := { row := shortsRow, standIns := [], harness := (true, "5a9d027e8512f970e327b7e5e2b46ac86679053edd021b80fbd8565b684e28d0"), looks := false }, kinds := [], alts := [], laidByText := true, laidKinds := [.data, .data, .data], laidTests := true, laidLooks := .later }
def ShortsCardSaid : Prop := Claim7.holds Tryd.pinned (.plain (OpenSpec.ofChange shortsSpec)) shortsCard

/-- THE SECOND FORM's CARD OF 'figureslaw.Hexes'. -/
def hexesUptoCard : Claim7 := { stood := { row := hexesUptoRow, standIns := [], harness := (true, "5a9d027e8512f970e327b7e5e2b46ac86679053edd021b80fbd8565b684e28d0"), looks := false }, kinds := [], alts := [], laidByText := true, laidKinds := [.data, .data, .data], laidTests := true, laidLooks := .later }
def HexesUptoCardSaid : Prop := Claim7.holds Tryd.pinned (.plain (OpenSpec.upto hexesSpec)) hexesUptoCard

/-- THE SECOND FORM's CARD OF 'figureslaw.Digits'. -/
def digitsUptoCard : Claim7 := { stood := { row := digitsUptoRow, standIns := [], harness := (true, "5a9d027e8512f970e327b7e5e2b46ac86679053edd021b80fbd8565b684e28d0"), looks := false }, kinds := [], alts := [], laidByText := true, laidKinds := [.data, .data, .data], laidTests := true, laidLooks := .later }
def DigitsUptoCardSaid : Prop := Claim7.holds Tryd.pinned (.plain (OpenSpec.upto digitsSpec)) digitsUptoCard

/-- THE SECOND FORM's CARD OF 'figureskeep.Rise'. -/
def riseUptoCard : Claim7 := { stood := { row := riseUptoRow, standIns := [], harness := (true, "5a9d027e8512f970e327b7e5e2b46ac86679053edd021b80fbd8565b684e28d0"), looks := false }, kinds := [], alts := [], laidByText := true, laidKinds := [.data, .data, .data], laidTests := true, laidLooks := .later }
def RiseUptoCardSaid : Prop := Claim7.holds Tryd.pinned (.plain (OpenSpec.upto riseSpec)) riseUptoCard

/-- THE SECOND FORM's CARD OF 'figureslaw.Asked'. -/
def askedUptoCard : Claim7 := { stood := { row := askedUptoRow, standIns := [], harness := (true, "5a9d027e8512f970e327b7e5e2b46ac86679053edd021b80fbd8565b684e28d0"), looks := false }, kinds := [], alts := [], laidByText := true, laidKinds := [.data, .data, .data], laidTests := true, laidLooks := .later }
def AskedUptoCardSaid : Prop := Claim7.holds Tryd.pinned (.plain (OpenSpec.upto askedSpec)) askedUptoCard

/-- THE SECOND FORM's CARD OF 'figureslaw.Shorts'. -/
def shortsUptoCard : Claim7 := { stood := { row := shortsUptoRow, standIns := [], harness := (true, "5a9d027e8512f970e327b7e5e2b46ac86679053edd021b80fbd8565b684e28d0"), looks := false }, kinds := [], alts := [], laidByText := true, laidKinds := [.data, .data, .data], laidTests := true, laidLooks := .later }
def ShortsUptoCardSaid : Prop := Claim7.holds Tryd.pinned (.plain (OpenSpec.upto shortsSpec)) shortsUptoCard
end Rows
end Go.Proofs.YtbkdaoicnobllaaDoor
