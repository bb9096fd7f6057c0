/-
  DERIVED. GIVEN WITH THE SEED: THE CARDS: each row of YtgnipbdefgdppabGreatDoorRows.lean that lists a variable, with what it lists TIED to the program's text (the seventh form; the later family's looks); each row that meets fmt, with fmt's text TOLD by the authors' own Lean function (tested against real Go, not proved from fmt's source: count such statements apart). THE CARD IS WHAT COUNTS. Prove the row's statement (the work); the ties are given (YtgnipbdefgdppabGreatDoorTie.lean); close each card by the builder's one call (the guide's Derived/Test/ToyasCard.lean, 'card_holds'). Laid BY PROGRAM, IN A SANDBOX (cutbox-door.mjs). By AI agents, Wed Nov 11 2026. No macro, syntax, notation, axiom, sorry.
-/
import Derived.Test.YtgnipbdefgdppabGreatDoorRows
import GoSem.ClaimSeven
namespace Go.Proofs.YtgnipbdefgdppabGreatDoor
namespace Rows

/-- THE TIED CARD OF 'laws.FnExactBoard'. -/
def fnExactBoardCard : Claim7 := { stood := { row := fnExactBoardRow, standIns := [], harness := (true, "994123929a3e06b793b449d0cff37fddad091e332f39a2d0e71ef99bdc94a6ff"), looks := true }, kinds := [], alts := [], laidByText := true, laidKinds := [.handle, .sentinel, .sentinel, .sentinel, .sentinel, .sentinel, .sentinel, .sentinel, .sentinel], laidTests := true, laidLooks := .later }
def FnExactBoardCardSaid : Prop := Claim7.holds Tryz.pinned (.plain (OpenSpec.ofChange fnExactBoardSpec)) fnExactBoardCard

/-- THE TIED CARD OF 'laws.FnExactShown'. -/
def fnExactShownCard : Claim7 := { stood := { row := fnExactShownRow, standIns := [], harness := (true, "994123929a3e06b793b449d0cff37fddad091e332f39a2d0e71ef99bdc94a6ff"), looks := true }, kinds := [], alts := [], laidByText := true, laidKinds := [.data, .data, .data, .handle, .sentinel, .sentinel, .sentinel, .sentinel, .sentinel, .sentinel, .sentinel, .sentinel], laidTests := true, laidLooks := .later }
def FnExactShownCardSaid : Prop := Claim7.holds Tryz.pinned (.plain (OpenSpec.ofChange fnExactShownSpec)) fnExactShownCard

/-- THE SECOND FORM's CARD OF 'laws.FnExactBoard'. -/
def fnExactBoardUptoCard : Claim7 := { stood := { row := fnExactBoardUptoRow, standIns := [], harness := (true, "994123929a3e06b793b449d0cff37fddad091e332f39a2d0e71ef99bdc94a6ff"), looks := true }, kinds := [], alts := [], laidByText := true, laidKinds := [.handle, .sentinel, .sentinel, .sentinel, .sentinel, .sentinel, .sentinel, .sentinel, .sentinel], laidTests := true, laidLooks := .later }
def FnExactBoardUptoCardSaid : Prop := Claim7.holds Tryz.pinned (.plain (OpenSpec.upto fnExactBoardSpec)) fnExactBoardUptoCard

/-- THE SECOND FORM's CARD OF 'laws.FnExactShown'. -/
def fnExactShownUptoCard : Claim7 := { stood := { row := fnExactShownUptoRow, standIns := [], harness := (true, "994123929a3e06b793b449d0cff37fddad091e332f39a2d0e71ef99bdc94a6ff"), looks := true }, kinds := [], alts := [], laidByText := true, laidKinds := [.data, .data, .data, .handle, .sentinel, .sentinel, .sentinel, .sentinel, .sentinel, .sentinel, .sentinel, .sentinel], laidTests := true, laidLooks := .later }
def FnExactShownUptoCardSaid : Prop := Claim7.holds Tryz.pinned (.plain (OpenSpec.upto fnExactShownSpec)) fnExactShownUptoCard
end Rows
end Go.Proofs.YtgnipbdefgdppabGreatDoor
