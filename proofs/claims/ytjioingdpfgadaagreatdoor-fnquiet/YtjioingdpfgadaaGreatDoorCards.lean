/-
  DERIVED. GIVEN WITH THE SEED: THE CARDS: each row of YtjioingdpfgadaaGreatDoorRows.lean that lists a variable, with what it lists TIED to the program's text (the seventh form; the later family's looks); each row that meets fmt, with fmt's text TOLD by the authors' own Lean function (tested against real Go, not proved from fmt's source: count such statements apart). THE CARD IS WHAT COUNTS. Prove the row's statement (the work); the ties are given (YtjioingdpfgadaaGreatDoorTie.lean); close each card by the builder's one call (the guide's Derived/Test/ToyasCard.lean, 'card_holds'). Laid BY PROGRAM, IN A SANDBOX (cutbox-door.mjs). By AI agents, Wed Nov 11 2026. No macro, syntax, notation, axiom, sorry.
-/
import Derived.Test.YtjioingdpfgadaaGreatDoorRows
import GoSem.ClaimSeven
namespace Go.Proofs.YtjioingdpfgadaaGreatDoor
namespace Rows

/-- THE TIED CARD OF 'laws.FnTop'. -/
def fnTopCard : Claim7 := { stood := { row := fnTopRow, standIns := [], harness := (true, "b0f05d3b32d6de8f263d7d20b87f758ac6391c5f8c0eedb9f54bcbe3daa8c482"), looks := true }, kinds := [], alts := [], laidByText := true, laidKinds := [.data, .data, .data, .handle, .sentinel, .sentinel, .sentinel, .sentinel, .sentinel, .sentinel, .sentinel, .sentinel], laidTests := true, laidLooks := .later }
def FnTopCardSaid : Prop := Claim7.holds Tryz.pinned (.plain (OpenSpec.ofChange fnTopSpec)) fnTopCard

/-- THE TIED CARD OF 'laws.FnQuiet'. -/
def fnQuietCard : Claim7 := { stood := { row := fnQuietRow, standIns := [], harness := (true, "b0f05d3b32d6de8f263d7d20b87f758ac6391c5f8c0eedb9f54bcbe3daa8c482"), looks := true }, kinds := [], alts := [], laidByText := true, laidKinds := [.data, .data, .data, .handle, .sentinel, .sentinel, .sentinel, .sentinel, .sentinel, .sentinel, .sentinel, .sentinel], laidTests := true, laidLooks := .later }
def FnQuietCardSaid : Prop := Claim7.holds Tryz.pinned (.plain (OpenSpec.ofChange fnQuietSpec)) fnQuietCard

/-- THE TIED CARD OF 'laws.FnPast'. -/
def fnPastCard : Claim7 := { stood := { row := fnPastRow, standIns := [], harness := (true, "b0f05d3b32d6de8f263d7d20b87f758ac6391c5f8c0eedb9f54bcbe3daa8c482"), looks := true }, kinds := [], alts := [], laidByText := true, laidKinds := [.data, .data, .data, .handle, .sentinel, .sentinel, .sentinel, .sentinel, .sentinel, .sentinel, .sentinel, .sentinel], laidTests := true, laidLooks := .later }
def FnPastCardSaid : Prop := Claim7.holds Tryz.pinned (.plain (OpenSpec.ofChange fnPastSpec)) fnPastCard

/-- THE SECOND FORM's CARD OF 'laws.FnTop'. -/
def fnTopUptoCard : Claim7 := { stood := { row := fnTopUptoRow, standIns := [], harness := (true, "b0f05d3b32d6de8f263d7d20b87f758ac6391c5f8c0eedb9f54bcbe3daa8c482"), looks := true }, kinds := [], alts := [], laidByText := true, laidKinds := [.data, .data, .data, .handle, .sentinel, .sentinel, .sentinel, .sentinel, .sentinel, .sentinel, .sentinel, .sentinel], laidTests := true, laidLooks := .later }
def FnTopUptoCardSaid : Prop := Claim7.holds Tryz.pinned (.plain (OpenSpec.upto fnTopSpec)) fnTopUptoCard

/-- THE SECOND FORM's CARD OF 'laws.FnQuiet'. -/
def fnQuietUptoCard : Claim7 := { stood := { row := fnQuietUptoRow, standIns := [], harness := (true, "b0f05d3b32d6de8f263d7d20b87f758ac6391c5f8c0eedb9f54bcbe3daa8c482"), looks := true }, kinds := [], alts := [], laidByText := true, laidKinds := [.data, .data, .data, .handle, .sentinel, .sentinel, .sentinel, .sentinel, .sentinel, .sentinel, .sentinel, .sentinel], laidTests := true, laidLooks := .later }
def FnQuietUptoCardSaid : Prop := Claim7.holds Tryz.pinned (.plain (OpenSpec.upto fnQuietSpec)) fnQuietUptoCard

/-- THE SECOND FORM's CARD OF 'laws.FnPast'. -/
def fnPastUptoCard : Claim7 := { stood := { row := fnPastUptoRow, standIns := [], harness := (true, "b0f05d3b32d6de8f263d7d20b87f758ac6391c5f8c0eedb9f54bcbe3daa8c482"), looks := true }, kinds := [], alts := [], laidByText := true, laidKinds := [.data, .data, .data, .handle, .sentinel, .sentinel, .sentinel, .sentinel, .sentinel, .sentinel, .sentinel, .sentinel], laidTests := true, laidLooks := .later }
def FnPastUptoCardSaid : Prop := Claim7.holds Tryz.pinned (.plain (OpenSpec.upto fnPastSpec)) fnPastUptoCard
end Rows
end Go.Proofs.YtjioingdpfgadaaGreatDoor
