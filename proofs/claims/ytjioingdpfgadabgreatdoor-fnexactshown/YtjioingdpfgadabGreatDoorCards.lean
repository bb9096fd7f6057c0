/-
  DERIVED. GIVEN WITH THE SEED: THE CARDS: each row of YtjioingdpfgadabGreatDoorRows.lean that lists a variable, with what it lists TIED to the program's text (the seventh form; the later family's looks); each row that meets fmt, with fmt's text TOLD by the authors' own Lean function (tested against real Go, not proved from fmt's source: count such statements apart). THE CARD IS WHAT COUNTS. Prove the row's statement (the work); the ties are given (YtjioingdpfgadabGreatDoorTie.lean); close each card by the builder's one call (the guide's Derived/Test/ToyasCard.lean, 'card_holds'). Laid BY PROGRAM, IN A SANDBOX (cutbox-door.mjs). By AI agents, Wed Nov 11 2026. No macro, syntax, notation, axiom, sorry.
-/
import Derived.Test.YtjioingdpfgadabGreatDoorRows
import GoSem.ClaimSeven
namespace Go.Proofs.YtjioingdpfgadabGreatDoor
namespace Rows

/-- THE TIED CARD OF 'laws.FnExactBoard'. -/
def fnExactBoardCard : Claim7 := { stood := { row := fnExactBoardRow, standIns := [], harness := (true, "3382e61b29ed51ea9051cc125fbde8c5732be738b7f4b307a14a95248e36dfa1"), looks := true }, kinds := [], alts := [], laidByText := true, laidKinds := [.handle, .sentinel, .sentinel, .sentinel, .sentinel, .sentinel, .sentinel, .sentinel, .sentinel], laidTests := true, laidLooks := .later }
def FnExactBoardCardSaid : Prop := Claim7.holds Tryz.pinned (.plain (OpenSpec.ofChange fnExactBoardSpec)) fnExactBoardCard

/-- THE TIED CARD OF 'laws.FnExactShown'. -/
def fnExactShownCard : Claim7 := { stood := { row := fnExactShownRow, standIns := [], harness := (true, "3382e61b29ed51ea9051cc125fbde8c5732be738b7f4b307a14a95248e36dfa1"), looks := true }, kinds := [], alts := [], laidByText := true, laidKinds := [.data, .data, .data, .handle, .sentinel, .sentinel, .sentinel, .sentinel, .sentinel, .sentinel, .sentinel, .sentinel], laidTests := true, laidLooks := .later }
def FnExactShownCardSaid : Prop := Claim7.holds Tryz.pinned (.plain (OpenSpec.ofChange fnExactShownSpec)) fnExactShownCard

/-- THE TIED CARD OF 'laws.FnExactSay'. -/
def fnExactSayCard : Claim7 := { stood := { row := fnExactSayRow, standIns := [], harness := (true, "3382e61b29ed51ea9051cc125fbde8c5732be738b7f4b307a14a95248e36dfa1"), looks := true }, kinds := [], alts := [], laidByText := true, laidKinds := [.data, .data, .data, .handle, .sentinel, .sentinel, .sentinel, .sentinel, .sentinel, .sentinel, .sentinel, .sentinel], laidTests := true, laidLooks := .later }
def FnExactSayCardSaid : Prop := Claim7.holds Tryz.pinned (.plain (OpenSpec.ofChange fnExactSaySpec)) fnExactSayCard

/-- THE SECOND FORM's CARD OF 'laws.FnExactBoard'. -/
def fnExactBoardUptoCard : Claim7 := { stood := { row := fnExactBoardUptoRow, standIns := [], harness := (true, "3382e61b29ed51ea9051cc125fbde8c5732be738b7f4b307a14a95248e36dfa1"), looks := true }, kinds := [], alts := [], laidByText := true, laidKinds := [.handle, .sentinel, .sentinel, .sentinel, .sentinel, .sentinel, .sentinel, .sentinel, .sentinel], laidTests := true, laidLooks := .later }
def FnExactBoardUptoCardSaid : Prop := Claim7.holds Tryz.pinned (.plain (OpenSpec.upto fnExactBoardSpec)) fnExactBoardUptoCard

/-- THE SECOND FORM's CARD OF 'laws.FnExactShown'. -/
def fnExactShownUptoCard : Claim7 := { stood := { row := fnExactShownUptoRow, standIns := [], harness := (true, "3382e61b29ed51ea9051cc125fbde8c5732be738b7f4b307a14a95248e36dfa1"), looks := true }, kinds := [], alts := [], laidByText := true, laidKinds := [.data, .data, .data, .handle, .sentinel, .sentinel, .sentinel, .sentinel, .sentinel, .sentinel, .sentinel, .sentinel], laidTests := true, laidLooks := .later }
def FnExactShownUptoCardSaid : Prop := Claim7.holds Tryz.pinned (.plain (OpenSpec.upto fnExactShownSpec)) fnExactShownUptoCard

/-- THE SECOND FORM's CARD OF 'laws.FnExactSay'. -/
def fnExactSayUptoCard : Claim7 := { stood := { row := fnExactSayUptoRow, standIns := [], harness := (true, "3382e61b29ed51ea9051cc125fbde8c5732be738b7f4b307a14a95248e36dfa1"), looks := true }, kinds := [], alts := [], laidByText := true, laidKinds := [.data, .data, .data, .handle, .sentinel, .sentinel, .sentinel, .sentinel, .sentinel, .sentinel, .sentinel, .sentinel], laidTests := true, laidLooks := .later }
def FnExactSayUptoCardSaid : Prop := Claim7.holds Tryz.pinned (.plain (OpenSpec.upto fnExactSaySpec)) fnExactSayUptoCard
end Rows
end Go.Proofs.YtjioingdpfgadabGreatDoor
