/-
  DERIVED. GIVEN WITH THE SEED: THE CARDS: each row of YtjioingdpfgadaaDoorRows.lean that lists a variable, with what it lists TIED to the program's text (the seventh form; the later family's looks); each row that meets fmt, with fmt's text TOLD by the authors' own Lean function (tested against real Go, not proved from fmt's source: count such statements apart). THE CARD IS WHAT COUNTS. Prove the row's statement (the work); the ties are given (YtjioingdpfgadaaDoorTie.lean); close each card by the builder's one call (the guide's Derived/Test/ToyasCard.lean, 'card_holds'). Laid BY PROGRAM, IN A SANDBOX (cutbox-door.mjs). By AI agents, Wed Nov 11 2026. No macro, syntax, notation, axiom, sorry.
-/
import Derived.Test.YtjioingdpfgadaaDoorRows
import GoSem.ClaimSeven
namespace Go.Proofs.YtjioingdpfgadaaDoor
namespace Rows

/-- THE TIED CARD OF 'laws.FnRows'. -/
def fnRowsCard : Claim7 := { stood := { row := fnRowsRow, standIns := [], harness := (true, "d78fb96ca1549c464ec287ecd23a1d7ab84b339eeeb4fd63d449174534952bdc"), looks := true }, kinds := [], alts := [], laidByText := true, laidKinds := [.handle, .sentinel, .sentinel, .sentinel, .sentinel, .sentinel, .sentinel, .sentinel, .sentinel], laidTests := true, laidLooks := .later }
def FnRowsCardSaid : Prop := Claim7.holds Tryd.pinned (.plain (OpenSpec.ofChange fnRowsSpec)) fnRowsCard

/-- THE TIED CARD OF 'laws.FnOnce'. -/
def fnOnceCard : Claim7 := { stood := { row := fnOnceRow, standIns := [], harness := (true, "d78fb96ca1549c464ec287ecd23a1d7ab84b339eeeb4fd63d449174534952bdc"), looks := true }, kinds := [], alts := [], laidByText := true, laidKinds := [.data, .data, .data, .handle, .sentinel, .sentinel, .sentinel, .sentinel, .sentinel, .sentinel, .sentinel, .sentinel], laidTests := true, laidLooks := .later }
def FnOnceCardSaid : Prop := Claim7.holds Tryd.pinned (.plain (OpenSpec.ofChange fnOnceSpec)) fnOnceCard

/-- THE TIED CARD OF 'laws.FnSplit'. -/
def fnSplitCard : Claim7 := { stood := { row := fnSplitRow, standIns := [], harness := (true, "d78fb96ca1549c464ec287ecd23a1d7ab84b339eeeb4fd63d449174534952bdc"), looks := true }, kinds := [], alts := [], laidByText := true, laidKinds := [.data, .data, .data, .handle, .sentinel, .sentinel, .sentinel, .sentinel, .sentinel, .sentinel, .sentinel, .sentinel], laidTests := true, laidLooks := .later }
def FnSplitCardSaid : Prop := Claim7.holds Tryd.pinned (.plain (OpenSpec.ofChange fnSplitSpec)) fnSplitCard

/-- THE TIED CARD OF 'laws.FnOnward'. -/
def fnOnwardCard : Claim7 := { stood := { row := fnOnwardRow, standIns := [], harness := (true, "d78fb96ca1549c464ec287ecd23a1d7ab84b339eeeb4fd63d449174534952bdc"), looks := true }, kinds := [], alts := [], laidByText := true, laidKinds := [.handle, .sentinel, .sentinel, .sentinel, .sentinel, .sentinel, .sentinel, .sentinel, .sentinel], laidTests := true, laidLooks := .later }
def FnOnwardCardSaid : Prop := Claim7.holds Tryd.pinned (.plain (OpenSpec.ofChange fnOnwardSpec)) fnOnwardCard

/-- THE TIED CARD OF 'laws.FnSpoilt'. -/
def fnSpoiltCard : Claim7 := { stood := { row := fnSpoiltRow, standIns := [], harness := (true, "d78fb96ca1549c464ec287ecd23a1d7ab84b339eeeb4fd63d449174534952bdc"), looks := true }, kinds := [], alts := [], laidByText := true, laidKinds := [.handle, .sentinel, .sentinel, .sentinel, .sentinel, .sentinel, .sentinel, .sentinel, .sentinel], laidTests := true, laidLooks := .later }
def FnSpoiltCardSaid : Prop := Claim7.holds Tryd.pinned (.plain (OpenSpec.ofChange fnSpoiltSpec)) fnSpoiltCard

/-- THE TIED CARD OF 'laws.FnExactBookOk'. -/
def fnExactBookOkCard : Claim7 := { stood := { row := fnExactBookOkRow, standIns := [], harness := (true, "d78fb96ca1549c464ec287ecd23a1d7ab84b339eeeb4fd63d449174534952bdc"), looks := true }, kinds := [], alts := [], laidByText := true, laidKinds := [.handle, .sentinel, .sentinel, .sentinel, .sentinel, .sentinel, .sentinel, .sentinel, .sentinel], laidTests := true, laidLooks := .later }
def FnExactBookOkCardSaid : Prop := Claim7.holds Tryd.pinned (.plain (OpenSpec.ofChange fnExactBookOkSpec)) fnExactBookOkCard

/-- THE TIED CARD OF 'laws.FnExactCallAt'. -/
def fnExactCallAtCard : Claim7 := { stood := { row := fnExactCallAtRow, standIns := [], harness := (true, "d78fb96ca1549c464ec287ecd23a1d7ab84b339eeeb4fd63d449174534952bdc"), looks := true }, kinds := [], alts := [], laidByText := true, laidKinds := [.handle, .sentinel, .sentinel, .sentinel, .sentinel, .sentinel, .sentinel, .sentinel, .sentinel], laidTests := true, laidLooks := .later }
def FnExactCallAtCardSaid : Prop := Claim7.holds Tryd.pinned (.plain (OpenSpec.ofChange fnExactCallAtSpec)) fnExactCallAtCard

/-- THE TIED CARD OF 'laws.FnExactReportOk'. -/
def fnExactReportOkCard : Claim7 := { stood := { row := fnExactReportOkRow, standIns := [], harness := (true, "d78fb96ca1549c464ec287ecd23a1d7ab84b339eeeb4fd63d449174534952bdc"), looks := true }, kinds := [], alts := [], laidByText := true, laidKinds := [.handle, .sentinel, .sentinel, .sentinel, .sentinel, .sentinel, .sentinel, .sentinel, .sentinel], laidTests := true, laidLooks := .later }
def FnExactReportOkCardSaid : Prop := Claim7.holds Tryd.pinned (.plain (OpenSpec.ofChange fnExactReportOkSpec)) fnExactReportOkCard

/-- THE TIED CARD OF 'laws.FnExactCounts'. -/
def fnExactCountsCard : Claim7 := { stood := { row := fnExactCountsRow, standIns := [], harness := (true, "d78fb96ca1549c464ec287ecd23a1d7ab84b339eeeb4fd63d449174534952bdc"), looks := true }, kinds := [], alts := [], laidByText := true, laidKinds := [.handle, .sentinel, .sentinel, .sentinel, .sentinel, .sentinel, .sentinel, .sentinel, .sentinel], laidTests := true, laidLooks := .later }
def FnExactCountsCardSaid : Prop := Claim7.holds Tryd.pinned (.plain (OpenSpec.ofChange fnExactCountsSpec)) fnExactCountsCard

/-- THE SECOND FORM's CARD OF 'laws.FnRows'. -/
def fnRowsUptoCard : Claim7 := { stood := { row := fnRowsUptoRow, standIns := [], harness := (true, "d78fb96ca1549c464ec287ecd23a1d7ab84b339eeeb4fd63d449174534952bdc"), looks := true }, kinds := [], alts := [], laidByText := true, laidKinds := [.handle, .sentinel, .sentinel, .sentinel, .sentinel, .sentinel, .sentinel, .sentinel, .sentinel], laidTests := true, laidLooks := .later }
def FnRowsUptoCardSaid : Prop := Claim7.holds Tryd.pinned (.plain (OpenSpec.upto fnRowsSpec)) fnRowsUptoCard

/-- THE SECOND FORM's CARD OF 'laws.FnOnce'. -/
def fnOnceUptoCard : Claim7 := { stood := { row := fnOnceUptoRow, standIns := [], harness := (true, "d78fb96ca1549c464ec287ecd23a1d7ab84b339eeeb4fd63d449174534952bdc"), looks := true }, kinds := [], alts := [], laidByText := true, laidKinds := [.data, .data, .data, .handle, .sentinel, .sentinel, .sentinel, .sentinel, .sentinel, .sentinel, .sentinel, .sentinel], laidTests := true, laidLooks := .later }
def FnOnceUptoCardSaid : Prop := Claim7.holds Tryd.pinned (.plain (OpenSpec.upto fnOnceSpec)) fnOnceUptoCard

/-- THE SECOND FORM's CARD OF 'laws.FnSplit'. -/
def fnSplitUptoCard : Claim7 := { stood := { row := fnSplitUptoRow, standIns := [], harness := (true, "d78fb96ca1549c464ec287ecd23a1d7ab84b339eeeb4fd63d449174534952bdc"), looks := true }, kinds := [], alts := [], laidByText := true, laidKinds := [.data, .data, .data, .handle, .sentinel, .sentinel, .sentinel, .sentinel, .sentinel, .sentinel, .sentinel, .sentinel], laidTests := true, laidLooks := .later }
def FnSplitUptoCardSaid : Prop := Claim7.holds Tryd.pinned (.plain (OpenSpec.upto fnSplitSpec)) fnSplitUptoCard

/-- THE SECOND FORM's CARD OF 'laws.FnOnward'. -/
def fnOnwardUptoCard : Claim7 := { stood := { row := fnOnwardUptoRow, standIns := [], harness := (true, "d78fb96ca1549c464ec287ecd23a1d7ab84b339eeeb4fd63d449174534952bdc"), looks := true }, kinds := [], alts := [], laidByText := true, laidKinds := [.handle, .sentinel, .sentinel, .sentinel, .sentinel, .sentinel, .sentinel, .sentinel, .sentinel], laidTests := true, laidLooks := .later }
def FnOnwardUptoCardSaid : Prop := Claim7.holds Tryd.pinned (.plain (OpenSpec.upto fnOnwardSpec)) fnOnwardUptoCard

/-- THE SECOND FORM's CARD OF 'laws.FnSpoilt'. -/
def fnSpoiltUptoCard : Claim7 := { stood := { row := fnSpoiltUptoRow, standIns := [], harness := (true, "d78fb96ca1549c464ec287ecd23a1d7ab84b339eeeb4fd63d449174534952bdc"), looks := true }, kinds := [], alts := [], laidByText := true, laidKinds := [.handle, .sentinel, .sentinel, .sentinel, .sentinel, .sentinel, .sentinel, .sentinel, .sentinel], laidTests := true, laidLooks := .later }
def FnSpoiltUptoCardSaid : Prop := Claim7.holds Tryd.pinned (.plain (OpenSpec.upto fnSpoiltSpec)) fnSpoiltUptoCard

/-- THE SECOND FORM's CARD OF 'laws.FnExactBookOk'. -/
def fnExactBookOkUptoCard : Claim7 := { stood := { row := fnExactBookOkUptoRow, standIns := [], harness := (true, "d78fb96ca1549c464ec287ecd23a1d7ab84b339eeeb4fd63d449174534952bdc"), looks := true }, kinds := [], alts := [], laidByText := true, laidKinds := [.handle, .sentinel, .sentinel, .sentinel, .sentinel, .sentinel, .sentinel, .sentinel, .sentinel], laidTests := true, laidLooks := .later }
def FnExactBookOkUptoCardSaid : Prop := Claim7.holds Tryd.pinned (.plain (OpenSpec.upto fnExactBookOkSpec)) fnExactBookOkUptoCard

/-- THE SECOND FORM's CARD OF 'laws.FnExactCallAt'. -/
def fnExactCallAtUptoCard : Claim7 := { stood := { row := fnExactCallAtUptoRow, standIns := [], harness := (true, "d78fb96ca1549c464ec287ecd23a1d7ab84b339eeeb4fd63d449174534952bdc"), looks := true }, kinds := [], alts := [], laidByText := true, laidKinds := [.handle, .sentinel, .sentinel, .sentinel, .sentinel, .sentinel, .sentinel, .sentinel, .sentinel], laidTests := true, laidLooks := .later }
def FnExactCallAtUptoCardSaid : Prop := Claim7.holds Tryd.pinned (.plain (OpenSpec.upto fnExactCallAtSpec)) fnExactCallAtUptoCard

/-- THE SECOND FORM's CARD OF 'laws.FnExactReportOk'. -/
def fnExactReportOkUptoCard : Claim7 := { stood := { row := fnExactReportOkUptoRow, standIns := [], harness := (true, "d78fb96ca1549c464ec287ecd23a1d7ab84b339eeeb4fd63d449174534952bdc"), looks := true }, kinds := [], alts := [], laidByText := true, laidKinds := [.handle, .sentinel, .sentinel, .sentinel, .sentinel, .sentinel, .sentinel, .sentinel, .sentinel], laidTests := true, laidLooks := .later }
def FnExactReportOkUptoCardSaid : Prop := Claim7.holds Tryd.pinned (.plain (OpenSpec.upto fnExactReportOkSpec)) fnExactReportOkUptoCard

/-- THE SECOND FORM's CARD OF 'laws.FnExactCounts'. -/
def fnExactCountsUptoCard : Claim7 := { stood := { row := fnExactCountsUptoRow, standIns := [], harness := (true, "d78fb96ca1549c464ec287ecd23a1d7ab84b339eeeb4fd63d449174534952bdc"), looks := true }, kinds := [], alts := [], laidByText := true, laidKinds := [.handle, .sentinel, .sentinel, .sentinel, .sentinel, .sentinel, .sentinel, .sentinel, .sentinel], laidTests := true, laidLooks := .later }
def FnExactCountsUptoCardSaid : Prop := Claim7.holds Tryd.pinned (.plain (OpenSpec.upto fnExactCountsSpec)) fnExactCountsUptoCard
end Rows
end Go.Proofs.YtjioingdpfgadaaDoor
