/-
  NARROWER THAN 'FOR EVERY INPUT', by the rows' own cells (each row's printed sentence says how): FnExactKnown: ifaces, laid · FnExactOnward: ifaces, laid.
  DERIVED. THE GIVEN ROWS OF THIS SEAT. 2 by the template 'for every input the law returns true; each argument reads behind the call as it read before'; 0 by the template 'total and deterministic' (their statements: YtjioingdpfgadabDoorTotals.lean).
  GIVEN WITH THE SEED: the statements are not yours to turn. If you find one false, say at which input.
  Laid BY PROGRAM, IN A SANDBOX (cutbox-rows.mjs): the forced cells as the released guide's own fill.sh prints them over the translation 11ed2f3f509dd5fb… (all of the seat's roots in one cut). By AI agents, Wed Nov 11 2026. No macro, syntax, notation, axiom, sorry.
-/
import Derived.Test.YtjioingdpfgadabDoorChecked
import GoSem.Claim
import GoSem.ClaimJoined
import GoSem.ClaimMapViews
import Derived.JoinedTies
import Derived.KernelRfl
namespace Go.Proofs.YtjioingdpfgadabDoor
/- THE CELL 'sum', in the pinned program and in every row, IS THE sha256 OF THE DUMP (.gsa) THAT YtjioingdpfgadabDoorProg.lean LOADS. Nothing in Lean hashes anything: it is a label: what it is worth is what the hold of that sum in a sandbox is worth. -/
noncomputable def Tryd.pinned : Pinned := { name := "ytjioingdpfgadabdoor", sum := "11ed2f3f509dd5fba49be945c64ed82b6390edfb15bdf150a8b393634c9b4015", checked := Tryd.checked }
namespace Rows
def none {H : Type} : Left H := { results := [], args := [] }

/- WHAT THE LISTED PACKAGE-LEVEL VARIABLES READ AS WHEN THE CALL BEGINS. Each datum BY PROGRAM (the guide's laid-datum.mjs) off the statement by which the dump's own 'gosem.cut.vars' lays the variable. In a bare row this is a premise. The card (YtjioingdpfgadabDoorCards.lean) ties it to the program's text. -/
def laid_errors_errorType {H : Type} : DataW H := .iface "internal/reflectlite.rtype" (.agg [.ptr (.lit (.string [101, 114, 114, 111, 114]))])
def laid_loop_example_tannoy_impl_errTooMany {H : Type} : DataW H := .iface "*errors.errorString" (.ptr (.agg [.lit (.string [109, 111, 114, 101, 32, 115, 116, 97, 116, 105, 111, 110, 115, 32, 111, 114, 32, 116, 114, 105, 112, 115, 32, 116, 104, 97, 110, 32, 97, 32, 98, 111, 111, 107, 32, 109, 97, 121, 32, 104, 97, 118, 101])]))
def laid_loop_example_tannoy_impl_errNoName {H : Type} : DataW H := .iface "*errors.errorString" (.ptr (.agg [.lit (.string [110, 111, 116, 32, 97, 32, 110, 97, 109, 101])]))
def laid_loop_example_tannoy_impl_errNameTwice {H : Type} : DataW H := .iface "*errors.errorString" (.ptr (.agg [.lit (.string [97, 32, 110, 97, 109, 101, 32, 116, 104, 97, 116, 32, 111, 110, 101, 32, 97, 104, 101, 97, 100, 32, 104, 97, 115])]))
def laid_loop_example_tannoy_impl_errCallCount {H : Type} : DataW H := .iface "*errors.errorString" (.ptr (.agg [.lit (.string [102, 101, 119, 101, 114, 32, 111, 114, 32, 109, 111, 114, 101, 32, 99, 97, 108, 108, 115, 32, 116, 104, 97, 110, 32, 97, 32, 116, 114, 105, 112, 32, 109, 97, 121, 32, 104, 97, 118, 101])]))
def laid_loop_example_tannoy_impl_errNoStation {H : Type} : DataW H := .iface "*errors.errorString" (.ptr (.agg [.lit (.string [97, 32, 115, 116, 97, 116, 105, 111, 110, 32, 116, 104, 97, 116, 32, 116, 104, 101, 114, 101, 32, 105, 115, 32, 110, 111, 116])]))
def laid_loop_example_tannoy_impl_errStationTwice {H : Type} : DataW H := .iface "*errors.errorString" (.ptr (.agg [.lit (.string [97, 32, 115, 116, 97, 116, 105, 111, 110, 32, 116, 104, 97, 116, 32, 97, 32, 99, 97, 108, 108, 32, 97, 104, 101, 97, 100, 32, 104, 97, 115])]))
def laid_loop_example_tannoy_impl_errTime {H : Type} : DataW H := .iface "*errors.errorString" (.ptr (.agg [.lit (.string [97, 32, 116, 105, 109, 101, 32, 111, 117, 116, 32, 111, 102, 32, 111, 114, 100, 101, 114, 32, 111, 114, 32, 111, 117, 116, 32, 111, 102, 32, 114, 97, 110, 103, 101])]))
def laid_loop_example_tannoy_impl_errTrack {H : Type} : DataW H := .iface "*errors.errorString" (.ptr (.agg [.lit (.string [97, 32, 116, 114, 97, 99, 107, 32, 116, 104, 97, 116, 32, 116, 104, 101, 114, 101, 32, 105, 115, 32, 110, 111, 116])]))

/-- 'laws.FnExactKnown': WHATEVER THE INPUT: true; the input reads as it did. -/
def fnExactKnownSpec : ChangeSpec := { name := "fnExactKnown", vars := ["loop.example/tannoy/impl.errTooMany", "loop.example/tannoy/impl.errNoName", "loop.example/tannoy/impl.errNameTwice", "loop.example/tannoy/impl.errCallCount", "loop.example/tannoy/impl.errStationTwice", "loop.example/tannoy/impl.errNoStation", "loop.example/tannoy/impl.errTime", "loop.example/tannoy/impl.errTrack"], fn := fun _ => fun
  | [d1, d2, d3, g1, g2, g3, g4, g5, g6, g7, g8] => { results := [.lit (.bool true)], args := [d1, d2, d3], vars := [g1, g2, g3, g4, g5, g6, g7, g8] }
  | _ => none }
def fnExactKnownRow : OpenClaim := { program := "ytjioingdpfgadabdoor", sum := "11ed2f3f509dd5fba49be945c64ed82b6390edfb15bdf150a8b393634c9b4015", func := "loop.example/tannoy/laws.FnExactKnown", spec := "fnExactKnown", inPlace := ["internal/reflectlite.ValueOf", "(internal/reflectlite.Value).Type", "(internal/reflectlite.Value).IsNil", "internal/reflectlite.TypeOf", "(internal/reflectlite.Value).Elem", "(internal/reflectlite.Value).Set"], unfollowed := true, recurses := true, named := ["loop.example/tannoy/impl.errTooMany", "loop.example/tannoy/impl.errNoName", "loop.example/tannoy/impl.errNameTwice", "loop.example/tannoy/impl.errCallCount", "loop.example/tannoy/impl.errStationTwice", "loop.example/tannoy/impl.errNoStation", "loop.example/tannoy/impl.errTime", "loop.example/tannoy/impl.errTrack", "errors.errorType"], ifaces := true, apart := false, laid := [("errors.errorType", laid_errors_errorType), ("loop.example/tannoy/impl.errTooMany", laid_loop_example_tannoy_impl_errTooMany), ("loop.example/tannoy/impl.errNoName", laid_loop_example_tannoy_impl_errNoName), ("loop.example/tannoy/impl.errNameTwice", laid_loop_example_tannoy_impl_errNameTwice), ("loop.example/tannoy/impl.errCallCount", laid_loop_example_tannoy_impl_errCallCount), ("loop.example/tannoy/impl.errNoStation", laid_loop_example_tannoy_impl_errNoStation), ("loop.example/tannoy/impl.errStationTwice", laid_loop_example_tannoy_impl_errStationTwice), ("loop.example/tannoy/impl.errTime", laid_loop_example_tannoy_impl_errTime), ("loop.example/tannoy/impl.errTrack", laid_loop_example_tannoy_impl_errTrack)] }
def FnExactKnownSaid : Prop := fnExactKnownRow.holds Tryd.pinned (OpenSpec.ofChange fnExactKnownSpec)

/-- ITS FALSE NEIGHBOUR: 'it returns false'. Refute it at one input. -/
def fnExactKnownWrong : ChangeSpec := { name := "fnExactKnown", vars := ["loop.example/tannoy/impl.errTooMany", "loop.example/tannoy/impl.errNoName", "loop.example/tannoy/impl.errNameTwice", "loop.example/tannoy/impl.errCallCount", "loop.example/tannoy/impl.errStationTwice", "loop.example/tannoy/impl.errNoStation", "loop.example/tannoy/impl.errTime", "loop.example/tannoy/impl.errTrack"], fn := fun _ => fun
  | [d1, d2, d3, g1, g2, g3, g4, g5, g6, g7, g8] => { results := [.lit (.bool false)], args := [d1, d2, d3], vars := [g1, g2, g3, g4, g5, g6, g7, g8] }
  | _ => none }
def FnExactKnownWrongFalsely : Prop := fnExactKnownRow.holds Tryd.pinned (OpenSpec.ofChange fnExactKnownWrong)

/-- 'laws.FnExactOnward': WHATEVER THE INPUT: true; the input reads as it did. -/
def fnExactOnwardSpec : ChangeSpec := { name := "fnExactOnward", vars := ["loop.example/tannoy/impl.errTooMany", "loop.example/tannoy/impl.errNoName", "loop.example/tannoy/impl.errNameTwice", "loop.example/tannoy/impl.errCallCount", "loop.example/tannoy/impl.errStationTwice", "loop.example/tannoy/impl.errNoStation", "loop.example/tannoy/impl.errTime", "loop.example/tannoy/impl.errTrack"], fn := fun _ => fun
  | [d1, d2, d3, d4, g1, g2, g3, g4, g5, g6, g7, g8] => { results := [.lit (.bool true)], args := [d1, d2, d3, d4], vars := [g1, g2, g3, g4, g5, g6, g7, g8] }
  | _ => none }
def fnExactOnwardRow : OpenClaim := { program := "ytjioingdpfgadabdoor", sum := "11ed2f3f509dd5fba49be945c64ed82b6390edfb15bdf150a8b393634c9b4015", func := "loop.example/tannoy/laws.FnExactOnward", spec := "fnExactOnward", inPlace := ["internal/reflectlite.ValueOf", "(internal/reflectlite.Value).Type", "(internal/reflectlite.Value).IsNil", "internal/reflectlite.TypeOf", "(internal/reflectlite.Value).Elem", "(internal/reflectlite.Value).Set"], unfollowed := true, recurses := true, named := ["loop.example/tannoy/impl.errTooMany", "loop.example/tannoy/impl.errNoName", "loop.example/tannoy/impl.errNameTwice", "loop.example/tannoy/impl.errCallCount", "loop.example/tannoy/impl.errStationTwice", "loop.example/tannoy/impl.errNoStation", "loop.example/tannoy/impl.errTime", "loop.example/tannoy/impl.errTrack", "errors.errorType"], ifaces := true, apart := false, laid := [("errors.errorType", laid_errors_errorType), ("loop.example/tannoy/impl.errTooMany", laid_loop_example_tannoy_impl_errTooMany), ("loop.example/tannoy/impl.errNoName", laid_loop_example_tannoy_impl_errNoName), ("loop.example/tannoy/impl.errNameTwice", laid_loop_example_tannoy_impl_errNameTwice), ("loop.example/tannoy/impl.errCallCount", laid_loop_example_tannoy_impl_errCallCount), ("loop.example/tannoy/impl.errNoStation", laid_loop_example_tannoy_impl_errNoStation), ("loop.example/tannoy/impl.errStationTwice", laid_loop_example_tannoy_impl_errStationTwice), ("loop.example/tannoy/impl.errTime", laid_loop_example_tannoy_impl_errTime), ("loop.example/tannoy/impl.errTrack", laid_loop_example_tannoy_impl_errTrack)] }
def FnExactOnwardSaid : Prop := fnExactOnwardRow.holds Tryd.pinned (OpenSpec.ofChange fnExactOnwardSpec)

/-- ITS FALSE NEIGHBOUR: 'it returns false'. Refute it at one input. -/
def fnExactOnwardWrong : ChangeSpec := { name := "fnExactOnward", vars := ["loop.example/tannoy/impl.errTooMany", "loop.example/tannoy/impl.errNoName", "loop.example/tannoy/impl.errNameTwice", "loop.example/tannoy/impl.errCallCount", "loop.example/tannoy/impl.errStationTwice", "loop.example/tannoy/impl.errNoStation", "loop.example/tannoy/impl.errTime", "loop.example/tannoy/impl.errTrack"], fn := fun _ => fun
  | [d1, d2, d3, d4, g1, g2, g3, g4, g5, g6, g7, g8] => { results := [.lit (.bool false)], args := [d1, d2, d3, d4], vars := [g1, g2, g3, g4, g5, g6, g7, g8] }
  | _ => none }
def FnExactOnwardWrongFalsely : Prop := fnExactOnwardRow.holds Tryd.pinned (OpenSpec.ofChange fnExactOnwardWrong)

/- THE SECOND FORM. 'bulk': how many values and letters a reading holds, each counted each time it is reached (what is shared counts as often as it is met; a slice's spare places count too). A statement '..UptoSaid' is the law's where the arguments, and the package variables that the reading takes, are together of bulk at most 1048576: NARROWER than '..Said'. Prove '..Said' where nothing that the law and all that it calls make is longer than what came in: it says more and counts as full. Else prove '..UptoSaid'. A law counts once. -/
mutual
def uptoBulk {H : Type} : DataW H → Nat
  | .lit (.string bytes) => bytes.length + 1
  | .lit _ => 1
  | .nil => 1
  | .ptr d => uptoBulk d + 1
  | .slice elems spare => uptoBulkAll elems + uptoBulkAll spare + 1
  | .agg parts => uptoBulkAll parts + 1
  | .iface _ d => uptoBulk d + 1
  | .map entries => uptoBulkEntries entries + 1
  | .held _ => 1
def uptoBulkAll {H : Type} : List (DataW H) → Nat
  | [] => 0
  | d :: r => uptoBulk d + uptoBulkAll r
def uptoBulkEntries {H : Type} : List (Lit × DataW H) → Nat
  | [] => 0
  | x :: r => uptoBulkEntry x + uptoBulkEntries r
def uptoBulkEntry {H : Type} : Lit × DataW H → Nat
  | (.string bytes, d) => bytes.length + uptoBulk d + 1
  | (_, d) => uptoBulk d + 1
 end
def uptoSmall : (H : Type) → List (DataW H) → Bool := fun _ ds => decide (uptoBulkAll ds ≤ 1048576)
def OpenSpec.upto (s : _root_.Go.ChangeSpec) : _root_.Go.OpenSpec := { _root_.Go.OpenSpec.ofChange s with cond := some uptoSmall }

/-- 'laws.FnExactKnown', WHERE WHAT IT READS IS OF BULK AT MOST 1048576: true; the input reads as it did. -/
def fnExactKnownUptoRow : OpenClaim := { program := "ytjioingdpfgadabdoor", sum := "11ed2f3f509dd5fba49be945c64ed82b6390edfb15bdf150a8b393634c9b4015", func := "loop.example/tannoy/laws.FnExactKnown", spec := "fnExactKnown", inPlace := ["internal/reflectlite.ValueOf", "(internal/reflectlite.Value).Type", "(internal/reflectlite.Value).IsNil", "internal/reflectlite.TypeOf", "(internal/reflectlite.Value).Elem", "(internal/reflectlite.Value).Set"], unfollowed := true, recurses := true, named := ["loop.example/tannoy/impl.errTooMany", "loop.example/tannoy/impl.errNoName", "loop.example/tannoy/impl.errNameTwice", "loop.example/tannoy/impl.errCallCount", "loop.example/tannoy/impl.errStationTwice", "loop.example/tannoy/impl.errNoStation", "loop.example/tannoy/impl.errTime", "loop.example/tannoy/impl.errTrack", "errors.errorType"], ifaces := true, apart := false, laid := [("errors.errorType", laid_errors_errorType), ("loop.example/tannoy/impl.errTooMany", laid_loop_example_tannoy_impl_errTooMany), ("loop.example/tannoy/impl.errNoName", laid_loop_example_tannoy_impl_errNoName), ("loop.example/tannoy/impl.errNameTwice", laid_loop_example_tannoy_impl_errNameTwice), ("loop.example/tannoy/impl.errCallCount", laid_loop_example_tannoy_impl_errCallCount), ("loop.example/tannoy/impl.errNoStation", laid_loop_example_tannoy_impl_errNoStation), ("loop.example/tannoy/impl.errStationTwice", laid_loop_example_tannoy_impl_errStationTwice), ("loop.example/tannoy/impl.errTime", laid_loop_example_tannoy_impl_errTime), ("loop.example/tannoy/impl.errTrack", laid_loop_example_tannoy_impl_errTrack)], narrowed := true }
def FnExactKnownUptoSaid : Prop := fnExactKnownUptoRow.holds Tryd.pinned (OpenSpec.upto fnExactKnownSpec)

/-- 'laws.FnExactOnward', WHERE WHAT IT READS IS OF BULK AT MOST 1048576: true; the input reads as it did. -/
def fnExactOnwardUptoRow : OpenClaim := { program := "ytjioingdpfgadabdoor", sum := "11ed2f3f509dd5fba49be945c64ed82b6390edfb15bdf150a8b393634c9b4015", func := "loop.example/tannoy/laws.FnExactOnward", spec := "fnExactOnward", inPlace := ["internal/reflectlite.ValueOf", "(internal/reflectlite.Value).Type", "(internal/reflectlite.Value).IsNil", "internal/reflectlite.TypeOf", "(internal/reflectlite.Value).Elem", "(internal/reflectlite.Value).Set"], unfollowed := true, recurses := true, named := ["loop.example/tannoy/impl.errTooMany", "loop.example/tannoy/impl.errNoName", "loop.example/tannoy/impl.errNameTwice", "loop.example/tannoy/impl.errCallCount", "loop.example/tannoy/impl.errStationTwice", "loop.example/tannoy/impl.errNoStation", "loop.example/tannoy/impl.errTime", "loop.example/tannoy/impl.errTrack", "errors.errorType"], ifaces := true, apart := false, laid := [("errors.errorType", laid_errors_errorType), ("loop.example/tannoy/impl.errTooMany", laid_loop_example_tannoy_impl_errTooMany), ("loop.example/tannoy/impl.errNoName", laid_loop_example_tannoy_impl_errNoName), ("loop.example/tannoy/impl.errNameTwice", laid_loop_example_tannoy_impl_errNameTwice), ("loop.example/tannoy/impl.errCallCount", laid_loop_example_tannoy_impl_errCallCount), ("loop.example/tannoy/impl.errNoStation", laid_loop_example_tannoy_impl_errNoStation), ("loop.example/tannoy/impl.errStationTwice", laid_loop_example_tannoy_impl_errStationTwice), ("loop.example/tannoy/impl.errTime", laid_loop_example_tannoy_impl_errTime), ("loop.example/tannoy/impl.errTrack", laid_loop_example_tannoy_impl_errTrack)], narrowed := true }
def FnExactOnwardUptoSaid : Prop := fnExactOnwardUptoRow.holds Tryd.pinned (OpenSpec.upto fnExactOnwardSpec)

end Rows
end Go.Proofs.YtjioingdpfgadabDoor
