/-
  DERIVED. GIVEN WITH THE SEED: THE PROGRAM's TIES (one call each: nine closed facts by the kernel) AND EACH ROW's TIE, after the 31st guide's Derived/Test/Toyas{Tie, Card}.lean. No idea stands in it: it is a product of the set-up. Laid BY PROGRAM, IN A SANDBOX (cutbox-door.mjs). By AI agents, Wed Nov 11 2026. No macro, syntax, notation, axiom, sorry.
-/
import Derived.Test.YtjioingdpfgadaaDoorRows
import Derived.LaidByTextLater
import Derived.SevenTiedAt
import Derived.LaidSub
import Derived.LaidOnce
namespace Go.Proofs.YtjioingdpfgadaaDoor
open Go
set_option maxRecDepth 100000
theorem seatTie1 : Tryd.prog.laidByTextLater [("math/bits.deBruijn32tab", Rows.laid_math_bits_deBruijn32tab), ("math/bits.deBruijn64tab", Rows.laid_math_bits_deBruijn64tab), ("internal/strconv.uint64pow10", Rows.laid_internal_strconv_uint64pow10), ("errors.errorType", Rows.laid_errors_errorType), ("loop.example/tannoy/impl.errTooMany", Rows.laid_loop_example_tannoy_impl_errTooMany), ("loop.example/tannoy/impl.errNoName", Rows.laid_loop_example_tannoy_impl_errNoName), ("loop.example/tannoy/impl.errNameTwice", Rows.laid_loop_example_tannoy_impl_errNameTwice), ("loop.example/tannoy/impl.errCallCount", Rows.laid_loop_example_tannoy_impl_errCallCount), ("loop.example/tannoy/impl.errNoStation", Rows.laid_loop_example_tannoy_impl_errNoStation), ("loop.example/tannoy/impl.errStationTwice", Rows.laid_loop_example_tannoy_impl_errStationTwice), ("loop.example/tannoy/impl.errTime", Rows.laid_loop_example_tannoy_impl_errTime), ("loop.example/tannoy/impl.errTrack", Rows.laid_loop_example_tannoy_impl_errTrack)] [.data, .data, .data, .handle, .sentinel, .sentinel, .sentinel, .sentinel, .sentinel, .sentinel, .sentinel, .sentinel] true :=
  Program.laidByTextLater_by_one 183 8 65 (by kernel_rfl) (by kernel_rfl) (by kernel_rfl) (by kernel_rfl) (by kernel_rfl) (by kernel_rfl) (fun _ _ => by kernel_rfl)
theorem noOwnUnsafe : Tryd.pinned.checked.prog.headLifts.contains "ownunsafe" = false := by kernel_rfl
theorem tie : Tryd.prog.laidByTextLater [("errors.errorType", Rows.laid_errors_errorType), ("loop.example/tannoy/impl.errTooMany", Rows.laid_loop_example_tannoy_impl_errTooMany), ("loop.example/tannoy/impl.errNoName", Rows.laid_loop_example_tannoy_impl_errNoName), ("loop.example/tannoy/impl.errNameTwice", Rows.laid_loop_example_tannoy_impl_errNameTwice), ("loop.example/tannoy/impl.errCallCount", Rows.laid_loop_example_tannoy_impl_errCallCount), ("loop.example/tannoy/impl.errNoStation", Rows.laid_loop_example_tannoy_impl_errNoStation), ("loop.example/tannoy/impl.errStationTwice", Rows.laid_loop_example_tannoy_impl_errStationTwice), ("loop.example/tannoy/impl.errTime", Rows.laid_loop_example_tannoy_impl_errTime), ("loop.example/tannoy/impl.errTrack", Rows.laid_loop_example_tannoy_impl_errTrack)] [.handle, .sentinel, .sentinel, .sentinel, .sentinel, .sentinel, .sentinel, .sentinel, .sentinel] true :=
  Program.laidByTextLater.sub seatTie1 ["errors.errorType", "loop.example/tannoy/impl.errTooMany", "loop.example/tannoy/impl.errNoName", "loop.example/tannoy/impl.errNameTwice", "loop.example/tannoy/impl.errCallCount", "loop.example/tannoy/impl.errNoStation", "loop.example/tannoy/impl.errStationTwice", "loop.example/tannoy/impl.errTime", "loop.example/tannoy/impl.errTrack"] (by kernel_rfl) (by kernel_rfl)
theorem fnRows_row_tie : Rows.fnRowsRow.laidByTextAt .later Tryd.pinned [.handle, .sentinel, .sentinel, .sentinel, .sentinel, .sentinel, .sentinel, .sentinel, .sentinel] true :=
  OpenClaim.laidByTextAt_later rfl rfl tie noOwnUnsafe
theorem fnOnward_row_tie : Rows.fnOnwardRow.laidByTextAt .later Tryd.pinned [.handle, .sentinel, .sentinel, .sentinel, .sentinel, .sentinel, .sentinel, .sentinel, .sentinel] true :=
  OpenClaim.laidByTextAt_later rfl rfl tie noOwnUnsafe
theorem fnSpoilt_row_tie : Rows.fnSpoiltRow.laidByTextAt .later Tryd.pinned [.handle, .sentinel, .sentinel, .sentinel, .sentinel, .sentinel, .sentinel, .sentinel, .sentinel] true :=
  OpenClaim.laidByTextAt_later rfl rfl tie noOwnUnsafe
theorem fnExactBookOk_row_tie : Rows.fnExactBookOkRow.laidByTextAt .later Tryd.pinned [.handle, .sentinel, .sentinel, .sentinel, .sentinel, .sentinel, .sentinel, .sentinel, .sentinel] true :=
  OpenClaim.laidByTextAt_later rfl rfl tie noOwnUnsafe
theorem fnExactCallAt_row_tie : Rows.fnExactCallAtRow.laidByTextAt .later Tryd.pinned [.handle, .sentinel, .sentinel, .sentinel, .sentinel, .sentinel, .sentinel, .sentinel, .sentinel] true :=
  OpenClaim.laidByTextAt_later rfl rfl tie noOwnUnsafe
theorem fnExactReportOk_row_tie : Rows.fnExactReportOkRow.laidByTextAt .later Tryd.pinned [.handle, .sentinel, .sentinel, .sentinel, .sentinel, .sentinel, .sentinel, .sentinel, .sentinel] true :=
  OpenClaim.laidByTextAt_later rfl rfl tie noOwnUnsafe
theorem fnExactCounts_row_tie : Rows.fnExactCountsRow.laidByTextAt .later Tryd.pinned [.handle, .sentinel, .sentinel, .sentinel, .sentinel, .sentinel, .sentinel, .sentinel, .sentinel] true :=
  OpenClaim.laidByTextAt_later rfl rfl tie noOwnUnsafe
theorem tie2 : Tryd.prog.laidByTextLater [("math/bits.deBruijn32tab", Rows.laid_math_bits_deBruijn32tab), ("math/bits.deBruijn64tab", Rows.laid_math_bits_deBruijn64tab), ("internal/strconv.uint64pow10", Rows.laid_internal_strconv_uint64pow10), ("errors.errorType", Rows.laid_errors_errorType), ("loop.example/tannoy/impl.errTooMany", Rows.laid_loop_example_tannoy_impl_errTooMany), ("loop.example/tannoy/impl.errNoName", Rows.laid_loop_example_tannoy_impl_errNoName), ("loop.example/tannoy/impl.errNameTwice", Rows.laid_loop_example_tannoy_impl_errNameTwice), ("loop.example/tannoy/impl.errCallCount", Rows.laid_loop_example_tannoy_impl_errCallCount), ("loop.example/tannoy/impl.errNoStation", Rows.laid_loop_example_tannoy_impl_errNoStation), ("loop.example/tannoy/impl.errStationTwice", Rows.laid_loop_example_tannoy_impl_errStationTwice), ("loop.example/tannoy/impl.errTime", Rows.laid_loop_example_tannoy_impl_errTime), ("loop.example/tannoy/impl.errTrack", Rows.laid_loop_example_tannoy_impl_errTrack)] [.data, .data, .data, .handle, .sentinel, .sentinel, .sentinel, .sentinel, .sentinel, .sentinel, .sentinel, .sentinel] true :=
  Program.laidByTextLater.sub seatTie1 ["math/bits.deBruijn32tab", "math/bits.deBruijn64tab", "internal/strconv.uint64pow10", "errors.errorType", "loop.example/tannoy/impl.errTooMany", "loop.example/tannoy/impl.errNoName", "loop.example/tannoy/impl.errNameTwice", "loop.example/tannoy/impl.errCallCount", "loop.example/tannoy/impl.errNoStation", "loop.example/tannoy/impl.errStationTwice", "loop.example/tannoy/impl.errTime", "loop.example/tannoy/impl.errTrack"] (by kernel_rfl) (by kernel_rfl)
theorem fnOnce_row_tie : Rows.fnOnceRow.laidByTextAt .later Tryd.pinned [.data, .data, .data, .handle, .sentinel, .sentinel, .sentinel, .sentinel, .sentinel, .sentinel, .sentinel, .sentinel] true :=
  OpenClaim.laidByTextAt_later rfl rfl tie2 noOwnUnsafe
theorem fnSplit_row_tie : Rows.fnSplitRow.laidByTextAt .later Tryd.pinned [.data, .data, .data, .handle, .sentinel, .sentinel, .sentinel, .sentinel, .sentinel, .sentinel, .sentinel, .sentinel] true :=
  OpenClaim.laidByTextAt_later rfl rfl tie2 noOwnUnsafe
theorem fnRowsUpto_row_tie : Rows.fnRowsUptoRow.laidByTextAt .later Tryd.pinned [.handle, .sentinel, .sentinel, .sentinel, .sentinel, .sentinel, .sentinel, .sentinel, .sentinel] true :=
  OpenClaim.laidByTextAt_later rfl rfl tie noOwnUnsafe
theorem fnOnceUpto_row_tie : Rows.fnOnceUptoRow.laidByTextAt .later Tryd.pinned [.data, .data, .data, .handle, .sentinel, .sentinel, .sentinel, .sentinel, .sentinel, .sentinel, .sentinel, .sentinel] true :=
  OpenClaim.laidByTextAt_later rfl rfl tie2 noOwnUnsafe
theorem fnSplitUpto_row_tie : Rows.fnSplitUptoRow.laidByTextAt .later Tryd.pinned [.data, .data, .data, .handle, .sentinel, .sentinel, .sentinel, .sentinel, .sentinel, .sentinel, .sentinel, .sentinel] true :=
  OpenClaim.laidByTextAt_later rfl rfl tie2 noOwnUnsafe
theorem fnOnwardUpto_row_tie : Rows.fnOnwardUptoRow.laidByTextAt .later Tryd.pinned [.handle, .sentinel, .sentinel, .sentinel, .sentinel, .sentinel, .sentinel, .sentinel, .sentinel] true :=
  OpenClaim.laidByTextAt_later rfl rfl tie noOwnUnsafe
theorem fnSpoiltUpto_row_tie : Rows.fnSpoiltUptoRow.laidByTextAt .later Tryd.pinned [.handle, .sentinel, .sentinel, .sentinel, .sentinel, .sentinel, .sentinel, .sentinel, .sentinel] true :=
  OpenClaim.laidByTextAt_later rfl rfl tie noOwnUnsafe
theorem fnExactBookOkUpto_row_tie : Rows.fnExactBookOkUptoRow.laidByTextAt .later Tryd.pinned [.handle, .sentinel, .sentinel, .sentinel, .sentinel, .sentinel, .sentinel, .sentinel, .sentinel] true :=
  OpenClaim.laidByTextAt_later rfl rfl tie noOwnUnsafe
theorem fnExactCallAtUpto_row_tie : Rows.fnExactCallAtUptoRow.laidByTextAt .later Tryd.pinned [.handle, .sentinel, .sentinel, .sentinel, .sentinel, .sentinel, .sentinel, .sentinel, .sentinel] true :=
  OpenClaim.laidByTextAt_later rfl rfl tie noOwnUnsafe
theorem fnExactReportOkUpto_row_tie : Rows.fnExactReportOkUptoRow.laidByTextAt .later Tryd.pinned [.handle, .sentinel, .sentinel, .sentinel, .sentinel, .sentinel, .sentinel, .sentinel, .sentinel] true :=
  OpenClaim.laidByTextAt_later rfl rfl tie noOwnUnsafe
theorem fnExactCountsUpto_row_tie : Rows.fnExactCountsUptoRow.laidByTextAt .later Tryd.pinned [.handle, .sentinel, .sentinel, .sentinel, .sentinel, .sentinel, .sentinel, .sentinel, .sentinel] true :=
  OpenClaim.laidByTextAt_later rfl rfl tie noOwnUnsafe
end Go.Proofs.YtjioingdpfgadaaDoor
