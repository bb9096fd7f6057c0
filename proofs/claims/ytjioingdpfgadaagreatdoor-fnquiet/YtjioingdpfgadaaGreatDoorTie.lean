/-
  DERIVED. GIVEN WITH THE SEED: THE PROGRAM's TIES (one call each: nine closed facts by the kernel) AND EACH ROW's TIE, after the 31st guide's Derived/Test/Toyas{Tie, Card}.lean. No idea stands in it: it is a product of the set-up. Laid BY PROGRAM, IN A SANDBOX (cutbox-door.mjs). By AI agents, Wed Nov 11 2026. No macro, syntax, notation, axiom, sorry.
-/
import Derived.Test.YtjioingdpfgadaaGreatDoorRows
import Derived.LaidByTextLater
import Derived.SevenTiedAt
import Derived.LaidSub
import Derived.LaidOnce
namespace Go.Proofs.YtjioingdpfgadaaGreatDoor
open Go
set_option maxRecDepth 100000
theorem seatTie1 : Tryz.prog.laidByTextLater [("math/bits.deBruijn32tab", Rows.laid_math_bits_deBruijn32tab), ("math/bits.deBruijn64tab", Rows.laid_math_bits_deBruijn64tab), ("internal/strconv.uint64pow10", Rows.laid_internal_strconv_uint64pow10), ("errors.errorType", Rows.laid_errors_errorType), ("loop.example/tannoy/impl.errTooMany", Rows.laid_loop_example_tannoy_impl_errTooMany), ("loop.example/tannoy/impl.errNoName", Rows.laid_loop_example_tannoy_impl_errNoName), ("loop.example/tannoy/impl.errNameTwice", Rows.laid_loop_example_tannoy_impl_errNameTwice), ("loop.example/tannoy/impl.errCallCount", Rows.laid_loop_example_tannoy_impl_errCallCount), ("loop.example/tannoy/impl.errNoStation", Rows.laid_loop_example_tannoy_impl_errNoStation), ("loop.example/tannoy/impl.errStationTwice", Rows.laid_loop_example_tannoy_impl_errStationTwice), ("loop.example/tannoy/impl.errTime", Rows.laid_loop_example_tannoy_impl_errTime), ("loop.example/tannoy/impl.errTrack", Rows.laid_loop_example_tannoy_impl_errTrack)] [.data, .data, .data, .handle, .sentinel, .sentinel, .sentinel, .sentinel, .sentinel, .sentinel, .sentinel, .sentinel] true :=
  Program.laidByTextLater_by_one 183 8 65 (by kernel_rfl) (by kernel_rfl) (by kernel_rfl) (by kernel_rfl) (by kernel_rfl) (by kernel_rfl) (fun _ _ => by kernel_rfl)
theorem noOwnUnsafe : Tryz.pinned.checked.prog.headLifts.contains "ownunsafe" = false := by kernel_rfl
theorem tie : Tryz.prog.laidByTextLater [("math/bits.deBruijn32tab", Rows.laid_math_bits_deBruijn32tab), ("math/bits.deBruijn64tab", Rows.laid_math_bits_deBruijn64tab), ("internal/strconv.uint64pow10", Rows.laid_internal_strconv_uint64pow10), ("errors.errorType", Rows.laid_errors_errorType), ("loop.example/tannoy/impl.errTooMany", Rows.laid_loop_example_tannoy_impl_errTooMany), ("loop.example/tannoy/impl.errNoName", Rows.laid_loop_example_tannoy_impl_errNoName), ("loop.example/tannoy/impl.errNameTwice", Rows.laid_loop_example_tannoy_impl_errNameTwice), ("loop.example/tannoy/impl.errCallCount", Rows.laid_loop_example_tannoy_impl_errCallCount), ("loop.example/tannoy/impl.errNoStation", Rows.laid_loop_example_tannoy_impl_errNoStation), ("loop.example/tannoy/impl.errStationTwice", Rows.laid_loop_example_tannoy_impl_errStationTwice), ("loop.example/tannoy/impl.errTime", Rows.laid_loop_example_tannoy_impl_errTime), ("loop.example/tannoy/impl.errTrack", Rows.laid_loop_example_tannoy_impl_errTrack)] [.data, .data, .data, .handle, .sentinel, .sentinel, .sentinel, .sentinel, .sentinel, .sentinel, .sentinel, .sentinel] true :=
  Program.laidByTextLater.sub seatTie1 ["math/bits.deBruijn32tab", "math/bits.deBruijn64tab", "internal/strconv.uint64pow10", "errors.errorType", "loop.example/tannoy/impl.errTooMany", "loop.example/tannoy/impl.errNoName", "loop.example/tannoy/impl.errNameTwice", "loop.example/tannoy/impl.errCallCount", "loop.example/tannoy/impl.errNoStation", "loop.example/tannoy/impl.errStationTwice", "loop.example/tannoy/impl.errTime", "loop.example/tannoy/impl.errTrack"] (by kernel_rfl) (by kernel_rfl)
theorem fnTop_row_tie : Rows.fnTopRow.laidByTextAt .later Tryz.pinned [.data, .data, .data, .handle, .sentinel, .sentinel, .sentinel, .sentinel, .sentinel, .sentinel, .sentinel, .sentinel] true :=
  OpenClaim.laidByTextAt_later rfl rfl tie noOwnUnsafe
theorem fnQuiet_row_tie : Rows.fnQuietRow.laidByTextAt .later Tryz.pinned [.data, .data, .data, .handle, .sentinel, .sentinel, .sentinel, .sentinel, .sentinel, .sentinel, .sentinel, .sentinel] true :=
  OpenClaim.laidByTextAt_later rfl rfl tie noOwnUnsafe
theorem fnPast_row_tie : Rows.fnPastRow.laidByTextAt .later Tryz.pinned [.data, .data, .data, .handle, .sentinel, .sentinel, .sentinel, .sentinel, .sentinel, .sentinel, .sentinel, .sentinel] true :=
  OpenClaim.laidByTextAt_later rfl rfl tie noOwnUnsafe
theorem fnTopUpto_row_tie : Rows.fnTopUptoRow.laidByTextAt .later Tryz.pinned [.data, .data, .data, .handle, .sentinel, .sentinel, .sentinel, .sentinel, .sentinel, .sentinel, .sentinel, .sentinel] true :=
  OpenClaim.laidByTextAt_later rfl rfl tie noOwnUnsafe
theorem fnQuietUpto_row_tie : Rows.fnQuietUptoRow.laidByTextAt .later Tryz.pinned [.data, .data, .data, .handle, .sentinel, .sentinel, .sentinel, .sentinel, .sentinel, .sentinel, .sentinel, .sentinel] true :=
  OpenClaim.laidByTextAt_later rfl rfl tie noOwnUnsafe
theorem fnPastUpto_row_tie : Rows.fnPastUptoRow.laidByTextAt .later Tryz.pinned [.data, .data, .data, .handle, .sentinel, .sentinel, .sentinel, .sentinel, .sentinel, .sentinel, .sentinel, .sentinel] true :=
  OpenClaim.laidByTextAt_later rfl rfl tie noOwnUnsafe
end Go.Proofs.YtjioingdpfgadaaGreatDoor
