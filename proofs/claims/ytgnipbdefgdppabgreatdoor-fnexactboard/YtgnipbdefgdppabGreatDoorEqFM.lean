import Derived.Test.YtgnipbdefgdppabGreatDoorProg
import Derived.Test.YtgnipbdefgdppabGreatDoorSz
import Derived.Test.YtgnipbdefgdppabGreatDoorSpecAM
import Derived.Test.YtgnipbdefgdppabGreatDoorChkE
import Derived.Test.YtgnipbdefgdppabGreatDoorTo
import Derived.Test.YtgnipbdefgdppabGreatDoorEq
namespace Go.Proofs.YtgnipbdefgdppabGreatDoor
open Go Go.RowKit

end Go.Proofs.YtgnipbdefgdppabGreatDoor
namespace Go.Proofs.YtgnipbdefgdppabGreatDoor
open Go Go.RowKit Go.Deep

/-- The stations of all calls are numbers of Go's int. -/
def BookWf (bk : BookD) : Prop := ∀ t ∈ bk.trips, ∀ i (h : i < t.calls.length), (Lit.int .i64 t.calls[i].st).wf = true

end Go.Proofs.YtgnipbdefgdppabGreatDoor
