import Derived.Test.YtgnipbdefgdppabDoorProg
import Derived.Test.YtgnipbdefgdppabDoorSz
import Derived.Test.YtgnipbdefgdppabDoorSpecB
import Derived.Test.YtgnipbdefgdppabDoorChkE
import Derived.Test.YtgnipbdefgdppabDoorTo
import Derived.Test.YtgnipbdefgdppabDoorEq
namespace Go.Proofs.YtgnipbdefgdppabDoor
open Go Go.RowKit

end Go.Proofs.YtgnipbdefgdppabDoor
namespace Go.Proofs.YtgnipbdefgdppabDoor
open Go Go.RowKit Go.Deep

/-- The stations of all calls are numbers of Go's int. -/
def BookWf (bk : BookD) : Prop := ∀ t ∈ bk.trips, ∀ i (h : i < t.calls.length), (Lit.int .i64 t.calls[i].st).wf = true

end Go.Proofs.YtgnipbdefgdppabDoor
