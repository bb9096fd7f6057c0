import Derived.Test.YtaaihionkipekabDoorProg
import Derived.Test.YtaaihionkipekabDoorSz
import Derived.Test.YtaaihionkipekabDoorSpecB
import Derived.Test.YtaaihionkipekabDoorChkE
import Derived.Test.YtaaihionkipekabDoorTo
import Derived.Test.YtaaihionkipekabDoorEq
namespace Go.Proofs.YtaaihionkipekabDoor
open Go Go.RowKit

end Go.Proofs.YtaaihionkipekabDoor
namespace Go.Proofs.YtaaihionkipekabDoor
open Go Go.RowKit Go.Deep

/-- The stations of all calls are numbers of Go's int. -/
def BookWf (bk : BookD) : Prop := ∀ t ∈ bk.trips, ∀ i (h : i < t.calls.length), (Lit.int .i64 t.calls[i].st).wf = true

end Go.Proofs.YtaaihionkipekabDoor
