import Derived.Test.YtjioingdpfgadabDoorProg
import Derived.Test.YtjioingdpfgadabDoorSz
import Derived.Test.YtjioingdpfgadabDoorSpecB
import Derived.Test.YtjioingdpfgadabDoorChkE
import Derived.Test.YtjioingdpfgadabDoorTo
import Derived.Test.YtjioingdpfgadabDoorEq
namespace Go.Proofs.YtjioingdpfgadabDoor
open Go Go.RowKit

end Go.Proofs.YtjioingdpfgadabDoor
namespace Go.Proofs.YtjioingdpfgadabDoor
open Go Go.RowKit Go.Deep

/-- The stations of all calls are numbers of Go's int. -/
def BookWf (bk : BookD) : Prop := ∀ t ∈ bk.trips, ∀ i (h : i < t.calls.length), (Lit.int .i64 t.calls[i].st).wf = true

end Go.Proofs.YtjioingdpfgadabDoor
