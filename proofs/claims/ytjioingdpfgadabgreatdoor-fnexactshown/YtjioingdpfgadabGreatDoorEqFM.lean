import Derived.Test.YtjioingdpfgadabGreatDoorProg
import Derived.Test.YtjioingdpfgadabGreatDoorSz
import Derived.Test.YtjioingdpfgadabGreatDoorSpecAM
import Derived.Test.YtjioingdpfgadabGreatDoorChkE
import Derived.Test.YtjioingdpfgadabGreatDoorTo
import Derived.Test.YtjioingdpfgadabGreatDoorEq
namespace Go.Proofs.YtjioingdpfgadabGreatDoor
open Go Go.RowKit

end Go.Proofs.YtjioingdpfgadabGreatDoor
namespace Go.Proofs.YtjioingdpfgadabGreatDoor
open Go Go.RowKit Go.Deep

/-- The stations of all calls are numbers of Go's int. -/
def BookWf (bk : BookD) : Prop := ∀ t ∈ bk.trips, ∀ i (h : i < t.calls.length), (Lit.int .i64 t.calls[i].st).wf = true

end Go.Proofs.YtjioingdpfgadabGreatDoor
