import Derived.Test.YtjioingdpfgadabDoorProg
import Derived.Test.YtjioingdpfgadabDoorSpecB
import Derived.Test.YtjioingdpfgadabDoorPlainM
namespace Go.Proofs.YtjioingdpfgadabDoor
open Go Go.RowKit Go.Deep

set_option maxRecDepth 100000 in
set_option maxHeartbeats 1000000 in
theorem l1ok_any (v : Value) (bk : BookD) (w : World) (hn : bookSize bk ≤ 1048576) (hat : BookAt w v bk) :
    Calls Tryd.prog 47 #[v] w fun e w' => e = .returned (.bool ((faultD bk).1 == 0)) ∧ Below w.heap.size w w' := by
  obtain ⟨sa, sc, ta, tc, rfl, hsa, hta⟩ := hat
  have hb0 := bx_below w (.cells #[.slice sa bk.sts.length sc, .slice ta bk.trips.length tc] 33)
  go_enter Tryd.func47, Tryd.ntmps47
  go_wp2_with fail
  refine (specBookOk_any _ bk _ hn (by exact ⟨sa, sc, ta, tc, rfl, hsa.keep hb0, hta.keep hb0⟩)).mono ?_
  rintro e w1 ⟨rfl, hb1⟩
  have hB1 : Below w.heap.size w w1 := hb0.trans (hb1.mono (by simp))
  go_wp2_with fail
  go_ret
  exact ⟨rfl, hB1.alloc hB1.size _⟩

end Go.Proofs.YtjioingdpfgadabDoor
