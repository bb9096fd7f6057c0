import Derived.Test.YtjioingdpfgadaaDoorProg
import Derived.Test.YtjioingdpfgadaaDoorBaseR
namespace Go.Proofs.YtjioingdpfgadaaDoor
open Go Go.RowKit

set_option maxHeartbeats 1000000 in
theorem toReport_any (r : RepD) (w : World) :
    Calls Tryd.prog 35 #[repV r] w fun e w' => e = .returned (repV r) ∧ Below w.heap.size w w' := by
  unfold repV
  go_enter Tryd.func35, Tryd.ntmps35
  go_wp2
  exact bodyPost_ret (v := .agg #[.int .i64 r.tick, .int .i64 r.op, .int .i64 r.trip, .int .i64 r.call, .int .i64 r.n]) (by simp [results, Tryd.results35, go_sem]) rfl ⟨rfl, (((Below.refl _ _).alloc (Nat.le_refl _) _).alloc (by simp) _).alloc (by simp; omega) _⟩

end Go.Proofs.YtjioingdpfgadaaDoor
