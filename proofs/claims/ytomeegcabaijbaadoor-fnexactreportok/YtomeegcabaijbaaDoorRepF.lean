import Derived.Test.YtomeegcabaijbaaDoorProg
import Derived.Test.YtomeegcabaijbaaDoorBaseR
namespace Go.Proofs.YtomeegcabaijbaaDoor
open Go Go.RowKit

set_option maxHeartbeats 1000000 in
theorem toReport_any (r : RepD) (w : World) :
    Calls Tryd.prog 33 #[repV r] w fun e w' => e = .returned (repV r) ∧ Below w.heap.size w w' := by
  unfold repV
  go_enter Tryd.func33, Tryd.ntmps33
  go_wp2
  exact bodyPost_ret (v := .agg #[.int .i64 r.tick, .int .i64 r.op, .int .i64 r.trip, .int .i64 r.call, .int .i64 r.n]) (by simp [results, Tryd.results33, go_sem]) rfl ⟨rfl, (((Below.refl _ _).alloc (Nat.le_refl _) _).alloc (by simp) _).alloc (by simp; omega) _⟩

end Go.Proofs.YtomeegcabaijbaaDoor
