import Derived.Test.YtjioingdpfgadaaDoorProg
import Derived.Test.YtjioingdpfgadaaDoorSz
namespace Go.Proofs.YtjioingdpfgadaaDoor
open Go Go.RowKit

set_option maxHeartbeats 400000 in
theorem eqFault_any (a0 a1 b0 b1 : Int) (w : World) :
    Calls Tryd.prog 32 #[.agg #[.int .i64 a0, .int .i64 a1], .agg #[.int .i64 b0, .int .i64 b1]] w fun e w' => e = .returned (.bool (a0 == b0 && a1 == b1)) ∧ Below w.heap.size w w' := by
  cases h : (a0 == b0)
  · go_enter Tryd.func32, Tryd.ntmps32
    go_wp2
    all_goals try (exfalso; simp_all; done)
    go_ret
    exact ⟨rfl, ((Below.refl _ _).alloc (Nat.le_refl _) _).alloc (by simp) _⟩
  · cases h2 : (a1 == b1)
    · go_enter Tryd.func32, Tryd.ntmps32
      go_wp2
      all_goals try (exfalso; simp_all; done)
      go_ret
      exact ⟨rfl, ((Below.refl _ _).alloc (Nat.le_refl _) _).alloc (by simp) _⟩
    · go_enter Tryd.func32, Tryd.ntmps32
      go_wp2
      all_goals try (exfalso; simp_all; done)
      go_ret
      exact ⟨rfl, ((Below.refl _ _).alloc (Nat.le_refl _) _).alloc (by simp) _⟩

end Go.Proofs.YtjioingdpfgadaaDoor
