import Derived.Test.YtjioingdpfgadabDoorProg
import Derived.Test.YtjioingdpfgadabDoorImplQ
import Derived.Test.YtjioingdpfgadabDoorImplP
namespace Go.Proofs.YtjioingdpfgadabDoor
open Go Go.RowKit

theorem neqMsg (t : TypeId) (v : Value) (w : World) : (binOp .neq 72 (.iface t v) .nilIface).run Tryd.prog w = .ok (.bool true) w := by kernel_rfl
theorem neqNone (w : World) : (binOp .neq 72 .nilIface .nilIface).run Tryd.prog w = .ok (.bool false) w := by kernel_rfl
theorem eqlMsg (t : TypeId) (v : Value) (w : World) : (binOp .eql 72 (.iface t v) .nilIface).run Tryd.prog w = .ok (.bool false) w := by kernel_rfl
theorem eqlNone (w : World) : (binOp .eql 72 .nilIface .nilIface).run Tryd.prog w = .ok (.bool true) w := by kernel_rfl
theorem msgV_iface (r : RepD) (l : Bool) : ∃ t v, msgV r l = .iface t v := by
  unfold msgV
  split
  · exact ⟨_, _, rfl⟩
  · split
    · exact ⟨_, _, rfl⟩
    · split
      · exact ⟨_, _, rfl⟩
      · split
        · exact ⟨_, _, rfl⟩
        · exact ⟨_, _, rfl⟩

end Go.Proofs.YtjioingdpfgadabDoor
