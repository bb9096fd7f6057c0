import Derived.Test.YtjioingdpfgadaaDoorProg
import Derived.Test.YtjioingdpfgadaaDoorChkA
import Derived.Test.YtjioingdpfgadaaDoorPlainC
import Derived.BigRegion
import Derived.Deep.RegionWith
import Derived.BigQuiet
namespace Go.Proofs.YtjioingdpfgadaaDoor
open Go Go.RowKit Go.WideMaps Go.Maps Go.Deep

set_option maxRecDepth 100000 in
set_option maxHeartbeats 1000000 in
theorem checkCall_ok (c : CallD) (n gone : Int) (w : World) (h : callB n gone c = true) :
    Calls Tryd.prog 130 #[.agg #[.int .i64 c.st, .int .i64 c.co, .int .i64 c.go, .int .i64 c.tr], .int .i64 n, .int .i64 gone] w fun e w' => e = .returned .nilIface ∧ Below w.heap.size w w' := by
  obtain ⟨a1, a2, a3, a4, a5, a6, a7⟩ := callB_yes h
  clear h
  go_enter Tryd.func130, Tryd.ntmps130
  go_wp2
  go_ret
  exact ⟨rfl, (Below.refl _ _).alloc (Nat.le_refl _) _⟩

set_option maxRecDepth 100000 in
set_option maxHeartbeats 2000000 in
theorem checkCall_bad (c : CallD) (n gone : Int) (w : World) (h : callB n gone c = false) (hev : ErrVars w) :
    Calls Tryd.prog 130 #[.agg #[.int .i64 c.st, .int .i64 c.co, .int .i64 c.go, .int .i64 c.tr], .int .i64 n, .int .i64 gone] w fun e w' => (∃ x, e = .returned (.iface 243 x)) ∧ Below w.heap.size w w' := by
  have hno := callB_no h
  obtain ⟨x6, h6⟩ := hev.noStation
  obtain ⟨x7, h7⟩ := hev.time
  obtain ⟨x8, h8⟩ := hev.track
  have l6 := cell_lt h6
  have l7 := cell_lt h7
  have l8 := cell_lt h8
  clear h hev
  by_cases a1 : 0 ≤ c.st
  · by_cases a2 : c.st < n
    · by_cases a3 : gone ≤ c.co
      · by_cases a4 : c.co ≤ c.go
        · by_cases a5 : c.go ≤ 1000000
          · by_cases a6 : 1 ≤ c.tr
            · have a7 : ¬ c.tr ≤ 20 := fun a7 => hno ⟨a1, a2, a3, a4, a5, a6, a7⟩
              clear hno
              go_enter Tryd.func130, Tryd.ntmps130
              go_wp2
              go_ret
              exact ⟨⟨_, rfl⟩, (Below.refl _ _).alloc (Nat.le_refl _) _⟩
            · clear hno
              go_enter Tryd.func130, Tryd.ntmps130
              go_wp2
              go_ret
              exact ⟨⟨_, rfl⟩, (Below.refl _ _).alloc (Nat.le_refl _) _⟩
          · clear hno
            go_enter Tryd.func130, Tryd.ntmps130
            go_wp2
            go_ret
            exact ⟨⟨_, rfl⟩, (Below.refl _ _).alloc (Nat.le_refl _) _⟩
        · clear hno
          go_enter Tryd.func130, Tryd.ntmps130
          go_wp2
          go_ret
          exact ⟨⟨_, rfl⟩, (Below.refl _ _).alloc (Nat.le_refl _) _⟩
      · clear hno
        go_enter Tryd.func130, Tryd.ntmps130
        go_wp2
        go_ret
        exact ⟨⟨_, rfl⟩, (Below.refl _ _).alloc (Nat.le_refl _) _⟩
    · clear hno
      go_enter Tryd.func130, Tryd.ntmps130
      go_wp2
      go_ret
      exact ⟨⟨_, rfl⟩, (Below.refl _ _).alloc (Nat.le_refl _) _⟩
  · clear hno
    go_enter Tryd.func130, Tryd.ntmps130
    go_wp2
    go_ret
    exact ⟨⟨_, rfl⟩, (Below.refl _ _).alloc (Nat.le_refl _) _⟩

end Go.Proofs.YtjioingdpfgadaaDoor
