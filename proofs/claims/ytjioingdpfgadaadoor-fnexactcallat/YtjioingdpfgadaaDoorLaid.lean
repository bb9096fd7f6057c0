import Derived.Test.YtjioingdpfgadaaDoorRows
import Derived.Test.YtjioingdpfgadaaDoorLaw1
import Derived.ProofKit
import Derived.LaidMore
import Derived.LaidHandle
import Derived.Stop.LaidErr
import Derived.Stop.Joined
import Derived.RowKitTokens
namespace Go.Proofs.YtjioingdpfgadaaDoor
open Go Go.RowKit Go.ChangeShapes Go.WideShapes

theorem gErrorType : Tryd.prog.globalNamed "errors.errorType" = some 0 := by kernel_rfl
theorem gTooMany : Tryd.prog.globalNamed "loop.example/tannoy/impl.errTooMany" = some 1 := by kernel_rfl
theorem gNoName : Tryd.prog.globalNamed "loop.example/tannoy/impl.errNoName" = some 2 := by kernel_rfl
theorem gNameTwice : Tryd.prog.globalNamed "loop.example/tannoy/impl.errNameTwice" = some 3 := by kernel_rfl
theorem gCallCount : Tryd.prog.globalNamed "loop.example/tannoy/impl.errCallCount" = some 4 := by kernel_rfl
theorem gStationTwice : Tryd.prog.globalNamed "loop.example/tannoy/impl.errStationTwice" = some 5 := by kernel_rfl
theorem gNoStation : Tryd.prog.globalNamed "loop.example/tannoy/impl.errNoStation" = some 6 := by kernel_rfl
theorem gTime : Tryd.prog.globalNamed "loop.example/tannoy/impl.errTime" = some 7 := by kernel_rfl
theorem gTrack : Tryd.prog.globalNamed "loop.example/tannoy/impl.errTrack" = some 8 := by kernel_rfl
theorem tTooMany : (Tryd.prog.globals[1]?).map (·.type) = some 124 := by kernel_rfl
theorem tNoName : (Tryd.prog.globals[2]?).map (·.type) = some 124 := by kernel_rfl
theorem tNameTwice : (Tryd.prog.globals[3]?).map (·.type) = some 124 := by kernel_rfl
theorem tCallCount : (Tryd.prog.globals[4]?).map (·.type) = some 124 := by kernel_rfl
theorem tStationTwice : (Tryd.prog.globals[5]?).map (·.type) = some 124 := by kernel_rfl
theorem tNoStation : (Tryd.prog.globals[6]?).map (·.type) = some 124 := by kernel_rfl
theorem tTime : (Tryd.prog.globals[7]?).map (·.type) = some 124 := by kernel_rfl
theorem tTrack : (Tryd.prog.globals[8]?).map (·.type) = some 124 := by kernel_rfl
theorem esStar : "*" ++ "errors.errorString" = "*errors.errorString" := by decide
theorem esRow (u : TypeId) (h : Tryd.prog.typeName? 3 u = some "*errors.errorString") : u = 243 :=
  typeName_ptr_named (nm := "errors.errorString") (by rw [esStar]; kernel_rfl) (by kernel_rfl) (by decide) u (by rw [esStar]; exact h)
theorem esCells : Tryd.prog.cellsOf 264 = 1 := by kernel_rfl
theorem strCells : Tryd.prog.cellsOf 9 = 1 := by kernel_rfl
theorem rtType : (Tryd.prog.cutTypes.find? (·.1 == "internal/reflectlite.rtype")).map (·.2) = some 205 := by kernel_rfl
theorem nTypes : Tryd.prog.types.size = 376 - 100 := by kernel_rfl
theorem oneError : ((List.range (376 - 100)).filter fun t => Tryd.prog.rowNamed t [101, 114, 114, 111, 114]) = [124] := by kernel_rfl

/-- The package-level variables, as the condition gives them. -/
structure LaidIn (W : World) : Prop where
  tooMany : ∃ a, W.var? Tryd.prog "loop.example/tannoy/impl.errTooMany" = some #[.iface 243 (.pointer (some a))]
  noName : ∃ a, W.var? Tryd.prog "loop.example/tannoy/impl.errNoName" = some #[.iface 243 (.pointer (some a))]
  nameTwice : ∃ a, W.var? Tryd.prog "loop.example/tannoy/impl.errNameTwice" = some #[.iface 243 (.pointer (some a))]
  callCount : ∃ a, W.var? Tryd.prog "loop.example/tannoy/impl.errCallCount" = some #[.iface 243 (.pointer (some a))]
  stationTwice : ∃ a, W.var? Tryd.prog "loop.example/tannoy/impl.errStationTwice" = some #[.iface 243 (.pointer (some a))]
  noStation : ∃ a, W.var? Tryd.prog "loop.example/tannoy/impl.errNoStation" = some #[.iface 243 (.pointer (some a))]
  time : ∃ a, W.var? Tryd.prog "loop.example/tannoy/impl.errTime" = some #[.iface 243 (.pointer (some a))]
  track : ∃ a, W.var? Tryd.prog "loop.example/tannoy/impl.errTrack" = some #[.iface 243 (.pointer (some a))]
  type : W.cell? ⟨0, 0, none⟩ = some (.iface 205 (.agg #[.pointer (some ⟨12, 124, none⟩)]))

theorem LaidIn.errs {W : World} (h : LaidIn W) : ErrVars W := by
  obtain ⟨a1, h1⟩ := h.tooMany
  obtain ⟨a2, h2⟩ := h.noName
  obtain ⟨a3, h3⟩ := h.nameTwice
  obtain ⟨a4, h4⟩ := h.callCount
  obtain ⟨a5, h5⟩ := h.stationTwice
  obtain ⟨a6, h6⟩ := h.noStation
  obtain ⟨a7, h7⟩ := h.time
  obtain ⟨a8, h8⟩ := h.track
  exact ⟨⟨_, by simpa using World.var?_cell gTooMany h1 0⟩, ⟨_, by simpa using World.var?_cell gNoName h2 0⟩, ⟨_, by simpa using World.var?_cell gNameTwice h3 0⟩, ⟨_, by simpa using World.var?_cell gCallCount h4 0⟩,
    ⟨_, by simpa using World.var?_cell gStationTwice h5 0⟩, ⟨_, by simpa using World.var?_cell gNoStation h6 0⟩, ⟨_, by simpa using World.var?_cell gTime h7 0⟩, ⟨_, by simpa using World.var?_cell gTrack h8 0⟩, h.type⟩

theorem laidIn_of {W : World} (h : laidMetH Tryd.prog Rows.fnExactBookOkRow.laid W) : LaidIn W := by
  have h' : laidMet Tryd.prog [("loop.example/tannoy/impl.errTooMany", Rows.laid_loop_example_tannoy_impl_errTooMany), ("loop.example/tannoy/impl.errNoName", Rows.laid_loop_example_tannoy_impl_errNoName), ("loop.example/tannoy/impl.errNameTwice", Rows.laid_loop_example_tannoy_impl_errNameTwice), ("loop.example/tannoy/impl.errCallCount", Rows.laid_loop_example_tannoy_impl_errCallCount), ("loop.example/tannoy/impl.errNoStation", Rows.laid_loop_example_tannoy_impl_errNoStation), ("loop.example/tannoy/impl.errStationTwice", Rows.laid_loop_example_tannoy_impl_errStationTwice), ("loop.example/tannoy/impl.errTime", Rows.laid_loop_example_tannoy_impl_errTime), ("loop.example/tannoy/impl.errTrack", Rows.laid_loop_example_tannoy_impl_errTrack)] W
      ∧ handlesMet Tryd.prog [("errors.errorType", Rows.laid_errors_errorType)] W := h
  obtain ⟨l1, hh⟩ := h'
  obtain ⟨name, u, ty, e1, e2, e3, e4, e5⟩ := hh _ (List.mem_singleton.2 rfl)
  have en : name = [101, 114, 114, 111, 114] := (Option.some.inj e1).symm
  subst en
  obtain rfl := Option.some.inj (rtType.symm.trans e2)
  have hm : ty ∈ (List.range (376 - 100)).filter fun t => Tryd.prog.rowNamed t [101, 114, 114, 111, 114] := List.mem_filter.2 ⟨List.mem_range.2 (by rw [← nTypes]; exact e3), e4⟩
  rw [oneError] at hm
  obtain rfl := List.mem_singleton.1 hm
  have ht : typeHandle Tryd.prog 124 = .pointer (some ⟨12, 124, none⟩) := by kernel_rfl
  rw [ht] at e5
  have l2 := l1.tail
  have l3 := l2.tail
  have l4 := l3.tail
  have l5 := l4.tail
  have l6 := l5.tail
  have l7 := l6.tail
  have l8 := l7.tail
  obtain ⟨a1, _, v1, _⟩ := laid_sentinel l1 gTooMany tTooMany Tryd.underlying124 esRow Tryd.underlying243 Tryd.underlying264 rfl rfl Tryd.underlying9 esCells strCells
  obtain ⟨a2, _, v2, _⟩ := laid_sentinel l2 gNoName tNoName Tryd.underlying124 esRow Tryd.underlying243 Tryd.underlying264 rfl rfl Tryd.underlying9 esCells strCells
  obtain ⟨a3, _, v3, _⟩ := laid_sentinel l3 gNameTwice tNameTwice Tryd.underlying124 esRow Tryd.underlying243 Tryd.underlying264 rfl rfl Tryd.underlying9 esCells strCells
  obtain ⟨a4, _, v4, _⟩ := laid_sentinel l4 gCallCount tCallCount Tryd.underlying124 esRow Tryd.underlying243 Tryd.underlying264 rfl rfl Tryd.underlying9 esCells strCells
  obtain ⟨a5, _, v5, _⟩ := laid_sentinel l5 gNoStation tNoStation Tryd.underlying124 esRow Tryd.underlying243 Tryd.underlying264 rfl rfl Tryd.underlying9 esCells strCells
  obtain ⟨a6, _, v6, _⟩ := laid_sentinel l6 gStationTwice tStationTwice Tryd.underlying124 esRow Tryd.underlying243 Tryd.underlying264 rfl rfl Tryd.underlying9 esCells strCells
  obtain ⟨a7, _, v7, _⟩ := laid_sentinel l7 gTime tTime Tryd.underlying124 esRow Tryd.underlying243 Tryd.underlying264 rfl rfl Tryd.underlying9 esCells strCells
  obtain ⟨a8, _, v8, _⟩ := laid_sentinel l8 gTrack tTrack Tryd.underlying124 esRow Tryd.underlying243 Tryd.underlying264 rfl rfl Tryd.underlying9 esCells strCells
  exact ⟨⟨a1, v1⟩, ⟨a2, v2⟩, ⟨a3, v3⟩, ⟨a4, v4⟩, ⟨a6, v6⟩, ⟨a5, v5⟩, ⟨a7, v7⟩, ⟨a8, v8⟩, by simpa using World.var?_cell gErrorType e5 0⟩

end Go.Proofs.YtjioingdpfgadaaDoor
