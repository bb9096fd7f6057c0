import Derived.Test.YtjioingdpfgadaaGreatDoorProg
import Derived.Test.YtjioingdpfgadaaGreatDoorSpecBM
import Derived.Test.YtjioingdpfgadaaGreatDoorChkDM
import Derived.Test.YtjioingdpfgadaaGreatDoorToM
import Derived.Test.YtjioingdpfgadaaGreatDoorMarkNM
import Derived.Test.YtjioingdpfgadaaGreatDoorSayBM
import Derived.Test.YtjioingdpfgadaaGreatDoorRows
import Derived.ProofKit
import Derived.LaidMore
import Derived.LaidHandle
import Derived.Stop.LaidErr
import Derived.Stop.Joined
import Derived.RowKitTokens
import Derived.OpenShut
import Derived.Lib.SmallJoins
import Derived.Deep.Slices
import Derived.Deep.Strs
import Derived.ChangeSame
import Derived.ChangeVars
import Derived.JoinedOf
import Derived.SevenTiedAt
import Derived.Test.YtjioingdpfgadaaGreatDoorDecM
import Derived.DataShut
namespace Go.Proofs.YtjioingdpfgadaaGreatDoor
open Go Go.RowKit Go.Deep

/-- The stations of all calls are numbers of Go's int. -/
def BookWf (bk : BookD) : Prop := ∀ t ∈ bk.trips, ∀ i (h : i < t.calls.length), (Lit.int .i64 t.calls[i].st).wf = true

end Go.Proofs.YtjioingdpfgadaaGreatDoor
namespace Go.Proofs.YtjioingdpfgadaaGreatDoor
open Go Go.RowKit Go.ChangeShapes Go.WideShapes

theorem gErrorType : Tryz.prog.globalNamed "errors.errorType" = some 0 := by kernel_rfl
theorem gTooMany : Tryz.prog.globalNamed "loop.example/tannoy/impl.errTooMany" = some 1 := by kernel_rfl
theorem gNoName : Tryz.prog.globalNamed "loop.example/tannoy/impl.errNoName" = some 2 := by kernel_rfl
theorem gNameTwice : Tryz.prog.globalNamed "loop.example/tannoy/impl.errNameTwice" = some 3 := by kernel_rfl
theorem gCallCount : Tryz.prog.globalNamed "loop.example/tannoy/impl.errCallCount" = some 5 := by kernel_rfl
theorem gStationTwice : Tryz.prog.globalNamed "loop.example/tannoy/impl.errStationTwice" = some 6 := by kernel_rfl
theorem gNoStation : Tryz.prog.globalNamed "loop.example/tannoy/impl.errNoStation" = some 7 := by kernel_rfl
theorem gTime : Tryz.prog.globalNamed "loop.example/tannoy/impl.errTime" = some 8 := by kernel_rfl
theorem gTrack : Tryz.prog.globalNamed "loop.example/tannoy/impl.errTrack" = some 9 := by kernel_rfl
theorem tTooMany : (Tryz.prog.globals[1]?).map (·.type) = some 94 := by kernel_rfl
theorem tNoName : (Tryz.prog.globals[2]?).map (·.type) = some 94 := by kernel_rfl
theorem tNameTwice : (Tryz.prog.globals[3]?).map (·.type) = some 94 := by kernel_rfl
theorem tCallCount : (Tryz.prog.globals[5]?).map (·.type) = some 94 := by kernel_rfl
theorem tStationTwice : (Tryz.prog.globals[6]?).map (·.type) = some 94 := by kernel_rfl
theorem tNoStation : (Tryz.prog.globals[7]?).map (·.type) = some 94 := by kernel_rfl
theorem tTime : (Tryz.prog.globals[8]?).map (·.type) = some 94 := by kernel_rfl
theorem tTrack : (Tryz.prog.globals[9]?).map (·.type) = some 94 := by kernel_rfl
theorem esStar : "*" ++ "errors.errorString" = "*errors.errorString" := by decide
theorem esRow (u : TypeId) (h : Tryz.prog.typeName? 3 u = some "*errors.errorString") : u = 200 :=
  typeName_ptr_named (nm := "errors.errorString") (by rw [esStar]; kernel_rfl) (by kernel_rfl) (by decide) u (by rw [esStar]; exact h)
theorem esCells : Tryz.prog.cellsOf 221 = 1 := by kernel_rfl
theorem strCells : Tryz.prog.cellsOf 9 = 1 := by kernel_rfl
theorem rtType : (Tryz.prog.cutTypes.find? (·.1 == "internal/reflectlite.rtype")).map (·.2) = some 174 := by kernel_rfl
theorem nTypes : Tryz.prog.types.size = 333 - 100 := by kernel_rfl
theorem oneError : ((List.range (333 - 100)).filter fun t => Tryz.prog.rowNamed t [101, 114, 114, 111, 114]) = [94] := by kernel_rfl

/-- The package-level variables, as the condition gives them. -/
structure LaidIn (W : World) : Prop where
  tooMany : ∃ a, W.var? Tryz.prog "loop.example/tannoy/impl.errTooMany" = some #[.iface 200 (.pointer (some a))]
  noName : ∃ a, W.var? Tryz.prog "loop.example/tannoy/impl.errNoName" = some #[.iface 200 (.pointer (some a))]
  nameTwice : ∃ a, W.var? Tryz.prog "loop.example/tannoy/impl.errNameTwice" = some #[.iface 200 (.pointer (some a))]
  callCount : ∃ a, W.var? Tryz.prog "loop.example/tannoy/impl.errCallCount" = some #[.iface 200 (.pointer (some a))]
  stationTwice : ∃ a, W.var? Tryz.prog "loop.example/tannoy/impl.errStationTwice" = some #[.iface 200 (.pointer (some a))]
  noStation : ∃ a, W.var? Tryz.prog "loop.example/tannoy/impl.errNoStation" = some #[.iface 200 (.pointer (some a))]
  time : ∃ a, W.var? Tryz.prog "loop.example/tannoy/impl.errTime" = some #[.iface 200 (.pointer (some a))]
  track : ∃ a, W.var? Tryz.prog "loop.example/tannoy/impl.errTrack" = some #[.iface 200 (.pointer (some a))]
  type : W.cell? ⟨0, 0, none⟩ = some (.iface 174 (.agg #[.pointer (some ⟨12, 94, none⟩)]))

theorem LaidIn.errs {W : World} (h : LaidIn W) : ErrVars W := by
  obtain ⟨a1, h1⟩ := h.tooMany
  obtain ⟨a2, h2⟩ := h.noName
  obtain ⟨a3, h3⟩ := h.nameTwice
  obtain ⟨a4, h4⟩ := h.callCount
  obtain ⟨a5, h5⟩ := h.stationTwice
  obtain ⟨a6, h6⟩ := h.noStation
  obtain ⟨a7, h7⟩ := h.time
  obtain ⟨a8, h8⟩ := h.track
  exact ⟨⟨_, by simpa using World.var?_cell gTooMany h1 0⟩, ⟨_, by simpa using World.var?_cell gNoName h2 0⟩, ⟨_, by simpa using World.var?_cell gNameTwice h3 0⟩, ⟨_, by simpa using World.var?_cell gCallCount h4 0⟩,
    ⟨_, by simpa using World.var?_cell gStationTwice h5 0⟩, ⟨_, by simpa using World.var?_cell gNoStation h6 0⟩, ⟨_, by simpa using World.var?_cell gTime h7 0⟩, ⟨_, by simpa using World.var?_cell gTrack h8 0⟩, h.type⟩

/-- The errors and the handle, as a row lists them. -/
def ErrsLaid (W : World) : Prop := laidMet Tryz.prog [("loop.example/tannoy/impl.errTooMany", Rows.laid_loop_example_tannoy_impl_errTooMany), ("loop.example/tannoy/impl.errNoName", Rows.laid_loop_example_tannoy_impl_errNoName), ("loop.example/tannoy/impl.errNameTwice", Rows.laid_loop_example_tannoy_impl_errNameTwice), ("loop.example/tannoy/impl.errCallCount", Rows.laid_loop_example_tannoy_impl_errCallCount), ("loop.example/tannoy/impl.errNoStation", Rows.laid_loop_example_tannoy_impl_errNoStation), ("loop.example/tannoy/impl.errStationTwice", Rows.laid_loop_example_tannoy_impl_errStationTwice), ("loop.example/tannoy/impl.errTime", Rows.laid_loop_example_tannoy_impl_errTime), ("loop.example/tannoy/impl.errTrack", Rows.laid_loop_example_tannoy_impl_errTrack)] W
      ∧ handlesMet Tryz.prog [("errors.errorType", Rows.laid_errors_errorType)] W
theorem laidIn_of {W : World} (h : ErrsLaid W) : LaidIn W := by
  have h' : laidMet Tryz.prog [("loop.example/tannoy/impl.errTooMany", Rows.laid_loop_example_tannoy_impl_errTooMany), ("loop.example/tannoy/impl.errNoName", Rows.laid_loop_example_tannoy_impl_errNoName), ("loop.example/tannoy/impl.errNameTwice", Rows.laid_loop_example_tannoy_impl_errNameTwice), ("loop.example/tannoy/impl.errCallCount", Rows.laid_loop_example_tannoy_impl_errCallCount), ("loop.example/tannoy/impl.errNoStation", Rows.laid_loop_example_tannoy_impl_errNoStation), ("loop.example/tannoy/impl.errStationTwice", Rows.laid_loop_example_tannoy_impl_errStationTwice), ("loop.example/tannoy/impl.errTime", Rows.laid_loop_example_tannoy_impl_errTime), ("loop.example/tannoy/impl.errTrack", Rows.laid_loop_example_tannoy_impl_errTrack)] W
      ∧ handlesMet Tryz.prog [("errors.errorType", Rows.laid_errors_errorType)] W := h
  obtain ⟨l1, hh⟩ := h'
  obtain ⟨name, u, ty, e1, e2, e3, e4, e5⟩ := hh _ (List.mem_singleton.2 rfl)
  have en : name = [101, 114, 114, 111, 114] := (Option.some.inj e1).symm
  subst en
  obtain rfl := Option.some.inj (rtType.symm.trans e2)
  have hm : ty ∈ (List.range (333 - 100)).filter fun t => Tryz.prog.rowNamed t [101, 114, 114, 111, 114] := List.mem_filter.2 ⟨List.mem_range.2 (by rw [← nTypes]; exact e3), e4⟩
  rw [oneError] at hm
  obtain rfl := List.mem_singleton.1 hm
  have ht : typeHandle Tryz.prog 94 = .pointer (some ⟨12, 94, none⟩) := by kernel_rfl
  rw [ht] at e5
  have l2 := l1.tail
  have l3 := l2.tail
  have l4 := l3.tail
  have l5 := l4.tail
  have l6 := l5.tail
  have l7 := l6.tail
  have l8 := l7.tail
  obtain ⟨a1, _, v1, _⟩ := laid_sentinel l1 gTooMany tTooMany Tryz.underlying94 esRow Tryz.underlying200 Tryz.underlying221 rfl rfl Tryz.underlying9 esCells strCells
  obtain ⟨a2, _, v2, _⟩ := laid_sentinel l2 gNoName tNoName Tryz.underlying94 esRow Tryz.underlying200 Tryz.underlying221 rfl rfl Tryz.underlying9 esCells strCells
  obtain ⟨a3, _, v3, _⟩ := laid_sentinel l3 gNameTwice tNameTwice Tryz.underlying94 esRow Tryz.underlying200 Tryz.underlying221 rfl rfl Tryz.underlying9 esCells strCells
  obtain ⟨a4, _, v4, _⟩ := laid_sentinel l4 gCallCount tCallCount Tryz.underlying94 esRow Tryz.underlying200 Tryz.underlying221 rfl rfl Tryz.underlying9 esCells strCells
  obtain ⟨a5, _, v5, _⟩ := laid_sentinel l5 gNoStation tNoStation Tryz.underlying94 esRow Tryz.underlying200 Tryz.underlying221 rfl rfl Tryz.underlying9 esCells strCells
  obtain ⟨a6, _, v6, _⟩ := laid_sentinel l6 gStationTwice tStationTwice Tryz.underlying94 esRow Tryz.underlying200 Tryz.underlying221 rfl rfl Tryz.underlying9 esCells strCells
  obtain ⟨a7, _, v7, _⟩ := laid_sentinel l7 gTime tTime Tryz.underlying94 esRow Tryz.underlying200 Tryz.underlying221 rfl rfl Tryz.underlying9 esCells strCells
  obtain ⟨a8, _, v8, _⟩ := laid_sentinel l8 gTrack tTrack Tryz.underlying94 esRow Tryz.underlying200 Tryz.underlying221 rfl rfl Tryz.underlying9 esCells strCells
  exact ⟨⟨a1, v1⟩, ⟨a2, v2⟩, ⟨a3, v3⟩, ⟨a4, v4⟩, ⟨a6, v6⟩, ⟨a5, v5⟩, ⟨a7, v7⟩, ⟨a8, v8⟩, by simpa using World.var?_cell gErrorType e5 0⟩

end Go.Proofs.YtjioingdpfgadaaGreatDoor
namespace Go.Proofs.YtjioingdpfgadaaGreatDoor
open Go Go.RowKit Go.Deep Go.ChangeShapes Go.WideShapes Go.Joins

section
variable {H : Type} {enc : TypeId × Value → H} {w : World} {base : Nat} {spare : Nat → Bool} {held : Bool}

/-- A cell at an address of a slice's: the address is a plain one. -/
theorem plain_at {a : Addr} {v : Value} (h : w.cell? (a.add 0) = some v) : ∃ b o, a = ⟨b, o, none⟩ := by
  obtain ⟨b, off, spot⟩ := a
  have hspot : spot = none := by simpa [Addr.add] using World.cell?_spot h
  subst hspot
  exact ⟨b, off, rfl⟩

end
end Go.Proofs.YtjioingdpfgadaaGreatDoor
namespace Go.Proofs.YtjioingdpfgadaaGreatDoor
open Go Go.RowKit Go.Deep Go.ChangeShapes Go.WideShapes Go.ChangeAt

theorem ownKnob_none : ownKnob Tryz.prog.godebug = none := by kernel_rfl
theorem laidOut_ok : laidOutB Tryz.prog = true := by kernel_rfl

def errNames : List String := ["loop.example/tannoy/impl.errTooMany", "loop.example/tannoy/impl.errNoName", "loop.example/tannoy/impl.errNameTwice", "loop.example/tannoy/impl.errCallCount", "loop.example/tannoy/impl.errStationTwice", "loop.example/tannoy/impl.errNoStation", "loop.example/tannoy/impl.errTime", "loop.example/tannoy/impl.errTrack"]
def errPlaces : List MemPlace := [.cell 1 0, .cell 2 0, .cell 3 0, .cell 5 0, .cell 6 0, .cell 7 0, .cell 8 0, .cell 9 0]

theorem vars_read8 {H : Type} (enc : TypeId × Value → H) {W : World} {x1 x2 x3 x4 x5 x6 x7 x8 : Value}
    (h1 : W.var? Tryz.prog "loop.example/tannoy/impl.errTooMany" = some #[x1]) (h2 : W.var? Tryz.prog "loop.example/tannoy/impl.errNoName" = some #[x2]) (h3 : W.var? Tryz.prog "loop.example/tannoy/impl.errNameTwice" = some #[x3]) (h4 : W.var? Tryz.prog "loop.example/tannoy/impl.errCallCount" = some #[x4])
    (h5 : W.var? Tryz.prog "loop.example/tannoy/impl.errStationTwice" = some #[x5]) (h6 : W.var? Tryz.prog "loop.example/tannoy/impl.errNoStation" = some #[x6]) (h7 : W.var? Tryz.prog "loop.example/tannoy/impl.errTime" = some #[x7]) (h8 : W.var? Tryz.prog "loop.example/tannoy/impl.errTrack" = some #[x8])
    (i1 : IsIface x1) (i2 : IsIface x2) (i3 : IsIface x3) (i4 : IsIface x4) (i5 : IsIface x5) (i6 : IsIface x6) (i7 : IsIface x7) (i8 : IsIface x8) (sp : Nat → Bool) :
    DataW.TrodVars enc Tryz.prog W sp errNames [tok enc x1, tok enc x2, tok enc x3, tok enc x4, tok enc x5, tok enc x6, tok enc x7, tok enc x8] errPlaces :=
  ⟨1, 94, #[x1], 1, [], _, gTooMany, tTooMany, h1, trod_held Tryz.underlying94 i1 0,
  ⟨2, 94, #[x2], 1, [], _, gNoName, tNoName, h2, trod_held Tryz.underlying94 i2 0,
  ⟨3, 94, #[x3], 1, [], _, gNameTwice, tNameTwice, h3, trod_held Tryz.underlying94 i3 0,
  ⟨5, 94, #[x4], 1, [], _, gCallCount, tCallCount, h4, trod_held Tryz.underlying94 i4 0,
  ⟨6, 94, #[x5], 1, [], _, gStationTwice, tStationTwice, h5, trod_held Tryz.underlying94 i5 0,
  ⟨7, 94, #[x6], 1, [], _, gNoStation, tNoStation, h6, trod_held Tryz.underlying94 i6 0,
  ⟨8, 94, #[x7], 1, [], _, gTime, tTime, h7, trod_held Tryz.underlying94 i7 0,
  ⟨9, 94, #[x8], 1, [], [], gTrack, tTrack, h8, trod_held Tryz.underlying94 i8 0, rfl, rfl⟩, rfl⟩, rfl⟩, rfl⟩, rfl⟩, rfl⟩, rfl⟩, rfl⟩

end Go.Proofs.YtjioingdpfgadaaGreatDoor
namespace Go.Proofs.YtjioingdpfgadaaGreatDoor
open Go Go.RowKit Go.Deep Go.ChangeShapes Go.WideShapes Go.Joins

theorem cByte : Tryz.prog.cellsOf 5 = 1 := by kernel_rfl
theorem uBt : Tryz.prog.underlying 5 = some (.int .u8) := by kernel_rfl
theorem uBts : Tryz.prog.underlying 22 = some (.slice 5) := by kernel_rfl

section
variable {H : Type} {enc : TypeId × Value → H} {w : World} {base : Nat} {spare : Nat → Bool} {held : Bool}
theorem plain_atB {a : Addr} {v : Value} (h : w.cell? (a.add 0) = some v) : ∃ b o, a = ⟨b, o, none⟩ := by
  obtain ⟨b, off, spot⟩ := a
  have hspot : spot = none := by simpa [Addr.add] using World.cell?_spot h
  subst hspot
  exact ⟨b, off, rfl⟩

set_option maxRecDepth 100000 in
theorem open_bytes {fuel : Nat} {v : Value} {x : DataW H × List MemPlace} (h : DataW.trod enc Tryz.prog w base spare held fuel 22 [v] = some x) :
    ∃ (a : Option Addr) (c : Nat) (bs : List Int), v = .slice a bs.length c ∧ BytesAt w a bs := by
  rcases open_slice uBts h with ⟨hc, _⟩ | ⟨a, len, cap, m, n, D, Pl, hc, _, hl, hm, hmm, _, hel⟩
  · obtain rfl : v = .slice none 0 0 := by simpa using hc
    exact ⟨none, 0, [], rfl, fun i hi => by simp at hi⟩
  obtain rfl : v = .slice (some a) len cap := by simpa using hc
  have hlm : len ≤ m := by rw [hmm]; split <;> omega
  rw [cByte] at hel
  obtain ⟨C, hC⟩ := choose_lt (α := Int) (n := len) (p := fun i r => w.cell? (a.add (i * 1)) = some (.int .u8 r) ∧ 0 ≤ r ∧ r ≤ 255) (fun i hi => by
    obtain ⟨cs', h1, h2⟩ := hel i (by omega)
    obtain ⟨_, hlen, hcell⟩ := World.cells?_some h1
    match cs', hlen with
    | [c0], _ =>
      obtain ⟨x0, e0, _, wf0⟩ := DataW.trod_int uBt h2
      simp at e0
      subst e0
      rw [Lit.wf_int_iff] at wf0
      simp only [IntKind.min, IntKind.max, IntKind.signed, IntKind.bits] at wf0
      refine ⟨x0, ?_, by simp at wf0; omega, by simp at wf0; omega⟩
      simpa [Addr.add] using hcell 0 (by omega))
  have hlen : ((List.range len).map C).length = len := by simp
  have hget : ∀ i (h : i < ((List.range len).map C).length), ((List.range len).map C)[i] = C i := fun i h => by simp
  refine ⟨some a, cap, (List.range len).map C, by rw [hlen], fun i hi => ?_⟩
  have hi' : i < len := by rwa [hlen] at hi
  rw [hget]
  obtain ⟨c0, h0, h1⟩ := hC i hi'
  obtain ⟨b, o, rfl⟩ := plain_atB (by simpa using (hC 0 (by omega)).1)
  simp only [Go.WideShapes.add_plain, Nat.mul_one] at c0
  exact ⟨b, o, rfl, c0, h0, h1⟩
set_option maxRecDepth 100000 in
theorem low_bytes {a : Option Addr} {n c : Nat} (h : Value.okWide Tryz.prog w .any base 22 (.slice a n c)) : ∀ b o, a = some ⟨b, o, none⟩ → b < w.heap.size := by
  rintro b o rfl
  simp only [Value.okWide, uBts, Cell.okWide, Cell.ok, World.has] at h
  obtain ⟨_, _, _, _, row, cells, hs, _⟩ := h
  apply Classical.byContradiction; intro hn
  have : w.heap[b]? = none := by simp; omega
  simp [World.shape?, this] at hs
end

end Go.Proofs.YtjioingdpfgadaaGreatDoor
