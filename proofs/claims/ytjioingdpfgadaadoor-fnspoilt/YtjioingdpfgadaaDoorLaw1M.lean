import Derived.Test.YtjioingdpfgadaaDoorProg
import Derived.Test.YtjioingdpfgadaaDoorSpecBM
import Derived.Test.YtjioingdpfgadaaDoorChkDM
import Derived.Test.YtjioingdpfgadaaDoorToM
import Derived.Test.YtjioingdpfgadaaDoorMarkNM
import Derived.Test.YtjioingdpfgadaaDoorDrwNM
import Derived.Test.YtjioingdpfgadaaDoorRows
import Derived.ProofKit
import Derived.LaidMore
import Derived.LaidHandle
import Derived.Stop.LaidErr
import Derived.Stop.Joined
import Derived.RowKitTokens
import Derived.OpenShut
import Derived.Lib.SmallJoins
import Derived.Deep.Slices
import Derived.Deep.Strs
import Derived.ChangeSame
import Derived.ChangeVars
import Derived.JoinedOf
import Derived.SevenTiedAt
import Derived.Test.YtjioingdpfgadaaDoorHeapM
import Derived.DataShut
namespace Go.Proofs.YtjioingdpfgadaaDoor
open Go Go.RowKit Go.Deep

/-- The stations of all calls are numbers of Go's int. -/
def BookWf (bk : BookD) : Prop := ∀ t ∈ bk.trips, ∀ i (h : i < t.calls.length), (Lit.int .i64 t.calls[i].st).wf = true

set_option maxRecDepth 100000 in
set_option maxHeartbeats 4000000 in
theorem lawBookOk_any (v : Value) (bk : BookD) (w : World) (hl : BookLens bk) (hwf : BookWf bk) (hat : BookAt w v bk) (hev : ErrVars w) :
    Calls Tryd.prog 8 #[v] w fun e w' => e = .returned (.bool true) ∧ Below w.heap.size w w' := by
  have hat0 := hat
  obtain ⟨sa, sc, ta, tc, rfl, hsa, hta⟩ := hat
  clear hsa hta
  have HAT : Hid (BookAt w (.agg #[.slice sa bk.sts.length sc, .slice ta bk.trips.length tc]) bk) := hat0
  clear hat0
  have hb0 : Below w.heap.size w (w.alloc (.cells #[.slice sa bk.sts.length sc, .slice ta bk.trips.length tc] 65)) := bx_below _ _
  by_cases hfit : (bookSize bk : Int) ≤ 1048576
  · have hn : bookSize bk ≤ 1048576 := by omega
    go_enter Tryd.func8, Tryd.ntmps8
    go_wp2_with fail
    refine (szBook_any _ bk _ _ (by omega) (by omega) hl (by exact HAT.out.keep hb0)).mono ?_
    rintro e w1 ⟨rfl, hb1⟩
    rw [rest_yes hfit]
    have B1 : Below (w.heap.size + 1) (w.alloc (.cells #[.slice sa bk.sts.length sc, .slice ta bk.trips.length tc] 65)) w1 := hb1.mono (by simp)
    have hB1 : Below w.heap.size w w1 := hb0.trans (B1.mono (by omega))
    obtain ⟨q0, q1⟩ := box_cell _ _ _ _ _ B1
    clear hb1
    go_wp2_with fail
    refine (toBook_any _ bk _ hn (by exact HAT.out.keep hB1)).mono ?_
    rintro e w2 ⟨v2, rfl, hat2, hb2⟩
    have hB2 : Below w.heap.size w w2 := hB1.trans (hb2.mono hB1.size)
    have p0 := cell_keep hb2 q0
    have p1 := cell_keep hb2 q1
    clear q0 q1 hb2
    go_wp2_with fail
    refine (specBookOk_any _ bk _ hn (by exact hat2)).mono ?_
    rintro e w3 ⟨rfl, hb3⟩
    have hB3 : Below w.heap.size w w3 := hB2.trans (hb3.mono hB2.size)
    have q0 := cell_keep hb3 p0
    have q1 := cell_keep hb3 p1
    clear p0 p1 hb3 hat2
    have z3 : w.heap.size < w3.heap.size := cell_lt q0
    go_wp2_with fail
    refine (toBook_any _ bk _ hn (by exact HAT.out.keep (hB3.alloc hB3.size _))).mono ?_
    rintro e w4 ⟨v4, rfl, hat4, hb4⟩
    have hB4 : Below w.heap.size w w4 := (hB3.alloc hB3.size _).trans (hb4.mono (by have := hB3.size; simp; omega))
    have p0 : w4.cell? ⟨w.heap.size, 0, none⟩ = some (.slice sa bk.sts.length sc) := cell_keep hb4 (cell_keep (bx_below _ _) q0)
    have p1 : w4.cell? ⟨w.heap.size, 1, none⟩ = some (.slice ta bk.trips.length tc) := cell_keep hb4 (cell_keep (bx_below _ _) q1)
    have s0 : w4.cell? ⟨w3.heap.size, 0, none⟩ = some (.int .i64 (faultD bk).1) := cell_keep hb4 (by simp [go_sem])
    have s1 : w4.cell? ⟨w3.heap.size, 1, none⟩ = some (.int .i64 (faultD bk).2) := cell_keep hb4 (by simp [go_sem])
    have HAT4 : Hid (BookAt w4 v4 bk) := hat4
    obtain ⟨sa4, sc4, ta4, tc4, rfl, _, _⟩ := hat4
    have z4 : w3.heap.size < w4.heap.size := cell_lt s0
    have z4' : w.heap.size < w4.heap.size := cell_lt p0
    clear q0 q1 hb4
    go_wp2_with fail
    have hB4' : Below w.heap.size w (w4.alloc (.cells #[.slice sa4 bk.sts.length sc4, .slice ta4 bk.trips.length tc4] 26)) := hB4.alloc hB4.size _
    refine (implBookOk_any _ bk _ hn hwf (by exact HAT4.out.keep (bx_below _ _)) (by exact hev.keep hB4')).mono ?_
    rintro e w5 ⟨rfl, hb5⟩
    have hB5 : Below w.heap.size w w5 := hB4'.trans (hb5.mono (by have := hB4.size; simp; omega))
    have k0 : w5.cell? ⟨w4.heap.size, 0, none⟩ = some (.slice sa4 bk.sts.length sc4) := cell_keep hb5 (by simp [go_sem])
    have k1 : w5.cell? ⟨w4.heap.size, 1, none⟩ = some (.slice ta4 bk.trips.length tc4) := cell_keep hb5 (by simp [go_sem])
    have q0 : w5.cell? ⟨w.heap.size, 0, none⟩ = some (.slice sa bk.sts.length sc) := cell_keep hb5 (cell_keep (bx_below _ _) p0)
    have q1 : w5.cell? ⟨w.heap.size, 1, none⟩ = some (.slice ta bk.trips.length tc) := cell_keep hb5 (cell_keep (bx_below _ _) p1)
    have t0 : w5.cell? ⟨w3.heap.size, 0, none⟩ = some (.int .i64 (faultD bk).1) := cell_keep hb5 (cell_keep (bx_below _ _) s0)
    have t1 : w5.cell? ⟨w3.heap.size, 1, none⟩ = some (.int .i64 (faultD bk).2) := cell_keep hb5 (cell_keep (bx_below _ _) s1)
    have HAT5 : Hid (BookAt w5 (.agg #[.slice sa4 bk.sts.length sc4, .slice ta4 bk.trips.length tc4]) bk) := (HAT4.out.keep (bx_below _ _)).keep hb5
    have y1 : w4.heap.size < w5.heap.size := cell_lt k0
    have y2 : w.heap.size < w5.heap.size := cell_lt q0
    have y3 : w3.heap.size < w5.heap.size := cell_lt t0
    clear p0 p1 s0 s1 hb5 hB4'
    go_wp2_with fail
    refine (eqFault_any _ _ _ _ _).mono ?_
    rintro e w6 ⟨rfl, hb6⟩
    rw [show ((faultD bk).1 == (faultD bk).1 && (faultD bk).2 == (faultD bk).2) = true from by simp]
    have hB5' := hB5.alloc hB5.size (.cells #[.int .i64 (faultD bk).1, .int .i64 (faultD bk).2] 59)
    have hB6 : Below w.heap.size w w6 := hB5'.trans (hb6.mono (by have := hB5.size; simp; omega))
    have u0 : w6.cell? ⟨w4.heap.size, 0, none⟩ = some (.slice sa4 bk.sts.length sc4) := cell_keep hb6 (cell_keep (bx_below _ _) k0)
    have u1 : w6.cell? ⟨w4.heap.size, 1, none⟩ = some (.slice ta4 bk.trips.length tc4) := cell_keep hb6 (cell_keep (bx_below _ _) k1)
    have p0 : w6.cell? ⟨w.heap.size, 0, none⟩ = some (.slice sa bk.sts.length sc) := cell_keep hb6 (cell_keep (bx_below _ _) q0)
    have p1 : w6.cell? ⟨w.heap.size, 1, none⟩ = some (.slice ta bk.trips.length tc) := cell_keep hb6 (cell_keep (bx_below _ _) q1)
    have HAT6 : Hid (BookAt w6 (.agg #[.slice sa4 bk.sts.length sc4, .slice ta4 bk.trips.length tc4]) bk) := (HAT5.out.keep (bx_below _ _)).keep hb6
    have HA6 : Hid (BookAt w6 (.agg #[.slice sa bk.sts.length sc, .slice ta bk.trips.length tc]) bk) := HAT.out.keep hB6
    clear k0 k1 q0 q1 t0 t1 hb6 hB5' hev hwf hl
    go_wp2_with fail
    go_region_with (first | (go_at_call 31; refine (toBook_any _ bk _ hn (by exact HA6.out)).mono ?_; rintro e w7 ⟨v7, rfl, hat7, hb7⟩; have f0 := cell_keep hb7 (by exact u0); have f1 := cell_keep hb7 (by exact u1); have H7 : Hid (BookAt w7 v7 bk) := hat7; have HX7 : Hid (BookAt w7 (.agg #[.slice sa4 bk.sts.length sc4, .slice ta4 bk.trips.length tc4]) bk) := BookAt.keep (by exact HAT6.out) hb7; clear hat7) | (go_at_call 33; refine (eqBook_same _ _ bk _ hn (by exact HX7.out) (by exact H7.out)).mono ?_; rintro e w8 ⟨rfl, hb8⟩))
    all_goals
      go_wp2
      go_ret
      refine ⟨rfl, ?_⟩
      have hB7 : Below w.heap.size w w7 := hB6.drew.trans (by exact hb7.mono hB6.size)
      exact hB7.trans (hb8.mono hB7.size)
  · go_enter Tryd.func8, Tryd.ntmps8
    go_wp2_with fail
    refine (szBook_any _ bk _ _ (by omega) (by omega) hl (by exact HAT.out.keep hb0)).mono ?_
    rintro e w1 ⟨rfl, hb1⟩
    rw [rest_no (by omega)]
    go_wp2_with fail
    go_ret
    exact ⟨rfl, hb0.trans (hb1.mono (by simp))⟩

end Go.Proofs.YtjioingdpfgadaaDoor
namespace Go.Proofs.YtjioingdpfgadaaDoor
open Go Go.RowKit Go.ChangeShapes Go.WideShapes

theorem gErrorType : Tryd.prog.globalNamed "errors.errorType" = some 0 := by kernel_rfl
theorem gTooMany : Tryd.prog.globalNamed "loop.example/tannoy/impl.errTooMany" = some 1 := by kernel_rfl
theorem gNoName : Tryd.prog.globalNamed "loop.example/tannoy/impl.errNoName" = some 2 := by kernel_rfl
theorem gNameTwice : Tryd.prog.globalNamed "loop.example/tannoy/impl.errNameTwice" = some 3 := by kernel_rfl
theorem gCallCount : Tryd.prog.globalNamed "loop.example/tannoy/impl.errCallCount" = some 4 := by kernel_rfl
theorem gStationTwice : Tryd.prog.globalNamed "loop.example/tannoy/impl.errStationTwice" = some 5 := by kernel_rfl
theorem gNoStation : Tryd.prog.globalNamed "loop.example/tannoy/impl.errNoStation" = some 6 := by kernel_rfl
theorem gTime : Tryd.prog.globalNamed "loop.example/tannoy/impl.errTime" = some 7 := by kernel_rfl
theorem gTrack : Tryd.prog.globalNamed "loop.example/tannoy/impl.errTrack" = some 8 := by kernel_rfl
theorem tTooMany : (Tryd.prog.globals[1]?).map (·.type) = some 124 := by kernel_rfl
theorem tNoName : (Tryd.prog.globals[2]?).map (·.type) = some 124 := by kernel_rfl
theorem tNameTwice : (Tryd.prog.globals[3]?).map (·.type) = some 124 := by kernel_rfl
theorem tCallCount : (Tryd.prog.globals[4]?).map (·.type) = some 124 := by kernel_rfl
theorem tStationTwice : (Tryd.prog.globals[5]?).map (·.type) = some 124 := by kernel_rfl
theorem tNoStation : (Tryd.prog.globals[6]?).map (·.type) = some 124 := by kernel_rfl
theorem tTime : (Tryd.prog.globals[7]?).map (·.type) = some 124 := by kernel_rfl
theorem tTrack : (Tryd.prog.globals[8]?).map (·.type) = some 124 := by kernel_rfl
theorem esStar : "*" ++ "errors.errorString" = "*errors.errorString" := by decide
theorem esRow (u : TypeId) (h : Tryd.prog.typeName? 3 u = some "*errors.errorString") : u = 243 :=
  typeName_ptr_named (nm := "errors.errorString") (by rw [esStar]; kernel_rfl) (by kernel_rfl) (by decide) u (by rw [esStar]; exact h)
theorem esCells : Tryd.prog.cellsOf 264 = 1 := by kernel_rfl
theorem strCells : Tryd.prog.cellsOf 9 = 1 := by kernel_rfl
theorem rtType : (Tryd.prog.cutTypes.find? (·.1 == "internal/reflectlite.rtype")).map (·.2) = some 205 := by kernel_rfl
theorem nTypes : Tryd.prog.types.size = 376 - 100 := by kernel_rfl
theorem oneError : ((List.range (376 - 100)).filter fun t => Tryd.prog.rowNamed t [101, 114, 114, 111, 114]) = [124] := by kernel_rfl

/-- The package-level variables, as the condition gives them. -/
structure LaidIn (W : World) : Prop where
  tooMany : ∃ a, W.var? Tryd.prog "loop.example/tannoy/impl.errTooMany" = some #[.iface 243 (.pointer (some a))]
  noName : ∃ a, W.var? Tryd.prog "loop.example/tannoy/impl.errNoName" = some #[.iface 243 (.pointer (some a))]
  nameTwice : ∃ a, W.var? Tryd.prog "loop.example/tannoy/impl.errNameTwice" = some #[.iface 243 (.pointer (some a))]
  callCount : ∃ a, W.var? Tryd.prog "loop.example/tannoy/impl.errCallCount" = some #[.iface 243 (.pointer (some a))]
  stationTwice : ∃ a, W.var? Tryd.prog "loop.example/tannoy/impl.errStationTwice" = some #[.iface 243 (.pointer (some a))]
  noStation : ∃ a, W.var? Tryd.prog "loop.example/tannoy/impl.errNoStation" = some #[.iface 243 (.pointer (some a))]
  time : ∃ a, W.var? Tryd.prog "loop.example/tannoy/impl.errTime" = some #[.iface 243 (.pointer (some a))]
  track : ∃ a, W.var? Tryd.prog "loop.example/tannoy/impl.errTrack" = some #[.iface 243 (.pointer (some a))]
  type : W.cell? ⟨0, 0, none⟩ = some (.iface 205 (.agg #[.pointer (some ⟨12, 124, none⟩)]))

theorem LaidIn.errs {W : World} (h : LaidIn W) : ErrVars W := by
  obtain ⟨a1, h1⟩ := h.tooMany
  obtain ⟨a2, h2⟩ := h.noName
  obtain ⟨a3, h3⟩ := h.nameTwice
  obtain ⟨a4, h4⟩ := h.callCount
  obtain ⟨a5, h5⟩ := h.stationTwice
  obtain ⟨a6, h6⟩ := h.noStation
  obtain ⟨a7, h7⟩ := h.time
  obtain ⟨a8, h8⟩ := h.track
  exact ⟨⟨_, by simpa using World.var?_cell gTooMany h1 0⟩, ⟨_, by simpa using World.var?_cell gNoName h2 0⟩, ⟨_, by simpa using World.var?_cell gNameTwice h3 0⟩, ⟨_, by simpa using World.var?_cell gCallCount h4 0⟩,
    ⟨_, by simpa using World.var?_cell gStationTwice h5 0⟩, ⟨_, by simpa using World.var?_cell gNoStation h6 0⟩, ⟨_, by simpa using World.var?_cell gTime h7 0⟩, ⟨_, by simpa using World.var?_cell gTrack h8 0⟩, h.type⟩

/-- The errors and the handle, as a row lists them. -/
def ErrsLaid (W : World) : Prop := laidMet Tryd.prog [("loop.example/tannoy/impl.errTooMany", Rows.laid_loop_example_tannoy_impl_errTooMany), ("loop.example/tannoy/impl.errNoName", Rows.laid_loop_example_tannoy_impl_errNoName), ("loop.example/tannoy/impl.errNameTwice", Rows.laid_loop_example_tannoy_impl_errNameTwice), ("loop.example/tannoy/impl.errCallCount", Rows.laid_loop_example_tannoy_impl_errCallCount), ("loop.example/tannoy/impl.errNoStation", Rows.laid_loop_example_tannoy_impl_errNoStation), ("loop.example/tannoy/impl.errStationTwice", Rows.laid_loop_example_tannoy_impl_errStationTwice), ("loop.example/tannoy/impl.errTime", Rows.laid_loop_example_tannoy_impl_errTime), ("loop.example/tannoy/impl.errTrack", Rows.laid_loop_example_tannoy_impl_errTrack)] W
      ∧ handlesMet Tryd.prog [("errors.errorType", Rows.laid_errors_errorType)] W
theorem laidIn_of {W : World} (h : ErrsLaid W) : LaidIn W := by
  have h' : laidMet Tryd.prog [("loop.example/tannoy/impl.errTooMany", Rows.laid_loop_example_tannoy_impl_errTooMany), ("loop.example/tannoy/impl.errNoName", Rows.laid_loop_example_tannoy_impl_errNoName), ("loop.example/tannoy/impl.errNameTwice", Rows.laid_loop_example_tannoy_impl_errNameTwice), ("loop.example/tannoy/impl.errCallCount", Rows.laid_loop_example_tannoy_impl_errCallCount), ("loop.example/tannoy/impl.errNoStation", Rows.laid_loop_example_tannoy_impl_errNoStation), ("loop.example/tannoy/impl.errStationTwice", Rows.laid_loop_example_tannoy_impl_errStationTwice), ("loop.example/tannoy/impl.errTime", Rows.laid_loop_example_tannoy_impl_errTime), ("loop.example/tannoy/impl.errTrack", Rows.laid_loop_example_tannoy_impl_errTrack)] W
      ∧ handlesMet Tryd.prog [("errors.errorType", Rows.laid_errors_errorType)] W := h
  obtain ⟨l1, hh⟩ := h'
  obtain ⟨name, u, ty, e1, e2, e3, e4, e5⟩ := hh _ (List.mem_singleton.2 rfl)
  have en : name = [101, 114, 114, 111, 114] := (Option.some.inj e1).symm
  subst en
  obtain rfl := Option.some.inj (rtType.symm.trans e2)
  have hm : ty ∈ (List.range (376 - 100)).filter fun t => Tryd.prog.rowNamed t [101, 114, 114, 111, 114] := List.mem_filter.2 ⟨List.mem_range.2 (by rw [← nTypes]; exact e3), e4⟩
  rw [oneError] at hm
  obtain rfl := List.mem_singleton.1 hm
  have ht : typeHandle Tryd.prog 124 = .pointer (some ⟨12, 124, none⟩) := by kernel_rfl
  rw [ht] at e5
  have l2 := l1.tail
  have l3 := l2.tail
  have l4 := l3.tail
  have l5 := l4.tail
  have l6 := l5.tail
  have l7 := l6.tail
  have l8 := l7.tail
  obtain ⟨a1, _, v1, _⟩ := laid_sentinel l1 gTooMany tTooMany Tryd.underlying124 esRow Tryd.underlying243 Tryd.underlying264 rfl rfl Tryd.underlying9 esCells strCells
  obtain ⟨a2, _, v2, _⟩ := laid_sentinel l2 gNoName tNoName Tryd.underlying124 esRow Tryd.underlying243 Tryd.underlying264 rfl rfl Tryd.underlying9 esCells strCells
  obtain ⟨a3, _, v3, _⟩ := laid_sentinel l3 gNameTwice tNameTwice Tryd.underlying124 esRow Tryd.underlying243 Tryd.underlying264 rfl rfl Tryd.underlying9 esCells strCells
  obtain ⟨a4, _, v4, _⟩ := laid_sentinel l4 gCallCount tCallCount Tryd.underlying124 esRow Tryd.underlying243 Tryd.underlying264 rfl rfl Tryd.underlying9 esCells strCells
  obtain ⟨a5, _, v5, _⟩ := laid_sentinel l5 gNoStation tNoStation Tryd.underlying124 esRow Tryd.underlying243 Tryd.underlying264 rfl rfl Tryd.underlying9 esCells strCells
  obtain ⟨a6, _, v6, _⟩ := laid_sentinel l6 gStationTwice tStationTwice Tryd.underlying124 esRow Tryd.underlying243 Tryd.underlying264 rfl rfl Tryd.underlying9 esCells strCells
  obtain ⟨a7, _, v7, _⟩ := laid_sentinel l7 gTime tTime Tryd.underlying124 esRow Tryd.underlying243 Tryd.underlying264 rfl rfl Tryd.underlying9 esCells strCells
  obtain ⟨a8, _, v8, _⟩ := laid_sentinel l8 gTrack tTrack Tryd.underlying124 esRow Tryd.underlying243 Tryd.underlying264 rfl rfl Tryd.underlying9 esCells strCells
  exact ⟨⟨a1, v1⟩, ⟨a2, v2⟩, ⟨a3, v3⟩, ⟨a4, v4⟩, ⟨a6, v6⟩, ⟨a5, v5⟩, ⟨a7, v7⟩, ⟨a8, v8⟩, by simpa using World.var?_cell gErrorType e5 0⟩

end Go.Proofs.YtjioingdpfgadaaDoor
namespace Go.Proofs.YtjioingdpfgadaaDoor
open Go Go.RowKit Go.Deep Go.ChangeShapes Go.WideShapes Go.Joins

theorem cStr : Tryd.prog.cellsOf 9 = 1 := by kernel_rfl
theorem cInt : Tryd.prog.cellsOf 3 = 1 := by kernel_rfl
theorem cLTrip : Tryd.prog.cellsOf 193 = 2 := by kernel_rfl
theorem cLCall : Tryd.prog.cellsOf 226 = 4 := by kernel_rfl
theorem cLCalls : Tryd.prog.cellsOf 191 = 1 := by kernel_rfl
theorem cLBook : Tryd.prog.cellsOf 65 = 2 := by kernel_rfl

section
variable {H : Type} {enc : TypeId × Value → H} {w : World} {base : Nat} {spare : Nat → Bool} {held : Bool}

/-- A cell at an address of a slice's: the address is a plain one. -/
theorem plain_at {a : Addr} {v : Value} (h : w.cell? (a.add 0) = some v) : ∃ b o, a = ⟨b, o, none⟩ := by
  obtain ⟨b, off, spot⟩ := a
  have hspot : spot = none := by simpa [Addr.add] using World.cell?_spot h
  subst hspot
  exact ⟨b, off, rfl⟩

set_option maxRecDepth 100000 in
theorem open_callS {fuel : Nat} {v : Value} {x : DataW H × List MemPlace} (h : DataW.trod enc Tryd.prog w base spare held fuel 191 [v] = some x) :
    ∃ (a : Option Addr) (c : Nat) (cs : List CallD), v = .slice a cs.length c ∧ cs.length ≤ maxLen ∧ CallsAt w a cs ∧ ∀ i (h : i < cs.length), (Lit.int .i64 cs[i].st).wf = true := by
  rcases open_slice Tryd.underlying191 h with ⟨hc, _⟩ | ⟨a, len, cap, m, n, D, Pl, hc, _, hl, hm, hmm, _, hel⟩
  · obtain rfl : v = .slice none 0 0 := by simpa using hc
    exact ⟨none, 0, [], rfl, by simp [maxLen], fun i hi => by simp at hi, fun i hi => by simp at hi⟩
  obtain rfl : v = .slice (some a) len cap := by simpa using hc
  have hlm : len ≤ m := by rw [hmm]; split <;> omega
  rw [cLCall] at hel
  have inh : Inhabited CallD := ⟨⟨0, 0, 0, 0⟩⟩
  obtain ⟨C, hC⟩ := choose_lt (α := CallD) (n := len) (p := fun i c => (w.cell? (a.add (i * 4)) = some (.int .i64 c.st) ∧ w.cell? ((a.add (i * 4)).add 1) = some (.int .i64 c.co) ∧ w.cell? ((a.add (i * 4)).add 2) = some (.int .i64 c.go) ∧ w.cell? ((a.add (i * 4)).add 3) = some (.int .i64 c.tr)) ∧ (Lit.int .i64 c.st).wf = true) (fun i hi => by
    obtain ⟨cs', h1, h2⟩ := hel i (by omega)
    obtain ⟨_, hlen, hcell⟩ := World.cells?_some h1
    obtain ⟨y0, y1, y2, y3, n', _, _, d0, d1, d2, d3⟩ := trod_struct4 Tryd.underlying226 h2
    match cs', hlen with
    | [c0, c1, c2, c3], _ =>
      simp only [cInt, List.drop_zero, List.take_succ_cons, List.take_zero, List.drop_succ_cons] at d0 d1 d2 d3
      obtain ⟨x0, e0, _, wf0⟩ := DataW.trod_int Tryd.underlying3 d0
      obtain ⟨x1, e1, _, _⟩ := DataW.trod_int Tryd.underlying3 d1
      obtain ⟨x2, e2, _, _⟩ := DataW.trod_int Tryd.underlying3 d2
      obtain ⟨x3, e3, _, _⟩ := DataW.trod_int Tryd.underlying3 d3
      simp at e0 e1 e2 e3
      subst e0; subst e1; subst e2; subst e3
      refine ⟨⟨x0, x1, x2, x3⟩, ⟨?_, ?_, ?_, ?_⟩, wf0⟩
      · simpa [Addr.add] using hcell 0 (by omega)
      · simpa using hcell 1 (by omega)
      · simpa using hcell 2 (by omega)
      · simpa using hcell 3 (by omega))
  have hlen : ((List.range len).map C).length = len := by simp
  have hget : ∀ i (h : i < ((List.range len).map C).length), ((List.range len).map C)[i] = C i := fun i h => by simp
  refine ⟨some a, cap, (List.range len).map C, by rw [hlen], by rw [hlen]; omega, fun i hi => ?_, fun i hi => ?_⟩
  · have hi' : i < len := by rwa [hlen] at hi
    rw [hget]
    obtain ⟨⟨c0, c1, c2, c3⟩, _⟩ := hC i hi'
    obtain ⟨b, o, rfl⟩ := plain_at (by simpa using (hC 0 (by omega)).1.1)
    simp only [Go.WideShapes.add_plain] at c0 c1 c2 c3
    exact ⟨b, o, rfl, c0, c1, c2, c3⟩
  · have hi' : i < len := by rwa [hlen] at hi
    rw [hget]
    exact (hC i hi').2

set_option maxRecDepth 100000 in
theorem open_tripS {fuel : Nat} {v : Value} {x : DataW H × List MemPlace} (h : DataW.trod enc Tryd.prog w base spare held fuel 63 [v] = some x) :
    ∃ (a : Option Addr) (c : Nat) (ts : List TripD), v = .slice a ts.length c ∧ ts.length ≤ maxLen ∧ TripsAt w a ts ∧ (∀ i (h : i < ts.length), ts[i].name.size ≤ maxLen ∧ ts[i].calls.length ≤ maxLen) ∧ ∀ t ∈ ts, ∀ i (h : i < t.calls.length), (Lit.int .i64 t.calls[i].st).wf = true := by
  rcases open_slice Tryd.underlying63 h with ⟨hc, _⟩ | ⟨a, len, cap, m, n, D, Pl, hc, _, hl, hm, hmm, _, hel⟩
  · obtain rfl : v = .slice none 0 0 := by simpa using hc
    exact ⟨none, 0, [], rfl, by simp [maxLen], fun i hi => by simp at hi, fun i hi => by simp at hi, fun t ht => by simp at ht⟩
  obtain rfl : v = .slice (some a) len cap := by simpa using hc
  have hlm : len ≤ m := by rw [hmm]; split <;> omega
  rw [cLTrip] at hel
  have inh : Inhabited TripD := ⟨⟨ByteArray.empty, []⟩⟩
  obtain ⟨T, hT⟩ := choose_lt (α := TripD) (n := len) (p := fun i t => (∃ ca cc, w.cell? (a.add (i * 2)) = some (.string t.name) ∧ w.cell? ((a.add (i * 2)).add 1) = some (.slice ca t.calls.length cc) ∧ CallsAt w ca t.calls) ∧ t.name.size ≤ maxLen ∧ t.calls.length ≤ maxLen ∧ ∀ i (h : i < t.calls.length), (Lit.int .i64 t.calls[i].st).wf = true) (fun i hi => by
    obtain ⟨cs', h1, h2⟩ := hel i (by omega)
    obtain ⟨_, hlen, hcell⟩ := World.cells?_some h1
    obtain ⟨y0, y1, n', _, _, d0, d1⟩ := trod_struct2 Tryd.underlying193 h2
    match cs', hlen with
    | [c0, c1], _ =>
      simp only [cStr, cLCalls, List.drop_zero, List.take_succ_cons, List.take_zero, List.drop_succ_cons] at d0 d1
      obtain ⟨s, e0, _, hs⟩ := DataW.trod_string Tryd.underlying9 d0
      simp at e0
      subst e0
      obtain ⟨ca, cc, cs, rfl, hn, hat, hwf⟩ := open_callS d1
      refine ⟨⟨s, cs⟩, ⟨ca, cc, ?_, ?_, hat⟩, hs, hn, hwf⟩
      · simpa [Addr.add] using hcell 0 (by omega)
      · simpa using hcell 1 (by omega))
  have hlen : ((List.range len).map T).length = len := by simp
  have hget : ∀ i (h : i < ((List.range len).map T).length), ((List.range len).map T)[i] = T i := fun i h => by simp
  refine ⟨some a, cap, (List.range len).map T, by rw [hlen], by rw [hlen]; omega, fun i hi => ?_, fun i hi => ?_, fun t ht => ?_⟩
  · have hi' : i < len := by rwa [hlen] at hi
    rw [hget]
    obtain ⟨⟨ca, cc, c0, c1, hat⟩, _⟩ := hT i hi'
    obtain ⟨⟨_, _, z0, _⟩, _⟩ := hT 0 (by omega)
    obtain ⟨b, o, rfl⟩ := plain_at (by simpa using z0)
    simp only [Go.WideShapes.add_plain] at c0 c1
    exact ⟨b, o, ca, cc, rfl, c0, c1, hat⟩
  · have hi' : i < len := by rwa [hlen] at hi
    rw [hget]
    exact ⟨(hT i hi').2.1, (hT i hi').2.2.1⟩
  · obtain ⟨i, hi, rfl⟩ := List.mem_map.1 ht
    exact (hT i (List.mem_range.1 hi)).2.2.2

set_option maxRecDepth 100000 in
theorem open_book {r : Reach} {b0 : Nat} {v : Value} {d : DataW H} {p : List MemPlace} (hv : Value.okWide Tryd.prog w r b0 65 v) (h : DataW.Trod enc Tryd.prog w base spare held 65 v d p) :
    ∃ bk, BookAt w v bk ∧ BookLens bk ∧ BookWf bk := by
  obtain ⟨v0, v1, y0, y1, n, rfl, _, _, t0, t1⟩ := open_agg2 Tryd.underlying65 (by kernel_rfl) cLBook hv h
  obtain ⟨ta, tc, ts, rfl, l3, hta, l4, hwf⟩ := open_tripS t1
  rcases open_strs Tryd.underlying23 Tryd.underlying9 cStr t0 with ⟨hc, _⟩ | ⟨a, len, cap, m, Sx, hc, _, hl, hm, hmm, _, hel⟩
  · obtain rfl : v0 = .slice none 0 0 := by simpa using hc
    exact ⟨⟨[], ts⟩, ⟨none, 0, ta, tc, rfl, fun i hi => by simp at hi, hta⟩, ⟨by simp [maxLen], fun i hi => by simp at hi, l3, l4⟩, hwf⟩
  obtain rfl : v0 = .slice (some a) len cap := by simpa using hc
  have hlm : len ≤ m := by rw [hmm]; split <;> omega
  have hlen : ((List.range len).map Sx).length = len := by simp
  have hget : ∀ i (h : i < ((List.range len).map Sx).length), ((List.range len).map Sx)[i] = Sx i := fun i h => by simp
  refine ⟨⟨(List.range len).map Sx, ts⟩, ⟨some a, cap, ta, tc, by rw [hlen], fun i hi => ?_, hta⟩, ⟨by rw [hlen]; omega, fun i hi => ?_, l3, l4⟩, hwf⟩
  · have hi' : i < len := by rwa [hlen] at hi
    have p0 := (hel i (by omega)).1
    obtain ⟨b, o, rfl⟩ := plain_at (hel 0 (by omega)).1
    rw [Go.WideShapes.add_plain] at p0
    exact ⟨b, o, rfl, by rw [hget]; exact p0⟩
  · have hi' : i < len := by rwa [hlen] at hi
    rw [hget]
    exact (hel i (by omega)).2

end
end Go.Proofs.YtjioingdpfgadaaDoor
namespace Go.Proofs.YtjioingdpfgadaaDoor
open Go Go.RowKit Go.Deep Go.ChangeShapes Go.WideShapes Go.ChangeAt

theorem ownKnob_none : ownKnob Tryd.prog.godebug = none := by kernel_rfl
theorem laidOut_ok : laidOutB Tryd.prog = true := by kernel_rfl

def errNames : List String := ["loop.example/tannoy/impl.errTooMany", "loop.example/tannoy/impl.errNoName", "loop.example/tannoy/impl.errNameTwice", "loop.example/tannoy/impl.errCallCount", "loop.example/tannoy/impl.errStationTwice", "loop.example/tannoy/impl.errNoStation", "loop.example/tannoy/impl.errTime", "loop.example/tannoy/impl.errTrack"]
def errPlaces : List MemPlace := [.cell 1 0, .cell 2 0, .cell 3 0, .cell 4 0, .cell 5 0, .cell 6 0, .cell 7 0, .cell 8 0]

theorem vars_read8 {H : Type} (enc : TypeId × Value → H) {W : World} {x1 x2 x3 x4 x5 x6 x7 x8 : Value}
    (h1 : W.var? Tryd.prog "loop.example/tannoy/impl.errTooMany" = some #[x1]) (h2 : W.var? Tryd.prog "loop.example/tannoy/impl.errNoName" = some #[x2]) (h3 : W.var? Tryd.prog "loop.example/tannoy/impl.errNameTwice" = some #[x3]) (h4 : W.var? Tryd.prog "loop.example/tannoy/impl.errCallCount" = some #[x4])
    (h5 : W.var? Tryd.prog "loop.example/tannoy/impl.errStationTwice" = some #[x5]) (h6 : W.var? Tryd.prog "loop.example/tannoy/impl.errNoStation" = some #[x6]) (h7 : W.var? Tryd.prog "loop.example/tannoy/impl.errTime" = some #[x7]) (h8 : W.var? Tryd.prog "loop.example/tannoy/impl.errTrack" = some #[x8])
    (i1 : IsIface x1) (i2 : IsIface x2) (i3 : IsIface x3) (i4 : IsIface x4) (i5 : IsIface x5) (i6 : IsIface x6) (i7 : IsIface x7) (i8 : IsIface x8) (sp : Nat → Bool) :
    DataW.TrodVars enc Tryd.prog W sp errNames [tok enc x1, tok enc x2, tok enc x3, tok enc x4, tok enc x5, tok enc x6, tok enc x7, tok enc x8] errPlaces :=
  ⟨1, 124, #[x1], 1, [], _, gTooMany, tTooMany, h1, trod_held Tryd.underlying124 i1 0,
  ⟨2, 124, #[x2], 1, [], _, gNoName, tNoName, h2, trod_held Tryd.underlying124 i2 0,
  ⟨3, 124, #[x3], 1, [], _, gNameTwice, tNameTwice, h3, trod_held Tryd.underlying124 i3 0,
  ⟨4, 124, #[x4], 1, [], _, gCallCount, tCallCount, h4, trod_held Tryd.underlying124 i4 0,
  ⟨5, 124, #[x5], 1, [], _, gStationTwice, tStationTwice, h5, trod_held Tryd.underlying124 i5 0,
  ⟨6, 124, #[x6], 1, [], _, gNoStation, tNoStation, h6, trod_held Tryd.underlying124 i6 0,
  ⟨7, 124, #[x7], 1, [], _, gTime, tTime, h7, trod_held Tryd.underlying124 i7 0,
  ⟨8, 124, #[x8], 1, [], [], gTrack, tTrack, h8, trod_held Tryd.underlying124 i8 0, rfl, rfl⟩, rfl⟩, rfl⟩, rfl⟩, rfl⟩, rfl⟩, rfl⟩, rfl⟩

end Go.Proofs.YtjioingdpfgadaaDoor
namespace Go.Proofs.YtjioingdpfgadaaDoor
open Go Go.RowKit Go.Deep Go.ChangeShapes Go.WideShapes Go.Joins

theorem cByte : Tryd.prog.cellsOf 5 = 1 := by kernel_rfl
theorem uBt : Tryd.prog.underlying 5 = some (.int .u8) := by kernel_rfl
theorem uBts : Tryd.prog.underlying 22 = some (.slice 5) := by kernel_rfl

section
variable {H : Type} {enc : TypeId × Value → H} {w : World} {base : Nat} {spare : Nat → Bool} {held : Bool}
theorem plain_atB {a : Addr} {v : Value} (h : w.cell? (a.add 0) = some v) : ∃ b o, a = ⟨b, o, none⟩ := by
  obtain ⟨b, off, spot⟩ := a
  have hspot : spot = none := by simpa [Addr.add] using World.cell?_spot h
  subst hspot
  exact ⟨b, off, rfl⟩

set_option maxRecDepth 100000 in
theorem open_bytes {fuel : Nat} {v : Value} {x : DataW H × List MemPlace} (h : DataW.trod enc Tryd.prog w base spare held fuel 22 [v] = some x) :
    ∃ (a : Option Addr) (c : Nat) (bs : List Int), v = .slice a bs.length c ∧ BytesAt w a bs := by
  rcases open_slice uBts h with ⟨hc, _⟩ | ⟨a, len, cap, m, n, D, Pl, hc, _, hl, hm, hmm, _, hel⟩
  · obtain rfl : v = .slice none 0 0 := by simpa using hc
    exact ⟨none, 0, [], rfl, fun i hi => by simp at hi⟩
  obtain rfl : v = .slice (some a) len cap := by simpa using hc
  have hlm : len ≤ m := by rw [hmm]; split <;> omega
  rw [cByte] at hel
  obtain ⟨C, hC⟩ := choose_lt (α := Int) (n := len) (p := fun i r => w.cell? (a.add (i * 1)) = some (.int .u8 r) ∧ 0 ≤ r ∧ r ≤ 255) (fun i hi => by
    obtain ⟨cs', h1, h2⟩ := hel i (by omega)
    obtain ⟨_, hlen, hcell⟩ := World.cells?_some h1
    match cs', hlen with
    | [c0], _ =>
      obtain ⟨x0, e0, _, wf0⟩ := DataW.trod_int uBt h2
      simp at e0
      subst e0
      rw [Lit.wf_int_iff] at wf0
      simp only [IntKind.min, IntKind.max, IntKind.signed, IntKind.bits] at wf0
      refine ⟨x0, ?_, by simp at wf0; omega, by simp at wf0; omega⟩
      simpa [Addr.add] using hcell 0 (by omega))
  have hlen : ((List.range len).map C).length = len := by simp
  have hget : ∀ i (h : i < ((List.range len).map C).length), ((List.range len).map C)[i] = C i := fun i h => by simp
  refine ⟨some a, cap, (List.range len).map C, by rw [hlen], fun i hi => ?_⟩
  have hi' : i < len := by rwa [hlen] at hi
  rw [hget]
  obtain ⟨c0, h0, h1⟩ := hC i hi'
  obtain ⟨b, o, rfl⟩ := plain_atB (by simpa using (hC 0 (by omega)).1)
  simp only [Go.WideShapes.add_plain, Nat.mul_one] at c0
  exact ⟨b, o, rfl, c0, h0, h1⟩
set_option maxRecDepth 100000 in
theorem low_bytes {a : Option Addr} {n c : Nat} (h : Value.okWide Tryd.prog w .any base 22 (.slice a n c)) : ∀ b o, a = some ⟨b, o, none⟩ → b < w.heap.size := by
  rintro b o rfl
  simp only [Value.okWide, uBts, Cell.okWide, Cell.ok, World.has] at h
  obtain ⟨_, _, _, _, row, cells, hs, _⟩ := h
  apply Classical.byContradiction; intro hn
  have : w.heap[b]? = none := by simp; omega
  simp [World.shape?, this] at hs
end

end Go.Proofs.YtjioingdpfgadaaDoor
