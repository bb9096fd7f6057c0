import Derived.Test.YtjioingdpfgadaaDoorProg
import Derived.Test.YtjioingdpfgadaaDoorBrdKM
namespace Go.Proofs.YtjioingdpfgadaaDoor
open Go Go.RowKit Go.Deep

set_option maxRecDepth 100000 in
set_option maxHeartbeats 1000000 in
theorem implBoard_no0 (bk : BookD) (sa : Option Addr) (sc : Nat) (ta : Option Addr) (tc : Nat) (ra : Option Addr) (rc n : Nat) (s tick rows : Int) (w : World)  (hc : s < 0) :
    Calls Tryd.prog 14 #[.agg #[.slice sa bk.sts.length sc, .slice ta bk.trips.length tc], .slice ra n rc, .int .i64 s, .int .i64 tick, .int .i64 rows] w fun e w' => e = .returned (.slice none 0 0) ∧ Below w.heap.size w w' := by
  have hb0 : Below w.heap.size w (w.alloc (.cells #[.slice sa bk.sts.length sc, .slice ta bk.trips.length tc] 26)) := (Below.refl _ _).alloc (Nat.le_refl _) _
  go_enter Tryd.func14, Tryd.ntmps14
  go_wp2_with fail
  go_ret
  exact ⟨rfl, hb0⟩

set_option maxRecDepth 100000 in
set_option maxHeartbeats 1000000 in
theorem implBoard_no1 (bk : BookD) (sa : Option Addr) (sc : Nat) (ta : Option Addr) (tc : Nat) (ra : Option Addr) (rc n : Nat) (s tick rows : Int) (w : World) (h0 : 0 ≤ s) (hc : (bk.sts.length : Int) ≤ s) :
    Calls Tryd.prog 14 #[.agg #[.slice sa bk.sts.length sc, .slice ta bk.trips.length tc], .slice ra n rc, .int .i64 s, .int .i64 tick, .int .i64 rows] w fun e w' => e = .returned (.slice none 0 0) ∧ Below w.heap.size w w' := by
  have hb0 : Below w.heap.size w (w.alloc (.cells #[.slice sa bk.sts.length sc, .slice ta bk.trips.length tc] 26)) := (Below.refl _ _).alloc (Nat.le_refl _) _
  go_enter Tryd.func14, Tryd.ntmps14
  go_wp2_with fail
  go_ret
  exact ⟨rfl, hb0⟩

set_option maxRecDepth 100000 in
set_option maxHeartbeats 1000000 in
theorem implBoard_no2 (bk : BookD) (sa : Option Addr) (sc : Nat) (ta : Option Addr) (tc : Nat) (ra : Option Addr) (rc n : Nat) (s tick rows : Int) (w : World) (h0 : 0 ≤ s) (h1 : s < (bk.sts.length : Int)) (hc : tick < 0) :
    Calls Tryd.prog 14 #[.agg #[.slice sa bk.sts.length sc, .slice ta bk.trips.length tc], .slice ra n rc, .int .i64 s, .int .i64 tick, .int .i64 rows] w fun e w' => e = .returned (.slice none 0 0) ∧ Below w.heap.size w w' := by
  have hb0 : Below w.heap.size w (w.alloc (.cells #[.slice sa bk.sts.length sc, .slice ta bk.trips.length tc] 26)) := (Below.refl _ _).alloc (Nat.le_refl _) _
  go_enter Tryd.func14, Tryd.ntmps14
  go_wp2_with fail
  go_ret
  exact ⟨rfl, hb0⟩

set_option maxRecDepth 100000 in
set_option maxHeartbeats 1000000 in
theorem implBoard_no3 (bk : BookD) (sa : Option Addr) (sc : Nat) (ta : Option Addr) (tc : Nat) (ra : Option Addr) (rc n : Nat) (s tick rows : Int) (w : World) (h0 : 0 ≤ s) (h1 : s < (bk.sts.length : Int)) (h2 : 0 ≤ tick) (hc : 1000000 < tick) :
    Calls Tryd.prog 14 #[.agg #[.slice sa bk.sts.length sc, .slice ta bk.trips.length tc], .slice ra n rc, .int .i64 s, .int .i64 tick, .int .i64 rows] w fun e w' => e = .returned (.slice none 0 0) ∧ Below w.heap.size w w' := by
  have hb0 : Below w.heap.size w (w.alloc (.cells #[.slice sa bk.sts.length sc, .slice ta bk.trips.length tc] 26)) := (Below.refl _ _).alloc (Nat.le_refl _) _
  go_enter Tryd.func14, Tryd.ntmps14
  go_wp2_with fail
  go_ret
  exact ⟨rfl, hb0⟩

set_option maxRecDepth 100000 in
set_option maxHeartbeats 1000000 in
theorem implBoard_no4 (bk : BookD) (sa : Option Addr) (sc : Nat) (ta : Option Addr) (tc : Nat) (ra : Option Addr) (rc n : Nat) (s tick rows : Int) (w : World) (h0 : 0 ≤ s) (h1 : s < (bk.sts.length : Int)) (h2 : 0 ≤ tick) (h3 : tick ≤ 1000000) (hc : rows < 0) :
    Calls Tryd.prog 14 #[.agg #[.slice sa bk.sts.length sc, .slice ta bk.trips.length tc], .slice ra n rc, .int .i64 s, .int .i64 tick, .int .i64 rows] w fun e w' => e = .returned (.slice none 0 0) ∧ Below w.heap.size w w' := by
  have hb0 : Below w.heap.size w (w.alloc (.cells #[.slice sa bk.sts.length sc, .slice ta bk.trips.length tc] 26)) := (Below.refl _ _).alloc (Nat.le_refl _) _
  go_enter Tryd.func14, Tryd.ntmps14
  go_wp2_with fail
  go_ret
  exact ⟨rfl, hb0⟩

set_option maxRecDepth 100000 in
set_option maxHeartbeats 1000000 in
theorem implBoard_no5 (bk : BookD) (sa : Option Addr) (sc : Nat) (ta : Option Addr) (tc : Nat) (ra : Option Addr) (rc n : Nat) (s tick rows : Int) (w : World) (h0 : 0 ≤ s) (h1 : s < (bk.sts.length : Int)) (h2 : 0 ≤ tick) (h3 : tick ≤ 1000000) (h4 : 0 ≤ rows) (hc : 40 < rows) :
    Calls Tryd.prog 14 #[.agg #[.slice sa bk.sts.length sc, .slice ta bk.trips.length tc], .slice ra n rc, .int .i64 s, .int .i64 tick, .int .i64 rows] w fun e w' => e = .returned (.slice none 0 0) ∧ Below w.heap.size w w' := by
  have hb0 : Below w.heap.size w (w.alloc (.cells #[.slice sa bk.sts.length sc, .slice ta bk.trips.length tc] 26)) := (Below.refl _ _).alloc (Nat.le_refl _) _
  go_enter Tryd.func14, Tryd.ntmps14
  go_wp2_with fail
  go_ret
  exact ⟨rfl, hb0⟩

theorem implBoard_any (v : Value) (bk : BookD) (ra : Option Addr) (rc : Nat) (rs : List RepD) (s tick rows : Int) (w : World) (hn : bookSize bk ≤ 1048576) (hm : rs.length ≤ 1048576) (hwf : ∀ t ∈ bk.trips, ∀ i (h : i < t.calls.length), (Lit.int .i64 t.calls[i].st).wf = true) (hsw : (Lit.int .i64 s).wf = true) (hat : BookAt w v bk) (hra : RepsAt w ra rs) (hev : ErrVars w) :
    Calls Tryd.prog 14 #[v, .slice ra rs.length rc, .int .i64 s, .int .i64 tick, .int .i64 rows] w fun e w' => ∃ v', e = .returned v' ∧ w'.ownsRow w.heap.size 38 6 v' (boardD bk rs s tick rows).length (sixes (boardD bk rs s tick rows)) ∧ Below w.heap.size w w' := by
  have hat0 := hat
  obtain ⟨sa, sc, ta, tc, rfl, _, _⟩ := hat
  have hno : ∀ {e : Ending} {w' : World}, ¬ (reportsB bk rs = true ∧ (0 ≤ s ∧ s < bk.sts.length) ∧ (0 ≤ tick ∧ tick ≤ 1000000) ∧ (0 ≤ rows ∧ rows ≤ 40)) → (e = .returned (.slice none 0 0) ∧ Below w.heap.size w w') → ∃ v', e = .returned v' ∧ w'.ownsRow w.heap.size 38 6 v' (boardD bk rs s tick rows).length (sixes (boardD bk rs s tick rows)) ∧ Below w.heap.size w w' := fun h ⟨h1, h2⟩ => ⟨_, h1, by rw [boardD_no h]; exact World.ownsRow_nil _ _ _ _, h2⟩
  by_cases a1 : s < 0
  · exact (implBoard_no0 bk sa sc ta tc ra rc _ s tick rows w a1).mono fun _ _ h => hno (by omega) h
  by_cases a2 : (bk.sts.length : Int) ≤ s
  · exact (implBoard_no1 bk sa sc ta tc ra rc _ s tick rows w (by omega) a2).mono fun _ _ h => hno (by omega) h
  by_cases a3 : tick < 0
  · exact (implBoard_no2 bk sa sc ta tc ra rc _ s tick rows w (by omega) (by omega) a3).mono fun _ _ h => hno (by omega) h
  by_cases a4 : 1000000 < tick
  · exact (implBoard_no3 bk sa sc ta tc ra rc _ s tick rows w (by omega) (by omega) (by omega) a4).mono fun _ _ h => hno (by omega) h
  by_cases a5 : rows < 0
  · exact (implBoard_no4 bk sa sc ta tc ra rc _ s tick rows w (by omega) (by omega) (by omega) (by omega) a5).mono fun _ _ h => hno (by omega) h
  by_cases a6 : 40 < rows
  · exact (implBoard_no5 bk sa sc ta tc ra rc _ s tick rows w (by omega) (by omega) (by omega) (by omega) (by omega) a6).mono fun _ _ h => hno (by omega) h
  exact implBoard_yes bk sa sc ta tc ra rc rs s tick rows w hn hm hwf hsw hat0 hra hev ⟨by omega, by omega⟩ ⟨by omega, by omega⟩ ⟨by omega, by omega⟩

end Go.Proofs.YtjioingdpfgadaaDoor
