import Derived.Test.YtjioingdpfgadaaDoorProg
import Derived.Test.YtjioingdpfgadaaDoorSpecB
import Derived.Test.YtjioingdpfgadaaDoorChkE
import Derived.Test.YtjioingdpfgadaaDoorTo
import Derived.Test.YtjioingdpfgadaaDoorEq
import Derived.Test.YtjioingdpfgadaaDoorEqF
namespace Go.Proofs.YtjioingdpfgadaaDoor
open Go Go.RowKit Go.Deep

/-- The stations of all calls are numbers of Go's int. -/
def BookWf (bk : BookD) : Prop := ∀ t ∈ bk.trips, ∀ i (h : i < t.calls.length), (Lit.int .i64 t.calls[i].st).wf = true

set_option maxRecDepth 100000 in
set_option maxHeartbeats 4000000 in
theorem lawBookOk_any (v : Value) (bk : BookD) (w : World) (hl : BookLens bk) (hwf : BookWf bk) (hat : BookAt w v bk) (hev : ErrVars w) :
    Calls Tryd.prog 8 #[v] w fun e w' => e = .returned (.bool true) ∧ Below w.heap.size w w' := by
  have hat0 := hat
  obtain ⟨sa, sc, ta, tc, rfl, hsa, hta⟩ := hat
  clear hsa hta
  have HAT : Hid (BookAt w (.agg #[.slice sa bk.sts.length sc, .slice ta bk.trips.length tc]) bk) := hat0
  clear hat0
  have hb0 : Below w.heap.size w (w.alloc (.cells #[.slice sa bk.sts.length sc, .slice ta bk.trips.length tc] 65)) := bx_below _ _
  by_cases hfit : (bookSize bk : Int) ≤ 1048576
  · have hn : bookSize bk ≤ 1048576 := by omega
    go_enter Tryd.func8, Tryd.ntmps8
    go_wp2_with fail
    refine (szBook_any _ bk _ _ (by omega) (by omega) hl (by exact HAT.out.keep hb0)).mono ?_
    rintro e w1 ⟨rfl, hb1⟩
    rw [rest_yes hfit]
    have B1 : Below (w.heap.size + 1) (w.alloc (.cells #[.slice sa bk.sts.length sc, .slice ta bk.trips.length tc] 65)) w1 := hb1.mono (by simp)
    have hB1 : Below w.heap.size w w1 := hb0.trans (B1.mono (by omega))
    obtain ⟨q0, q1⟩ := box_cell _ _ _ _ _ B1
    clear hb1
    go_wp2_with fail
    refine (toBook_any _ bk _ hn (by exact HAT.out.keep hB1)).mono ?_
    rintro e w2 ⟨v2, rfl, hat2, hb2⟩
    have hB2 : Below w.heap.size w w2 := hB1.trans (hb2.mono hB1.size)
    have p0 := cell_keep hb2 q0
    have p1 := cell_keep hb2 q1
    clear q0 q1 hb2
    go_wp2_with fail
    refine (specBookOk_any _ bk _ hn (by exact hat2)).mono ?_
    rintro e w3 ⟨rfl, hb3⟩
    have hB3 : Below w.heap.size w w3 := hB2.trans (hb3.mono hB2.size)
    have q0 := cell_keep hb3 p0
    have q1 := cell_keep hb3 p1
    clear p0 p1 hb3 hat2
    have z3 : w.heap.size < w3.heap.size := cell_lt q0
    go_wp2_with fail
    refine (toBook_any _ bk _ hn (by exact HAT.out.keep (hB3.alloc hB3.size _))).mono ?_
    rintro e w4 ⟨v4, rfl, hat4, hb4⟩
    have hB4 : Below w.heap.size w w4 := (hB3.alloc hB3.size _).trans (hb4.mono (by have := hB3.size; simp; omega))
    have p0 : w4.cell? ⟨w.heap.size, 0, none⟩ = some (.slice sa bk.sts.length sc) := cell_keep hb4 (cell_keep (bx_below _ _) q0)
    have p1 : w4.cell? ⟨w.heap.size, 1, none⟩ = some (.slice ta bk.trips.length tc) := cell_keep hb4 (cell_keep (bx_below _ _) q1)
    have s0 : w4.cell? ⟨w3.heap.size, 0, none⟩ = some (.int .i64 (faultD bk).1) := cell_keep hb4 (by simp [go_sem])
    have s1 : w4.cell? ⟨w3.heap.size, 1, none⟩ = some (.int .i64 (faultD bk).2) := cell_keep hb4 (by simp [go_sem])
    have HAT4 : Hid (BookAt w4 v4 bk) := hat4
    obtain ⟨sa4, sc4, ta4, tc4, rfl, _, _⟩ := hat4
    have z4 : w3.heap.size < w4.heap.size := cell_lt s0
    have z4' : w.heap.size < w4.heap.size := cell_lt p0
    clear q0 q1 hb4
    go_wp2_with fail
    have hB4' : Below w.heap.size w (w4.alloc (.cells #[.slice sa4 bk.sts.length sc4, .slice ta4 bk.trips.length tc4] 26)) := hB4.alloc hB4.size _
    refine (implBookOk_any _ bk _ hn hwf (by exact HAT4.out.keep (bx_below _ _)) (by exact hev.keep hB4')).mono ?_
    rintro e w5 ⟨rfl, hb5⟩
    have hB5 : Below w.heap.size w w5 := hB4'.trans (hb5.mono (by have := hB4.size; simp; omega))
    have k0 : w5.cell? ⟨w4.heap.size, 0, none⟩ = some (.slice sa4 bk.sts.length sc4) := cell_keep hb5 (by simp [go_sem])
    have k1 : w5.cell? ⟨w4.heap.size, 1, none⟩ = some (.slice ta4 bk.trips.length tc4) := cell_keep hb5 (by simp [go_sem])
    have q0 : w5.cell? ⟨w.heap.size, 0, none⟩ = some (.slice sa bk.sts.length sc) := cell_keep hb5 (cell_keep (bx_below _ _) p0)
    have q1 : w5.cell? ⟨w.heap.size, 1, none⟩ = some (.slice ta bk.trips.length tc) := cell_keep hb5 (cell_keep (bx_below _ _) p1)
    have t0 : w5.cell? ⟨w3.heap.size, 0, none⟩ = some (.int .i64 (faultD bk).1) := cell_keep hb5 (cell_keep (bx_below _ _) s0)
    have t1 : w5.cell? ⟨w3.heap.size, 1, none⟩ = some (.int .i64 (faultD bk).2) := cell_keep hb5 (cell_keep (bx_below _ _) s1)
    have HAT5 : Hid (BookAt w5 (.agg #[.slice sa4 bk.sts.length sc4, .slice ta4 bk.trips.length tc4]) bk) := (HAT4.out.keep (bx_below _ _)).keep hb5
    have y1 : w4.heap.size < w5.heap.size := cell_lt k0
    have y2 : w.heap.size < w5.heap.size := cell_lt q0
    have y3 : w3.heap.size < w5.heap.size := cell_lt t0
    clear p0 p1 s0 s1 hb5 hB4'
    go_wp2_with fail
    refine (eqFault_any _ _ _ _ _).mono ?_
    rintro e w6 ⟨rfl, hb6⟩
    rw [show ((faultD bk).1 == (faultD bk).1 && (faultD bk).2 == (faultD bk).2) = true from by simp]
    have hB5' := hB5.alloc hB5.size (.cells #[.int .i64 (faultD bk).1, .int .i64 (faultD bk).2] 59)
    have hB6 : Below w.heap.size w w6 := hB5'.trans (hb6.mono (by have := hB5.size; simp; omega))
    have u0 : w6.cell? ⟨w4.heap.size, 0, none⟩ = some (.slice sa4 bk.sts.length sc4) := cell_keep hb6 (cell_keep (bx_below _ _) k0)
    have u1 : w6.cell? ⟨w4.heap.size, 1, none⟩ = some (.slice ta4 bk.trips.length tc4) := cell_keep hb6 (cell_keep (bx_below _ _) k1)
    have p0 : w6.cell? ⟨w.heap.size, 0, none⟩ = some (.slice sa bk.sts.length sc) := cell_keep hb6 (cell_keep (bx_below _ _) q0)
    have p1 : w6.cell? ⟨w.heap.size, 1, none⟩ = some (.slice ta bk.trips.length tc) := cell_keep hb6 (cell_keep (bx_below _ _) q1)
    have HAT6 : Hid (BookAt w6 (.agg #[.slice sa4 bk.sts.length sc4, .slice ta4 bk.trips.length tc4]) bk) := (HAT5.out.keep (bx_below _ _)).keep hb6
    have HA6 : Hid (BookAt w6 (.agg #[.slice sa bk.sts.length sc, .slice ta bk.trips.length tc]) bk) := HAT.out.keep hB6
    clear k0 k1 q0 q1 t0 t1 hb6 hB5' hev hwf hl
    go_wp2_with fail
    go_region_with (first | (go_at_call 31; refine (toBook_any _ bk _ hn (by exact HA6.out)).mono ?_; rintro e w7 ⟨v7, rfl, hat7, hb7⟩; have f0 := cell_keep hb7 (by exact u0); have f1 := cell_keep hb7 (by exact u1); have H7 : Hid (BookAt w7 v7 bk) := hat7; have HX7 : Hid (BookAt w7 (.agg #[.slice sa4 bk.sts.length sc4, .slice ta4 bk.trips.length tc4]) bk) := BookAt.keep (by exact HAT6.out) hb7; clear hat7) | (go_at_call 33; refine (eqBook_same _ _ bk _ hn (by exact HX7.out) (by exact H7.out)).mono ?_; rintro e w8 ⟨rfl, hb8⟩))
    all_goals
      go_wp2
      go_ret
      refine ⟨rfl, ?_⟩
      have hB7 : Below w.heap.size w w7 := hB6.drew.trans (by exact hb7.mono hB6.size)
      exact hB7.trans (hb8.mono hB7.size)
  · go_enter Tryd.func8, Tryd.ntmps8
    go_wp2_with fail
    refine (szBook_any _ bk _ _ (by omega) (by omega) hl (by exact HAT.out.keep hb0)).mono ?_
    rintro e w1 ⟨rfl, hb1⟩
    rw [rest_no (by omega)]
    go_wp2_with fail
    go_ret
    exact ⟨rfl, hb0.trans (hb1.mono (by simp))⟩

end Go.Proofs.YtjioingdpfgadaaDoor
