import Derived.Test.YtjioingdpfgadaaDoorProg
import Derived.Test.YtjioingdpfgadaaDoorLaw1
import Derived.Test.YtjioingdpfgadaaDoorSpecD
import Derived.Test.YtjioingdpfgadaaDoorImplC
namespace Go.Proofs.YtjioingdpfgadaaDoor
open Go Go.RowKit Go.Deep

set_option maxRecDepth 100000 in
set_option maxHeartbeats 4000000 in
theorem lawCallAt_any (v : Value) (trip s : Int) (bk : BookD) (w : World) (hws : (Lit.int .i64 s).wf = true) (hl : BookLens bk) (hwf : BookWf bk) (hat : BookAt w v bk) (hev : ErrVars w) :
    Calls Tryd.prog 9 #[v, .int .i64 trip, .int .i64 s] w fun e w' => e = .returned (.bool true) ∧ Below w.heap.size w w' := by
  have hat0 := hat
  obtain ⟨sa, sc, ta, tc, rfl, hsa, hta⟩ := hat
  clear hsa hta
  have HAT : Hid (BookAt w (.agg #[.slice sa bk.sts.length sc, .slice ta bk.trips.length tc]) bk) := hat0
  clear hat0
  have hb0 : Below w.heap.size w (w.alloc (.cells #[.slice sa bk.sts.length sc, .slice ta bk.trips.length tc] 65)) := bx_below _ _
  by_cases hfit : (bookSize bk : Int) ≤ 1048576
  · have hn : bookSize bk ≤ 1048576 := by omega
    go_enter Tryd.func9, Tryd.ntmps9
    go_wp2_with fail
    refine (szBook_any _ bk _ _ (by omega) (by omega) hl (by exact HAT.out.keep hb0)).mono ?_
    rintro e w1 ⟨rfl, hb1⟩
    rw [rest_yes hfit]
    have B1 : Below (w.heap.size + 1) (w.alloc (.cells #[.slice sa bk.sts.length sc, .slice ta bk.trips.length tc] 65)) w1 := hb1.mono (by simp)
    have hB1 : Below w.heap.size w w1 := hb0.trans (B1.mono (by omega))
    obtain ⟨q0, q1⟩ := box_cell _ _ _ _ _ B1
    clear hb1
    go_wp2_with fail
    refine (toBook_any _ bk _ hn (by exact HAT.out.keep hB1)).mono ?_
    rintro e w2 ⟨v2, rfl, hat2, hb2⟩
    have hB2 : Below w.heap.size w w2 := hB1.trans (hb2.mono hB1.size)
    have p0 := cell_keep hb2 q0
    have p1 := cell_keep hb2 q1
    clear q0 q1 hb2
    go_wp2_with fail
    refine (specCallAt_any _ bk trip s _ hn (by exact hat2)).mono ?_
    rintro e w3 ⟨rfl, hb3⟩
    have hB3 : Below w.heap.size w w3 := hB2.trans (hb3.mono hB2.size)
    have q0 := cell_keep hb3 p0
    have q1 := cell_keep hb3 p1
    clear p0 p1 hb3 hat2
    go_wp2_with fail
    refine (toBook_any _ bk _ hn (by exact HAT.out.keep hB3)).mono ?_
    rintro e w4 ⟨v4, rfl, hat4, hb4⟩
    have hB4 : Below w.heap.size w w4 := hB3.trans (hb4.mono hB3.size)
    have p0 := cell_keep hb4 q0
    have p1 := cell_keep hb4 q1
    have HAT4 : Hid (BookAt w4 v4 bk) := hat4
    obtain ⟨sa4, sc4, ta4, tc4, rfl, _, _⟩ := hat4
    have z4' : w.heap.size < w4.heap.size := cell_lt p0
    clear q0 q1 hb4
    go_wp2_with fail
    have hB4' : Below w.heap.size w (w4.alloc (.cells #[.slice sa4 bk.sts.length sc4, .slice ta4 bk.trips.length tc4] 26)) := hB4.alloc hB4.size _
    refine (implCallAt_any _ bk trip s _ hn hws hwf (by exact HAT4.out.keep (bx_below _ _)) (by exact hev.keep hB4')).mono ?_
    rintro e w5 ⟨rfl, hb5⟩
    have hB5 : Below w.heap.size w w5 := hB4'.trans (hb5.mono (by have := hB4.size; simp; omega))
    have k0 : w5.cell? ⟨w4.heap.size, 0, none⟩ = some (.slice sa4 bk.sts.length sc4) := cell_keep hb5 (by simp [go_sem])
    have k1 : w5.cell? ⟨w4.heap.size, 1, none⟩ = some (.slice ta4 bk.trips.length tc4) := cell_keep hb5 (by simp [go_sem])
    have q0 : w5.cell? ⟨w.heap.size, 0, none⟩ = some (.slice sa bk.sts.length sc) := cell_keep hb5 (cell_keep (bx_below _ _) p0)
    have q1 : w5.cell? ⟨w.heap.size, 1, none⟩ = some (.slice ta bk.trips.length tc) := cell_keep hb5 (cell_keep (bx_below _ _) p1)
    have HAT5 : Hid (BookAt w5 (.agg #[.slice sa4 bk.sts.length sc4, .slice ta4 bk.trips.length tc4]) bk) := (HAT4.out.keep (bx_below _ _)).keep hb5
    have HA5 : Hid (BookAt w5 (.agg #[.slice sa bk.sts.length sc, .slice ta bk.trips.length tc]) bk) := HAT.out.keep hB5
    clear p0 p1 hb5 hB4' hev hwf hl hws
    go_wp2_with fail
    go_region_with (first | (go_at_call 31; refine (toBook_any _ bk _ hn (by exact HA5.out)).mono ?_; rintro e w7 ⟨v7, rfl, hat7, hb7⟩; have f0 := cell_keep hb7 (by exact k0); have f1 := cell_keep hb7 (by exact k1); have H7 : Hid (BookAt w7 v7 bk) := hat7; have HX7 : Hid (BookAt w7 (.agg #[.slice sa4 bk.sts.length sc4, .slice ta4 bk.trips.length tc4]) bk) := BookAt.keep (by exact HAT5.out) hb7; clear hat7) | (go_at_call 33; refine (eqBook_same _ _ bk _ hn (by exact HX7.out) (by exact H7.out)).mono ?_; rintro e w8 ⟨rfl, hb8⟩))
    all_goals
      go_wp2
      go_ret
      refine ⟨rfl, ?_⟩
      have hB7 : Below w.heap.size w w7 := hB5.drew.trans (by exact hb7.mono hB5.size)
      exact hB7.trans (hb8.mono hB7.size)
  · go_enter Tryd.func9, Tryd.ntmps9
    go_wp2_with fail
    refine (szBook_any _ bk _ _ (by omega) (by omega) hl (by exact HAT.out.keep hb0)).mono ?_
    rintro e w1 ⟨rfl, hb1⟩
    rw [rest_no (by omega)]
    go_wp2_with fail
    go_ret
    exact ⟨rfl, hb0.trans (hb1.mono (by simp))⟩

end Go.Proofs.YtjioingdpfgadaaDoor
