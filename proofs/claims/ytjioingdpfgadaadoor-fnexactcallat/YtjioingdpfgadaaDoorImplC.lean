import Derived.Test.YtjioingdpfgadaaDoorProg
import Derived.Test.YtjioingdpfgadaaDoorImplO
namespace Go.Proofs.YtjioingdpfgadaaDoor
open Go Go.RowKit Go.Deep Go.WideMaps Go.Maps

set_option maxRecDepth 100000 in
set_option maxHeartbeats 1000000 in
theorem implCallAt_any (v : Value) (bk : BookD) (trip s : Int) (w : World) (hn : bookSize bk ≤ 1048576) (hws : (Lit.int .i64 s).wf = true) (hwf : ∀ t ∈ bk.trips, ∀ i (h : i < t.calls.length), (Lit.int .i64 t.calls[i].st).wf = true) (hat : BookAt w v bk) (hev : ErrVars w) :
    Calls Tryd.prog 28 #[v, .int .i64 trip, .int .i64 s] w fun e w' => e = .returned (.int .i64 (callAtD bk trip s)) ∧ Below w.heap.size w w' := by
  obtain ⟨sa, sc, ta, tc, rfl, hsa, hta⟩ := hat
  have hb0 := box_below w (.cells #[.slice sa bk.sts.length sc, .slice ta bk.trips.length tc] 26)
  have HBK : Hid (BookAt w (.agg #[.slice sa bk.sts.length sc, .slice ta bk.trips.length tc]) bk) := ⟨sa, sc, ta, tc, rfl, hsa, hta⟩
  have n2 : bk.trips.length ≤ 1048576 := by unfold bookSize tripsSize at hn; omega
  have n3 : ∀ i (h : i < bk.trips.length), bk.trips[i].calls.length ≤ 1048576 := by
    intro i h
    have := sumTrips_get bk.trips i h
    unfold bookSize tripsSize at hn; unfold tripSize at this; omega
  have HWF : Hid (∀ t ∈ bk.trips, ∀ i (h : i < t.calls.length), (Lit.int .i64 t.calls[i].st).wf = true) := hwf
  have HTA : Hid (TripsAt w ta bk.trips) := hta
  clear hsa hta hwf
  by_cases hok : (faultD bk).1 = 0
  · have htr := (faultD_zero hok).2
    by_cases hin : 0 ≤ trip ∧ trip < (bk.trips.length : Int)
    · obtain ⟨i1, i2⟩ := hin
      obtain ⟨k, rfl⟩ := Int.eq_ofNat_of_zero_le i1
      have hk : k < bk.trips.length := by omega
      have HF : Hid (callAtD bk k s = callAtC bk.trips[k].calls s) := callAtD_yes hok hk
      have HND : Hid ((stationsOf bk.trips[k].calls).Nodup) := tripB_nodup (htr k hk)
      clear htr
      go_enter Tryd.func28, Tryd.ntmps28
      go_wp2_with fail
      refine (isRight_any _ bk _ hn HWF.out (by exact HBK.out.keep hb0) (by exact hev.keep hb0)).mono ?_
      rintro e w1 ⟨rfl, hb1⟩
      rw [hok, show ((0 : Int) == 0) = true from rfl]
      have B1 : Below (w.heap.size + 1) (w.alloc (.cells #[.slice sa bk.sts.length sc, .slice ta bk.trips.length tc] 26)) w1 := hb1.mono (by simp)
      have hB1 : Below w.heap.size w w1 := hb0.trans (B1.mono (by omega))
      obtain ⟨q0, q1⟩ := box_cell _ _ _ _ _ B1
      clear hb1 hok
      obtain ⟨b, o, ca, cc, rfl, hc0, hc1, hca⟩ := (HTA.out.keep hB1) k hk
      have HCA : Hid (CallsAt w1 ca bk.trips[k].calls) := hca
      clear hca
      have n4 := n3 k hk
      have HWK : Hid (∀ i (h : i < bk.trips[k].calls.length), (Lit.int .i64 bk.trips[k].calls[i].st).wf = true) := HWF.out _ (List.getElem_mem hk)
      generalize bk.trips[k].calls = cs at *
      clear n3
      go_wp2_with fail
      refine (callOf_any _ _ _ cs s _ n4 hws HWK.out HND.out (by exact HCA.out)).mono ?_
      rintro e w2 ⟨rfl, hb2⟩
      have hB2 : Below w.heap.size w w2 := hB1.trans (hb2.mono hB1.size)
      clear q0 q1 hc0 hc1
      go_wp2_with fail
      go_ret
      exact ⟨ret_int (by rw [HF.out]), hB2⟩
    · have HF : Hid (callAtD bk trip s = -1) := callAtD_no (fun h => hin ⟨h.2.1, h.2.2⟩)
      clear htr
      by_cases i1 : 0 ≤ trip
      · have i2 : (bk.trips.length : Int) ≤ trip := by omega
        go_enter Tryd.func28, Tryd.ntmps28
        go_wp2_with fail
        refine (isRight_any _ bk _ hn HWF.out (by exact HBK.out.keep hb0) (by exact hev.keep hb0)).mono ?_
        rintro e w1 ⟨rfl, hb1⟩
        rw [hok, show ((0 : Int) == 0) = true from rfl]
        have B1 : Below (w.heap.size + 1) (w.alloc (.cells #[.slice sa bk.sts.length sc, .slice ta bk.trips.length tc] 26)) w1 := hb1.mono (by simp)
        have hB1 : Below w.heap.size w w1 := hb0.trans (B1.mono (by omega))
        obtain ⟨q0, q1⟩ := box_cell _ _ _ _ _ B1
        clear hb1 hok hin n3
        go_wp2_with fail
        go_ret
        exact ⟨ret_int HF.out.symm, hB1⟩
      · go_enter Tryd.func28, Tryd.ntmps28
        go_wp2_with fail
        refine (isRight_any _ bk _ hn HWF.out (by exact HBK.out.keep hb0) (by exact hev.keep hb0)).mono ?_
        rintro e w1 ⟨rfl, hb1⟩
        rw [hok, show ((0 : Int) == 0) = true from rfl]
        have hB1 : Below w.heap.size w w1 := hb0.trans (hb1.mono (by simp))
        clear hb1 hok hin n3
        go_wp2_with fail
        go_ret
        exact ⟨ret_int HF.out.symm, hB1⟩
  · have HF : Hid (callAtD bk trip s = -1) := callAtD_no (fun h => hok h.1)
    have hne : ((faultD bk).1 == 0) = false := by simpa using hok
    go_enter Tryd.func28, Tryd.ntmps28
    go_wp2_with fail
    refine (isRight_any _ bk _ hn HWF.out (by exact HBK.out.keep hb0) (by exact hev.keep hb0)).mono ?_
    rintro e w1 ⟨rfl, hb1⟩
    rw [hne]
    have hB1 : Below w.heap.size w w1 := hb0.trans (hb1.mono (by simp))
    clear hb1 hok n3
    go_wp2_with fail
    go_ret
    exact ⟨ret_int HF.out.symm, hB1⟩

end Go.Proofs.YtjioingdpfgadaaDoor
