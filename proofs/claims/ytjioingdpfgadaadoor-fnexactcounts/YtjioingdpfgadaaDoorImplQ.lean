import Derived.Test.YtjioingdpfgadaaDoorProg
import Derived.Test.YtjioingdpfgadaaDoorChkE
import Derived.Test.YtjioingdpfgadaaDoorBaseR
namespace Go.Proofs.YtjioingdpfgadaaDoor
open Go Go.RowKit Go.Deep

set_option maxRecDepth 100000 in
set_option maxHeartbeats 1000000 in
theorem isRight_any (v : Value) (bk : BookD) (w : World) (hn : bookSize bk ≤ 1048576) (hwf : ∀ t ∈ bk.trips, ∀ i (h : i < t.calls.length), (Lit.int .i64 t.calls[i].st).wf = true) (hat : BookAt w v bk) (hev : ErrVars w) :
    Calls Tryd.prog 67 #[v] w fun e w' => e = .returned (.bool ((faultD bk).1 == 0)) ∧ Below w.heap.size w w' := by
  obtain ⟨sa, sc, ta, tc, rfl, hsa, hta⟩ := hat
  have hb0 := box_below w (.cells #[.slice sa bk.sts.length sc, .slice ta bk.trips.length tc] 26)
  have HBK : Hid (BookAt w (.agg #[.slice sa bk.sts.length sc, .slice ta bk.trips.length tc]) bk) := ⟨sa, sc, ta, tc, rfl, hsa, hta⟩
  have HWF : Hid (∀ t ∈ bk.trips, ∀ i (h : i < t.calls.length), (Lit.int .i64 t.calls[i].st).wf = true) := hwf
  clear hsa hta hwf
  by_cases hok : (faultD bk).1 = 0
  · have hz : Hid (faultD bk = (0, 0)) := (faultD_zero hok).1
    go_enter Tryd.func67, Tryd.ntmps67
    go_wp2_with fail
    refine (implBookOk_any _ bk _ hn HWF.out (by exact HBK.out.keep hb0) (by exact hev.keep hb0)).mono ?_
    rintro e w1 ⟨rfl, hb1⟩
    rw [hz.out]
    clear hok
    go_wp2_with fail
    go_ret
    refine ⟨ret_bool ?_, hb0.trans (hb1.mono (by simp))⟩
    rw [hz.out]; rfl
  · have hne : ((faultD bk).1 == 0) = false := by simpa using hok
    go_enter Tryd.func67, Tryd.ntmps67
    go_wp2_with fail
    refine (implBookOk_any _ bk _ hn HWF.out (by exact HBK.out.keep hb0) (by exact hev.keep hb0)).mono ?_
    rintro e w1 ⟨rfl, hb1⟩
    clear hok
    go_wp2_with fail
    go_ret
    exact ⟨ret_bool hne.symm, hb0.trans (hb1.mono (by simp))⟩

end Go.Proofs.YtjioingdpfgadaaDoor
