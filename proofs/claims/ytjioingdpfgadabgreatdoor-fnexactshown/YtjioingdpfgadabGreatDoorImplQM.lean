import Derived.Test.YtjioingdpfgadabGreatDoorProg
import Derived.Test.YtjioingdpfgadabGreatDoorChkE
import Derived.Test.YtjioingdpfgadabGreatDoorBaseR
namespace Go.Proofs.YtjioingdpfgadabGreatDoor
open Go Go.RowKit Go.Deep

set_option maxRecDepth 100000 in
set_option maxHeartbeats 1000000 in
theorem isRight_any (v : Value) (bk : BookD) (w : World) (hn : bookSize bk ≤ 1048576) (hwf : ∀ t ∈ bk.trips, ∀ i (h : i < t.calls.length), (Lit.int .i64 t.calls[i].st).wf = true) (hat : BookAt w v bk) (hev : ErrVars w) :
    Calls Tryz.prog 77 #[v] w fun e w' => e = .returned (.bool ((faultD bk).1 == 0)) ∧ Below w.heap.size w w' := by
  obtain ⟨sa, sc, ta, tc, rfl, hsa, hta⟩ := hat
  have hb0 := box_below w (.cells #[.slice sa bk.sts.length sc, .slice ta bk.trips.length tc] 33)
  have HBK : Hid (BookAt w (.agg #[.slice sa bk.sts.length sc, .slice ta bk.trips.length tc]) bk) := ⟨sa, sc, ta, tc, rfl, hsa, hta⟩
  have HWF : Hid (∀ t ∈ bk.trips, ∀ i (h : i < t.calls.length), (Lit.int .i64 t.calls[i].st).wf = true) := hwf
  clear hsa hta hwf
  by_cases hok : (faultD bk).1 = 0
  · have hz : Hid (faultD bk = (0, 0)) := (faultD_zero hok).1
    go_enter Tryz.func77, Tryz.ntmps77
    go_wp2_with fail
    refine (implBookOk_any _ bk _ hn HWF.out (by exact HBK.out.keep hb0) (by exact hev.keep hb0)).mono ?_
    rintro e w1 ⟨rfl, hb1⟩
    rw [hz.out]
    clear hok
    go_wp2_with fail
    go_ret
    refine ⟨ret_bool ?_, hb0.trans (hb1.mono (by simp))⟩
    rw [hz.out]; rfl
  · have hne : ((faultD bk).1 == 0) = false := by simpa using hok
    go_enter Tryz.func77, Tryz.ntmps77
    go_wp2_with fail
    refine (implBookOk_any _ bk _ hn HWF.out (by exact HBK.out.keep hb0) (by exact hev.keep hb0)).mono ?_
    rintro e w1 ⟨rfl, hb1⟩
    clear hok
    go_wp2_with fail
    go_ret
    exact ⟨ret_bool hne.symm, hb0.trans (hb1.mono (by simp))⟩

end Go.Proofs.YtjioingdpfgadabGreatDoor
namespace Go.Proofs.YtjioingdpfgadabGreatDoor
open Go Go.RowKit Go.Deep Go.WideMaps Go.Maps

set_option maxRecDepth 100000 in
set_option maxHeartbeats 1000000 in
theorem callOf_any (nm : ByteArray) (ca : Option Addr) (cc : Nat) (cs : List CallD) (s : Int) (w : World) (n4 : cs.length ≤ 1048576) (hws : (Lit.int .i64 s).wf = true) (hwf : ∀ i (h : i < cs.length), (Lit.int .i64 cs[i].st).wf = true) (hnd : (stationsOf cs).Nodup) (hca : CallsAt w ca cs) :
    Calls Tryz.prog 65 #[.agg #[.string nm, .slice ca cs.length cc], .int .i64 s] w fun e w' => e = .returned (.int .i64 (callAtC cs s)) ∧ Below w.heap.size w w' := by
  have hb0 := box_below w (.cells #[.string nm, .slice ca cs.length cc] 81)
  have HCA : Hid (CallsAt w ca cs) := hca
  have HND : Hid ((stationsOf cs).Nodup) := hnd
  have HWK : Hid (∀ i (h : i < cs.length), (Lit.int .i64 cs[i].st).wf = true) := hwf
  clear hca hnd hwf
  go_enter Tryz.func65, Tryz.ntmps65
  go_wp2_with fail
  refine (callsByStation_any _ _ _ _ n4 HWK.out (by exact HCA.out.keep hb0)).mono ?_
  rintro e w2 ⟨bm, D, rfl, hbm, hown, him, hb2⟩
  have HO : Hid (w2.ownsMap Tryz.prog 3 (plainElem Tryz.prog 3) bm cs.length D) := hown
  have HIM : Hid (IntsMap (cs.map (·.st)) D) := him
  have hB2 : Below w.heap.size w w2 := hb0.trans (hb2.mono hb0.size)
  clear hown him
  cases hh : Maps.has D (.int .i64 s)
  · have HC : Hid (callAtC cs s = -1) := callAtC_absent HIM.out hh
    go_wp2_with (at_lookup; refine wpList_lookup_own_ok_int _ rfl _ _ 151 rfl 3 3 .i64 lawI um ui (zeroI _) bm cs.length _ rfl HO.out _ _ rfl (keyOf_int_mk ui hws) ?_; intro c hat hwc; rw [hh]; clear hat hwc)
    go_ret
    exact ⟨ret_int (by rw [HC.out]), hB2⟩
  · go_wp2_with (at_lookup; refine wpList_lookup_own_ok_int _ rfl _ _ 151 rfl 3 3 .i64 lawI um ui (zeroI _) bm cs.length _ rfl HO.out _ _ rfl (keyOf_int_mk ui hws) ?_; intro c hat hwc; rw [hh]; have HC : Hid (callAtC cs s = c) := callAtC_of_map HIM.out HND.out hat hh; clear hat hwc)
    go_ret
    exact ⟨ret_int (by rw [HC.out]), hB2⟩

end Go.Proofs.YtjioingdpfgadabGreatDoor
