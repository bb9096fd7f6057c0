import Derived.Test.YtjioingdpfgadaaDoorProg
import Derived.Test.YtjioingdpfgadaaDoorImplQ
namespace Go.Proofs.YtjioingdpfgadaaDoor
open Go Go.RowKit Go.Deep Go.WideMaps Go.Maps

set_option maxRecDepth 100000 in
set_option maxHeartbeats 1000000 in
theorem callOf_any (nm : ByteArray) (ca : Option Addr) (cc : Nat) (cs : List CallD) (s : Int) (w : World) (n4 : cs.length ≤ 1048576) (hws : (Lit.int .i64 s).wf = true) (hwf : ∀ i (h : i < cs.length), (Lit.int .i64 cs[i].st).wf = true) (hnd : (stationsOf cs).Nodup) (hca : CallsAt w ca cs) :
    Calls Tryd.prog 68 #[.agg #[.string nm, .slice ca cs.length cc], .int .i64 s] w fun e w' => e = .returned (.int .i64 (callAtC cs s)) ∧ Below w.heap.size w w' := by
  have hb0 := box_below w (.cells #[.string nm, .slice ca cs.length cc] 54)
  have HCA : Hid (CallsAt w ca cs) := hca
  have HND : Hid ((stationsOf cs).Nodup) := hnd
  have HWK : Hid (∀ i (h : i < cs.length), (Lit.int .i64 cs[i].st).wf = true) := hwf
  clear hca hnd hwf
  go_enter Tryd.func68, Tryd.ntmps68
  go_wp2_with fail
  refine (callsByStation_any _ _ _ _ n4 HWK.out (by exact HCA.out.keep hb0)).mono ?_
  rintro e w2 ⟨bm, D, rfl, hbm, hown, him, hb2⟩
  have HO : Hid (w2.ownsMap Tryd.prog 3 (plainElem Tryd.prog 3) bm cs.length D) := hown
  have HIM : Hid (IntsMap (cs.map (·.st)) D) := him
  have hB2 : Below w.heap.size w w2 := hb0.trans (hb2.mono hb0.size)
  clear hown him
  cases hh : Maps.has D (.int .i64 s)
  · have HC : Hid (callAtC cs s = -1) := callAtC_absent HIM.out hh
    go_wp2_with (at_lookup; refine wpList_lookup_own_ok_int _ rfl _ _ 187 rfl 3 3 .i64 lawI um ui (zeroI _) bm cs.length _ rfl HO.out _ _ rfl (keyOf_int_mk ui hws) ?_; intro c hat hwc; rw [hh]; clear hat hwc)
    go_ret
    exact ⟨ret_int (by rw [HC.out]), hB2⟩
  · go_wp2_with (at_lookup; refine wpList_lookup_own_ok_int _ rfl _ _ 187 rfl 3 3 .i64 lawI um ui (zeroI _) bm cs.length _ rfl HO.out _ _ rfl (keyOf_int_mk ui hws) ?_; intro c hat hwc; rw [hh]; have HC : Hid (callAtC cs s = c) := callAtC_of_map HIM.out HND.out hat hh; clear hat hwc)
    go_ret
    exact ⟨ret_int (by rw [HC.out]), hB2⟩

end Go.Proofs.YtjioingdpfgadaaDoor
