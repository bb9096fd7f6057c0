import Derived.Test.YtjioingdpfgadaaDoorProg
import Derived.Test.YtjioingdpfgadaaDoorSpecC
namespace Go.Proofs.YtjioingdpfgadaaDoor
open Go Go.RowKit Go.Deep

set_option maxRecDepth 100000 in
set_option maxHeartbeats 1000000 in
theorem specCallAt_any (v : Value) (bk : BookD) (trip s : Int) (w : World) (hn : bookSize bk ≤ 1048576) (hat : BookAt w v bk) :
    Calls Tryd.prog 19 #[v, .int .i64 trip, .int .i64 s] w fun e w' => e = .returned (.int .i64 (callAtD bk trip s)) ∧ Below w.heap.size w w' := by
  obtain ⟨sa, sc, ta, tc, rfl, hsa, hta⟩ := hat
  have hb0 := bx_below w (.cells #[.slice sa bk.sts.length sc, .slice ta bk.trips.length tc] 26)
  have HBK : Hid (BookAt w (.agg #[.slice sa bk.sts.length sc, .slice ta bk.trips.length tc]) bk) := ⟨sa, sc, ta, tc, rfl, hsa, hta⟩
  have n2 : bk.trips.length ≤ 1048576 := by unfold bookSize tripsSize at hn; omega
  clear hsa hta
  cases hok : ((faultD bk).1 == 0)
  · have HF : Hid (callAtD bk trip s = -1) := callAtD_no (fun h => by rw [h.1] at hok; simp at hok)
    go_enter Tryd.func19, Tryd.ntmps19
    go_wp2_with fail
    refine (l1ok_any _ bk _ hn (by exact HBK.out.keep hb0)).mono ?_
    rintro e w1 ⟨rfl, hb1⟩
    rw [hok]
    go_wp2_with fail
    go_ret
    exact ⟨ret_int HF.out.symm, hb0.trans (hb1.mono (by simp))⟩
  · have H0 : Hid ((faultD bk).1 = 0) := by unfold Hid; simpa using hok
    by_cases hin : 0 ≤ trip ∧ trip ≤ (bk.trips.length : Int) - 1
    · obtain ⟨i1, i2⟩ := hin
      obtain ⟨k, rfl⟩ := Int.eq_ofNat_of_zero_le i1
      have hk : k < bk.trips.length := by omega
      have HF : Hid (callAtD bk k s = callAtC bk.trips[k].calls s) := callAtD_yes H0.out hk
      go_enter Tryd.func19, Tryd.ntmps19
      go_wp2_with fail
      refine (l1ok_any _ bk _ hn (by exact HBK.out.keep hb0)).mono ?_
      rintro e w1 ⟨rfl, hb1⟩
      rw [hok]
      have B1 : Below (w.heap.size + 1) (w.alloc (.cells #[.slice sa bk.sts.length sc, .slice ta bk.trips.length tc] 26)) w1 := hb1.mono (by simp)
      have hB1 : Below w.heap.size w w1 := hb0.trans (B1.mono (by omega))
      have q0 : w1.cell? ⟨w.heap.size, 0, none⟩ = some (.slice sa bk.sts.length sc) := by
        rw [B1.cell (p := ⟨w.heap.size, 0, none⟩) (by simp)]; simp [go_sem]
      have q1 : w1.cell? ⟨w.heap.size, 1, none⟩ = some (.slice ta bk.trips.length tc) := by
        rw [B1.cell (p := ⟨w.heap.size, 1, none⟩) (by simp)]; simp [go_sem]
      clear hb1
      go_wp2_with fail
      refine (l1in_yes _ _ _ _ i1 i2).mono ?_
      rintro e w2 ⟨rfl, rfl⟩
      go_wp2_with fail
      refine (l1at_any _ bk k s _ hk hn (by exact HBK.out.keep hB1)).mono ?_
      rintro e w3 ⟨rfl, hb3⟩
      go_wp2_with fail
      go_ret
      exact ⟨ret_int HF.out.symm, hB1.trans (hb3.mono hB1.size)⟩
    · have HF : Hid (callAtD bk trip s = -1) := callAtD_no (fun h => hin (by omega))
      go_enter Tryd.func19, Tryd.ntmps19
      go_wp2_with fail
      refine (l1ok_any _ bk _ hn (by exact HBK.out.keep hb0)).mono ?_
      rintro e w1 ⟨rfl, hb1⟩
      rw [hok]
      have B1 : Below (w.heap.size + 1) (w.alloc (.cells #[.slice sa bk.sts.length sc, .slice ta bk.trips.length tc] 26)) w1 := hb1.mono (by simp)
      have hB1 : Below w.heap.size w w1 := hb0.trans (B1.mono (by omega))
      have q1 : w1.cell? ⟨w.heap.size, 1, none⟩ = some (.slice ta bk.trips.length tc) := by
        rw [B1.cell (p := ⟨w.heap.size, 1, none⟩) (by simp)]; simp [go_sem]
      clear hb1
      go_wp2_with fail
      refine (l1in_no _ _ _ _ hin).mono ?_
      rintro e w2 ⟨rfl, rfl⟩
      go_wp2_with fail
      go_ret
      exact ⟨ret_int HF.out.symm, hB1⟩

end Go.Proofs.YtjioingdpfgadaaDoor
