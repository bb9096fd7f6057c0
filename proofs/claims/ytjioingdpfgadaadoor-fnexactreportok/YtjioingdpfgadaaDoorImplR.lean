import Derived.Test.YtjioingdpfgadaaDoorProg
import Derived.Test.YtjioingdpfgadaaDoorImplQ
import Derived.Test.YtjioingdpfgadaaDoorImplP
namespace Go.Proofs.YtjioingdpfgadaaDoor
open Go Go.RowKit

theorem neqMsg (t : TypeId) (v : Value) (w : World) : (binOp .neq 110 (.iface t v) .nilIface).run Tryd.prog w = .ok (.bool true) w := by kernel_rfl
theorem neqNone (w : World) : (binOp .neq 110 .nilIface .nilIface).run Tryd.prog w = .ok (.bool false) w := by kernel_rfl
theorem eqlMsg (t : TypeId) (v : Value) (w : World) : (binOp .eql 110 (.iface t v) .nilIface).run Tryd.prog w = .ok (.bool false) w := by kernel_rfl
theorem eqlNone (w : World) : (binOp .eql 110 .nilIface .nilIface).run Tryd.prog w = .ok (.bool true) w := by kernel_rfl
theorem msgV_iface (r : RepD) (l : Bool) : ∃ t v, msgV r l = .iface t v := by
  unfold msgV
  split
  · exact ⟨_, _, rfl⟩
  · split
    · exact ⟨_, _, rfl⟩
    · split
      · exact ⟨_, _, rfl⟩
      · split
        · exact ⟨_, _, rfl⟩
        · exact ⟨_, _, rfl⟩

set_option maxRecDepth 100000 in
set_option maxHeartbeats 1000000 in
theorem implReportOk_any (v : Value) (bk : BookD) (r : RepD) (w : World) (hn : bookSize bk ≤ 1048576) (hwf : ∀ t ∈ bk.trips, ∀ i (h : i < t.calls.length), (Lit.int .i64 t.calls[i].st).wf = true) (hat : BookAt w v bk) (hev : ErrVars w) :
    Calls Tryd.prog 29 #[v, repV r] w fun e w' => e = .returned (.bool (reportB bk r)) ∧ Below w.heap.size w w' := by
  obtain ⟨sa, sc, ta, tc, rfl, hsa, hta⟩ := hat
  have HBK : Hid (BookAt w (.agg #[.slice sa bk.sts.length sc, .slice ta bk.trips.length tc]) bk) := ⟨sa, sc, ta, tc, rfl, hsa, hta⟩
  have HWF : Hid (∀ t ∈ bk.trips, ∀ i (h : i < t.calls.length), (Lit.int .i64 t.calls[i].st).wf = true) := hwf
  clear hsa hta hwf
  obtain ⟨W, hW⟩ : ∃ W, ((w.alloc (.cells #[.slice sa bk.sts.length sc, .slice ta bk.trips.length tc] 26)).alloc (.cells #[.int .i64 r.tick, .int .i64 r.op, .int .i64 r.trip, .int .i64 r.call, .int .i64 r.n] 45)) = W := ⟨_, rfl⟩
  have hb0 : Below w.heap.size w W := by subst hW; exact (ibox _ _).alloc (by simp) _
  have q0 : W.cell? ⟨w.heap.size, 0, none⟩ = some (.slice sa bk.sts.length sc) := by rw [← hW]; simp [go_sem]
  have q1 : W.cell? ⟨w.heap.size, 1, none⟩ = some (.slice ta bk.trips.length tc) := by rw [← hW]; simp [go_sem]
  have p0 : W.cell? ⟨w.heap.size + 1, 0, none⟩ = some (.int .i64 r.tick) := by rw [← hW]; simp [go_sem]
  have p1 : W.cell? ⟨w.heap.size + 1, 1, none⟩ = some (.int .i64 r.op) := by rw [← hW]; simp [go_sem]
  have p2 : W.cell? ⟨w.heap.size + 1, 2, none⟩ = some (.int .i64 r.trip) := by rw [← hW]; simp [go_sem]
  have p3 : W.cell? ⟨w.heap.size + 1, 3, none⟩ = some (.int .i64 r.call) := by rw [← hW]; simp [go_sem]
  have p4 : W.cell? ⟨w.heap.size + 1, 4, none⟩ = some (.int .i64 r.n) := by rw [← hW]; simp [go_sem]
  have h1 := neqMsg
  have h2 := neqNone
  unfold repV
  cases hok : ((faultD bk).1 == 0)
  · have HF : Hid (reportB bk r = false) := reportB_no (fun h => by rw [h.1] at hok; simp at hok)
    go_enter Tryd.func29, Tryd.ntmps29
    go_wp2_with fail
    refine (isRight_any _ bk _ hn HWF.out (by exact HBK.out.keep hb0) (by exact hev.keep hb0)).mono ?_
    rintro e w1 ⟨rfl, hb1⟩
    rw [hok]
    go_wp2_with fail
    go_ret
    exact ⟨ret_bool HF.out.symm, hb0.trans (hb1.mono hb0.size)⟩
  · have H0 : Hid ((faultD bk).1 = 0) := by unfold Hid; simpa using hok
    go_enter Tryd.func29, Tryd.ntmps29
    go_wp2_with fail
    refine (isRight_any _ bk _ hn HWF.out (by exact HBK.out.keep hb0) (by exact hev.keep hb0)).mono ?_
    rintro e w1 ⟨rfl, hb1⟩
    rw [hok]
    have hB1 : Below w.heap.size w w1 := hb0.trans (hb1.mono hb0.size)
    have a0 := cell_keep hb1 q0
    have a1 := cell_keep hb1 q1
    have d0 := cell_keep hb1 p0
    have d1 := cell_keep hb1 p1
    have d2 := cell_keep hb1 p2
    have d3 := cell_keep hb1 p3
    have d4 := cell_keep hb1 p4
    clear q0 q1 p0 p1 p2 p3 p4 hb1 hW
    go_wp2_with fail
    refine (readReport_any _ bk r _ hn H0.out (by exact HBK.out.keep hB1)).mono ?_
    rintro e w2 ⟨rfl, hb2⟩
    have hB2 : Below w.heap.size w w2 := hB1.trans (hb2.mono hB1.size)
    clear a0 a1 d0 d1 d2 d3 d4
    cases hr : reportB bk r
    · rw [readV_no hr]
      go_wp2_with fail
      go_ret
      exact ⟨ret_bool hr.symm, hB2⟩
    · rw [readV_yes hr]
      obtain ⟨t, m, hm⟩ := msgV_iface r (lastB bk r)
      rw [hm]
      clear hm
      go_wp2_with fail
      go_ret
      exact ⟨ret_bool hr.symm, hB2⟩

end Go.Proofs.YtjioingdpfgadaaDoor
