import Derived.Test.YtjioingdpfgadaaDoorProg
import Derived.Test.YtjioingdpfgadaaDoorImplR
import Derived.Test.YtjioingdpfgadaaDoorImplA
import Derived.Test.YtjioingdpfgadaaDoorImplV
import Derived.Test.YtjioingdpfgadaaDoorImplF
import Derived.Test.YtjioingdpfgadaaDoorImplX
namespace Go.Proofs.YtjioingdpfgadaaDoor
open Go Go.RowKit Go.Deep

set_option maxRecDepth 100000 in
set_option maxHeartbeats 2000000 in
theorem implCounts_any (v : Value) (bk : BookD) (na : Option Addr) (nc : Nat) (nss : List (List NewsD)) (r : RepD) (w : World) (hn : bookSize bk ≤ 1048576) (hm : newsSize nss ≤ 1048576) (hwf : ∀ t ∈ bk.trips, ∀ i (h : i < t.calls.length), (Lit.int .i64 t.calls[i].st).wf = true) (hat : BookAt w v bk) (hna : NewsSSAt w na nss) (hev : ErrVars w) :
    Calls Tryd.prog 39 #[v, .slice na nss.length nc, repV r] w fun e w' => e = .returned (.bool (countsB bk nss r)) ∧ Below w.heap.size w w' := by
  obtain ⟨sa, sc, ta, tc, rfl, hsa, hta⟩ := hat
  have HBK : Hid (BookAt w (.agg #[.slice sa bk.sts.length sc, .slice ta bk.trips.length tc]) bk) := ⟨sa, sc, ta, tc, rfl, hsa, hta⟩
  have HWF : Hid (∀ t ∈ bk.trips, ∀ i (h : i < t.calls.length), (Lit.int .i64 t.calls[i].st).wf = true) := hwf
  have HNA : Hid (NewsSSAt w na nss) := hna
  have m2 : nss.length ≤ 1048576 := by unfold newsSize at hm; omega
  clear hsa hta hwf hna
  obtain ⟨W, hW⟩ : ∃ W, ((w.alloc (.cells #[.slice sa bk.sts.length sc, .slice ta bk.trips.length tc] 26)).alloc (.cells #[.int .i64 r.tick, .int .i64 r.op, .int .i64 r.trip, .int .i64 r.call, .int .i64 r.n] 45)) = W := ⟨_, rfl⟩
  have hb0 : Below w.heap.size w W := by subst hW; exact (ibox _ _).alloc (by simp) _
  have q0 : W.cell? ⟨w.heap.size, 0, none⟩ = some (.slice sa bk.sts.length sc) := by rw [← hW]; simp [go_sem]
  have q1 : W.cell? ⟨w.heap.size, 1, none⟩ = some (.slice ta bk.trips.length tc) := by rw [← hW]; simp [go_sem]
  have p0 : W.cell? ⟨w.heap.size + 1, 0, none⟩ = some (.int .i64 r.tick) := by rw [← hW]; simp [go_sem]
  have p1 : W.cell? ⟨w.heap.size + 1, 1, none⟩ = some (.int .i64 r.op) := by rw [← hW]; simp [go_sem]
  have p2 : W.cell? ⟨w.heap.size + 1, 2, none⟩ = some (.int .i64 r.trip) := by rw [← hW]; simp [go_sem]
  have p3 : W.cell? ⟨w.heap.size + 1, 3, none⟩ = some (.int .i64 r.call) := by rw [← hW]; simp [go_sem]
  have p4 : W.cell? ⟨w.heap.size + 1, 4, none⟩ = some (.int .i64 r.n) := by rw [← hW]; simp [go_sem]
  have h1 := neqMsg
  have h2 := neqNone
  unfold repV
  cases hok : ((faultD bk).1 == 0)
  · have HF : Hid (countsB bk nss r = false) := countsB_no1 (reportB_no (fun h => by rw [h.1] at hok; simp at hok))
    go_enter Tryd.func39, Tryd.ntmps39
    go_wp2_with fail
    refine (isRight_any _ bk _ hn HWF.out (by exact HBK.out.keep hb0) (by exact hev.keep hb0)).mono ?_
    rintro e w1 ⟨rfl, hb1⟩
    rw [hok]
    go_wp2_with fail
    go_ret
    exact ⟨ret_bool HF.out.symm, hb0.trans (hb1.mono hb0.size)⟩
  · have H0 : Hid ((faultD bk).1 = 0) := by unfold Hid; simpa using hok
    go_enter Tryd.func39, Tryd.ntmps39
    go_wp2_with fail
    refine (isRight_any _ bk _ hn HWF.out (by exact HBK.out.keep hb0) (by exact hev.keep hb0)).mono ?_
    rintro e w1 ⟨rfl, hb1⟩
    rw [hok]
    have hB1 : Below w.heap.size w w1 := hb0.trans (hb1.mono hb0.size)
    have a0 := cell_keep hb1 q0
    have a1 := cell_keep hb1 q1
    have d0 := cell_keep hb1 p0
    have d1 := cell_keep hb1 p1
    have d2 := cell_keep hb1 p2
    have d3 := cell_keep hb1 p3
    have d4 := cell_keep hb1 p4
    clear q0 q1 p0 p1 p2 p3 p4 hb1 hW
    go_wp2_with fail
    refine (fitsBook_any _ bk _ _ nss _ hn hm (by exact HBK.out.keep hB1) (by exact HNA.out.keep hB1)).mono ?_
    rintro e w2 ⟨rfl, hb2⟩
    have hB2 : Below w.heap.size w w2 := hB1.trans (hb2.mono hB1.size)
    have q0 := cell_keep hb2 a0
    have q1 := cell_keep hb2 a1
    have p0 := cell_keep hb2 d0
    have p1 := cell_keep hb2 d1
    have p2 := cell_keep hb2 d2
    have p3 := cell_keep hb2 d3
    have p4 := cell_keep hb2 d4
    clear a0 a1 d0 d1 d2 d3 d4 hb2
    cases hsh : shapeB bk nss
    · have HF : Hid (countsB bk nss r = false) := countsB_no2 hsh
      go_wp2_with fail
      go_ret
      exact ⟨ret_bool HF.out.symm, hB2⟩
    · have HSH : Hid (shapeB bk nss = true) := hsh
      clear hsh
      go_wp2_with fail
      refine (readReport_any _ bk r _ hn H0.out (by exact HBK.out.keep hB2)).mono ?_
      rintro e w3 ⟨rfl, hb3⟩
      have hB3 : Below w.heap.size w w3 := hB2.trans (hb3.mono hB2.size)
      clear q0 q1 p0 p1 p2 p3 p4 hb3
      cases hr : reportB bk r
      · have HF : Hid (countsB bk nss r = false) := countsB_no1 hr
        rw [readV_no hr]
        go_wp2_with fail
        go_ret
        exact ⟨ret_bool HF.out.symm, hB3⟩
      · have hh := reportB_head hr
        obtain ⟨_, _, ho, ⟨i1, i2⟩, i3, i4⟩ := hh
        obtain ⟨j, hj⟩ := Int.eq_ofNat_of_zero_le i1
        obtain ⟨k, hk⟩ := Int.eq_ofNat_of_zero_le i3
        have hjl : j < bk.trips.length := by omega
        obtain ⟨s1, s2⟩ := shapeB_inv HSH.out
        have hjn : j < nss.length := by omega
        have hc : callsOf bk r.trip = bk.trips[j].calls := by rw [hj]; exact callsOf_at bk j hjl
        have hlen := s2 j hjn hjl
        have hkn : k < nss[j].length := by rw [hlen]; rw [hc] at i4; omega
        obtain ⟨l1, l2⟩ := tripB_len ((faultD_zero H0.out).2 j hjl)
        have hpl : (padRow nss[j]).length = 20 := padRow_length (by omega)
        have HX : Hid (allowsX (padRow nss[j]) k (lastB bk r) ((padRow nss[j])[k]'(by omega)) r = countsB bk nss r) := by
          unfold Hid
          rw [countsB_yes hr HSH.out hjn hj hkn hk]
          exact allowsX_counts ho hkn (by omega) (fun i h => padRow_get i h) (lastB_at hk (by rw [hc, hlen]) hkn)
        rw [readV_yes hr]
        obtain ⟨t, m, hmv, hme, hna⟩ := msgV_where r (lastB bk r)
        have HAL : Hid (∀ w, Calls Tryd.prog 81 #[.agg (rowCells (padRow nss[j])).toArray, .iface t m] w fun e w' => e = .returned (.bool (countsB bk nss r)) ∧ Below w.heap.size w w') := fun w => by
          have := allows_any (padRow nss[j]) r (lastB bk r) k w hpl hk (by omega) ho
          rw [HX.out, hmv] at this
          exact this
        rw [hmv]
        rw [hj] at hme
        have hf0 := fld0
        have j0 : (0 : Int) ≤ (j : Int) := by omega
        have j1 : (j : Int) < (nss.length : Int) := by omega
        have HL : Hid (0 < nss[j].length ∧ nss[j].length ≤ 20) := ⟨by omega, by omega⟩
        clear hmv hr ho i1 i2 i3 i4 hj hk hc hlen hkn l1 l2 hpl HX s1 s2
        go_wp2_with fail
        refine (where_any _ _ _ _).mono ?_
        rintro e w4 ⟨rfl, hb4⟩
        have hB4 : Below w.heap.size w w4 := hB3.trans (hb4.mono hB3.size)
        obtain ⟨b, o, ca, cc, rfl, c0, hnat⟩ := HNA.out.keep hB4 j hjn
        have HN4 : Hid (NewsAt w4 ca nss[j]) := hnat
        clear hnat hb4
        go_wp2_with fail
        refine (copyRow_any _ _ _ _ HL.out.1 HL.out.2 (by exact HN4.out)).mono ?_
        rintro e w5 ⟨rfl, hb5⟩
        have hB5 : Below w.heap.size w w5 := hB4.trans (hb5.mono hB4.size)
        clear c0 hb5
        go_wp2_with fail
        refine (HAL.out _).mono ?_
        rintro e w6 ⟨rfl, hb6⟩
        go_wp2_with fail
        go_ret
        exact ⟨rfl, hB5.trans (hb6.mono hB5.size)⟩

end Go.Proofs.YtjioingdpfgadaaDoor
