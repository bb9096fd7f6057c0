import Derived.Test.YtjioingdpfgadaaDoorProg
import Derived.Test.YtjioingdpfgadaaDoorImplSM
import Derived.Test.YtjioingdpfgadaaDoorImplJM
import Derived.Test.YtjioingdpfgadaaDoorImplWM
import Derived.Test.YtjioingdpfgadaaDoorImplMM
namespace Go.Proofs.YtjioingdpfgadaaDoor
open Go Go.RowKit Go.Deep

set_option maxRecDepth 100000 in
set_option maxHeartbeats 2000000 in
theorem after_no (ns : List NewsD) (r : RepD) (last : Bool) (k : Nat) (w : World) (hlen : ns.length = 20) (hkk : r.call = (k : Int)) (hk : k < ns.length) (hop : 1 ≤ r.op ∧ r.op ≤ 5) (hal : allowsX ns k last ns[k] r = false) :
    Calls Tryd.prog 56 #[.agg (rowCells ns).toArray, msgV r last] w fun e w' => e = .returned (.agg (rowCells ns).toArray) ∧ Below w.heap.size w w' := by
  obtain ⟨t, m, hmv⟩ := msgV_iface r last
  have HAL : Hid (∀ w, Calls Tryd.prog 81 #[.agg (rowCells ns).toArray, .iface t m] w fun e w' => e = .returned (.bool false) ∧ Below w.heap.size w w') := fun w => by
    have := allows_any ns r last k w hlen hkk hk hop
    rw [hal, hmv] at this
    exact this
  rw [hmv]
  have hz := zeroT
  have HIZ : Hid ((Tryd.prog.info? 105).map (·.size) = some (rowCells zeroRow).toArray.size) := rowCells_size rfl
  have HIN : Hid ((Tryd.prog.info? 105).map (·.size) = some (rowCells ns).toArray.size) := rowCells_size hlen
  have HSZ : Hid ((rowCells zeroRow).toArray.size = (rowCells ns).toArray.size) := Option.some.inj (HIZ.out.symm.trans HIN.out)
  have HAC : Hid ((rowCells ns).toArray.all (·.oneCell') = true) := rowCells_all ns
  generalize hZ : (rowCells zeroRow).toArray = Z at *
  generalize hR : (rowCells ns).toArray = R at *
  obtain ⟨W1, hW1⟩ : ∃ W1, (w.alloc (.cells R 105)).alloc (.cells Z 105) = W1 := ⟨_, rfl⟩
  have hb0 : Below w.heap.size w W1 := by subst hW1; exact (ibox _ _).alloc (by simp) _
  have HA1 : Hid (W1.heap[w.heap.size]? = some (.cells R 105 (0, 0))) := by
    unfold Hid; rw [← hW1, heap_alloc_old _ _ (by simp)]; exact heap_alloc_last w _
  have HB1 : Hid (W1.heap[w.heap.size + 1]? = some (.cells Z 105 (0, 0))) := by
    have := heap_alloc_last (w.alloc (.cells R 105)) (.cells Z 105)
    rw [hW1] at this
    have e : (w.alloc (.cells R 105)).heap.size = w.heap.size + 1 := by simp
    rw [e] at this; exact this
  clear hop hkk hal hmv
  go_enter Tryd.func56, Tryd.ntmps56
  go_wp2_with (refine wpList_load_row (by rfl) 105 (.tmp 2) (by rfl) w.heap.size (by rfl) 105 R (0, 0) _ HA1.out underT rfl HIN.out ?_)
  refine (HAL.out _).mono ?_
  rintro e w1 ⟨rfl, hb1⟩
  have hB1 : Below w.heap.size w w1 := hb0.trans (hb1.mono hb0.size)
  have HA2 : Hid (w1.heap[w.heap.size]? = some (.cells R 105 (0, 0))) := by unfold Hid; rw [hb1.block _ (iblock_lt HA1.out)]; exact HA1.out
  have HB2 : Hid (w1.heap[w.heap.size + 1]? = some (.cells Z 105 (0, 0))) := by unfold Hid; rw [hb1.block _ (iblock_lt HB1.out)]; exact HB1.out
  clear HA1 HB1 hb1 hW1 hz HAL HIZ hb0
  go_wp2_with (first
    | (refine wpList_load_row (by rfl) 105 (.tmp 2) (by rfl) w.heap.size (by rfl) 105 R (0, 0) _ HA2.out underT rfl HIN.out ?_)
    | (refine wpList_store_row (by rfl) 105 (.tmp 4) (.tmp 17) (by rfl) (w.heap.size + 1) R (by rfl) (by rfl) 105 Z HB2.out HIN.out HSZ.out HAC.out ?_))
  refine bodyPost_ret (v := .agg R) ?_ rfl ⟨rfl, below_setRow hB1 _ _ (by omega)⟩
  exact results_cell_row Tryd.results56 _ _ (w.heap.size + 1) 105 R (0, 0) _ rfl (setRow_heap _ _ _ _ _ _ HB2.out) underT rfl HIN.out

theorem after_any (ns : List NewsD) (r : RepD) (last : Bool) (k : Nat) (w : World) (hlen : ns.length = 20) (hkk : r.call = (k : Int)) (hk : k < ns.length) (hop : 1 ≤ r.op ∧ r.op ≤ 5) :
    Calls Tryd.prog 56 #[.agg (rowCells ns).toArray, msgV r last] w fun e w' => e = .returned (.agg (rowCells (if allowsX ns k last ns[k] r then doRow r ns else ns)).toArray) ∧ Below w.heap.size w w' := by
  cases hal : allowsX ns k last ns[k] r
  · simpa using after_no ns r last k w hlen hkk hk hop hal
  · have : r.op = 1 ∨ r.op = 2 ∨ r.op = 3 ∨ r.op = 4 ∨ r.op = 5 := by omega
    rcases this with h | h | h | h | h
    · simpa using after_1 ns r last k w hlen hkk hk h hal
    · simpa using after_2 ns r last k w hlen hkk hk h hal
    · simpa using after_3 ns r last k w hlen hkk hk h hal
    · simpa using after_4 ns r last k w hlen hkk hk h hal
    · simpa using after_5 ns r last k w hlen hkk hk h hal

end Go.Proofs.YtjioingdpfgadaaDoor
namespace Go.Proofs.YtjioingdpfgadaaDoor
open Go Go.RowKit Go.Deep

/-- A message's place, asked through the interface. -/
theorem msgV_where (r : RepD) (l : Bool) : ∃ t m, msgV r l = .iface t m ∧ (∀ w, (Go.method 376 t m "loop.example/tannoy/impl.where").run Tryd.prog w = .ok (167, .agg #[.int .i64 r.trip, .int .i64 r.call, .bool l]) w) ∧ (∀ w, (Go.nilAhead 376 t m "loop.example/tannoy/impl.where").run Tryd.prog w = .ok (some false) w) := by
  unfold msgV
  split
  · exact ⟨_, _, rfl, fun w => mLate _ _ _ _ w, fun w => nLate _ _ _ _ w⟩
  · split
    · exact ⟨_, _, rfl, fun w => mTrack _ _ _ _ w, fun w => nTrack _ _ _ _ w⟩
    · split
      · exact ⟨_, _, rfl, fun w => mStop _ _ _ w, fun w => nStop _ _ _ w⟩
      · split
        · exact ⟨_, _, rfl, fun w => mHere _ _ _ w, fun w => nHere _ _ _ w⟩
        · exact ⟨_, _, rfl, fun w => mGone _ _ _ w, fun w => nGone _ _ _ w⟩
theorem tripB_len {n : Int} {t : TripD} (h : tripB n t = true) : 2 ≤ t.calls.length ∧ t.calls.length ≤ 20 := by
  apply Classical.byContradiction
  intro hn
  rw [tripB_count hn] at h
  exact absurd h (by decide)
theorem right_trips {bk : BookD} (h : (faultD bk).1 = 0) : bk.trips.length ≤ 40 := by
  apply Classical.byContradiction
  intro hn
  rw [faultD_1 (Or.inr (by omega))] at h
  simp at h
theorem lastB_at {bk : BookD} {r : RepD} {k n : Nat} (hk : r.call = (k : Int)) (hn : (callsOf bk r.trip).length = n) (hkn : k < n) : lastB bk r = !decide (k + 1 < n) := by
  unfold lastB
  rw [hk, hn]
  by_cases h : k + 1 < n
  · rw [decide_eq_true h]; simp; omega
  · rw [decide_eq_false h]; simp; omega

end Go.Proofs.YtjioingdpfgadaaDoor
namespace Go.Proofs.YtjioingdpfgadaaDoor
open Go Go.RowKit Go.Deep

theorem NewsOwn.mono {B B' : Nat} {w : World} {v : Value} {nss : List (List NewsD)} (h : NewsOwn B w v nss) (hB : B' ≤ B) : NewsOwn B' w v nss := by
  obtain ⟨vs, hvs⟩ := h
  exact ⟨vs, owns_mono hvs.outer hB, hvs.len, fun i h1 h2 => owns_mono (hvs.rows i h1 h2) hB, hvs.apart⟩
theorem Grid.put {G : List (List NewsD)} (h : Grid G) (j : Nat) (hj : j < G.length) (row : List NewsD) (hr : row.length = 20) : putAt (gridCells G).toArray (j * 100) (rowCells row) = (gridCells (G.set j row)).toArray :=
  flat_put rowCells 100 G h.cells j hj row (by rw [rowCells_length, hr])
theorem grid_row {G : List (List NewsD)} (hG : Grid G) (j : Nat) (hj : j < G.length) {w : World} {g : Nat} {T : TypeId} (hg : w.heap[g]? = some (.cells (gridCells G).toArray T (0, 0))) : ∀ i u, (rowCells G[j])[i]? = some u → w.cell? ⟨g, j * 100 + i, none⟩ = some u := by
  have := grid_src hG j 20 hj hg
  rw [List.take_of_length_le (by rw [hG.at j hj]; exact Nat.le_refl _)] at this
  exact this
theorem rowCells_len {row : List NewsD} (h : row.length = 20) : (Tryd.prog.info? 105).map (·.size) = some (rowCells row).length := by rw [rowCells_length, h]; exact sizeT
theorem knownD_no {bk : BookD} {rs : List RepD} {tick : Int} (h : reportsB bk rs = false) : knownD bk rs tick = [] := by unfold knownD; rw [h]; rfl
theorem knownD_yes {bk : BookD} {rs : List RepD} {tick : Int} (h : reportsB bk rs = true) : knownD bk rs tick = newsTo bk tick rs := by unfold knownD; rw [h]; rfl

set_option maxRecDepth 100000 in
set_option maxHeartbeats 8000000 in
theorem implKnown_any (v : Value) (bk : BookD) (ra : Option Addr) (rc : Nat) (rs : List RepD) (tick : Int) (w : World) (hn : bookSize bk ≤ 1048576) (hm : rs.length ≤ 1048576) (hwf : ∀ t ∈ bk.trips, ∀ i (h : i < t.calls.length), (Lit.int .i64 t.calls[i].st).wf = true) (hat : BookAt w v bk) (hra : RepsAt w ra rs) (hev : ErrVars w) :
    Calls Tryd.prog 18 #[v, .slice ra rs.length rc, .int .i64 tick] w fun e w' => ∃ v', e = .returned v' ∧ NewsOwn w.heap.size w' v' (knownD bk rs tick) ∧ Below w.heap.size w w' := by
  obtain ⟨sa, sc, ta, tc, rfl, hsa, hta⟩ := hat
  have HBK : Hid (BookAt w (.agg #[.slice sa bk.sts.length sc, .slice ta bk.trips.length tc]) bk) := ⟨sa, sc, ta, tc, rfl, hsa, hta⟩
  have HWF : Hid (∀ t ∈ bk.trips, ∀ i (h : i < t.calls.length), (Lit.int .i64 t.calls[i].st).wf = true) := hwf
  have HRA : Hid (RepsAt w ra rs) := hra
  clear hsa hta hwf hra
  have hb0 := ibox w (.cells #[.slice sa bk.sts.length sc, .slice ta bk.trips.length tc] 26)
  go_enter Tryd.func18, Tryd.ntmps18
  go_wp2_with fail
  refine (readReports_any _ bk _ _ rs _ hn hm HWF.out (by exact HBK.out.keep hb0) (by exact HRA.out.keep hb0) (by exact hev.keep hb0)).mono ?_
  rintro e w1 ⟨hms, hb1⟩
  have B1 : Below (w.heap.size + 1) (w.alloc (.cells #[.slice sa bk.sts.length sc, .slice ta bk.trips.length tc] 26)) w1 := hb1.mono (by simp)
  have hB1 : Below w.heap.size w w1 := hb0.trans (B1.mono (by omega))
  have q0 : w1.cell? ⟨w.heap.size, 0, none⟩ = some (.slice sa bk.sts.length sc) := by rw [B1.cell (p := ⟨w.heap.size, 0, none⟩) (by simp)]; simp [go_sem]
  have q1 : w1.cell? ⟨w.heap.size, 1, none⟩ = some (.slice ta bk.trips.length tc) := by rw [B1.cell (p := ⟨w.heap.size, 1, none⟩) (by simp)]; simp [go_sem]
  clear hb1 B1
  rcases hms with ⟨hF, rfl⟩ | ⟨hT, b, rfl, hmsg⟩
  · have HF : Hid (knownD bk rs tick = []) := knownD_no hF
    clear hF q0 q1
    go_wp2_with fail
    go_ret
    refine ⟨_, rfl, ?_, hB1⟩
    rw [HF.out]
    exact ⟨[], World.ownsRow_nil _ _ _ _, rfl, fun i h => by simp at h, fun i j hi => by simp at hi⟩
  · have HK : Hid (knownD bk rs tick = newsTo bk tick rs) := knownD_yes hT
    obtain ⟨r0, r5, rk⟩ := reportsB_inv hT
    have HRK : Hid (∀ k (hk : k < rs.length), reportB bk rs[k] = true ∧ prevTick rs k ≤ rs[k].tick) := rk
    have h40 := right_trips r0
    have H20 : Hid (∀ i (h : i < bk.trips.length), 2 ≤ bk.trips[i].calls.length ∧ bk.trips[i].calls.length ≤ 20) := fun i h => tripB_len ((faultD_zero r0).2 i h)
    have HMS : Hid (∀ i (h : i < rs.length), w1.cell? ⟨b, i, none⟩ = some (readV bk rs[i])) := hmsg
    have hz := zeroB
    have HZ4 : Hid ((gridCells zeroGrid).toArray.size = 4000) := grid_zero.size
    have HPG : Hid (Grid (planGrid bk)) := planTo_grid (Nat.le_refl _) h40 (fun i h => (H20.out i h).2)
    have HX4 : Hid ((gridCells (planGrid bk)).toArray.size = 4000) := HPG.out.size
    have HXI : Hid ((Tryd.prog.info? 107).map (·.size) = some (gridCells (planGrid bk)).toArray.size) := by unfold Hid; rw [HX4.out]; exact sizeB
    have HX1 : Hid ((gridCells (planGrid bk)).toArray.all (·.oneCell') = true) := gridCells_one _
    have HZX : Hid ((gridCells zeroGrid).toArray.size = (gridCells (planGrid bk)).toArray.size) := by unfold Hid; rw [HZ4.out, HX4.out]
    generalize hZ : (gridCells zeroGrid).toArray = Z at *
    clear hT r0 rk hmsg HX4
    go_wp2_with fail
    refine (planned_any _ bk _ h40 (fun i h => (H20.out i h).2) (by exact HBK.out.keep hB1)).mono ?_
    rintro e w2 ⟨rfl, hb2⟩
    have hB2 : Below w.heap.size w w2 := hB1.trans (hb2.mono hB1.size)
    have a0 := cell_keep hb2 q0
    have a1 := cell_keep hb2 q1
    have HM2 : Hid (∀ i (h : i < rs.length), w2.cell? ⟨b, i, none⟩ = some (readV bk rs[i])) := fun i h => cell_keep hb2 (HMS.out i h)
    have z2 := cell_lt a0
    clear q0 q1 HMS hb2
    go_wp2_with (refine wpList_store_row (by rfl) 107 (.tmp 9) (.tmp 22) (by rfl) w2.heap.size (gridCells (planGrid bk)).toArray (by rfl) (by rfl) 107 Z (heap_alloc_last w2 _) HXI.out HZX.out HX1.out ?_)
    go_loopw [25] (fun i wr => ∃ (k : Nat) (G : List (List NewsD)), k ≤ rs.length ∧ i = .int .i64 k ∧ Hid (wr.heap[w2.heap.size]? = some (.cells (gridCells G).toArray 107 (0, 0))) ∧ Hid (Grid G) ∧ Hid (cutRows bk.trips G = newsTo bk tick (rs.take k)) ∧ Below w2.heap.size w2 wr) (fun i _ => rs.length - (intOf i).toNat)
    case atStart =>
      refine ⟨0, planGrid bk, Nat.zero_le _, rfl, setRow_heap _ _ _ _ _ _ (heap_alloc_last w2 _), HPG, cut_plan bk, below_setRow ((Below.refl _ _).alloc (Nat.le_refl _) _) _ _ (Nat.le_refl _)⟩
    case round =>
      obtain ⟨k, G, hk, rfl, hgr, hG, hcut, hbel⟩ := hrel
      have hB : Below w.heap.size w wr := hB2.trans (hbel.mono hB2.size)
      have e0 := cell_keep hbel a0
      have e1 := cell_keep hbel a1
      have HGI : Hid ((Tryd.prog.info? 107).map (·.size) = some (gridCells G).toArray.size) := by unfold Hid; rw [hG.out.size]; exact sizeB
      have hzk : w2.heap.size < wr.heap.size := (Array.getElem?_eq_some_iff.1 hgr.out).1
      clear hz HXI HX1 HZX HZ4 HPG a0 a1
      by_cases hlt : k < rs.length
      · obtain ⟨rb, ro, rfl, c0, _⟩ := HRA.out.keep hB k hlt
        obtain ⟨hrep, _⟩ := HRK.out k hlt
        have hki : (k : Int) < (rs.length : Int) := by omega
        have hk0 : (0 : Int) ≤ (k : Int) := by omega
        have hmc : wr.cell? ⟨b, k, none⟩ = some (msgV rs[k] (lastB bk rs[k])) := by
          have := cell_keep hbel (HM2.out k hlt)
          rw [readV_yes hrep] at this; exact this
        obtain ⟨t, m, hmv, hme, hna⟩ := msgV_where rs[k] (lastB bk rs[k])
        rw [hmv] at hmc
        by_cases hbr : tick < rs[k].tick
        · have HFK : Hid (cutRows bk.trips G = knownD bk rs tick) := by
            unfold Hid
            rw [hcut.out, HK.out, newsTo_break hlt hbr (fun i h => (HRK.out i h).2)]
          generalize rs[k] = r at *
          clear hme hna hmv hrep
          go_wp2_with (refine wpList_load_row (by rfl) 107 (.tmp 9) (by rfl) w2.heap.size (by rfl) 107 (gridCells G).toArray (0, 0) _ hgr.out underB rfl HGI.out ?_)
          refine (rows_any _ bk G _ hG.out h40 H20.out (by exact HBK.out.keep hB)).mono ?_
          rintro e w5 ⟨v5, rfl, hown5, hb5⟩
          have HO5 : Hid (NewsOwn w.heap.size w5 v5 (knownD bk rs tick)) := by
            rw [HFK.out] at hown5; exact hown5.mono hB.size
          clear hown5
          go_wp2_with fail
          go_ret
          exact ⟨_, rfl, HO5.out, hB.trans (hb5.mono hB.size)⟩
        · obtain ⟨_, _, ho, ⟨i1, i2⟩, i3, i4⟩ := reportB_head hrep
          obtain ⟨j, hj⟩ := Int.eq_ofNat_of_zero_le i1
          obtain ⟨c, hc⟩ := Int.eq_ofNat_of_zero_le i3
          have hjl : j < bk.trips.length := by omega
          have hjG : j < G.length := by rw [hG.out.len]; omega
          have hcl : callsOf bk rs[k].trip = bk.trips[j].calls := by rw [hj]; exact callsOf_at bk j hjl
          have hG20 : G[j].length = 20 := hG.out.at j hjG
          have hcG : c < G[j].length := by rw [hG20]; rw [hcl, hc] at i4; have := H20.out j hjl; omega
          have hrow : (if allowsX G[j] c (lastB bk rs[k]) G[j][c] rs[k] then doRow rs[k] G[j] else G[j]).length = 20 := by
            split
            · rw [doRow_length]; exact hG20
            · exact hG20
          have HCS : Hid (cutRows bk.trips (G.set j (if allowsX G[j] c (lastB bk rs[k]) G[j][c] rs[k] then doRow rs[k] G[j] else G[j])) = newsTo bk tick (rs.take (k + 1))) := by
            unfold Hid
            rw [newsTo_take bk tick rs k hlt]
            exact cut_step hG.out h40 H20.out hcut.out hrep (by omega) hj hjl hc hjG hcG
          have HAF : Hid (∀ w, Calls Tryd.prog 56 #[.agg (rowCells G[j]).toArray, .iface t m] w fun e w' => e = .returned (.agg (rowCells (if allowsX G[j] c (lastB bk rs[k]) G[j][c] rs[k] then doRow rs[k] G[j] else G[j])).toArray) ∧ Below w.heap.size w w') := fun w => by
            have := after_any G[j] rs[k] (lastB bk rs[k]) c w hG20 hc hcG ho
            rw [hmv] at this
            exact this
          generalize hrr : (if allowsX G[j] c (lastB bk rs[k]) G[j][c] rs[k] then doRow rs[k] G[j] else G[j]) = row at *
          have HG' : Hid (Grid (G.set j row)) := hG.out.set j row hrow
          have HPT : Hid (putAt (gridCells G).toArray (j * 100) (rowCells row) = (gridCells (G.set j row)).toArray) := hG.out.put j hjG row hrow
          have HRI : Hid ((Tryd.prog.info? 105).map (·.size) = some (rowCells row).length) := rowCells_len hrow
          have HJI : Hid ((Tryd.prog.info? 105).map (·.size) = some (rowCells G[j]).length) := rowCells_len hG20
          have HFT : Hid (j * 100 + (rowCells row).length ≤ (gridCells G).toArray.size) := by unfold Hid; rw [rowCells_length, hrow, hG.out.size]; omega
          have hj0 : (0 : Int) ≤ (j : Int) := by omega
          have hj40 : (j : Int) < 40 := by omega
          have hf0 := fld0
          rw [hj] at hme
          generalize rs[k].call = rcall at *
          generalize lastB bk rs[k] = last at *
          generalize rs[k].tick = rtick at *
          clear hmv hrep ho i1 i2 i3 i4 hj hcl hG20 hrow hrr hcut
          go_wp2_with fail
          refine (where_any _ _ _ _).mono ?_
          rintro e w3 ⟨rfl, hb3⟩
          have HG3 : Hid (w3.heap[w2.heap.size]? = some (.cells (gridCells G).toArray 107 (0, 0))) := by unfold Hid; rw [hb3.block _ hzk]; exact hgr.out
          have hbel3 : Below w2.heap.size w2 w3 := hbel.trans (hb3.mono hbel.size)
          have hzk3 : w2.heap.size < w3.heap.size := (Array.getElem?_eq_some_iff.1 HG3.out).1
          clear hb3 e0 e1 c0 hmc
          go_wp2_with (refine wpList_load_part (by rfl) 105 (.tmp 42) (by rfl) w2.heap.size (j * 100) (by rfl) (rowCells G[j]) _ (grid_row hG.out j hjG HG3.out) underT rfl HJI.out ?_)
          refine (HAF.out _).mono ?_
          rintro e w4 ⟨rfl, hb4⟩
          have HG4 : Hid (w4.heap[w2.heap.size]? = some (.cells (gridCells G).toArray 107 (0, 0))) := by unfold Hid; rw [hb4.block _ hzk3]; exact HG3.out
          have hbel4 : Below w2.heap.size w2 w4 := hbel3.trans (hb4.mono hbel3.size)
          clear hb4
          go_wp2_with (refine wpList_store_part (by rfl) 105 (.tmp 46) (.tmp 45) (by rfl) w2.heap.size (j * 100) (rowCells row) (by rfl) (by rfl) 107 _ HG4.out HRI.out HFT.out (rowCells_one row) ?_)
          go_roundw
          case rel =>
            refine ⟨k + 1, G.set j row, by omega, by go_num, ?_, HG', HCS, below_setRow hbel4 _ _ (Nat.le_refl _)⟩
            rw [HPT.out]
            exact setRow_heap _ _ _ _ _ _ HG4.out
          case measure => simp [intOf]; omega
      · have hk' : k = rs.length := by omega
        have HFK : Hid (cutRows bk.trips G = knownD bk rs tick) := by
          unfold Hid
          rw [hcut.out, HK.out, hk', List.take_length]
        clear hcut
        go_wp2_with (refine wpList_load_row (by rfl) 107 (.tmp 9) (by rfl) w2.heap.size (by rfl) 107 (gridCells G).toArray (0, 0) _ hgr.out underB rfl HGI.out ?_)
        refine (rows_any _ bk G _ hG.out h40 H20.out (by exact HBK.out.keep hB)).mono ?_
        rintro e w5 ⟨v5, rfl, hown5, hb5⟩
        have HO5 : Hid (NewsOwn w.heap.size w5 v5 (knownD bk rs tick)) := by
          rw [HFK.out] at hown5; exact hown5.mono hB.size
        clear hown5
        go_wp2_with fail
        go_ret
        exact ⟨_, rfl, HO5.out, hB.trans (hb5.mono hB.size)⟩

end Go.Proofs.YtjioingdpfgadaaDoor
