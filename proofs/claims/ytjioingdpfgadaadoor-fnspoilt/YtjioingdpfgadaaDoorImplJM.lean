import Derived.Test.YtjioingdpfgadaaDoorImplYM
import Derived.Test.YtjioingdpfgadaaDoorImplWM
import Derived.Test.YtjioingdpfgadaaDoorSpecOM
import Derived.Test.YtjioingdpfgadaaDoorProg
import Derived.Test.YtjioingdpfgadaaDoorImplHM
import Derived.BigRegion
import Derived.Deep.Cut
import Derived.Deep.DeepCutAuto
import Derived.Test.YtjioingdpfgadaaDoorChkDM
namespace Go.Proofs.YtjioingdpfgadaaDoor
open Go Go.RowKit Go.Deep

theorem cutRows_set {ts : List TripD} {G : List (List NewsD)} (j : Nat) (h1 : j < ts.length) (row : List NewsD) : cutRows ts (G.set j row) = (cutRows ts G).set j (row.take ts[j].calls.length) := by
  apply List.ext_getElem?
  intro i
  rw [List.getElem?_set]
  unfold cutRows
  by_cases e : j = i
  · subst e
    rw [if_pos rfl]
    by_cases hG : j < G.length
    · rw [if_pos (by simp; omega), List.getElem?_zipWith, List.getElem?_eq_getElem h1, List.getElem?_set_self (by exact hG)]
    · rw [if_neg (by simp; omega), List.getElem?_eq_none (by simp; omega)]
  · rw [if_neg e, List.getElem?_zipWith, List.getElem?_zipWith, List.getElem?_set_ne e]
theorem cutRows_at {ts : List TripD} {G : List (List NewsD)} (j : Nat) (h1 : j < ts.length) (h2 : j < G.length) (h : j < (cutRows ts G).length) : (cutRows ts G)[j] = G[j].take ts[j].calls.length := by simp [cutRows]
theorem doRow_take (r : RepD) (ns : List NewsD) (n : Nat) : (doRow r ns).take n = doRow r (ns.take n) := by
  apply List.ext_getElem?
  intro i
  unfold doRow
  rw [List.getElem?_take, List.getElem?_mapIdx, List.getElem?_mapIdx, List.getElem?_take]
  split <;> simp
theorem cut_plan (bk : BookD) : cutRows bk.trips (planGrid bk) = startNews bk := by
  apply List.ext_getElem?
  intro i
  unfold cutRows startNews planGrid planTo
  rw [List.getElem?_zipWith, List.take_length, List.getElem?_map]
  by_cases hi : i < bk.trips.length
  · rw [List.getElem?_append_left (by simpa using hi), List.getElem?_map, List.getElem?_eq_getElem hi]
    simp [padRow, startRow]
  · rw [List.getElem?_eq_none (by omega : bk.trips.length ≤ i)]
    rfl

/-- What the program makes of a trip's row behind a message is what the document asks. -/
theorem cut_step {bk : BookD} {G N : List (List NewsD)} {r : RepD} {tick : Int} {j c : Nat} (hG : Grid G) (h40 : bk.trips.length ≤ 40) (h20 : ∀ i (h : i < bk.trips.length), 2 ≤ bk.trips[i].calls.length ∧ bk.trips[i].calls.length ≤ 20) (hN : cutRows bk.trips G = N)
    (hr : reportB bk r = true) (ht : r.tick ≤ tick) (hj : r.trip = (j : Int)) (hjl : j < bk.trips.length) (hc : r.call = (c : Int)) (hjG : j < G.length) (hcG : c < G[j].length) :
    cutRows bk.trips (G.set j (if allowsX G[j] c (lastB bk r) G[j][c] r then doRow r G[j] else G[j])) = stepNews tick N r := by
  obtain ⟨_, _, ho, _, _, i4⟩ := reportB_head hr
  have hcl : callsOf bk r.trip = bk.trips[j].calls := by rw [hj]; exact callsOf_at bk j hjl
  have hcn : c < bk.trips[j].calls.length := by rw [hcl, hc] at i4; omega
  have hNl : N.length = bk.trips.length := by rw [← hN]; exact cutRows_length (by rw [hG.len]; exact h40)
  have hjN : j < N.length := by omega
  have hNj : N[j] = G[j].take bk.trips[j].calls.length := by subst hN; exact cutRows_at j hjl hjG hjN
  have hNl2 : N[j].length = bk.trips[j].calls.length := by rw [hNj, List.length_take, hG.at j hjG]; have := h20 j hjl; omega
  have hcN : c < N[j].length := by omega
  have hfull : ∀ i (h : i < N[j].length), G[j][i]? = some N[j][i] := fun i h => by
    have : N[j][i]? = some N[j][i] := List.getElem?_eq_getElem h
    rw [← this, hNj, List.getElem?_take, if_pos (by omega)]
  have hcnt : allowsX G[j] c (lastB bk r) G[j][c] r = countsN N r := by
    rw [countsN_at N r j c hjN hj hcN hc]
    refine allowsX_counts ho hcN hcG hfull ?_
    unfold lastB
    rw [hc, hcl, hNl2]
    by_cases h : c + 1 < bk.trips[j].calls.length
    · rw [decide_eq_true h]; simp; omega
    · rw [decide_eq_false h]; simp; omega
  rw [cutRows_set j hjl, hN, hcnt]
  cases hcc : countsN N r
  · rw [stepNews_no tick N r (fun h => by rw [hcc] at h; exact absurd h.2 (by decide))]
    simp only [Bool.false_eq_true, ↓reduceIte]
    rw [← hNj]
    exact set_same N j _ (List.getElem?_eq_getElem hjN)
  · rw [stepNews_yes tick N r j hjN hj ht hcc]
    simp only [↓reduceIte]
    rw [doRow_take, ← hNj]

/-- Behind a report past the tick nothing counts any more. -/
theorem newsTo_break {bk : BookD} {tick : Int} {rs : List RepD} {k : Nat} (hk : k < rs.length) (ht : tick < rs[k].tick) (hp : ∀ i (h : i < rs.length), prevTick rs i ≤ rs[i].tick) : newsTo bk tick rs = newsTo bk tick (rs.take k) := by
  have hmono : ∀ i (h : i < rs.length), k ≤ i → tick < rs[i].tick := by
    intro i
    induction i with
    | zero => intro h hki; have : k = 0 := by omega
              subst this; exact ht
    | succ i ih =>
      intro h hki
      by_cases e : k = i + 1
      · subst e; exact ht
      · have h1 := ih (by omega) (by omega)
        have h2 := hp (i + 1) h
        rw [prevTick_succ rs i (by omega)] at h2
        omega
  have hno : ∀ (l : List RepD) (N : List (List NewsD)), (∀ r ∈ l, tick < r.tick) → l.foldl (stepNews tick) N = N := by
    intro l
    induction l with
    | nil => intro N _; rfl
    | cons r l ih =>
      intro N h
      rw [List.foldl_cons, stepNews_no tick N r (fun g => by have := h r (by simp); omega)]
      exact ih N (fun x hx => h x (by simp [hx]))
  unfold newsTo
  have e : rs = rs.take k ++ rs.drop k := (List.take_append_drop k rs).symm
  have e2 : rs.foldl (stepNews tick) (startNews bk) = (rs.take k ++ rs.drop k).foldl (stepNews tick) (startNews bk) := by rw [← e]
  rw [e2, List.foldl_append, hno]
  intro r hr
  obtain ⟨i, hi, rfl⟩ := List.getElem_of_mem hr
  rw [List.length_drop] at hi
  rw [List.getElem_drop]
  exact hmono (k + i) (by omega) (by omega)

end Go.Proofs.YtjioingdpfgadaaDoor
namespace Go.Proofs.YtjioingdpfgadaaDoor
open Go Go.RowKit

set_option maxRecDepth 100000 in
set_option maxHeartbeats 8000000 in
theorem readReport_any (v : Value) (bk : BookD) (r : RepD) (w : World) (hn : bookSize bk ≤ 1048576) (hok : (faultD bk).1 = 0) (hat : BookAt w v bk) :
    Calls Tryd.prog 69 #[v, repV r] w fun e w' => e = .returned (readV bk r) ∧ Below w.heap.size w w' := by
  obtain ⟨sa, sc, ta, tc, rfl, hsa, hta⟩ := hat
  have HBK : Hid (BookAt w (.agg #[.slice sa bk.sts.length sc, .slice ta bk.trips.length tc]) bk) := ⟨sa, sc, ta, tc, rfl, hsa, hta⟩
  have HTA : Hid (TripsAt w ta bk.trips) := hta
  clear hsa hta
  have n2 : bk.trips.length ≤ 1048576 := by unfold bookSize tripsSize at hn; omega
  have n3 : ∀ i (h : i < bk.trips.length), bk.trips[i].calls.length ≤ 1048576 := by
    intro i h
    have := sumTrips_get bk.trips i h
    unfold bookSize tripsSize at hn; unfold tripSize at this; omega
  obtain ⟨W, hW⟩ : ∃ W, ((w.alloc (.cells #[.slice sa bk.sts.length sc, .slice ta bk.trips.length tc] 26)).alloc (.cells #[.int .i64 r.tick, .int .i64 r.op, .int .i64 r.trip, .int .i64 r.call, .int .i64 r.n] 45)) = W := ⟨_, rfl⟩
  have hb0 : Below w.heap.size w W := by subst hW; exact (ibox _ _).alloc (by simp) _
  have q0 : W.cell? ⟨w.heap.size, 0, none⟩ = some (.slice sa bk.sts.length sc) := by rw [← hW]; simp [go_sem]
  have q1 : W.cell? ⟨w.heap.size, 1, none⟩ = some (.slice ta bk.trips.length tc) := by rw [← hW]; simp [go_sem]
  have p0 : W.cell? ⟨w.heap.size + 1, 0, none⟩ = some (.int .i64 r.tick) := by rw [← hW]; simp [go_sem]
  have p1 : W.cell? ⟨w.heap.size + 1, 1, none⟩ = some (.int .i64 r.op) := by rw [← hW]; simp [go_sem]
  have p2 : W.cell? ⟨w.heap.size + 1, 2, none⟩ = some (.int .i64 r.trip) := by rw [← hW]; simp [go_sem]
  have p3 : W.cell? ⟨w.heap.size + 1, 3, none⟩ = some (.int .i64 r.call) := by rw [← hW]; simp [go_sem]
  have p4 : W.cell? ⟨w.heap.size + 1, 4, none⟩ = some (.int .i64 r.n) := by rw [← hW]; simp [go_sem]
  have H0 : Hid ((faultD bk).1 = 0) := hok
  clear hok
  unfold repV
  by_cases t1 : 0 ≤ r.tick
  · by_cases t2 : r.tick ≤ 1000000
    · cases hcl : hasCallB bk r.trip r.call
      · have HF : Hid (readV bk r = .nilIface) := readV_no (reportB_no (fun h => by unfold hasCallB at hcl; exact of_decide_eq_false hcl ⟨h.2.2.2.1, h.2.2.2.2⟩))
        clear n3
        go_enter Tryd.func69, Tryd.ntmps69
        go_wp2_with fail
        refine (hasCall_any _ bk _ _ _ hn (by exact HBK.out.keep hb0)).mono ?_
        rintro e w1 ⟨rfl, hb1⟩
        rw [hcl]
        go_wp2_with fail
        go_ret
        exact ⟨ret_same HF.out.symm, hb0.trans (hb1.mono hb0.size)⟩
      · have hcl' := of_decide_eq_true hcl
        obtain ⟨⟨i1, i2⟩, i3, i4⟩ := hcl'
        obtain ⟨k, hk⟩ := Int.eq_ofNat_of_zero_le i1
        have hkl : k < bk.trips.length := by omega
        have HC : Hid (callsOf bk r.trip = bk.trips[k].calls) := by unfold Hid; rw [hk]; exact callsOf_at bk k hkl
        have HLB : Hid (lastB bk r = (r.call == ((bk.trips[k].calls.length : Int) - 1))) := by unfold Hid lastB; rw [HC.out]
        have HH : Hid ((0 ≤ r.tick ∧ r.tick ≤ 1000000) ∧ (0 ≤ r.trip ∧ r.trip < bk.trips.length) ∧ (0 ≤ r.call ∧ r.call < (callsOf bk r.trip).length)) := ⟨⟨t1, t2⟩, ⟨i1, i2⟩, i3, i4⟩
        have HN : Hid ((1 ≤ r.op ∧ r.op ≤ 5) → reportB bk r = numB r) := fun ho => reportB_yes ⟨H0.out, HH.out.1, ho, HH.out.2.1, HH.out.2.2⟩
        have Hk : Hid (r.trip = (k : Int)) := hk
        have n4 := n3 k hkl
        clear n3 i1 i2 i3 i4 hk HC
        go_enter Tryd.func69, Tryd.ntmps69
        go_wp2_with fail
        refine (hasCall_any _ bk _ _ _ hn (by exact HBK.out.keep hb0)).mono ?_
        rintro e w1 ⟨rfl, hb1⟩
        rw [hcl]
        have hB1 : Below w.heap.size w w1 := hb0.trans (hb1.mono hb0.size)
        have a0 := cell_keep hb1 q0
        have a1 := cell_keep hb1 q1
        have d0 := cell_keep hb1 p0
        have d1 := cell_keep hb1 p1
        have d2 := cell_keep hb1 p2
        have d3 := cell_keep hb1 p3
        have d4 := cell_keep hb1 p4
        rw [Hk.out] at d2
        have hi0 : (0 : Int) ≤ (k : Int) := by omega
        have hi1 : (k : Int) < (bk.trips.length : Int) := by omega
        obtain ⟨b, o, ca, cc, rfl, hc0, hc1, _⟩ := HTA.out.keep hB1 k hkl
        have z0 := cell_lt a0
        have z1 := cell_lt d0
        have zb := cell_lt hc1
        clear q0 q1 p0 p1 p2 p3 p4 hcl hW hc0 hb1 hb0
        go_upto_region 3 with fail
        go_cut [5] (fun s wx => s = .pointer (some ⟨w1.heap.size, 0, none⟩) ∧ wx.cell? ⟨w1.heap.size, 0, none⟩ = some (.int .i64 (k : Int)) ∧ wx.cell? ⟨w1.heap.size, 1, none⟩ = some (.int .i64 r.call) ∧ wx.cell? ⟨w1.heap.size, 2, none⟩ = some (.bool (r.call == ((bk.trips[k].calls.length : Int) - 1))) ∧ Below w1.heap.size w1 wx)
        case first =>
          go_region
          go_wp2_with fail
          go_meet
          exact ⟨rfl, by simp [go_sem], by simp [go_sem], by simp [go_sem], ((Below.refl _ _).alloc (Nat.le_refl _) _).drew⟩
        case rest =>
          obtain ⟨rfl, f0, f1, f2, hb2⟩ := hcut
          rename World => w2
          have hB2 : Below w.heap.size w w2 := hB1.trans (hb2.mono hB1.size)
          have e1 := cell_keep hb2 d1
          have e4 := cell_keep hb2 d4
          clear a0 a1 d0 d1 d2 d3 d4 hc1 hi0 hi1 z0 z1 zb hb2 hB1
          by_cases g1 : r.op = 1
          · have hg1 : (r.op == 1) = true := by simp [g1]
            by_cases m1 : 0 ≤ r.n
            · by_cases m2 : r.n ≤ 100000
              · have HV : Hid (readV bk r = .iface 155 (.agg #[.int .i64 r.trip, .int .i64 r.call, .bool (lastB bk r), .int .i64 r.n])) := by
                  unfold Hid; rw [readV_yes (by rw [HN.out (by omega), numB_1 g1]; exact decide_eq_true ⟨m1, m2⟩)]; unfold msgV; rw [if_pos g1]
                rw [HLB.out, Hk.out] at HV
                clear g1
                go_wp2_with fail
                go_ret
                exact ⟨ret_same HV.out.symm, hB2⟩
              · have HV : Hid (readV bk r = .nilIface) := readV_no (reportB_num (fun _ => by rw [numB_1 g1]; exact decide_eq_false (fun h => m2 h.2)))
                have hg2 : (r.op == 2) = false := by simp [g1]
                have hg3 : (r.op == 3) = false := by simp [g1]
                have hg4 : (r.op == 4) = false := by simp [g1]
                have hg5 : (r.op == 5) = false := by simp [g1]
                clear g1
                go_wp2_with fail
                go_ret
                exact ⟨ret_same HV.out.symm, hB2⟩
            · have HV : Hid (readV bk r = .nilIface) := readV_no (reportB_num (fun _ => by rw [numB_1 g1]; exact decide_eq_false (fun h => m1 h.1)))
              have hg2 : (r.op == 2) = false := by simp [g1]
              have hg3 : (r.op == 3) = false := by simp [g1]
              have hg4 : (r.op == 4) = false := by simp [g1]
              have hg5 : (r.op == 5) = false := by simp [g1]
              clear g1
              go_wp2_with fail
              go_ret
              exact ⟨ret_same HV.out.symm, hB2⟩
          · have hg1 : (r.op == 1) = false := by simp [g1]
            by_cases g2 : r.op = 2
            · have hg2 : (r.op == 2) = true := by simp [g2]
              by_cases m1 : 1 ≤ r.n
              · by_cases m2 : r.n ≤ 20
                · have HV : Hid (readV bk r = .iface 157 (.agg #[.int .i64 r.trip, .int .i64 r.call, .bool (lastB bk r), .int .i64 r.n])) := by
                    unfold Hid; rw [readV_yes (by rw [HN.out (by omega), numB_2 g2]; exact decide_eq_true ⟨m1, m2⟩)]; unfold msgV; rw [if_neg g1, if_pos g2]
                  rw [HLB.out, Hk.out] at HV
                  clear g1 g2
                  go_wp2_with fail
                  go_ret
                  exact ⟨ret_same HV.out.symm, hB2⟩
                · have HV : Hid (readV bk r = .nilIface) := readV_no (reportB_num (fun _ => by rw [numB_2 g2]; exact decide_eq_false (fun h => m2 h.2)))
                  have hg3 : (r.op == 3) = false := by simp [g2]
                  have hg4 : (r.op == 4) = false := by simp [g2]
                  have hg5 : (r.op == 5) = false := by simp [g2]
                  clear g1 g2
                  go_wp2_with fail
                  go_ret
                  exact ⟨ret_same HV.out.symm, hB2⟩
              · have HV : Hid (readV bk r = .nilIface) := readV_no (reportB_num (fun _ => by rw [numB_2 g2]; exact decide_eq_false (fun h => m1 h.1)))
                have hg3 : (r.op == 3) = false := by simp [g2]
                have hg4 : (r.op == 4) = false := by simp [g2]
                have hg5 : (r.op == 5) = false := by simp [g2]
                clear g1 g2
                go_wp2_with fail
                go_ret
                exact ⟨ret_same HV.out.symm, hB2⟩
            · have hg2 : (r.op == 2) = false := by simp [g2]
              cases m0 : (r.n == 0)
              · have HV : Hid (readV bk r = .nilIface) := readV_no (reportB_num (fun _ => by rw [numB_3 g1 g2]; exact m0))
                by_cases g3 : r.op = 3
                · have hg3 : (r.op == 3) = true := by simp [g3]
                  have hg4 : (r.op == 4) = false := by simp [g3]
                  have hg5 : (r.op == 5) = false := by simp [g3]
                  clear g1 g2 g3
                  go_wp2_with fail
                  go_ret
                  exact ⟨ret_same HV.out.symm, hB2⟩
                · have hg3 : (r.op == 3) = false := by simp [g3]
                  by_cases g4 : r.op = 4
                  · have hg4 : (r.op == 4) = true := by simp [g4]
                    have hg5 : (r.op == 5) = false := by simp [g4]
                    clear g1 g2 g3 g4
                    go_wp2_with fail
                    go_ret
                    exact ⟨ret_same HV.out.symm, hB2⟩
                  · have hg4 : (r.op == 4) = false := by simp [g4]
                    cases hg5 : (r.op == 5)
                    · clear g1 g2 g3 g4
                      go_wp2_with fail
                      go_ret
                      exact ⟨ret_same HV.out.symm, hB2⟩
                    · clear g1 g2 g3 g4
                      go_wp2_with fail
                      go_ret
                      exact ⟨ret_same HV.out.symm, hB2⟩
              · by_cases g3 : r.op = 3
                · have hg3 : (r.op == 3) = true := by simp [g3]
                  have HV : Hid (readV bk r = .iface 159 (.agg #[.int .i64 r.trip, .int .i64 r.call, .bool (lastB bk r)])) := by
                    unfold Hid; rw [readV_yes (by rw [HN.out (by omega), numB_3 g1 g2]; exact m0)]; unfold msgV; rw [if_neg g1, if_neg g2, if_pos g3]
                  rw [HLB.out, Hk.out] at HV
                  clear g1 g2 g3
                  go_wp2_with fail
                  go_ret
                  exact ⟨ret_same HV.out.symm, hB2⟩
                · have hg3 : (r.op == 3) = false := by simp [g3]
                  by_cases g4 : r.op = 4
                  · have hg4 : (r.op == 4) = true := by simp [g4]
                    have HV : Hid (readV bk r = .iface 160 (.agg #[.int .i64 r.trip, .int .i64 r.call, .bool (lastB bk r)])) := by
                      unfold Hid; rw [readV_yes (by rw [HN.out (by omega), numB_3 g1 g2]; exact m0)]; unfold msgV; rw [if_neg g1, if_neg g2, if_neg g3, if_pos g4]
                    rw [HLB.out, Hk.out] at HV
                    clear g1 g2 g3 g4
                    go_wp2_with fail
                    go_ret
                    exact ⟨ret_same HV.out.symm, hB2⟩
                  · have hg4 : (r.op == 4) = false := by simp [g4]
                    by_cases g5 : r.op = 5
                    · have hg5 : (r.op == 5) = true := by simp [g5]
                      have HV : Hid (readV bk r = .iface 161 (.agg #[.int .i64 r.trip, .int .i64 r.call, .bool (lastB bk r)])) := by
                        unfold Hid; rw [readV_yes (by rw [HN.out (by omega), numB_3 g1 g2]; exact m0)]; unfold msgV; rw [if_neg g1, if_neg g2, if_neg g3, if_neg g4]
                      rw [HLB.out, Hk.out] at HV
                      clear g1 g2 g3 g4 g5
                      go_wp2_with fail
                      go_ret
                      exact ⟨ret_same HV.out.symm, hB2⟩
                    · have hg5 : (r.op == 5) = false := by simp [g5]
                      have HV : Hid (readV bk r = .nilIface) := readV_no (reportB_no (fun h => by have := h.2.2.1; omega))
                      clear g1 g2 g3 g4 g5
                      go_wp2_with fail
                      go_ret
                      exact ⟨ret_same HV.out.symm, hB2⟩
    · have HF : Hid (readV bk r = .nilIface) := readV_no (reportB_no (fun h => t2 h.2.1.2))
      clear n3
      go_enter Tryd.func69, Tryd.ntmps69
      go_wp2_with fail
      go_ret
      exact ⟨ret_same HF.out.symm, hb0⟩
  · have HF : Hid (readV bk r = .nilIface) := readV_no (reportB_no (fun h => t1 h.2.1.1))
    clear n3
    go_enter Tryd.func69, Tryd.ntmps69
    go_wp2_with fail
    go_ret
    exact ⟨ret_same HF.out.symm, hb0⟩

end Go.Proofs.YtjioingdpfgadaaDoor
namespace Go.Proofs.YtjioingdpfgadaaDoor
open Go Go.RowKit

theorem neqMsg (t : TypeId) (v : Value) (w : World) : (binOp .neq 110 (.iface t v) .nilIface).run Tryd.prog w = .ok (.bool true) w := by kernel_rfl
theorem neqNone (w : World) : (binOp .neq 110 .nilIface .nilIface).run Tryd.prog w = .ok (.bool false) w := by kernel_rfl
theorem eqlMsg (t : TypeId) (v : Value) (w : World) : (binOp .eql 110 (.iface t v) .nilIface).run Tryd.prog w = .ok (.bool false) w := by kernel_rfl
theorem eqlNone (w : World) : (binOp .eql 110 .nilIface .nilIface).run Tryd.prog w = .ok (.bool true) w := by kernel_rfl
theorem msgV_iface (r : RepD) (l : Bool) : ∃ t v, msgV r l = .iface t v := by
  unfold msgV
  split
  · exact ⟨_, _, rfl⟩
  · split
    · exact ⟨_, _, rfl⟩
    · split
      · exact ⟨_, _, rfl⟩
      · split
        · exact ⟨_, _, rfl⟩
        · exact ⟨_, _, rfl⟩

set_option maxRecDepth 100000 in
set_option maxHeartbeats 1000000 in
theorem implReportOk_any (v : Value) (bk : BookD) (r : RepD) (w : World) (hn : bookSize bk ≤ 1048576) (hwf : ∀ t ∈ bk.trips, ∀ i (h : i < t.calls.length), (Lit.int .i64 t.calls[i].st).wf = true) (hat : BookAt w v bk) (hev : ErrVars w) :
    Calls Tryd.prog 29 #[v, repV r] w fun e w' => e = .returned (.bool (reportB bk r)) ∧ Below w.heap.size w w' := by
  obtain ⟨sa, sc, ta, tc, rfl, hsa, hta⟩ := hat
  have HBK : Hid (BookAt w (.agg #[.slice sa bk.sts.length sc, .slice ta bk.trips.length tc]) bk) := ⟨sa, sc, ta, tc, rfl, hsa, hta⟩
  have HWF : Hid (∀ t ∈ bk.trips, ∀ i (h : i < t.calls.length), (Lit.int .i64 t.calls[i].st).wf = true) := hwf
  clear hsa hta hwf
  obtain ⟨W, hW⟩ : ∃ W, ((w.alloc (.cells #[.slice sa bk.sts.length sc, .slice ta bk.trips.length tc] 26)).alloc (.cells #[.int .i64 r.tick, .int .i64 r.op, .int .i64 r.trip, .int .i64 r.call, .int .i64 r.n] 45)) = W := ⟨_, rfl⟩
  have hb0 : Below w.heap.size w W := by subst hW; exact (ibox _ _).alloc (by simp) _
  have q0 : W.cell? ⟨w.heap.size, 0, none⟩ = some (.slice sa bk.sts.length sc) := by rw [← hW]; simp [go_sem]
  have q1 : W.cell? ⟨w.heap.size, 1, none⟩ = some (.slice ta bk.trips.length tc) := by rw [← hW]; simp [go_sem]
  have p0 : W.cell? ⟨w.heap.size + 1, 0, none⟩ = some (.int .i64 r.tick) := by rw [← hW]; simp [go_sem]
  have p1 : W.cell? ⟨w.heap.size + 1, 1, none⟩ = some (.int .i64 r.op) := by rw [← hW]; simp [go_sem]
  have p2 : W.cell? ⟨w.heap.size + 1, 2, none⟩ = some (.int .i64 r.trip) := by rw [← hW]; simp [go_sem]
  have p3 : W.cell? ⟨w.heap.size + 1, 3, none⟩ = some (.int .i64 r.call) := by rw [← hW]; simp [go_sem]
  have p4 : W.cell? ⟨w.heap.size + 1, 4, none⟩ = some (.int .i64 r.n) := by rw [← hW]; simp [go_sem]
  have h1 := neqMsg
  have h2 := neqNone
  unfold repV
  cases hok : ((faultD bk).1 == 0)
  · have HF : Hid (reportB bk r = false) := reportB_no (fun h => by rw [h.1] at hok; simp at hok)
    go_enter Tryd.func29, Tryd.ntmps29
    go_wp2_with fail
    refine (isRight_any _ bk _ hn HWF.out (by exact HBK.out.keep hb0) (by exact hev.keep hb0)).mono ?_
    rintro e w1 ⟨rfl, hb1⟩
    rw [hok]
    go_wp2_with fail
    go_ret
    exact ⟨ret_bool HF.out.symm, hb0.trans (hb1.mono hb0.size)⟩
  · have H0 : Hid ((faultD bk).1 = 0) := by unfold Hid; simpa using hok
    go_enter Tryd.func29, Tryd.ntmps29
    go_wp2_with fail
    refine (isRight_any _ bk _ hn HWF.out (by exact HBK.out.keep hb0) (by exact hev.keep hb0)).mono ?_
    rintro e w1 ⟨rfl, hb1⟩
    rw [hok]
    have hB1 : Below w.heap.size w w1 := hb0.trans (hb1.mono hb0.size)
    have a0 := cell_keep hb1 q0
    have a1 := cell_keep hb1 q1
    have d0 := cell_keep hb1 p0
    have d1 := cell_keep hb1 p1
    have d2 := cell_keep hb1 p2
    have d3 := cell_keep hb1 p3
    have d4 := cell_keep hb1 p4
    clear q0 q1 p0 p1 p2 p3 p4 hb1 hW
    go_wp2_with fail
    refine (readReport_any _ bk r _ hn H0.out (by exact HBK.out.keep hB1)).mono ?_
    rintro e w2 ⟨rfl, hb2⟩
    have hB2 : Below w.heap.size w w2 := hB1.trans (hb2.mono hB1.size)
    clear a0 a1 d0 d1 d2 d3 d4
    cases hr : reportB bk r
    · rw [readV_no hr]
      go_wp2_with fail
      go_ret
      exact ⟨ret_bool hr.symm, hB2⟩
    · rw [readV_yes hr]
      obtain ⟨t, m, hm⟩ := msgV_iface r (lastB bk r)
      rw [hm]
      clear hm
      go_wp2_with fail
      go_ret
      exact ⟨ret_bool hr.symm, hB2⟩

end Go.Proofs.YtjioingdpfgadaaDoor
