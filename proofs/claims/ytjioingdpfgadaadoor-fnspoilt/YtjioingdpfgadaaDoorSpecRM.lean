import Derived.Test.YtjioingdpfgadaaDoorProg
import Derived.Test.YtjioingdpfgadaaDoorSpecBM
import Derived.Test.YtjioingdpfgadaaDoorSzM
import Derived.Test.YtjioingdpfgadaaDoorSpecNM
import Derived.Deep.AppendLies
namespace Go.Proofs.YtjioingdpfgadaaDoor
open Go Go.RowKit Go.Deep Go.BigFrame

theorem l1ok_no (v : Value) (bk : BookD) (w : World) (hn : bookSize bk ≤ 1048576) (hat : BookAt w v bk) (h : ((faultD bk).1 == 0) = false) :
    Calls Tryd.prog 58 #[v] w fun e w' => e = .returned (.bool false) ∧ Below w.heap.size w w' := by
  have := l1ok_any v bk w hn hat
  rwa [h] at this
theorem l1ok_yes (v : Value) (bk : BookD) (w : World) (hn : bookSize bk ≤ 1048576) (hat : BookAt w v bk) (h : ((faultD bk).1 == 0) = true) :
    Calls Tryd.prog 58 #[v] w fun e w' => e = .returned (.bool true) ∧ Below w.heap.size w w' := by
  have := l1ok_any v bk w hn hat
  rwa [h] at this

/-- The two boxes of a report's check, in every later world. -/
structure RepBox (w W : World) (sa ta : Option Addr) (sc tc : Nat) (bk : BookD) (r : RepD) : Prop where
  c0 : ∀ x : Later W.heap.size W, x.w.cell? ⟨w.heap.size, 0, none⟩ = some (.slice sa bk.sts.length sc)
  c1 : ∀ x : Later W.heap.size W, x.w.cell? ⟨w.heap.size, 1, none⟩ = some (.slice ta bk.trips.length tc)
  r0 : ∀ x : Later W.heap.size W, x.w.cell? ⟨w.heap.size + 1, 0, none⟩ = some (.int .i64 r.tick)
  r1 : ∀ x : Later W.heap.size W, x.w.cell? ⟨w.heap.size + 1, 1, none⟩ = some (.int .i64 r.op)
  r2 : ∀ x : Later W.heap.size W, x.w.cell? ⟨w.heap.size + 1, 2, none⟩ = some (.int .i64 r.trip)
  r3 : ∀ x : Later W.heap.size W, x.w.cell? ⟨w.heap.size + 1, 3, none⟩ = some (.int .i64 r.call)
  r4 : ∀ x : Later W.heap.size W, x.w.cell? ⟨w.heap.size + 1, 4, none⟩ = some (.int .i64 r.n)
theorem repBox {w W : World} {sa ta : Option Addr} {sc tc : Nat} {bk : BookD} {r : RepD} (h : ((w.alloc (.cells #[.slice sa bk.sts.length sc, .slice ta bk.trips.length tc] 26)).alloc (.cells #[.int .i64 r.tick, .int .i64 r.op, .int .i64 r.trip, .int .i64 r.call, .int .i64 r.n] 45)) = W) : RepBox w W sa ta sc tc bk r := by
  have q0 : W.cell? ⟨w.heap.size, 0, none⟩ = some (.slice sa bk.sts.length sc) := by rw [← h]; simp [go_sem]
  have q1 : W.cell? ⟨w.heap.size, 1, none⟩ = some (.slice ta bk.trips.length tc) := by rw [← h]; simp [go_sem]
  have p0 : W.cell? ⟨w.heap.size + 1, 0, none⟩ = some (.int .i64 r.tick) := by rw [← h]; simp [go_sem]
  have p1 : W.cell? ⟨w.heap.size + 1, 1, none⟩ = some (.int .i64 r.op) := by rw [← h]; simp [go_sem]
  have p2 : W.cell? ⟨w.heap.size + 1, 2, none⟩ = some (.int .i64 r.trip) := by rw [← h]; simp [go_sem]
  have p3 : W.cell? ⟨w.heap.size + 1, 3, none⟩ = some (.int .i64 r.call) := by rw [← h]; simp [go_sem]
  have p4 : W.cell? ⟨w.heap.size + 1, 4, none⟩ = some (.int .i64 r.n) := by rw [← h]; simp [go_sem]
  exact ⟨later_cell q0 (cell_lt q0), later_cell q1 (cell_lt q1), later_cell p0 (cell_lt p0), later_cell p1 (cell_lt p1), later_cell p2 (cell_lt p2), later_cell p3 (cell_lt p3), later_cell p4 (cell_lt p4)⟩

set_option maxRecDepth 100000 in
set_option maxHeartbeats 4000000 in
theorem specReportOk_any (v : Value) (bk : BookD) (r : RepD) (w : World) (hn : bookSize bk ≤ 1048576) (hat : BookAt w v bk) :
    Calls Tryd.prog 34 #[v, repV r] w fun e w' => e = .returned (.bool (reportB bk r)) ∧ Below w.heap.size w w' := by
  obtain ⟨sa, sc, ta, tc, rfl, hsa, hta⟩ := hat
  have HBK : Hid (BookAt w (.agg #[.slice sa bk.sts.length sc, .slice ta bk.trips.length tc]) bk) := ⟨sa, sc, ta, tc, rfl, hsa, hta⟩
  have HTA : Hid (TripsAt w ta bk.trips) := hta
  have hb0 : Below w.heap.size w ((w.alloc (.cells #[.slice sa bk.sts.length sc, .slice ta bk.trips.length tc] 26)).alloc (.cells #[.int .i64 r.tick, .int .i64 r.op, .int .i64 r.trip, .int .i64 r.call, .int .i64 r.n] 45)) := (bx_below _ _).alloc (by simp) _
  have n2 : bk.trips.length ≤ 1048576 := by unfold bookSize tripsSize at hn; omega
  have n3 : ∀ i (h : i < bk.trips.length), bk.trips[i].calls.length ≤ 1048576 := by
    intro i h
    have := sumTrips_get bk.trips i h
    unfold bookSize tripsSize at hn; unfold tripSize at this; omega
  obtain ⟨W, hW⟩ : ∃ W, ((w.alloc (.cells #[.slice sa bk.sts.length sc, .slice ta bk.trips.length tc] 26)).alloc (.cells #[.int .i64 r.tick, .int .i64 r.op, .int .i64 r.trip, .int .i64 r.call, .int .i64 r.n] 45)) = W := ⟨_, rfl⟩
  have hb0' : Below w.heap.size w W := hW ▸ hb0
  have HL : Hid (∀ x : Later W.heap.size W, BookAt x.w (.agg #[.slice sa bk.sts.length sc, .slice ta bk.trips.length tc]) bk) := fun x => (HBK.out.keep hb0').keep x.below
  obtain ⟨c0, c1, r0, r1, r2, r3, r4⟩ := repBox hW
  have ne := later_ne W.heap.size W
  have HW : Hid (_ = W) := hW
  clear hsa hta hb0 hW
  unfold repV
  cases hok : ((faultD bk).1 == 0)
  · have HF : Hid (reportB bk r = false) := reportB_no (fun h => by rw [h.1] at hok; simp at hok)
    go_enter Tryd.func34, Tryd.ntmps34
    go_wp2_with fail
    rw [HW.out]
    refine wp_region_later (B := W.heap.size) (W := W) (by kernel_rfl) (by kernel_rfl) (Below.refl _ _) ?_
    repeat (go_big_quiet_step ((go_at_call 58; rename_i x; exact later_call (Nat.le_refl _) (l1ok_no _ bk _ hn (HL.out x) hok))))
    refine wpQuiet_nil ?_
    intro w' hw'
    obtain ⟨x, rfl⟩ := hw'
    go_wp2
    go_ret
    exact ⟨ret_bool HF.out.symm, hb0'.trans (x.below.mono hb0'.size)⟩
  · have H0 : Hid ((faultD bk).1 = 0) := by unfold Hid; simpa using hok
    by_cases ht : 0 ≤ r.tick ∧ r.tick ≤ 1000000
    · obtain ⟨t1, t2⟩ := ht
      by_cases ho : 1 ≤ r.op ∧ r.op ≤ 5
      · obtain ⟨o1, o2⟩ := ho
        by_cases htr : 0 ≤ r.trip ∧ r.trip < bk.trips.length
        · obtain ⟨p1, p2⟩ := htr
          obtain ⟨k, hk⟩ := Int.eq_ofNat_of_zero_le p1
          have Hk : Hid (r.trip = (k : Int)) := hk
          have hkl : k < bk.trips.length := by omega
          rw [hk] at r2
          have hi1 : (k : Int) < (bk.trips.length : Int) := by omega
          have hi0 : (0 : Int) ≤ (k : Int) := by omega
          obtain ⟨b, o, ca, cc, rfl, d0, d1, _⟩ := HTA.out.keep hb0' k hkl
          have e1 := later_cell (B := W.heap.size) d1 (cell_lt d1)
          have n4 := n3 k hkl
          have HC : Hid (callsOf bk r.trip = bk.trips[k].calls) := by unfold Hid; rw [hk]; exact callsOf_at bk k hkl
          clear d0 d1 n3 hk p1 p2
          by_cases hcl : 0 ≤ r.call ∧ r.call < (bk.trips[k].calls.length : Int)
          · obtain ⟨l1, l2⟩ := hcl
            have HR : Hid (reportB bk r = numB r) := reportB_yes ⟨H0.out, ⟨t1, t2⟩, ⟨o1, o2⟩, ⟨by rw [Hk.out]; omega, by rw [Hk.out]; omega⟩, l1, by rw [HC.out]; exact l2⟩
            generalize bk.trips[k].calls.length = cl at *
            by_cases g1 : r.op = 1
            · have hg1 : (r.op == 1) = true := by simp [g1]
              have HN : Hid (numB r = decide (0 ≤ r.n ∧ r.n ≤ 100000)) := numB_1 g1
              clear g1
              go_enter Tryd.func34, Tryd.ntmps34
              go_wp2_with fail
              rw [HW.out]
              refine wp_region_later (B := W.heap.size) (W := W) (by kernel_rfl) (by kernel_rfl) (Below.refl _ _) ?_
              repeat (go_big_quiet_step (first | (go_at_call 58; rename_i x; exact later_call (Nat.le_refl _) (l1ok_yes _ bk _ hn (HL.out x) hok)) | (go_at_call 50; refine later_call_same (l1in_yes _ _ _ _ ?_ ?_) <;> omega) | (go_at_call 50; refine later_call_same (l1in_no _ _ _ _ ?_); omega)))
              refine wpQuiet_nil ?_
              intro w' hw'
              obtain ⟨x, rfl⟩ := hw'
              go_wp2_with fail
              refine (l1in_any _ _ _ _).mono ?_
              rintro e w1 ⟨rfl, rfl⟩
              go_wp2_with fail
              go_ret
              exact ⟨ret_bool (by rw [HR.out, HN.out]; first | rfl | simp), hb0'.trans (x.below.mono hb0'.size)⟩
            · have hg1 : (r.op == 1) = false := by simp [g1]
              by_cases g2 : r.op = 2
              · have hg2 : (r.op == 2) = true := by simp [g2]
                have HN : Hid (numB r = decide (1 ≤ r.n ∧ r.n ≤ 20)) := numB_2 g2
                clear g1 g2
                go_enter Tryd.func34, Tryd.ntmps34
                go_wp2_with fail
                rw [HW.out]
                refine wp_region_later (B := W.heap.size) (W := W) (by kernel_rfl) (by kernel_rfl) (Below.refl _ _) ?_
                repeat (go_big_quiet_step (first | (go_at_call 58; rename_i x; exact later_call (Nat.le_refl _) (l1ok_yes _ bk _ hn (HL.out x) hok)) | (go_at_call 50; refine later_call_same (l1in_yes _ _ _ _ ?_ ?_) <;> omega) | (go_at_call 50; refine later_call_same (l1in_no _ _ _ _ ?_); omega)))
                refine wpQuiet_nil ?_
                intro w' hw'
                obtain ⟨x, rfl⟩ := hw'
                go_wp2_with fail
                refine (l1in_any _ _ _ _).mono ?_
                rintro e w1 ⟨rfl, rfl⟩
                go_wp2_with fail
                go_ret
                exact ⟨ret_bool (by rw [HR.out, HN.out]; first | rfl | simp), hb0'.trans (x.below.mono hb0'.size)⟩
              · have hg2 : (r.op == 2) = false := by simp [g2]
                have HN : Hid (numB r = (r.n == 0)) := numB_3 g1 g2
                clear g1 g2
                go_enter Tryd.func34, Tryd.ntmps34
                go_wp2_with fail
                rw [HW.out]
                refine wp_region_later (B := W.heap.size) (W := W) (by kernel_rfl) (by kernel_rfl) (Below.refl _ _) ?_
                repeat (go_big_quiet_step (first | (go_at_call 58; rename_i x; exact later_call (Nat.le_refl _) (l1ok_yes _ bk _ hn (HL.out x) hok)) | (go_at_call 50; refine later_call_same (l1in_yes _ _ _ _ ?_ ?_) <;> omega) | (go_at_call 50; refine later_call_same (l1in_no _ _ _ _ ?_); omega)))
                refine wpQuiet_nil ?_
                intro w' hw'
                obtain ⟨x, rfl⟩ := hw'
                go_wp2
                go_ret
                exact ⟨ret_bool (by rw [HR.out, HN.out]), hb0'.trans (x.below.mono hb0'.size)⟩
          · have HF : Hid (reportB bk r = false) := reportB_no (fun h => hcl (by rw [← HC.out]; exact h.2.2.2.2))
            generalize bk.trips[k].calls.length = cl at *
            go_enter Tryd.func34, Tryd.ntmps34
            go_wp2_with fail
            rw [HW.out]
            refine wp_region_later (B := W.heap.size) (W := W) (by kernel_rfl) (by kernel_rfl) (Below.refl _ _) ?_
            repeat (go_big_quiet_step (first | (go_at_call 58; rename_i x; exact later_call (Nat.le_refl _) (l1ok_yes _ bk _ hn (HL.out x) hok)) | (go_at_call 50; refine later_call_same (l1in_yes _ _ _ _ ?_ ?_) <;> omega) | (go_at_call 50; refine later_call_same (l1in_no _ _ _ _ ?_); omega)))
            refine wpQuiet_nil ?_
            intro w' hw'
            obtain ⟨x, rfl⟩ := hw'
            go_wp2
            go_ret
            exact ⟨ret_bool HF.out.symm, hb0'.trans (x.below.mono hb0'.size)⟩
        · have HF : Hid (reportB bk r = false) := reportB_no (fun h => htr h.2.2.2.1)
          go_enter Tryd.func34, Tryd.ntmps34
          go_wp2_with fail
          rw [HW.out]
          refine wp_region_later (B := W.heap.size) (W := W) (by kernel_rfl) (by kernel_rfl) (Below.refl _ _) ?_
          repeat (go_big_quiet_step (first | (go_at_call 58; rename_i x; exact later_call (Nat.le_refl _) (l1ok_yes _ bk _ hn (HL.out x) hok)) | (go_at_call 50; refine later_call_same (l1in_yes _ _ _ _ ?_ ?_) <;> omega) | (go_at_call 50; refine later_call_same (l1in_no _ _ _ _ ?_); omega)))
          refine wpQuiet_nil ?_
          intro w' hw'
          obtain ⟨x, rfl⟩ := hw'
          go_wp2
          go_ret
          exact ⟨ret_bool HF.out.symm, hb0'.trans (x.below.mono hb0'.size)⟩
      · have HF : Hid (reportB bk r = false) := reportB_no (fun h => ho h.2.2.1)
        go_enter Tryd.func34, Tryd.ntmps34
        go_wp2_with fail
        rw [HW.out]
        refine wp_region_later (B := W.heap.size) (W := W) (by kernel_rfl) (by kernel_rfl) (Below.refl _ _) ?_
        repeat (go_big_quiet_step (first | (go_at_call 58; rename_i x; exact later_call (Nat.le_refl _) (l1ok_yes _ bk _ hn (HL.out x) hok)) | (go_at_call 50; refine later_call_same (l1in_yes _ _ _ _ ?_ ?_) <;> omega) | (go_at_call 50; refine later_call_same (l1in_no _ _ _ _ ?_); omega)))
        refine wpQuiet_nil ?_
        intro w' hw'
        obtain ⟨x, rfl⟩ := hw'
        go_wp2
        go_ret
        exact ⟨ret_bool HF.out.symm, hb0'.trans (x.below.mono hb0'.size)⟩
    · have HF : Hid (reportB bk r = false) := reportB_no (fun h => ht h.2.1)
      go_enter Tryd.func34, Tryd.ntmps34
      go_wp2_with fail
      rw [HW.out]
      refine wp_region_later (B := W.heap.size) (W := W) (by kernel_rfl) (by kernel_rfl) (Below.refl _ _) ?_
      repeat (go_big_quiet_step (first | (go_at_call 58; rename_i x; exact later_call (Nat.le_refl _) (l1ok_yes _ bk _ hn (HL.out x) hok)) | (go_at_call 50; refine later_call_same (l1in_no _ _ _ _ ?_); omega)))
      refine wpQuiet_nil ?_
      intro w' hw'
      obtain ⟨x, rfl⟩ := hw'
      go_wp2
      go_ret
      exact ⟨ret_bool HF.out.symm, hb0'.trans (x.below.mono hb0'.size)⟩

end Go.Proofs.YtjioingdpfgadaaDoor
namespace Go.Proofs.YtjioingdpfgadaaDoor
open Go Go.RowKit Go.Deep

/-- The tick of the report before report k; 0 ahead of the first. -/
def prevTick (rs : List RepD) : Nat → Int
  | 0 => 0
  | k + 1 => (rs[k]?.map (·.tick)).getD 0
theorem prevTick_succ (rs : List RepD) (k : Nat) (h : k < rs.length) : prevTick rs (k + 1) = rs[k].tick := by
  simp [prevTick, List.getElem?_eq_getElem h]
def repAtB (bk : BookD) (rs : List RepD) (k : Nat) : Bool :=
  match rs[k]? with
  | none => true
  | some r => reportB bk r && decide (prevTick rs k ≤ r.tick)
theorem repAtB_at (bk : BookD) (rs : List RepD) (k : Nat) (h : k < rs.length) : repAtB bk rs k = (reportB bk rs[k] && decide (prevTick rs k ≤ rs[k].tick)) := by
  unfold repAtB; rw [List.getElem?_eq_getElem h]
/-- Reports are ones, and their ticks do not fall. -/
def reportsB (bk : BookD) (rs : List RepD) : Bool := (List.range rs.length).all (repAtB bk rs) && ((faultD bk).1 == 0) && decide (rs.length ≤ 500)
theorem reportsB_no {bk : BookD} {rs : List RepD} {k : Nat} (hk : k < rs.length) (h : repAtB bk rs k = false) : reportsB bk rs = false := by
  have : (List.range rs.length).all (repAtB bk rs) = false := by rw [List.all_eq_false]; exact ⟨k, List.mem_range.2 hk, by simp [h]⟩
  simp [reportsB, this]
theorem reportsB_all {bk : BookD} {rs : List RepD} (h : ∀ k, k < rs.length → repAtB bk rs k = true) : reportsB bk rs = (((faultD bk).1 == 0) && decide (rs.length ≤ 500)) := by
  have : (List.range rs.length).all (repAtB bk rs) = true := by rw [List.all_eq_true]; intro k hk; exact h k (List.mem_range.1 hk)
  simp only [reportsB, this, Bool.true_and]
theorem reportsB_inv {bk : BookD} {rs : List RepD} (h : reportsB bk rs = true) : (faultD bk).1 = 0 ∧ rs.length ≤ 500 ∧ ∀ k (hk : k < rs.length), reportB bk rs[k] = true ∧ prevTick rs k ≤ rs[k].tick := by
  unfold reportsB at h
  simp only [Bool.and_eq_true] at h
  obtain ⟨⟨h1, h2⟩, h3⟩ := h
  refine ⟨by simpa using h2, of_decide_eq_true h3, fun k hk => ?_⟩
  rw [List.all_eq_true] at h1
  have := h1 k (List.mem_range.2 hk)
  rw [repAtB_at bk rs k hk] at this
  simp only [Bool.and_eq_true] at this
  exact ⟨this.1, of_decide_eq_true this.2⟩

set_option maxRecDepth 100000 in
set_option maxHeartbeats 2000000 in
theorem l2reports_any (v : Value) (bk : BookD) (ra : Option Addr) (rc : Nat) (rs : List RepD) (w : World) (hn : bookSize bk ≤ 1048576) (hm : rs.length ≤ 1048576) (hat : BookAt w v bk) (hra : RepsAt w ra rs) :
    Calls Tryd.prog 46 #[v, .slice ra rs.length rc] w fun e w' => e = .returned (.bool (reportsB bk rs)) ∧ Below w.heap.size w w' := by
  obtain ⟨sa, sc, ta, tc, rfl, hsa, hta⟩ := hat
  have HBK : Hid (BookAt w (.agg #[.slice sa bk.sts.length sc, .slice ta bk.trips.length tc]) bk) := ⟨sa, sc, ta, tc, rfl, hsa, hta⟩
  have hb0 := bx_below w (.cells #[.slice sa bk.sts.length sc, .slice ta bk.trips.length tc] 26)
  clear hsa hta
  go_enter Tryd.func46, Tryd.ntmps46
  go_wp2
  go_loopw [5, 10] (fun lt i wr => ∃ k : Nat, k ≤ rs.length ∧ i = .int .i64 k ∧ lt = .int .i64 (prevTick rs k) ∧ Hid (∀ j, j < k → repAtB bk rs j = true) ∧ Below (w.heap.size + 1) (w.alloc (.cells #[.slice sa bk.sts.length sc, .slice ta bk.trips.length tc] 26)) wr) (fun _ i _ => rs.length - (intOf i).toNat)
  case atStart => exact ⟨0, Nat.zero_le _, rfl, rfl, fun j hj => by omega, Below.refl _ _⟩
  case round =>
    obtain ⟨k, hk, rfl, rfl, hgood, hbel⟩ := hrel
    have hB : Below w.heap.size w wr := hb0.trans (hbel.mono (by omega))
    have hz := hbel.size
    simp at hz
    have hz' : w.heap.size < wr.heap.size := by omega
    have q0 : wr.cell? ⟨w.heap.size, 0, none⟩ = some (.slice sa bk.sts.length sc) := by
      rw [hbel.cell (p := ⟨w.heap.size, 0, none⟩) (by simp)]; simp [go_sem]
    have q1 : wr.cell? ⟨w.heap.size, 1, none⟩ = some (.slice ta bk.trips.length tc) := by
      rw [hbel.cell (p := ⟨w.heap.size, 1, none⟩) (by simp)]; simp [go_sem]
    by_cases hlt : k < rs.length
    · obtain ⟨b, o, rfl, c0, c1, c2, c3, c4⟩ := hra.keep hB k hlt
      have HA : Hid (repAtB bk rs k = (reportB bk rs[k] && decide (prevTick rs k ≤ rs[k].tick))) := repAtB_at bk rs k hlt
      have HP : Hid (prevTick rs (k + 1) = rs[k].tick) := prevTick_succ rs k hlt
      generalize rs[k] = r at *
      generalize prevTick rs k = lt at *
      have HBW : Hid (BookAt (wr.alloc (.cells #[.int .i64 r.tick, .int .i64 r.op, .int .i64 r.trip, .int .i64 r.call, .int .i64 r.n] 45)) (.agg #[.slice sa bk.sts.length sc, .slice ta bk.trips.length tc]) bk) := (HBK.out.keep hB).keep (bx_below _ _)
      have H1 : Hid (repV r = .agg #[.int .i64 r.tick, .int .i64 r.op, .int .i64 r.trip, .int .i64 r.call, .int .i64 r.n]) := rfl
      clear hra
      cases hr : reportB bk r
      · have HF : Hid (reportsB bk rs = false) := reportsB_no hlt (by rw [HA.out, hr]; rfl)
        go_wp2_with fail
        rw [← H1.out]
        refine (specReportOk_any _ bk r _ hn (by exact HBW.out)).mono ?_
        rintro e w1 ⟨rfl, hb1⟩
        rw [hr]
        go_wp2_with fail
        go_ret
        exact ⟨ret_bool HF.out.symm, (hB.alloc hB.size _).trans (hb1.mono (by have := hB.size; simp; omega))⟩
      · by_cases hlt2 : r.tick < lt
        · have HF : Hid (reportsB bk rs = false) := reportsB_no hlt (by rw [HA.out, hr, decide_eq_false (by omega)]; rfl)
          go_wp2_with fail
          rw [← H1.out]
          refine (specReportOk_any _ bk r _ hn (by exact HBW.out)).mono ?_
          rintro e w1 ⟨rfl, hb1⟩
          rw [hr]
          have x0 : w1.cell? ⟨wr.heap.size, 0, none⟩ = some (.int .i64 r.tick) := cell_keep hb1 (by simp [go_sem])
          go_wp2_with fail
          go_ret
          exact ⟨ret_bool HF.out.symm, (hB.alloc hB.size _).trans (hb1.mono (by have := hB.size; simp; omega))⟩
        · have HR : Hid (reportB bk r = true) := hr
          have HT : Hid (lt ≤ r.tick) := by unfold Hid; omega
          go_wp2_with fail
          rw [← H1.out]
          refine (specReportOk_any _ bk r _ hn (by exact HBW.out)).mono ?_
          rintro e w1 ⟨rfl, hb1⟩
          rw [hr]
          have x0 : w1.cell? ⟨wr.heap.size, 0, none⟩ = some (.int .i64 r.tick) := cell_keep hb1 (by simp [go_sem])
          clear hr
          go_wp2_with fail
          go_roundw
          case rel =>
            refine ⟨k + 1, by omega, by go_num, by rw [HP.out], fun j hj => ?_, (hbel.alloc (by omega) _).trans (hb1.mono (by simp; omega))⟩
            by_cases e : j = k
            · subst e; rw [HA.out, HR.out, decide_eq_true HT.out]; rfl
            · exact hgood.out j (by omega)
          case measure => simp [intOf]; omega
    · have HR : Hid (reportsB bk rs = (((faultD bk).1 == 0) && decide (rs.length ≤ 500))) := reportsB_all (fun j hj => hgood.out j (by omega))
      cases hok : ((faultD bk).1 == 0)
      · have HF : Hid (reportsB bk rs = false) := by unfold Hid; rw [HR.out, hok]; rfl
        go_wp2_with fail
        refine (l1ok_no _ bk _ hn (by exact HBK.out.keep hB) hok).mono ?_
        rintro e w1 ⟨rfl, hb1⟩
        go_wp2_with fail
        go_ret
        exact ⟨ret_bool HF.out.symm, hB.trans (hb1.mono hB.size)⟩
      · by_cases h5 : rs.length ≤ 500
        all_goals
          have HF : Hid (reportsB bk rs = decide (rs.length ≤ 500)) := by unfold Hid; rw [HR.out, hok]; rfl
          go_wp2_with fail
          refine (l1ok_yes _ bk _ hn (by exact HBK.out.keep hB) hok).mono ?_
          rintro e w1 ⟨rfl, hb1⟩
          go_wp2_with fail
          go_ret
          exact ⟨ret_bool (by rw [HF.out]; simp [h5]; omega), hB.trans (hb1.mono hB.size)⟩

end Go.Proofs.YtjioingdpfgadaaDoor
namespace Go.Proofs.YtjioingdpfgadaaDoor
open Go Go.RowKit

/-- A report says something that can still be, of the call x, k-th of a trip's. -/
def countsX (ns : List NewsD) (k : Nat) (x : NewsD) (r : RepD) : Bool :=
  if x.gone then false else if x.off then false
  else if r.op = 2 then !x.here && (x.track != r.n)
  else if r.op = 3 then !x.here
  else if r.op = 4 then !x.here && (decide (k = 0) || ((ns[k - 1]?.map (·.gone)).getD false))
  else if r.op = 5 then x.here && decide (k + 1 < ns.length)
  else x.late != r.n
theorem countsX_gone {ns : List NewsD} {k : Nat} {x : NewsD} {r : RepD} (h : x.gone = true) : countsX ns k x r = false := by unfold countsX; rw [h]; rfl
theorem countsX_off {ns : List NewsD} {k : Nat} {x : NewsD} {r : RepD} (h : x.off = true) : countsX ns k x r = false := by unfold countsX; rw [h]; cases x.gone <;> rfl
theorem countsX_2 {ns : List NewsD} {k : Nat} {x : NewsD} {r : RepD} (h1 : x.gone = false) (h2 : x.off = false) (ho : r.op = 2) : countsX ns k x r = (!x.here && (x.track != r.n)) := by unfold countsX; simp [h1, h2, ho]
theorem countsX_3 {ns : List NewsD} {k : Nat} {x : NewsD} {r : RepD} (h1 : x.gone = false) (h2 : x.off = false) (ho : r.op = 3) : countsX ns k x r = !x.here := by unfold countsX; simp [h1, h2, ho]
theorem countsX_4 {ns : List NewsD} {k : Nat} {x : NewsD} {r : RepD} (h1 : x.gone = false) (h2 : x.off = false) (ho : r.op = 4) : countsX ns k x r = (!x.here && (decide (k = 0) || ((ns[k - 1]?.map (·.gone)).getD false))) := by unfold countsX; simp [h1, h2, ho]
theorem countsX_5 {ns : List NewsD} {k : Nat} {x : NewsD} {r : RepD} (h1 : x.gone = false) (h2 : x.off = false) (ho : r.op = 5) : countsX ns k x r = (x.here && decide (k + 1 < ns.length)) := by unfold countsX; simp [h1, h2, ho]
theorem countsX_1 {ns : List NewsD} {k : Nat} {x : NewsD} {r : RepD} (h1 : x.gone = false) (h2 : x.off = false) (o2 : r.op ≠ 2) (o3 : r.op ≠ 3) (o4 : r.op ≠ 4) (o5 : r.op ≠ 5) : countsX ns k x r = (x.late != r.n) := by unfold countsX; simp [h1, h2, o2, o3, o4, o5]

set_option maxRecDepth 100000 in
set_option maxHeartbeats 4000000 in
theorem l2counts_any (na : Option Addr) (nc : Nat) (nss : List (List NewsD)) (r : RepD) (j k : Nat) (w : World) (hj : j < nss.length) (hjk : r.trip = (j : Int)) (hk : k < nss[j].length) (hkk : r.call = (k : Int)) (hm2 : nss[j].length ≤ 1048576) (hat : NewsSSAt w na nss) :
    Calls Tryd.prog 48 #[.slice na nss.length nc, repV r] w fun e w' => e = .returned (.bool (countsX nss[j] k nss[j][k] r)) ∧ Below w.heap.size w w' := by
  have hb0 := (Below.refl w.heap.size w).alloc (Nat.le_refl _) (.cells #[.int .i64 r.tick, .int .i64 r.op, .int .i64 j, .int .i64 k, .int .i64 r.n] 45)
  unfold repV
  rw [hjk, hkk]
  obtain ⟨b, o, ca, cc, rfl, c0, hna⟩ := hat j hj
  obtain ⟨b', o', rfl, d0, d1, d2, d3, d4⟩ := hna k hk
  have l0 := cell_lt c0
  have l1 := cell_lt d0
  have hj1 : (j : Int) < (nss.length : Int) := by omega
  have hk1 : (k : Int) < (nss[j].length : Int) := by omega
  have HPREV : Hid (∀ m (hm : m < nss[j].length), ∃ b o, some (⟨b', o', none⟩ : Addr) = some ⟨b, o, none⟩ ∧ w.cell? ⟨b, o + m * 5 + 4, none⟩ = some (.bool nss[j][m].gone)) := fun m hm => by
    obtain ⟨b2, o2, e2, _, _, _, _, g4⟩ := hna m hm
    exact ⟨b2, o2, e2, g4⟩
  generalize hx : nss[j][k] = x at *
  generalize hl : nss[j] = ns at *
  have Hx : Hid (ns[k]? = some x) := by unfold Hid; rw [List.getElem?_eq_getElem (by omega)]; subst hl; rw [hx]
  clear hx hl hat hna hjk hkk
  cases hg : x.gone
  · cases hof : x.off
    · rw [hg] at d4
      rw [hof] at d2
      by_cases o2 : r.op = 2
      · have hb2 : (r.op == 2) = true := by simp [o2]
        have HF0 := countsX_2 (ns := ns) (k := k) hg hof o2
        cases hh : x.here
        · rw [hh] at d3 HF0
          have HF : Hid (countsX ns k x r = (x.track != r.n)) := by unfold Hid; rw [HF0]; rfl
          clear HF0 o2 hg hof hh
          go_enter Tryd.func48, Tryd.ntmps48
          go_wp2
          go_ret
          exact ⟨ret_bool (by rw [HF.out]), hb0.alloc (by simp) _⟩
        · rw [hh] at d3 HF0
          have HF : Hid (countsX ns k x r = false) := by unfold Hid; rw [HF0]; rfl
          clear HF0 o2 hg hof hh
          go_enter Tryd.func48, Tryd.ntmps48
          go_wp2
          go_ret
          exact ⟨ret_bool (by rw [HF.out]), hb0.alloc (by simp) _⟩
      · have hb2 : (r.op == 2) = false := by simp [o2]
        by_cases o3 : r.op = 3
        · have hb3 : (r.op == 3) = true := by simp [o3]
          have HF : Hid (countsX ns k x r = !x.here) := countsX_3 hg hof o3
          clear o2 o3 hg hof
          go_enter Tryd.func48, Tryd.ntmps48
          go_wp2
          go_ret
          exact ⟨ret_bool (by rw [HF.out]), hb0.alloc (by simp) _⟩
        · have hb3 : (r.op == 3) = false := by simp [o3]
          by_cases o4 : r.op = 4
          · have hb4 : (r.op == 4) = true := by simp [o4]
            have HF0 := countsX_4 (ns := ns) (k := k) hg hof o4
            cases hh : x.here
            · rw [hh] at d3 HF0
              by_cases hk0 : k = 0
              · have hkz : ((k : Int) == 0) = true := by simp [hk0]
                have HF : Hid (countsX ns k x r = true) := by unfold Hid; rw [HF0]; simp [hk0]
                clear HF0 o2 o3 o4 hg hof hh hk0
                go_enter Tryd.func48, Tryd.ntmps48
                go_wp2
                go_ret
                exact ⟨ret_bool (by rw [HF.out]), hb0.alloc (by simp) _⟩
              · obtain ⟨m, rfl⟩ : ∃ m, k = m + 1 := ⟨k - 1, by omega⟩
                have hml : m < ns.length := by omega
                obtain ⟨b2, o2', e2, g4⟩ := HPREV.out m hml
                simp only [Option.some.injEq, Addr.mk.injEq] at e2
                obtain ⟨rfl, rfl, _⟩ := e2
                have HF : Hid (countsX ns (m + 1) x r = ns[m].gone) := by unfold Hid; rw [HF0]; simp [List.getElem?_eq_getElem hml]
                have hkz : (((m : Int) + 1) == 0) = false := by simp; omega
                have hm1 : (m : Int) < (ns.length : Int) := by omega
                clear HF0 o2 o3 o4 hg hof hh hk0
                go_enter Tryd.func48, Tryd.ntmps48
                go_wp2
                go_ret
                exact ⟨ret_bool (by rw [HF.out]), ((Below.refl _ _).alloc (Nat.le_refl _) _).alloc (by simp) _⟩
            · rw [hh] at d3 HF0
              have HF : Hid (countsX ns k x r = false) := by unfold Hid; rw [HF0]; rfl
              clear HF0 o2 o3 o4 hg hof hh
              go_enter Tryd.func48, Tryd.ntmps48
              go_wp2
              go_ret
              exact ⟨ret_bool (by rw [HF.out]), hb0.alloc (by simp) _⟩
          · have hb4 : (r.op == 4) = false := by simp [o4]
            by_cases o5 : r.op = 5
            · have hb5 : (r.op == 5) = true := by simp [o5]
              have HF0 := countsX_5 (ns := ns) (k := k) hg hof o5
              cases hh : x.here
              · rw [hh] at d3 HF0
                have HF : Hid (countsX ns k x r = false) := by unfold Hid; rw [HF0]; rfl
                clear HF0 o2 o3 o4 o5 hg hof hh
                go_enter Tryd.func48, Tryd.ntmps48
                go_wp2
                go_ret
                exact ⟨ret_bool (by rw [HF.out]), hb0.alloc (by simp) _⟩
              · rw [hh] at d3 HF0
                have HF : Hid (countsX ns k x r = decide (k + 1 < ns.length)) := by unfold Hid; rw [HF0]; rfl
                clear HF0 o2 o3 o4 o5 hg hof hh
                go_enter Tryd.func48, Tryd.ntmps48
                go_wp2
                go_ret
                exact ⟨ret_bool (by rw [HF.out]; simp; omega), hb0.alloc (by simp) _⟩
            · have hb5 : (r.op == 5) = false := by simp [o5]
              have HF : Hid (countsX ns k x r = (x.late != r.n)) := countsX_1 hg hof o2 o3 o4 o5
              clear o2 o3 o4 o5 hg hof
              cases hln : (x.late != r.n)
              all_goals
                have HF' : Hid (countsX ns k x r = _) := HF.out.trans hln
                go_enter Tryd.func48, Tryd.ntmps48
                go_wp2
                go_ret
                exact ⟨ret_bool HF'.out.symm, hb0.alloc (by simp) _⟩
    · have HF : Hid (countsX ns k x r = false) := countsX_off hof
      rw [hof] at d2
      rw [hg] at d4
      by_cases o1 : r.op = 1
      · have hb1 : (r.op != 1) = false := by simp [o1]
        have hb2 : (r.op == 2) = false := by simp [o1]
        have hb3 : (r.op == 3) = false := by simp [o1]
        have hb4 : (r.op == 4) = false := by simp [o1]
        have hb5 : (r.op == 5) = false := by simp [o1]
        clear o1
        cases hln : (x.late != r.n)
        all_goals
          go_enter Tryd.func48, Tryd.ntmps48
          go_wp2
          go_ret
          exact ⟨ret_bool HF.out.symm, hb0.alloc (by simp) _⟩
      · have hb1 : (r.op != 1) = true := by simp [o1]
        clear o1
        go_enter Tryd.func48, Tryd.ntmps48
        go_wp2
        go_ret
        exact ⟨ret_bool HF.out.symm, hb0.alloc (by simp) _⟩
  · have HF : Hid (countsX ns k x r = false) := countsX_gone hg
    rw [hg] at d4
    go_enter Tryd.func48, Tryd.ntmps48
    go_wp2
    go_ret
    exact ⟨ret_bool HF.out.symm, hb0.alloc (by simp) _⟩

end Go.Proofs.YtjioingdpfgadaaDoor
namespace Go.Proofs.YtjioingdpfgadaaDoor
open Go Go.RowKit Go.Deep

theorem doNews_1 (r : RepD) (k : Nat) (x : NewsD) (ho : r.op = 1) (h : r.call ≤ k) : newsCells (doNews r k x) = (newsCells x).set 0 (.int .i64 r.n) := by unfold doNews; rw [if_pos ho, if_pos h]; rfl
theorem doNews_2 (r : RepD) (k : Nat) (x : NewsD) (ho : r.op = 2) (h : r.call = k) : newsCells (doNews r k x) = (newsCells x).set 1 (.int .i64 r.n) := by unfold doNews; rw [if_neg (by omega), if_pos ho, if_pos h]; rfl
theorem doNews_3 (r : RepD) (k : Nat) (x : NewsD) (ho : r.op = 3) (h : r.call ≤ k) : newsCells (doNews r k x) = (newsCells x).set 2 (.bool true) := by unfold doNews; rw [if_neg (by omega), if_neg (by omega), if_pos ho, if_pos h]; rfl
theorem doNews_4 (r : RepD) (k : Nat) (x : NewsD) (ho : r.op = 4) (h : r.call = k) : newsCells (doNews r k x) = (newsCells x).set 3 (.bool true) := by unfold doNews; rw [if_neg (by omega), if_neg (by omega), if_neg (by omega), if_pos ho, if_pos h]; rfl
theorem doNews_5 (r : RepD) (k : Nat) (x : NewsD) (ho : r.op = 5) (h : r.call = k) : newsCells (doNews r k x) = (newsCells { x with here := false }).set 4 (.bool true) := by unfold doNews; rw [if_neg (by omega), if_neg (by omega), if_neg (by omega), if_neg (by omega), if_pos ho, if_pos h]; rfl

/-- A cell of a row. -/
theorem row_cell {w : World} {B g cap : Nat} {ns : List NewsD} (hr : w.ownsRow B 41 5 (.slice (some ⟨g, 0, none⟩) ns.length cap) ns.length (rowCells ns)) (m c : Nat) (hm : m < ns.length) (hc : c < 5) : w.cell? ⟨g, m * 5 + c, none⟩ = (newsCells ns[m])[c]? := by
  rw [hr.cellAt _ (by omega), rowCells_get _ m c hm hc]

set_option maxRecDepth 100000 in
set_option maxHeartbeats 2000000 in
theorem l2do_1 (B gv cv g cap : Nat) (nl : Nat) (ns : List NewsD) (r : RepD) (j k : Nat) (w : World) (hj : j < nl) (hjk : r.trip = (j : Int)) (hk : k < ns.length) (hkk : r.call = (k : Int)) (hm2 : ns.length ≤ 1048576) (hop : r.op = 1)
    (hv : w.cell? ⟨gv, j, none⟩ = some (.slice (some ⟨g, 0, none⟩) ns.length cap)) (hr : w.ownsRow B 41 5 (.slice (some ⟨g, 0, none⟩) ns.length cap) ns.length (rowCells ns)) :
    Calls Tryd.prog 49 #[.slice (some ⟨gv, 0, none⟩) nl cv, repV r] w fun e w' => e = .returned (.tuple #[]) ∧ w'.ownsRow B 41 5 (.slice (some ⟨g, 0, none⟩) ns.length cap) ns.length (rowCells (doRow r ns)) ∧ w.grownBy w' (some g) := by
  have hj1 : (j : Int) < (nl : Int) := by omega
  have l0 := cell_lt hv
  have l1 := (hr.lt g rfl).2
  have hr0 := hr.alloc (.cells #[.int .i64 r.tick, .int .i64 1, .int .i64 j, .int .i64 k, .int .i64 r.n] 45)
  have hg0 := World.grownBy_alloc w (.cells #[.int .i64 r.tick, .int .i64 1, .int .i64 j, .int .i64 k, .int .i64 r.n] 45) (some g)
  have HS := upTo_start r k ns hkk (Or.inl hop)
  have HE := upTo_end r ns
  have HN : Hid (∀ m (h : m < ns.length), k ≤ m → upTo r (m + 1) ns = (upTo r m ns).set m (doNews r m ns[m]) ∧ newsCells (doNews r m ns[m]) = (newsCells ((upTo r m ns)[m]'(by rw [upTo_length]; exact h))).set 0 (.int .i64 r.n)) := fun m h hkm => ⟨upTo_succ r m ns h, by rw [upTo_get r m ns m h, if_neg (by omega)]; exact doNews_1 r m ns[m] hop (by omega)⟩
  unfold repV
  rw [hjk, hkk, hop]
  clear hr
  go_enter Tryd.func49, Tryd.ntmps49
  go_wp2
  go_loopw [5] (fun i wr => ∃ m : Nat, k ≤ m ∧ m ≤ ns.length ∧ i = .int .i64 m ∧ wr.ownsRow B 41 5 (.slice (some ⟨g, 0, none⟩) ns.length cap) ns.length (rowCells (upTo r m ns)) ∧ w.grownBy wr (some g) ∧ wr.heap[w.heap.size]? = some (.cells #[.int .i64 r.tick, .int .i64 1, .int .i64 j, .int .i64 k, .int .i64 r.n] 45)) (fun i _ => ns.length - (intOf i).toNat)
  case atStart => exact ⟨k, Nat.le_refl _, by omega, rfl, by rw [HS]; exact hr0, hg0, heap_alloc_new _ _⟩
  case round =>
    obtain ⟨m, hkm, hm, rfl, hrow, hgr, hbox⟩ := hrel
    clear hr0 hg0 hv
    by_cases hlt : m < ns.length
    · have hlt1 : (m : Int) < (ns.length : Int) := by omega
      have q4 : wr.cell? ⟨w.heap.size, 4, none⟩ = some (.int .i64 r.n) := by simp [World.cell?, hbox]
      obtain ⟨e1, e2⟩ := HN.out m hlt hkm
      have hlu := upTo_length r m ns
      have hrow' := hrow
      rw [← hlu] at hrow'
      have hst := rowCells_set' m 0 (.int .i64 r.n) (doNews r m ns[m]) (by rw [hlu]; exact hlt) (by omega) e2 hrow'
      rw [← e1, hlu] at hst
      have HST : Hid _ := hst
      obtain ⟨u0, d0⟩ : ∃ u, wr.cell? ⟨g, m * 5, none⟩ = some u := ⟨_, row_cell hrow' m 0 (by rw [hlu]; exact hlt) (by omega)⟩
      have hne : g ≠ w.heap.size := by omega
      have hfr := hrow.frozenAt
      clear hst hrow' e1 e2 hrow hlu HS HE
      go_wp2
      go_roundw
      case rel =>
        exact ⟨m + 1, by omega, by omega, by go_num, HST.out.1, hgr.trans HST.out.2, by rw [Below.heap_setCell _ _ _ _ (fun e => hne e.symm)]; exact hbox⟩
      case measure => simp [intOf]; omega
    · have : m = ns.length := by omega
      subst this
      rw [HE] at hrow
      go_wp2
      go_end0
      exact ⟨rfl, hrow, hgr⟩

set_option maxRecDepth 100000 in
set_option maxHeartbeats 2000000 in
theorem l2do_3 (B gv cv g cap : Nat) (nl : Nat) (ns : List NewsD) (r : RepD) (j k : Nat) (w : World) (hj : j < nl) (hjk : r.trip = (j : Int)) (hk : k < ns.length) (hkk : r.call = (k : Int)) (hm2 : ns.length ≤ 1048576) (hop : r.op = 3)
    (hv : w.cell? ⟨gv, j, none⟩ = some (.slice (some ⟨g, 0, none⟩) ns.length cap)) (hr : w.ownsRow B 41 5 (.slice (some ⟨g, 0, none⟩) ns.length cap) ns.length (rowCells ns)) :
    Calls Tryd.prog 49 #[.slice (some ⟨gv, 0, none⟩) nl cv, repV r] w fun e w' => e = .returned (.tuple #[]) ∧ w'.ownsRow B 41 5 (.slice (some ⟨g, 0, none⟩) ns.length cap) ns.length (rowCells (doRow r ns)) ∧ w.grownBy w' (some g) := by
  have hj1 : (j : Int) < (nl : Int) := by omega
  have l0 := cell_lt hv
  have l1 := (hr.lt g rfl).2
  have hr0 := hr.alloc (.cells #[.int .i64 r.tick, .int .i64 3, .int .i64 j, .int .i64 k, .int .i64 r.n] 45)
  have hg0 := World.grownBy_alloc w (.cells #[.int .i64 r.tick, .int .i64 3, .int .i64 j, .int .i64 k, .int .i64 r.n] 45) (some g)
  have HS := upTo_start r k ns hkk (Or.inr hop)
  have HE := upTo_end r ns
  have HN : Hid (∀ m (h : m < ns.length), k ≤ m → upTo r (m + 1) ns = (upTo r m ns).set m (doNews r m ns[m]) ∧ newsCells (doNews r m ns[m]) = (newsCells ((upTo r m ns)[m]'(by rw [upTo_length]; exact h))).set 2 (.bool true)) := fun m h hkm => ⟨upTo_succ r m ns h, by rw [upTo_get r m ns m h, if_neg (by omega)]; exact doNews_3 r m ns[m] hop (by omega)⟩
  unfold repV
  rw [hjk, hkk, hop]
  clear hr
  go_enter Tryd.func49, Tryd.ntmps49
  go_wp2
  go_loopw [6] (fun i wr => ∃ m : Nat, k ≤ m ∧ m ≤ ns.length ∧ i = .int .i64 m ∧ wr.ownsRow B 41 5 (.slice (some ⟨g, 0, none⟩) ns.length cap) ns.length (rowCells (upTo r m ns)) ∧ w.grownBy wr (some g) ∧ wr.heap[w.heap.size]? = some (.cells #[.int .i64 r.tick, .int .i64 3, .int .i64 j, .int .i64 k, .int .i64 r.n] 45)) (fun i _ => ns.length - (intOf i).toNat)
  case atStart => exact ⟨k, Nat.le_refl _, by omega, rfl, by rw [HS]; exact hr0, hg0, heap_alloc_new _ _⟩
  case round =>
    obtain ⟨m, hkm, hm, rfl, hrow, hgr, hbox⟩ := hrel
    clear hr0 hg0 hv
    by_cases hlt : m < ns.length
    · have hlt1 : (m : Int) < (ns.length : Int) := by omega
      have q4 : wr.cell? ⟨w.heap.size, 4, none⟩ = some (.int .i64 r.n) := by simp [World.cell?, hbox]
      obtain ⟨e1, e2⟩ := HN.out m hlt hkm
      have hlu := upTo_length r m ns
      have hrow' := hrow
      rw [← hlu] at hrow'
      have hst := rowCells_set' m 2 (.bool true) (doNews r m ns[m]) (by rw [hlu]; exact hlt) (by omega) e2 hrow'
      rw [← e1, hlu] at hst
      have HST : Hid _ := hst
      obtain ⟨u0, d0⟩ : ∃ u, wr.cell? ⟨g, m * 5 + 2, none⟩ = some u := ⟨_, row_cell hrow' m 2 (by rw [hlu]; exact hlt) (by omega)⟩
      have hne : g ≠ w.heap.size := by omega
      have hfr := hrow.frozenAt
      clear hst hrow' e1 e2 hrow hlu HS HE
      go_wp2
      go_roundw
      case rel =>
        exact ⟨m + 1, by omega, by omega, by go_num, HST.out.1, hgr.trans HST.out.2, by rw [Below.heap_setCell _ _ _ _ (fun e => hne e.symm)]; exact hbox⟩
      case measure => simp [intOf]; omega
    · have : m = ns.length := by omega
      subst this
      rw [HE] at hrow
      go_wp2
      go_end0
      exact ⟨rfl, hrow, hgr⟩

set_option maxRecDepth 100000 in
set_option maxHeartbeats 2000000 in
theorem l2do_2 (B gv cv g cap : Nat) (nl : Nat) (ns : List NewsD) (r : RepD) (j k : Nat) (w : World) (hj : j < nl) (hjk : r.trip = (j : Int)) (hk : k < ns.length) (hkk : r.call = (k : Int)) (hop : r.op = 2)
    (hv : w.cell? ⟨gv, j, none⟩ = some (.slice (some ⟨g, 0, none⟩) ns.length cap)) (hr : w.ownsRow B 41 5 (.slice (some ⟨g, 0, none⟩) ns.length cap) ns.length (rowCells ns)) :
    Calls Tryd.prog 49 #[.slice (some ⟨gv, 0, none⟩) nl cv, repV r] w fun e w' => e = .returned (.tuple #[]) ∧ w'.ownsRow B 41 5 (.slice (some ⟨g, 0, none⟩) ns.length cap) ns.length (rowCells (doRow r ns)) ∧ w.grownBy w' (some g) := by
  have hj1 : (j : Int) < (nl : Int) := by omega
  have hk1 : (k : Int) < (ns.length : Int) := by omega
  have l0 := cell_lt hv
  have l1 := (hr.lt g rfl).2
  have HD := doRow_one r k ns hkk hk (by omega) (by omega)
  have hst := rowCells_set' k 1 (.int .i64 r.n) (doNews r k ns[k]) hk (by omega) (doNews_2 r k ns[k] hop hkk) hr
  rw [← HD] at hst
  have HST : Hid _ := hst
  have hfr := hr.frozenAt
  obtain ⟨u0, d0⟩ : ∃ u, w.cell? ⟨g, k * 5 + 1, none⟩ = some u := ⟨_, row_cell hr k 1 hk (by omega)⟩
  unfold repV
  rw [hjk, hkk, hop]
  clear hr HD hst
  go_enter Tryd.func49, Tryd.ntmps49
  go_wp2
  go_end0
  exact ⟨rfl, HST.out.1.alloc _, HST.out.2.trans (World.grownBy_alloc _ _ _)⟩

set_option maxRecDepth 100000 in
set_option maxHeartbeats 2000000 in
theorem l2do_4 (B gv cv g cap : Nat) (nl : Nat) (ns : List NewsD) (r : RepD) (j k : Nat) (w : World) (hj : j < nl) (hjk : r.trip = (j : Int)) (hk : k < ns.length) (hkk : r.call = (k : Int)) (hop : r.op = 4)
    (hv : w.cell? ⟨gv, j, none⟩ = some (.slice (some ⟨g, 0, none⟩) ns.length cap)) (hr : w.ownsRow B 41 5 (.slice (some ⟨g, 0, none⟩) ns.length cap) ns.length (rowCells ns)) :
    Calls Tryd.prog 49 #[.slice (some ⟨gv, 0, none⟩) nl cv, repV r] w fun e w' => e = .returned (.tuple #[]) ∧ w'.ownsRow B 41 5 (.slice (some ⟨g, 0, none⟩) ns.length cap) ns.length (rowCells (doRow r ns)) ∧ w.grownBy w' (some g) := by
  have hj1 : (j : Int) < (nl : Int) := by omega
  have hk1 : (k : Int) < (ns.length : Int) := by omega
  have l0 := cell_lt hv
  have l1 := (hr.lt g rfl).2
  have HD := doRow_one r k ns hkk hk (by omega) (by omega)
  have hst := rowCells_set' k 3 (.bool true) (doNews r k ns[k]) hk (by omega) (doNews_4 r k ns[k] hop hkk) hr
  rw [← HD] at hst
  have HST : Hid _ := hst
  have hfr := hr.frozenAt
  obtain ⟨u0, d0⟩ : ∃ u, w.cell? ⟨g, k * 5 + 3, none⟩ = some u := ⟨_, row_cell hr k 3 hk (by omega)⟩
  unfold repV
  rw [hjk, hkk, hop]
  clear hr HD hst
  go_enter Tryd.func49, Tryd.ntmps49
  go_wp2
  go_end0
  exact ⟨rfl, HST.out.1.alloc _, HST.out.2.trans (World.grownBy_alloc _ _ _)⟩

set_option maxRecDepth 100000 in
set_option maxHeartbeats 2000000 in
theorem l2do_5 (B gv cv g cap : Nat) (nl : Nat) (ns : List NewsD) (r : RepD) (j k : Nat) (w : World) (hj : j < nl) (hjk : r.trip = (j : Int)) (hk : k < ns.length) (hkk : r.call = (k : Int)) (hop : r.op = 5)
    (hv : w.cell? ⟨gv, j, none⟩ = some (.slice (some ⟨g, 0, none⟩) ns.length cap)) (hr : w.ownsRow B 41 5 (.slice (some ⟨g, 0, none⟩) ns.length cap) ns.length (rowCells ns)) :
    Calls Tryd.prog 49 #[.slice (some ⟨gv, 0, none⟩) nl cv, repV r] w fun e w' => e = .returned (.tuple #[]) ∧ w'.ownsRow B 41 5 (.slice (some ⟨g, 0, none⟩) ns.length cap) ns.length (rowCells (doRow r ns)) ∧ w.grownBy w' (some g) := by
  have hj1 : (j : Int) < (nl : Int) := by omega
  have hk1 : (k : Int) < (ns.length : Int) := by omega
  have l0 := cell_lt hv
  have l1 := (hr.lt g rfl).2
  have HD := doRow_one r k ns hkk hk (by omega) (by omega)
  have hst1 := rowCells_set' k 3 (.bool false) { ns[k] with here := false } hk (by omega) rfl hr
  have hl1 : (ns.set k { ns[k] with here := false }).length = ns.length := List.length_set
  have hr1 := hst1.1
  rw [← hl1] at hr1
  have hst2 := rowCells_set' k 4 (.bool true) (doNews r k ns[k]) (by rw [hl1]; exact hk) (by omega) (by rw [List.getElem_set_self]; exact doNews_5 r k ns[k] hop hkk) hr1
  rw [List.set_set, ← HD, hl1] at hst2
  have HST1 : Hid _ := hst1
  have HST2 : Hid _ := hst2
  have hfr := hr.frozenAt
  obtain ⟨u0, d0⟩ : ∃ u, w.cell? ⟨g, k * 5 + 3, none⟩ = some u := ⟨_, row_cell hr k 3 hk (by omega)⟩
  obtain ⟨u1, d1⟩ : ∃ u, w.cell? ⟨g, k * 5 + 4, none⟩ = some u := ⟨_, row_cell hr k 4 hk (by omega)⟩
  unfold repV
  rw [hjk, hkk, hop]
  clear hr HD hst1 hst2 hr1 hl1
  go_enter Tryd.func49, Tryd.ntmps49
  go_wp2
  go_end0
  exact ⟨rfl, HST2.out.1.alloc _, (HST1.out.2.trans HST2.out.2).trans (World.grownBy_alloc _ _ _)⟩

theorem l2do_any (B : Nat) (v : Value) (nss : List (List NewsD)) (vs : List Value) (r : RepD) (j k : Nat) (w : World) (hj : j < nss.length) (hjk : r.trip = (j : Int)) (hk : k < nss[j].length) (hkk : r.call = (k : Int)) (hm2 : nss[j].length ≤ 1048576) (hop : 1 ≤ r.op ∧ r.op ≤ 5) (hB : B ≤ w.heap.size) (hat : NewsOwnAt B w v nss vs) :
    Calls Tryd.prog 49 #[v, repV r] w fun e w' => e = .returned (.tuple #[]) ∧ NewsOwnAt B w' v (nss.set j (doRow r nss[j])) vs ∧ Below B w w' := by
  have hj' : j < vs.length := by rw [hat.len]; exact hj
  have hr := hat.rows j hj hj'
  obtain ⟨gv, cv, rfl, _, _⟩ := hat.outer.form (by omega)
  obtain ⟨g, cap, e, hg1, _⟩ := hr.form (by omega)
  have hv : w.cell? ⟨gv, j, none⟩ = some vs[j] := by rw [hat.outer.cellAt j (by omega), List.getElem?_eq_getElem hj']
  have fin : ∀ w', w'.ownsRow B 41 5 (.slice (some ⟨g, 0, none⟩) nss[j].length cap) nss[j].length (rowCells (doRow r nss[j])) → w.grownBy w' (some g) → NewsOwnAt B w' (.slice (some ⟨gv, 0, none⟩) nss.length cv) (nss.set j (doRow r nss[j])) vs ∧ Below B w w' := fun w' h1 h2 => by
    refine ⟨hat.stored j hj hj' (by rw [e, doRow_length]; exact h1) (by rw [e]; exact h2), Below.grown (Below.refl _ _) h2 hB fun x hx => ?_⟩
    cases hx
    exact hg1
  rw [e] at hv hr
  rcases (by omega : r.op = 1 ∨ r.op = 2 ∨ r.op = 3 ∨ r.op = 4 ∨ r.op = 5) with h | h | h | h | h
  · exact (l2do_1 B gv cv g cap _ _ r j k w hj hjk hk hkk hm2 h hv hr).mono fun _ w' ⟨e, h1, h2⟩ => ⟨e, fin w' h1 h2⟩
  · exact (l2do_2 B gv cv g cap _ _ r j k w hj hjk hk hkk h hv hr).mono fun _ w' ⟨e, h1, h2⟩ => ⟨e, fin w' h1 h2⟩
  · exact (l2do_3 B gv cv g cap _ _ r j k w hj hjk hk hkk hm2 h hv hr).mono fun _ w' ⟨e, h1, h2⟩ => ⟨e, fin w' h1 h2⟩
  · exact (l2do_4 B gv cv g cap _ _ r j k w hj hjk hk hkk h hv hr).mono fun _ w' ⟨e, h1, h2⟩ => ⟨e, fin w' h1 h2⟩
  · exact (l2do_5 B gv cv g cap _ _ r j k w hj hjk hk hkk h hv hr).mono fun _ w' ⟨e, h1, h2⟩ => ⟨e, fin w' h1 h2⟩

end Go.Proofs.YtjioingdpfgadaaDoor
