import Derived.Test.YtjioingdpfgadaaGreatDoorProg
import Derived.Test.YtjioingdpfgadaaGreatDoorSpecBM
import Derived.Test.YtjioingdpfgadaaGreatDoorSzM
namespace Go.Proofs.YtjioingdpfgadaaGreatDoor
open Go Go.RowKit Go.Deep Go.BigFrame

theorem l1ok_no (v : Value) (bk : BookD) (w : World) (hn : bookSize bk ≤ 1048576) (hat : BookAt w v bk) (h : ((faultD bk).1 == 0) = false) :
    Calls Tryz.prog 46 #[v] w fun e w' => e = .returned (.bool false) ∧ Below w.heap.size w w' := by
  have := l1ok_any v bk w hn hat
  rwa [h] at this
theorem l1ok_yes (v : Value) (bk : BookD) (w : World) (hn : bookSize bk ≤ 1048576) (hat : BookAt w v bk) (h : ((faultD bk).1 == 0) = true) :
    Calls Tryz.prog 46 #[v] w fun e w' => e = .returned (.bool true) ∧ Below w.heap.size w w' := by
  have := l1ok_any v bk w hn hat
  rwa [h] at this

/-- The two boxes of a report's check, in every later world. -/
structure RepBox (w W : World) (sa ta : Option Addr) (sc tc : Nat) (bk : BookD) (r : RepD) : Prop where
  c0 : ∀ x : Later W.heap.size W, x.w.cell? ⟨w.heap.size, 0, none⟩ = some (.slice sa bk.sts.length sc)
  c1 : ∀ x : Later W.heap.size W, x.w.cell? ⟨w.heap.size, 1, none⟩ = some (.slice ta bk.trips.length tc)
  r0 : ∀ x : Later W.heap.size W, x.w.cell? ⟨w.heap.size + 1, 0, none⟩ = some (.int .i64 r.tick)
  r1 : ∀ x : Later W.heap.size W, x.w.cell? ⟨w.heap.size + 1, 1, none⟩ = some (.int .i64 r.op)
  r2 : ∀ x : Later W.heap.size W, x.w.cell? ⟨w.heap.size + 1, 2, none⟩ = some (.int .i64 r.trip)
  r3 : ∀ x : Later W.heap.size W, x.w.cell? ⟨w.heap.size + 1, 3, none⟩ = some (.int .i64 r.call)
  r4 : ∀ x : Later W.heap.size W, x.w.cell? ⟨w.heap.size + 1, 4, none⟩ = some (.int .i64 r.n)
theorem repBox {w W : World} {sa ta : Option Addr} {sc tc : Nat} {bk : BookD} {r : RepD} (h : ((w.alloc (.cells #[.slice sa bk.sts.length sc, .slice ta bk.trips.length tc] 26)).alloc (.cells #[.int .i64 r.tick, .int .i64 r.op, .int .i64 r.trip, .int .i64 r.call, .int .i64 r.n] 45)) = W) : RepBox w W sa ta sc tc bk r := by
  have q0 : W.cell? ⟨w.heap.size, 0, none⟩ = some (.slice sa bk.sts.length sc) := by rw [← h]; simp [go_sem]
  have q1 : W.cell? ⟨w.heap.size, 1, none⟩ = some (.slice ta bk.trips.length tc) := by rw [← h]; simp [go_sem]
  have p0 : W.cell? ⟨w.heap.size + 1, 0, none⟩ = some (.int .i64 r.tick) := by rw [← h]; simp [go_sem]
  have p1 : W.cell? ⟨w.heap.size + 1, 1, none⟩ = some (.int .i64 r.op) := by rw [← h]; simp [go_sem]
  have p2 : W.cell? ⟨w.heap.size + 1, 2, none⟩ = some (.int .i64 r.trip) := by rw [← h]; simp [go_sem]
  have p3 : W.cell? ⟨w.heap.size + 1, 3, none⟩ = some (.int .i64 r.call) := by rw [← h]; simp [go_sem]
  have p4 : W.cell? ⟨w.heap.size + 1, 4, none⟩ = some (.int .i64 r.n) := by rw [← h]; simp [go_sem]
  exact ⟨later_cell q0 (cell_lt q0), later_cell q1 (cell_lt q1), later_cell p0 (cell_lt p0), later_cell p1 (cell_lt p1), later_cell p2 (cell_lt p2), later_cell p3 (cell_lt p3), later_cell p4 (cell_lt p4)⟩

set_option maxRecDepth 100000 in
set_option maxHeartbeats 4000000 in
theorem specReportOk_any (v : Value) (bk : BookD) (r : RepD) (w : World) (hn : bookSize bk ≤ 1048576) (hat : BookAt w v bk) :
    Calls Tryz.prog 49 #[v, repV r] w fun e w' => e = .returned (.bool (reportB bk r)) ∧ Below w.heap.size w w' := by
  obtain ⟨sa, sc, ta, tc, rfl, hsa, hta⟩ := hat
  have HBK : Hid (BookAt w (.agg #[.slice sa bk.sts.length sc, .slice ta bk.trips.length tc]) bk) := ⟨sa, sc, ta, tc, rfl, hsa, hta⟩
  have HTA : Hid (TripsAt w ta bk.trips) := hta
  have hb0 : Below w.heap.size w ((w.alloc (.cells #[.slice sa bk.sts.length sc, .slice ta bk.trips.length tc] 26)).alloc (.cells #[.int .i64 r.tick, .int .i64 r.op, .int .i64 r.trip, .int .i64 r.call, .int .i64 r.n] 45)) := (bx_below _ _).alloc (by simp) _
  have n2 : bk.trips.length ≤ 1048576 := by unfold bookSize tripsSize at hn; omega
  have n3 : ∀ i (h : i < bk.trips.length), bk.trips[i].calls.length ≤ 1048576 := by
    intro i h
    have := sumTrips_get bk.trips i h
    unfold bookSize tripsSize at hn; unfold tripSize at this; omega
  obtain ⟨W, hW⟩ : ∃ W, ((w.alloc (.cells #[.slice sa bk.sts.length sc, .slice ta bk.trips.length tc] 26)).alloc (.cells #[.int .i64 r.tick, .int .i64 r.op, .int .i64 r.trip, .int .i64 r.call, .int .i64 r.n] 45)) = W := ⟨_, rfl⟩
  have hb0' : Below w.heap.size w W := hW ▸ hb0
  have HL : Hid (∀ x : Later W.heap.size W, BookAt x.w (.agg #[.slice sa bk.sts.length sc, .slice ta bk.trips.length tc]) bk) := fun x => (HBK.out.keep hb0').keep x.below
  obtain ⟨c0, c1, r0, r1, r2, r3, r4⟩ := repBox hW
  have ne := later_ne W.heap.size W
  have HW : Hid (_ = W) := hW
  clear hsa hta hb0 hW
  unfold repV
  cases hok : ((faultD bk).1 == 0)
  · have HF : Hid (reportB bk r = false) := reportB_no (fun h => by rw [h.1] at hok; simp at hok)
    go_enter Tryz.func49, Tryz.ntmps49
    go_wp2_with fail
    rw [HW.out]
    refine wp_region_later (B := W.heap.size) (W := W) (by kernel_rfl) (by kernel_rfl) (Below.refl _ _) ?_
    repeat (go_big_quiet_step ((go_at_call 46; rename_i x; exact later_call (Nat.le_refl _) (l1ok_no _ bk _ hn (HL.out x) hok))))
    refine wpQuiet_nil ?_
    intro w' hw'
    obtain ⟨x, rfl⟩ := hw'
    go_wp2
    go_ret
    exact ⟨ret_bool HF.out.symm, hb0'.trans (x.below.mono hb0'.size)⟩
  · have H0 : Hid ((faultD bk).1 = 0) := by unfold Hid; simpa using hok
    by_cases ht : 0 ≤ r.tick ∧ r.tick ≤ 1000000
    · obtain ⟨t1, t2⟩ := ht
      by_cases ho : 1 ≤ r.op ∧ r.op ≤ 5
      · obtain ⟨o1, o2⟩ := ho
        by_cases htr : 0 ≤ r.trip ∧ r.trip < bk.trips.length
        · obtain ⟨p1, p2⟩ := htr
          obtain ⟨k, hk⟩ := Int.eq_ofNat_of_zero_le p1
          have Hk : Hid (r.trip = (k : Int)) := hk
          have hkl : k < bk.trips.length := by omega
          rw [hk] at r2
          have hi1 : (k : Int) < (bk.trips.length : Int) := by omega
          have hi0 : (0 : Int) ≤ (k : Int) := by omega
          obtain ⟨b, o, ca, cc, rfl, d0, d1, _⟩ := HTA.out.keep hb0' k hkl
          have e1 := later_cell (B := W.heap.size) d1 (cell_lt d1)
          have n4 := n3 k hkl
          have HC : Hid (callsOf bk r.trip = bk.trips[k].calls) := by unfold Hid; rw [hk]; exact callsOf_at bk k hkl
          clear d0 d1 n3 hk p1 p2
          by_cases hcl : 0 ≤ r.call ∧ r.call < (bk.trips[k].calls.length : Int)
          · obtain ⟨l1, l2⟩ := hcl
            have HR : Hid (reportB bk r = numB r) := reportB_yes ⟨H0.out, ⟨t1, t2⟩, ⟨o1, o2⟩, ⟨by rw [Hk.out]; omega, by rw [Hk.out]; omega⟩, l1, by rw [HC.out]; exact l2⟩
            generalize bk.trips[k].calls.length = cl at *
            by_cases g1 : r.op = 1
            · have hg1 : (r.op == 1) = true := by simp [g1]
              have HN : Hid (numB r = decide (0 ≤ r.n ∧ r.n ≤ 100000)) := numB_1 g1
              clear g1
              go_enter Tryz.func49, Tryz.ntmps49
              go_wp2_with fail
              rw [HW.out]
              refine wp_region_later (B := W.heap.size) (W := W) (by kernel_rfl) (by kernel_rfl) (Below.refl _ _) ?_
              repeat (go_big_quiet_step (first | (go_at_call 46; rename_i x; exact later_call (Nat.le_refl _) (l1ok_yes _ bk _ hn (HL.out x) hok)) | (go_at_call 34; refine later_call_same (l1in_yes _ _ _ _ ?_ ?_) <;> omega) | (go_at_call 34; refine later_call_same (l1in_no _ _ _ _ ?_); omega)))
              refine wpQuiet_nil ?_
              intro w' hw'
              obtain ⟨x, rfl⟩ := hw'
              go_wp2_with fail
              refine (l1in_any _ _ _ _).mono ?_
              rintro e w1 ⟨rfl, rfl⟩
              go_wp2_with fail
              go_ret
              exact ⟨ret_bool (by rw [HR.out, HN.out]; first | rfl | simp), hb0'.trans (x.below.mono hb0'.size)⟩
            · have hg1 : (r.op == 1) = false := by simp [g1]
              by_cases g2 : r.op = 2
              · have hg2 : (r.op == 2) = true := by simp [g2]
                have HN : Hid (numB r = decide (1 ≤ r.n ∧ r.n ≤ 20)) := numB_2 g2
                clear g1 g2
                go_enter Tryz.func49, Tryz.ntmps49
                go_wp2_with fail
                rw [HW.out]
                refine wp_region_later (B := W.heap.size) (W := W) (by kernel_rfl) (by kernel_rfl) (Below.refl _ _) ?_
                repeat (go_big_quiet_step (first | (go_at_call 46; rename_i x; exact later_call (Nat.le_refl _) (l1ok_yes _ bk _ hn (HL.out x) hok)) | (go_at_call 34; refine later_call_same (l1in_yes _ _ _ _ ?_ ?_) <;> omega) | (go_at_call 34; refine later_call_same (l1in_no _ _ _ _ ?_); omega)))
                refine wpQuiet_nil ?_
                intro w' hw'
                obtain ⟨x, rfl⟩ := hw'
                go_wp2_with fail
                refine (l1in_any _ _ _ _).mono ?_
                rintro e w1 ⟨rfl, rfl⟩
                go_wp2_with fail
                go_ret
                exact ⟨ret_bool (by rw [HR.out, HN.out]; first | rfl | simp), hb0'.trans (x.below.mono hb0'.size)⟩
              · have hg2 : (r.op == 2) = false := by simp [g2]
                have HN : Hid (numB r = (r.n == 0)) := numB_3 g1 g2
                clear g1 g2
                go_enter Tryz.func49, Tryz.ntmps49
                go_wp2_with fail
                rw [HW.out]
                refine wp_region_later (B := W.heap.size) (W := W) (by kernel_rfl) (by kernel_rfl) (Below.refl _ _) ?_
                repeat (go_big_quiet_step (first | (go_at_call 46; rename_i x; exact later_call (Nat.le_refl _) (l1ok_yes _ bk _ hn (HL.out x) hok)) | (go_at_call 34; refine later_call_same (l1in_yes _ _ _ _ ?_ ?_) <;> omega) | (go_at_call 34; refine later_call_same (l1in_no _ _ _ _ ?_); omega)))
                refine wpQuiet_nil ?_
                intro w' hw'
                obtain ⟨x, rfl⟩ := hw'
                go_wp2
                go_ret
                exact ⟨ret_bool (by rw [HR.out, HN.out]), hb0'.trans (x.below.mono hb0'.size)⟩
          · have HF : Hid (reportB bk r = false) := reportB_no (fun h => hcl (by rw [← HC.out]; exact h.2.2.2.2))
            generalize bk.trips[k].calls.length = cl at *
            go_enter Tryz.func49, Tryz.ntmps49
            go_wp2_with fail
            rw [HW.out]
            refine wp_region_later (B := W.heap.size) (W := W) (by kernel_rfl) (by kernel_rfl) (Below.refl _ _) ?_
            repeat (go_big_quiet_step (first | (go_at_call 46; rename_i x; exact later_call (Nat.le_refl _) (l1ok_yes _ bk _ hn (HL.out x) hok)) | (go_at_call 34; refine later_call_same (l1in_yes _ _ _ _ ?_ ?_) <;> omega) | (go_at_call 34; refine later_call_same (l1in_no _ _ _ _ ?_); omega)))
            refine wpQuiet_nil ?_
            intro w' hw'
            obtain ⟨x, rfl⟩ := hw'
            go_wp2
            go_ret
            exact ⟨ret_bool HF.out.symm, hb0'.trans (x.below.mono hb0'.size)⟩
        · have HF : Hid (reportB bk r = false) := reportB_no (fun h => htr h.2.2.2.1)
          go_enter Tryz.func49, Tryz.ntmps49
          go_wp2_with fail
          rw [HW.out]
          refine wp_region_later (B := W.heap.size) (W := W) (by kernel_rfl) (by kernel_rfl) (Below.refl _ _) ?_
          repeat (go_big_quiet_step (first | (go_at_call 46; rename_i x; exact later_call (Nat.le_refl _) (l1ok_yes _ bk _ hn (HL.out x) hok)) | (go_at_call 34; refine later_call_same (l1in_yes _ _ _ _ ?_ ?_) <;> omega) | (go_at_call 34; refine later_call_same (l1in_no _ _ _ _ ?_); omega)))
          refine wpQuiet_nil ?_
          intro w' hw'
          obtain ⟨x, rfl⟩ := hw'
          go_wp2
          go_ret
          exact ⟨ret_bool HF.out.symm, hb0'.trans (x.below.mono hb0'.size)⟩
      · have HF : Hid (reportB bk r = false) := reportB_no (fun h => ho h.2.2.1)
        go_enter Tryz.func49, Tryz.ntmps49
        go_wp2_with fail
        rw [HW.out]
        refine wp_region_later (B := W.heap.size) (W := W) (by kernel_rfl) (by kernel_rfl) (Below.refl _ _) ?_
        repeat (go_big_quiet_step (first | (go_at_call 46; rename_i x; exact later_call (Nat.le_refl _) (l1ok_yes _ bk _ hn (HL.out x) hok)) | (go_at_call 34; refine later_call_same (l1in_yes _ _ _ _ ?_ ?_) <;> omega) | (go_at_call 34; refine later_call_same (l1in_no _ _ _ _ ?_); omega)))
        refine wpQuiet_nil ?_
        intro w' hw'
        obtain ⟨x, rfl⟩ := hw'
        go_wp2
        go_ret
        exact ⟨ret_bool HF.out.symm, hb0'.trans (x.below.mono hb0'.size)⟩
    · have HF : Hid (reportB bk r = false) := reportB_no (fun h => ht h.2.1)
      go_enter Tryz.func49, Tryz.ntmps49
      go_wp2_with fail
      rw [HW.out]
      refine wp_region_later (B := W.heap.size) (W := W) (by kernel_rfl) (by kernel_rfl) (Below.refl _ _) ?_
      repeat (go_big_quiet_step (first | (go_at_call 46; rename_i x; exact later_call (Nat.le_refl _) (l1ok_yes _ bk _ hn (HL.out x) hok)) | (go_at_call 34; refine later_call_same (l1in_no _ _ _ _ ?_); omega)))
      refine wpQuiet_nil ?_
      intro w' hw'
      obtain ⟨x, rfl⟩ := hw'
      go_wp2
      go_ret
      exact ⟨ret_bool HF.out.symm, hb0'.trans (x.below.mono hb0'.size)⟩

end Go.Proofs.YtjioingdpfgadaaGreatDoor
namespace Go.Proofs.YtjioingdpfgadaaGreatDoor
open Go Go.RowKit Go.Deep

/-- The tick of the report before report k; 0 ahead of the first. -/
def prevTick (rs : List RepD) : Nat → Int
  | 0 => 0
  | k + 1 => (rs[k]?.map (·.tick)).getD 0
theorem prevTick_succ (rs : List RepD) (k : Nat) (h : k < rs.length) : prevTick rs (k + 1) = rs[k].tick := by
  simp [prevTick, List.getElem?_eq_getElem h]
def repAtB (bk : BookD) (rs : List RepD) (k : Nat) : Bool :=
  match rs[k]? with
  | none => true
  | some r => reportB bk r && decide (prevTick rs k ≤ r.tick)
theorem repAtB_at (bk : BookD) (rs : List RepD) (k : Nat) (h : k < rs.length) : repAtB bk rs k = (reportB bk rs[k] && decide (prevTick rs k ≤ rs[k].tick)) := by
  unfold repAtB; rw [List.getElem?_eq_getElem h]
/-- Reports are ones, and their ticks do not fall. -/
def reportsB (bk : BookD) (rs : List RepD) : Bool := (List.range rs.length).all (repAtB bk rs) && ((faultD bk).1 == 0) && decide (rs.length ≤ 500)
theorem reportsB_no {bk : BookD} {rs : List RepD} {k : Nat} (hk : k < rs.length) (h : repAtB bk rs k = false) : reportsB bk rs = false := by
  have : (List.range rs.length).all (repAtB bk rs) = false := by rw [List.all_eq_false]; exact ⟨k, List.mem_range.2 hk, by simp [h]⟩
  simp [reportsB, this]
theorem reportsB_all {bk : BookD} {rs : List RepD} (h : ∀ k, k < rs.length → repAtB bk rs k = true) : reportsB bk rs = (((faultD bk).1 == 0) && decide (rs.length ≤ 500)) := by
  have : (List.range rs.length).all (repAtB bk rs) = true := by rw [List.all_eq_true]; intro k hk; exact h k (List.mem_range.1 hk)
  simp only [reportsB, this, Bool.true_and]
theorem reportsB_inv {bk : BookD} {rs : List RepD} (h : reportsB bk rs = true) : (faultD bk).1 = 0 ∧ rs.length ≤ 500 ∧ ∀ k (hk : k < rs.length), reportB bk rs[k] = true ∧ prevTick rs k ≤ rs[k].tick := by
  unfold reportsB at h
  simp only [Bool.and_eq_true] at h
  obtain ⟨⟨h1, h2⟩, h3⟩ := h
  refine ⟨by simpa using h2, of_decide_eq_true h3, fun k hk => ?_⟩
  rw [List.all_eq_true] at h1
  have := h1 k (List.mem_range.2 hk)
  rw [repAtB_at bk rs k hk] at this
  simp only [Bool.and_eq_true] at this
  exact ⟨this.1, of_decide_eq_true this.2⟩

set_option maxRecDepth 100000 in
set_option maxHeartbeats 2000000 in
theorem l2reports_any (v : Value) (bk : BookD) (ra : Option Addr) (rc : Nat) (rs : List RepD) (w : World) (hn : bookSize bk ≤ 1048576) (hm : rs.length ≤ 1048576) (hat : BookAt w v bk) (hra : RepsAt w ra rs) :
    Calls Tryz.prog 23 #[v, .slice ra rs.length rc] w fun e w' => e = .returned (.bool (reportsB bk rs)) ∧ Below w.heap.size w w' := by
  obtain ⟨sa, sc, ta, tc, rfl, hsa, hta⟩ := hat
  have HBK : Hid (BookAt w (.agg #[.slice sa bk.sts.length sc, .slice ta bk.trips.length tc]) bk) := ⟨sa, sc, ta, tc, rfl, hsa, hta⟩
  have hb0 := bx_below w (.cells #[.slice sa bk.sts.length sc, .slice ta bk.trips.length tc] 26)
  clear hsa hta
  go_enter Tryz.func23, Tryz.ntmps23
  go_wp2
  go_loopw [5, 10] (fun lt i wr => ∃ k : Nat, k ≤ rs.length ∧ i = .int .i64 k ∧ lt = .int .i64 (prevTick rs k) ∧ Hid (∀ j, j < k → repAtB bk rs j = true) ∧ Below (w.heap.size + 1) (w.alloc (.cells #[.slice sa bk.sts.length sc, .slice ta bk.trips.length tc] 26)) wr) (fun _ i _ => rs.length - (intOf i).toNat)
  case atStart => exact ⟨0, Nat.zero_le _, rfl, rfl, fun j hj => by omega, Below.refl _ _⟩
  case round =>
    obtain ⟨k, hk, rfl, rfl, hgood, hbel⟩ := hrel
    have hB : Below w.heap.size w wr := hb0.trans (hbel.mono (by omega))
    have hz := hbel.size
    simp at hz
    have hz' : w.heap.size < wr.heap.size := by omega
    have q0 : wr.cell? ⟨w.heap.size, 0, none⟩ = some (.slice sa bk.sts.length sc) := by
      rw [hbel.cell (p := ⟨w.heap.size, 0, none⟩) (by simp)]; simp [go_sem]
    have q1 : wr.cell? ⟨w.heap.size, 1, none⟩ = some (.slice ta bk.trips.length tc) := by
      rw [hbel.cell (p := ⟨w.heap.size, 1, none⟩) (by simp)]; simp [go_sem]
    by_cases hlt : k < rs.length
    · obtain ⟨b, o, rfl, c0, c1, c2, c3, c4⟩ := hra.keep hB k hlt
      have HA : Hid (repAtB bk rs k = (reportB bk rs[k] && decide (prevTick rs k ≤ rs[k].tick))) := repAtB_at bk rs k hlt
      have HP : Hid (prevTick rs (k + 1) = rs[k].tick) := prevTick_succ rs k hlt
      generalize rs[k] = r at *
      generalize prevTick rs k = lt at *
      have HBW : Hid (BookAt (wr.alloc (.cells #[.int .i64 r.tick, .int .i64 r.op, .int .i64 r.trip, .int .i64 r.call, .int .i64 r.n] 45)) (.agg #[.slice sa bk.sts.length sc, .slice ta bk.trips.length tc]) bk) := (HBK.out.keep hB).keep (bx_below _ _)
      have H1 : Hid (repV r = .agg #[.int .i64 r.tick, .int .i64 r.op, .int .i64 r.trip, .int .i64 r.call, .int .i64 r.n]) := rfl
      clear hra
      cases hr : reportB bk r
      · have HF : Hid (reportsB bk rs = false) := reportsB_no hlt (by rw [HA.out, hr]; rfl)
        go_wp2_with fail
        rw [← H1.out]
        refine (specReportOk_any _ bk r _ hn (by exact HBW.out)).mono ?_
        rintro e w1 ⟨rfl, hb1⟩
        rw [hr]
        go_wp2_with fail
        go_ret
        exact ⟨ret_bool HF.out.symm, (hB.alloc hB.size _).trans (hb1.mono (by have := hB.size; simp; omega))⟩
      · by_cases hlt2 : r.tick < lt
        · have HF : Hid (reportsB bk rs = false) := reportsB_no hlt (by rw [HA.out, hr, decide_eq_false (by omega)]; rfl)
          go_wp2_with fail
          rw [← H1.out]
          refine (specReportOk_any _ bk r _ hn (by exact HBW.out)).mono ?_
          rintro e w1 ⟨rfl, hb1⟩
          rw [hr]
          have x0 : w1.cell? ⟨wr.heap.size, 0, none⟩ = some (.int .i64 r.tick) := cell_keep hb1 (by simp [go_sem])
          go_wp2_with fail
          go_ret
          exact ⟨ret_bool HF.out.symm, (hB.alloc hB.size _).trans (hb1.mono (by have := hB.size; simp; omega))⟩
        · have HR : Hid (reportB bk r = true) := hr
          have HT : Hid (lt ≤ r.tick) := by unfold Hid; omega
          go_wp2_with fail
          rw [← H1.out]
          refine (specReportOk_any _ bk r _ hn (by exact HBW.out)).mono ?_
          rintro e w1 ⟨rfl, hb1⟩
          rw [hr]
          have x0 : w1.cell? ⟨wr.heap.size, 0, none⟩ = some (.int .i64 r.tick) := cell_keep hb1 (by simp [go_sem])
          clear hr
          go_wp2_with fail
          go_roundw
          case rel =>
            refine ⟨k + 1, by omega, by go_num, by rw [HP.out], fun j hj => ?_, (hbel.alloc (by omega) _).trans (hb1.mono (by simp; omega))⟩
            by_cases e : j = k
            · subst e; rw [HA.out, HR.out, decide_eq_true HT.out]; rfl
            · exact hgood.out j (by omega)
          case measure => simp [intOf]; omega
    · have HR : Hid (reportsB bk rs = (((faultD bk).1 == 0) && decide (rs.length ≤ 500))) := reportsB_all (fun j hj => hgood.out j (by omega))
      cases hok : ((faultD bk).1 == 0)
      · have HF : Hid (reportsB bk rs = false) := by unfold Hid; rw [HR.out, hok]; rfl
        go_wp2_with fail
        refine (l1ok_no _ bk _ hn (by exact HBK.out.keep hB) hok).mono ?_
        rintro e w1 ⟨rfl, hb1⟩
        go_wp2_with fail
        go_ret
        exact ⟨ret_bool HF.out.symm, hB.trans (hb1.mono hB.size)⟩
      · by_cases h5 : rs.length ≤ 500
        all_goals
          have HF : Hid (reportsB bk rs = decide (rs.length ≤ 500)) := by unfold Hid; rw [HR.out, hok]; rfl
          go_wp2_with fail
          refine (l1ok_yes _ bk _ hn (by exact HBK.out.keep hB) hok).mono ?_
          rintro e w1 ⟨rfl, hb1⟩
          go_wp2_with fail
          go_ret
          exact ⟨ret_bool (by rw [HF.out]; simp [h5]; omega), hB.trans (hb1.mono hB.size)⟩

end Go.Proofs.YtjioingdpfgadaaGreatDoor
