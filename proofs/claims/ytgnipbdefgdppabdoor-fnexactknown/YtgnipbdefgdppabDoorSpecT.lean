import Derived.Test.YtgnipbdefgdppabDoorProg
import Derived.Test.YtgnipbdefgdppabDoorSpecR
namespace Go.Proofs.YtgnipbdefgdppabDoor
open Go Go.RowKit Go.Deep

/-- The tick of the report before report k; 0 ahead of the first. -/
def prevTick (rs : List RepD) : Nat → Int
  | 0 => 0
  | k + 1 => (rs[k]?.map (·.tick)).getD 0
theorem prevTick_succ (rs : List RepD) (k : Nat) (h : k < rs.length) : prevTick rs (k + 1) = rs[k].tick := by
  simp [prevTick, List.getElem?_eq_getElem h]
def repAtB (bk : BookD) (rs : List RepD) (k : Nat) : Bool :=
  match rs[k]? with
  | none => true
  | some r => reportB bk r && decide (prevTick rs k ≤ r.tick)
theorem repAtB_at (bk : BookD) (rs : List RepD) (k : Nat) (h : k < rs.length) : repAtB bk rs k = (reportB bk rs[k] && decide (prevTick rs k ≤ rs[k].tick)) := by
  unfold repAtB; rw [List.getElem?_eq_getElem h]
/-- Reports are ones, and their ticks do not fall. -/
def reportsB (bk : BookD) (rs : List RepD) : Bool := (List.range rs.length).all (repAtB bk rs) && ((faultD bk).1 == 0) && decide (rs.length ≤ 500)
theorem reportsB_no {bk : BookD} {rs : List RepD} {k : Nat} (hk : k < rs.length) (h : repAtB bk rs k = false) : reportsB bk rs = false := by
  have : (List.range rs.length).all (repAtB bk rs) = false := by rw [List.all_eq_false]; exact ⟨k, List.mem_range.2 hk, by simp [h]⟩
  simp [reportsB, this]
theorem reportsB_all {bk : BookD} {rs : List RepD} (h : ∀ k, k < rs.length → repAtB bk rs k = true) : reportsB bk rs = (((faultD bk).1 == 0) && decide (rs.length ≤ 500)) := by
  have : (List.range rs.length).all (repAtB bk rs) = true := by rw [List.all_eq_true]; intro k hk; exact h k (List.mem_range.1 hk)
  simp only [reportsB, this, Bool.true_and]
theorem reportsB_inv {bk : BookD} {rs : List RepD} (h : reportsB bk rs = true) : (faultD bk).1 = 0 ∧ rs.length ≤ 500 ∧ ∀ k (hk : k < rs.length), reportB bk rs[k] = true ∧ prevTick rs k ≤ rs[k].tick := by
  unfold reportsB at h
  simp only [Bool.and_eq_true] at h
  obtain ⟨⟨h1, h2⟩, h3⟩ := h
  refine ⟨by simpa using h2, of_decide_eq_true h3, fun k hk => ?_⟩
  rw [List.all_eq_true] at h1
  have := h1 k (List.mem_range.2 hk)
  rw [repAtB_at bk rs k hk] at this
  simp only [Bool.and_eq_true] at this
  exact ⟨this.1, of_decide_eq_true this.2⟩

set_option maxRecDepth 100000 in
set_option maxHeartbeats 2000000 in
theorem l2reports_any (v : Value) (bk : BookD) (ra : Option Addr) (rc : Nat) (rs : List RepD) (w : World) (hn : bookSize bk ≤ 1048576) (hm : rs.length ≤ 1048576) (hat : BookAt w v bk) (hra : RepsAt w ra rs) :
    Calls Tryd.prog 19 #[v, .slice ra rs.length rc] w fun e w' => e = .returned (.bool (reportsB bk rs)) ∧ Below w.heap.size w w' := by
  obtain ⟨sa, sc, ta, tc, rfl, hsa, hta⟩ := hat
  have HBK : Hid (BookAt w (.agg #[.slice sa bk.sts.length sc, .slice ta bk.trips.length tc]) bk) := ⟨sa, sc, ta, tc, rfl, hsa, hta⟩
  have hb0 := bx_below w (.cells #[.slice sa bk.sts.length sc, .slice ta bk.trips.length tc] 33)
  clear hsa hta
  go_enter Tryd.func19, Tryd.ntmps19
  go_wp2
  go_loopw [5, 10] (fun lt i wr => ∃ k : Nat, k ≤ rs.length ∧ i = .int .i64 k ∧ lt = .int .i64 (prevTick rs k) ∧ Hid (∀ j, j < k → repAtB bk rs j = true) ∧ Below (w.heap.size + 1) (w.alloc (.cells #[.slice sa bk.sts.length sc, .slice ta bk.trips.length tc] 33)) wr) (fun _ i _ => rs.length - (intOf i).toNat)
  case atStart => exact ⟨0, Nat.zero_le _, rfl, rfl, fun j hj => by omega, Below.refl _ _⟩
  case round =>
    obtain ⟨k, hk, rfl, rfl, hgood, hbel⟩ := hrel
    have hB : Below w.heap.size w wr := hb0.trans (hbel.mono (by omega))
    have hz := hbel.size
    simp at hz
    have hz' : w.heap.size < wr.heap.size := by omega
    have q0 : wr.cell? ⟨w.heap.size, 0, none⟩ = some (.slice sa bk.sts.length sc) := by
      rw [hbel.cell (p := ⟨w.heap.size, 0, none⟩) (by simp)]; simp [go_sem]
    have q1 : wr.cell? ⟨w.heap.size, 1, none⟩ = some (.slice ta bk.trips.length tc) := by
      rw [hbel.cell (p := ⟨w.heap.size, 1, none⟩) (by simp)]; simp [go_sem]
    by_cases hlt : k < rs.length
    · obtain ⟨b, o, rfl, c0, c1, c2, c3, c4⟩ := hra.keep hB k hlt
      have HA : Hid (repAtB bk rs k = (reportB bk rs[k] && decide (prevTick rs k ≤ rs[k].tick))) := repAtB_at bk rs k hlt
      have HP : Hid (prevTick rs (k + 1) = rs[k].tick) := prevTick_succ rs k hlt
      generalize rs[k] = r at *
      generalize prevTick rs k = lt at *
      have HBW : Hid (BookAt (wr.alloc (.cells #[.int .i64 r.tick, .int .i64 r.op, .int .i64 r.trip, .int .i64 r.call, .int .i64 r.n] 49)) (.agg #[.slice sa bk.sts.length sc, .slice ta bk.trips.length tc]) bk) := (HBK.out.keep hB).keep (bx_below _ _)
      have H1 : Hid (repV r = .agg #[.int .i64 r.tick, .int .i64 r.op, .int .i64 r.trip, .int .i64 r.call, .int .i64 r.n]) := rfl
      clear hra
      cases hr : reportB bk r
      · have HF : Hid (reportsB bk rs = false) := reportsB_no hlt (by rw [HA.out, hr]; rfl)
        go_wp2_with fail
        rw [← H1.out]
        refine (specReportOk_any _ bk r _ hn (by exact HBW.out)).mono ?_
        rintro e w1 ⟨rfl, hb1⟩
        rw [hr]
        go_wp2_with fail
        go_ret
        exact ⟨ret_bool HF.out.symm, (hB.alloc hB.size _).trans (hb1.mono (by have := hB.size; simp; omega))⟩
      · by_cases hlt2 : r.tick < lt
        · have HF : Hid (reportsB bk rs = false) := reportsB_no hlt (by rw [HA.out, hr, decide_eq_false (by omega)]; rfl)
          go_wp2_with fail
          rw [← H1.out]
          refine (specReportOk_any _ bk r _ hn (by exact HBW.out)).mono ?_
          rintro e w1 ⟨rfl, hb1⟩
          rw [hr]
          have x0 : w1.cell? ⟨wr.heap.size, 0, none⟩ = some (.int .i64 r.tick) := cell_keep hb1 (by simp [go_sem])
          go_wp2_with fail
          go_ret
          exact ⟨ret_bool HF.out.symm, (hB.alloc hB.size _).trans (hb1.mono (by have := hB.size; simp; omega))⟩
        · have HR : Hid (reportB bk r = true) := hr
          have HT : Hid (lt ≤ r.tick) := by unfold Hid; omega
          go_wp2_with fail
          rw [← H1.out]
          refine (specReportOk_any _ bk r _ hn (by exact HBW.out)).mono ?_
          rintro e w1 ⟨rfl, hb1⟩
          rw [hr]
          have x0 : w1.cell? ⟨wr.heap.size, 0, none⟩ = some (.int .i64 r.tick) := cell_keep hb1 (by simp [go_sem])
          clear hr
          go_wp2_with fail
          go_roundw
          case rel =>
            refine ⟨k + 1, by omega, by go_num, by rw [HP.out], fun j hj => ?_, (hbel.alloc (by omega) _).trans (hb1.mono (by simp; omega))⟩
            by_cases e : j = k
            · subst e; rw [HA.out, HR.out, decide_eq_true HT.out]; rfl
            · exact hgood.out j (by omega)
          case measure => simp [intOf]; omega
    · have HR : Hid (reportsB bk rs = (((faultD bk).1 == 0) && decide (rs.length ≤ 500))) := reportsB_all (fun j hj => hgood.out j (by omega))
      cases hok : ((faultD bk).1 == 0)
      · have HF : Hid (reportsB bk rs = false) := by unfold Hid; rw [HR.out, hok]; rfl
        go_wp2_with fail
        refine (l1ok_no _ bk _ hn (by exact HBK.out.keep hB) hok).mono ?_
        rintro e w1 ⟨rfl, hb1⟩
        go_wp2_with fail
        go_ret
        exact ⟨ret_bool HF.out.symm, hB.trans (hb1.mono hB.size)⟩
      · by_cases h5 : rs.length ≤ 500
        all_goals
          have HF : Hid (reportsB bk rs = decide (rs.length ≤ 500)) := by unfold Hid; rw [HR.out, hok]; rfl
          go_wp2_with fail
          refine (l1ok_yes _ bk _ hn (by exact HBK.out.keep hB) hok).mono ?_
          rintro e w1 ⟨rfl, hb1⟩
          go_wp2_with fail
          go_ret
          exact ⟨ret_bool (by rw [HF.out]; simp [h5]; omega), hB.trans (hb1.mono hB.size)⟩

end Go.Proofs.YtgnipbdefgdppabDoor
