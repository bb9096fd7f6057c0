import Derived.Test.YtjioingdpfgadaaDoorProg
import Derived.Test.YtjioingdpfgadaaDoorSzM
namespace Go.Proofs.YtjioingdpfgadaaDoor
open Go Go.RowKit

theorem ibox (w : World) (o : Obj) : Below w.heap.size w (w.alloc o) := (Below.refl _ _).alloc (Nat.le_refl _) _

/-- There are such a trip and such a call. -/
def hasCallB (bk : BookD) (trip call : Int) : Bool := decide ((0 ≤ trip ∧ trip < bk.trips.length) ∧ (0 ≤ call ∧ call < (callsOf bk trip).length))
theorem hasCallB_no {bk : BookD} {trip call : Int} (h : ¬ ((0 ≤ trip ∧ trip < bk.trips.length) ∧ (0 ≤ call ∧ call < (callsOf bk trip).length))) : hasCallB bk trip call = false := decide_eq_false h

set_option maxRecDepth 100000 in
set_option maxHeartbeats 1000000 in
theorem hasCall_any (v : Value) (bk : BookD) (trip call : Int) (w : World) (hn : bookSize bk ≤ 1048576) (hat : BookAt w v bk) :
    Calls Tryd.prog 106 #[v, .int .i64 trip, .int .i64 call] w fun e w' => e = .returned (.bool (hasCallB bk trip call)) ∧ Below w.heap.size w w' := by
  obtain ⟨sa, sc, ta, tc, rfl, hsa, hta⟩ := hat
  have hb0 := ibox w (.cells #[.slice sa bk.sts.length sc, .slice ta bk.trips.length tc] 26)
  have n2 : bk.trips.length ≤ 1048576 := by unfold bookSize tripsSize at hn; omega
  have n3 : ∀ i (h : i < bk.trips.length), bk.trips[i].calls.length ≤ 1048576 := by
    intro i h
    have := sumTrips_get bk.trips i h
    unfold bookSize tripsSize at hn; unfold tripSize at this; omega
  have hta' := hta.keep hb0
  clear hsa hta
  by_cases h1 : 0 ≤ trip
  · by_cases h2 : trip < (bk.trips.length : Int)
    · by_cases h3 : 0 ≤ call
      · obtain ⟨k, rfl⟩ := Int.eq_ofNat_of_zero_le h1
        have hk : k < bk.trips.length := by omega
        have HC : Hid (callsOf bk k = bk.trips[k].calls) := callsOf_at bk k hk
        obtain ⟨b, o, ca, cc, rfl, hc0, hc1, _⟩ := hta' k hk
        have n4 := n3 k hk
        have HL : Hid (hasCallB bk k call = decide (call < (bk.trips[k].calls.length : Int))) := by
          unfold Hid hasCallB; rw [HC.out]; simp [h3, hk]
        generalize bk.trips[k].calls = cs at *
        clear n3 hta' HC
        go_enter Tryd.func106, Tryd.ntmps106
        go_wp2_with fail
        go_ret
        exact ⟨ret_bool HL.out.symm, hb0⟩
      · have HL : Hid (hasCallB bk trip call = false) := hasCallB_no (fun h => h3 h.2.1)
        clear n3 hta'
        go_enter Tryd.func106, Tryd.ntmps106
        go_wp2_with fail
        go_ret
        exact ⟨ret_bool HL.out.symm, hb0⟩
    · have HL : Hid (hasCallB bk trip call = false) := hasCallB_no (fun h => h2 h.1.2)
      clear n3 hta'
      go_enter Tryd.func106, Tryd.ntmps106
      go_wp2_with fail
      go_ret
      exact ⟨ret_bool HL.out.symm, hb0⟩
  · have HL : Hid (hasCallB bk trip call = false) := hasCallB_no (fun h => h1 h.1.1)
    clear n3 hta'
    go_enter Tryd.func106, Tryd.ntmps106
    go_wp2_with fail
    go_ret
    exact ⟨ret_bool HL.out.symm, hb0⟩

end Go.Proofs.YtjioingdpfgadaaDoor
namespace Go.Proofs.YtjioingdpfgadaaDoor
open Go Go.RowKit

/-- The report's call is its trip's last. -/
def lastB (bk : BookD) (r : RepD) : Bool := r.call == ((callsOf bk r.trip).length : Int) - 1
/-- The message of a report. -/
def msgV (r : RepD) (last : Bool) : Value :=
  if r.op = 1 then .iface 155 (.agg #[.int .i64 r.trip, .int .i64 r.call, .bool last, .int .i64 r.n])
  else if r.op = 2 then .iface 157 (.agg #[.int .i64 r.trip, .int .i64 r.call, .bool last, .int .i64 r.n])
  else if r.op = 3 then .iface 159 (.agg #[.int .i64 r.trip, .int .i64 r.call, .bool last])
  else if r.op = 4 then .iface 160 (.agg #[.int .i64 r.trip, .int .i64 r.call, .bool last])
  else .iface 161 (.agg #[.int .i64 r.trip, .int .i64 r.call, .bool last])
def readV (bk : BookD) (r : RepD) : Value := if reportB bk r then msgV r (lastB bk r) else .nilIface
theorem readV_no {bk : BookD} {r : RepD} (h : reportB bk r = false) : readV bk r = .nilIface := by unfold readV; rw [h]; rfl
theorem readV_yes {bk : BookD} {r : RepD} (h : reportB bk r = true) : readV bk r = msgV r (lastB bk r) := by unfold readV; rw [h]; rfl
theorem reportB_num {bk : BookD} {r : RepD} (h : (1 ≤ r.op ∧ r.op ≤ 5) → numB r = false) : reportB bk r = false := by
  unfold reportB
  by_cases ho : 1 ≤ r.op ∧ r.op ≤ 5
  · rw [h ho, Bool.and_false]
  · rw [decide_eq_false (fun g => ho g.2.2.1), Bool.false_and]

theorem ret_same {a b : Value} (h : a = b) : Ending.returned a = .returned b := by rw [h]

end Go.Proofs.YtjioingdpfgadaaDoor
