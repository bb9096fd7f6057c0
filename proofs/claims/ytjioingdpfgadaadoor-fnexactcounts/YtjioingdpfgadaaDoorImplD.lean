import Derived.Test.YtjioingdpfgadaaDoorProg
import Derived.Test.YtjioingdpfgadaaDoorImplH
namespace Go.Proofs.YtjioingdpfgadaaDoor
open Go Go.RowKit

/-- The report's call is its trip's last. -/
def lastB (bk : BookD) (r : RepD) : Bool := r.call == ((callsOf bk r.trip).length : Int) - 1
/-- The message of a report. -/
def msgV (r : RepD) (last : Bool) : Value :=
  if r.op = 1 then .iface 155 (.agg #[.int .i64 r.trip, .int .i64 r.call, .bool last, .int .i64 r.n])
  else if r.op = 2 then .iface 157 (.agg #[.int .i64 r.trip, .int .i64 r.call, .bool last, .int .i64 r.n])
  else if r.op = 3 then .iface 159 (.agg #[.int .i64 r.trip, .int .i64 r.call, .bool last])
  else if r.op = 4 then .iface 160 (.agg #[.int .i64 r.trip, .int .i64 r.call, .bool last])
  else .iface 161 (.agg #[.int .i64 r.trip, .int .i64 r.call, .bool last])
def readV (bk : BookD) (r : RepD) : Value := if reportB bk r then msgV r (lastB bk r) else .nilIface
theorem readV_no {bk : BookD} {r : RepD} (h : reportB bk r = false) : readV bk r = .nilIface := by unfold readV; rw [h]; rfl
theorem readV_yes {bk : BookD} {r : RepD} (h : reportB bk r = true) : readV bk r = msgV r (lastB bk r) := by unfold readV; rw [h]; rfl
theorem reportB_num {bk : BookD} {r : RepD} (h : (1 ≤ r.op ∧ r.op ≤ 5) → numB r = false) : reportB bk r = false := by
  unfold reportB
  by_cases ho : 1 ≤ r.op ∧ r.op ≤ 5
  · rw [h ho, Bool.and_false]
  · rw [decide_eq_false (fun g => ho g.2.2.1), Bool.false_and]

theorem ret_same {a b : Value} (h : a = b) : Ending.returned a = .returned b := by rw [h]

end Go.Proofs.YtjioingdpfgadaaDoor
