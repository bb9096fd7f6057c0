import Derived.Test.YtjioingdpfgadaaDoorProg
import Derived.Test.YtjioingdpfgadaaDoorImplW
namespace Go.Proofs.YtjioingdpfgadaaDoor
open Go Go.RowKit Go.Deep

/-- A message's place, asked through the interface. -/
theorem msgV_where (r : RepD) (l : Bool) : ∃ t m, msgV r l = .iface t m ∧ (∀ w, (Go.method 376 t m "loop.example/tannoy/impl.where").run Tryd.prog w = .ok (167, .agg #[.int .i64 r.trip, .int .i64 r.call, .bool l]) w) ∧ (∀ w, (Go.nilAhead 376 t m "loop.example/tannoy/impl.where").run Tryd.prog w = .ok (some false) w) := by
  unfold msgV
  split
  · exact ⟨_, _, rfl, fun w => mLate _ _ _ _ w, fun w => nLate _ _ _ _ w⟩
  · split
    · exact ⟨_, _, rfl, fun w => mTrack _ _ _ _ w, fun w => nTrack _ _ _ _ w⟩
    · split
      · exact ⟨_, _, rfl, fun w => mStop _ _ _ w, fun w => nStop _ _ _ w⟩
      · split
        · exact ⟨_, _, rfl, fun w => mHere _ _ _ w, fun w => nHere _ _ _ w⟩
        · exact ⟨_, _, rfl, fun w => mGone _ _ _ w, fun w => nGone _ _ _ w⟩
theorem tripB_len {n : Int} {t : TripD} (h : tripB n t = true) : 2 ≤ t.calls.length ∧ t.calls.length ≤ 20 := by
  apply Classical.byContradiction
  intro hn
  rw [tripB_count hn] at h
  exact absurd h (by decide)
theorem right_trips {bk : BookD} (h : (faultD bk).1 = 0) : bk.trips.length ≤ 40 := by
  apply Classical.byContradiction
  intro hn
  rw [faultD_1 (Or.inr (by omega))] at h
  simp at h
theorem lastB_at {bk : BookD} {r : RepD} {k n : Nat} (hk : r.call = (k : Int)) (hn : (callsOf bk r.trip).length = n) (hkn : k < n) : lastB bk r = !decide (k + 1 < n) := by
  unfold lastB
  rw [hk, hn]
  by_cases h : k + 1 < n
  · rw [decide_eq_true h]; simp; omega
  · rw [decide_eq_false h]; simp; omega

end Go.Proofs.YtjioingdpfgadaaDoor
