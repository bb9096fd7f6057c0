import Derived.Test.YtjioingdpfgadaaGreatDoorProg
import Derived.Test.YtjioingdpfgadaaGreatDoorBoardCM
import Derived.Test.YtjioingdpfgadaaGreatDoorSpecBM
import Derived.Deep.RegionLaw
namespace Go.Proofs.YtjioingdpfgadaaGreatDoor
open Go Go.RowKit Go.Deep

theorem uRows : Tryz.prog.underlying 33 = some (.slice 52) := by kernel_rfl
theorem infRows : (Tryz.prog.info? 52).map (fun i => (i.zero, i.size, i.bytes)) = some (some (.agg #[.int .i64 0, .int .i64 0, .int .i64 0, .int .i64 0, .int .i64 0, .int .i64 0]), 6, 48) := by kernel_rfl
theorem tripB_len' {n : Int} {t : TripD} (h : tripB n t = true) : 2 ≤ t.calls.length ∧ t.calls.length ≤ 20 := by
  apply Classical.byContradiction
  intro hn
  rw [tripB_count hn] at h
  exact absurd h (by decide)
theorem tripB_go {n : Int} {t : TripD} (h : tripB n t = true) : ∀ k (hk : k < t.calls.length), 0 ≤ t.calls[k].go ∧ t.calls[k].go ≤ 1000000 := by
  have hc : callsB n t.calls = true := by
    cases hc : callsB n t.calls
    · rw [tripB_call hc] at h; exact h
    · rfl
  have hat : ∀ k (hk : k < t.calls.length), callB n (prevGo t.calls k) t.calls[k] = true := fun k hk => by
    unfold callsB at hc
    rw [List.all_eq_true] at hc
    have := hc k (List.mem_range.2 hk)
    simpa [callAtB, List.getElem?_eq_getElem hk] using this
  intro k
  induction k with
  | zero =>
    intro hk
    have := callB_yes (hat 0 hk)
    simp only [prevGo] at this
    omega
  | succ k ih =>
    intro hk
    have h1 := callB_yes (hat (k + 1) hk)
    have h2 := ih (by omega)
    have e : prevGo t.calls (k + 1) = t.calls[k].go := by simp [prevGo, List.getElem?_eq_getElem (show k < t.calls.length by omega)]
    rw [e] at h1
    omega
theorem right_trips' {bk : BookD} (h : (faultD bk).1 = 0) : bk.trips.length ≤ 40 := by
  apply Classical.byContradiction
  intro hn
  rw [faultD_1 (Or.inr (by omega))] at h
  simp at h
theorem firstIdx_lt {p : Nat → Bool} {n k : Nat} (h : firstIdx p n = some k) : k < n := by
  unfold firstIdx at h
  exact List.mem_range.1 (List.mem_of_find?_eq_some h)
def sliceLen : Value → Nat
  | .slice _ n _ => n
  | _ => 0
theorem boardD_no {bk : BookD} {rs : List RepD} {s tick rows : Int} (h : ¬ (reportsB bk rs = true ∧ (0 ≤ s ∧ s < bk.sts.length) ∧ (0 ≤ tick ∧ tick ≤ 1000000) ∧ (0 ≤ rows ∧ rows ≤ 40))) : boardD bk rs s tick rows = [] := by unfold boardD; rw [if_neg h]
theorem cells_six_at (w : World) (r : RowD) (t : TypeId) : ∀ j u, (sixOf r)[j]? = some u → (w.alloc (.cells #[.int .i64 r.trip, .int .i64 r.to, .int .i64 r.due, .int .i64 r.expect, .int .i64 r.track, .int .i64 r.state] t)).cell? ((⟨w.heap.size, 0, none⟩ : Addr).add j) = some u := by
  intro j u hj
  have hadd : (⟨w.heap.size, 0, none⟩ : Addr).add j = ⟨w.heap.size, j, none⟩ := by unfold Addr.add; split <;> simp_all
  rw [hadd, cell_of_row _ _ _ _ _ _ (heap_alloc_last w _)]
  simpa [sixOf] using hj

end Go.Proofs.YtjioingdpfgadaaGreatDoor
