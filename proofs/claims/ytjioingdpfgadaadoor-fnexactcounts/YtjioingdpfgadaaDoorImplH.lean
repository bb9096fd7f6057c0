import Derived.Test.YtjioingdpfgadaaDoorProg
import Derived.Test.YtjioingdpfgadaaDoorBaseR
namespace Go.Proofs.YtjioingdpfgadaaDoor
open Go Go.RowKit

theorem ibox (w : World) (o : Obj) : Below w.heap.size w (w.alloc o) := (Below.refl _ _).alloc (Nat.le_refl _) _

/-- There are such a trip and such a call. -/
def hasCallB (bk : BookD) (trip call : Int) : Bool := decide ((0 ≤ trip ∧ trip < bk.trips.length) ∧ (0 ≤ call ∧ call < (callsOf bk trip).length))
theorem hasCallB_no {bk : BookD} {trip call : Int} (h : ¬ ((0 ≤ trip ∧ trip < bk.trips.length) ∧ (0 ≤ call ∧ call < (callsOf bk trip).length))) : hasCallB bk trip call = false := decide_eq_false h

set_option maxRecDepth 100000 in
set_option maxHeartbeats 1000000 in
theorem hasCall_any (v : Value) (bk : BookD) (trip call : Int) (w : World) (hn : bookSize bk ≤ 1048576) (hat : BookAt w v bk) :
    Calls Tryd.prog 106 #[v, .int .i64 trip, .int .i64 call] w fun e w' => e = .returned (.bool (hasCallB bk trip call)) ∧ Below w.heap.size w w' := by
  obtain ⟨sa, sc, ta, tc, rfl, hsa, hta⟩ := hat
  have hb0 := ibox w (.cells #[.slice sa bk.sts.length sc, .slice ta bk.trips.length tc] 26)
  have n2 : bk.trips.length ≤ 1048576 := by unfold bookSize tripsSize at hn; omega
  have n3 : ∀ i (h : i < bk.trips.length), bk.trips[i].calls.length ≤ 1048576 := by
    intro i h
    have := sumTrips_get bk.trips i h
    unfold bookSize tripsSize at hn; unfold tripSize at this; omega
  have hta' := hta.keep hb0
  clear hsa hta
  by_cases h1 : 0 ≤ trip
  · by_cases h2 : trip < (bk.trips.length : Int)
    · by_cases h3 : 0 ≤ call
      · obtain ⟨k, rfl⟩ := Int.eq_ofNat_of_zero_le h1
        have hk : k < bk.trips.length := by omega
        have HC : Hid (callsOf bk k = bk.trips[k].calls) := callsOf_at bk k hk
        obtain ⟨b, o, ca, cc, rfl, hc0, hc1, _⟩ := hta' k hk
        have n4 := n3 k hk
        have HL : Hid (hasCallB bk k call = decide (call < (bk.trips[k].calls.length : Int))) := by
          unfold Hid hasCallB; rw [HC.out]; simp [h3, hk]
        generalize bk.trips[k].calls = cs at *
        clear n3 hta' HC
        go_enter Tryd.func106, Tryd.ntmps106
        go_wp2_with fail
        go_ret
        exact ⟨ret_bool HL.out.symm, hb0⟩
      · have HL : Hid (hasCallB bk trip call = false) := hasCallB_no (fun h => h3 h.2.1)
        clear n3 hta'
        go_enter Tryd.func106, Tryd.ntmps106
        go_wp2_with fail
        go_ret
        exact ⟨ret_bool HL.out.symm, hb0⟩
    · have HL : Hid (hasCallB bk trip call = false) := hasCallB_no (fun h => h2 h.1.2)
      clear n3 hta'
      go_enter Tryd.func106, Tryd.ntmps106
      go_wp2_with fail
      go_ret
      exact ⟨ret_bool HL.out.symm, hb0⟩
  · have HL : Hid (hasCallB bk trip call = false) := hasCallB_no (fun h => h1 h.1.1)
    clear n3 hta'
    go_enter Tryd.func106, Tryd.ntmps106
    go_wp2_with fail
    go_ret
    exact ⟨ret_bool HL.out.symm, hb0⟩

end Go.Proofs.YtjioingdpfgadaaDoor
