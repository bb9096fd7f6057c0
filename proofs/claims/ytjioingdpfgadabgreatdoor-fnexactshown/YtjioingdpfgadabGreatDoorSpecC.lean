import Derived.Test.YtjioingdpfgadabGreatDoorProg
import Derived.Test.YtjioingdpfgadabGreatDoorSpecAM
import Derived.Test.YtjioingdpfgadabGreatDoorPlainM
namespace Go.Proofs.YtjioingdpfgadabGreatDoor
open Go Go.RowKit Go.Deep

set_option maxRecDepth 100000 in
set_option maxHeartbeats 1000000 in
theorem l1ok_any (v : Value) (bk : BookD) (w : World) (hn : bookSize bk ≤ 1048576) (hat : BookAt w v bk) :
    Calls Tryz.prog 61 #[v] w fun e w' => e = .returned (.bool ((faultD bk).1 == 0)) ∧ Below w.heap.size w w' := by
  obtain ⟨sa, sc, ta, tc, rfl, hsa, hta⟩ := hat
  have hb0 := bx_below w (.cells #[.slice sa bk.sts.length sc, .slice ta bk.trips.length tc] 33)
  go_enter Tryz.func61, Tryz.ntmps61
  go_wp2_with fail
  refine (specBookOk_any _ bk _ hn (by exact ⟨sa, sc, ta, tc, rfl, hsa.keep hb0, hta.keep hb0⟩)).mono ?_
  rintro e w1 ⟨rfl, hb1⟩
  have hB1 : Below w.heap.size w w1 := hb0.trans (hb1.mono (by simp))
  go_wp2_with fail
  go_ret
  exact ⟨rfl, hB1.alloc hB1.size _⟩

set_option maxRecDepth 100000 in
set_option maxHeartbeats 1000000 in
theorem l1at_any (v : Value) (bk : BookD) (k : Nat) (s : Int) (w : World) (hk : k < bk.trips.length) (hn : bookSize bk ≤ 1048576) (hat : BookAt w v bk) :
    Calls Tryz.prog 31 #[v, .int .i64 k, .int .i64 s] w fun e w' => e = .returned (.int .i64 (callAtC bk.trips[k].calls s)) ∧ Below w.heap.size w w' := by
  obtain ⟨sa, sc, ta, tc, rfl, hsa, hta⟩ := hat
  have hb0 := bx_below w (.cells #[.slice sa bk.sts.length sc, .slice ta bk.trips.length tc] 33)
  obtain ⟨b, o, ca, cc, rfl, hc0, hc1, hca⟩ := (hta.keep hb0) k hk
  have n2 : bk.trips.length ≤ 1048576 := by unfold bookSize tripsSize at hn; omega
  have n3 : bk.trips[k].calls.length ≤ 1048576 := by
    have := sumTrips_get bk.trips k hk
    unfold bookSize tripsSize at hn; unfold tripSize at this; omega
  have HC : Hid (CallsAt w ca bk.trips[k].calls) := by
    obtain ⟨b', o', ca', cc', e', d0, d1, d2⟩ := hta k hk
    simp only [Option.some.injEq, Addr.mk.injEq] at e'
    obtain ⟨rfl, rfl, _⟩ := e'
    have := cell_keep hb0 d1
    rw [hc1] at this
    simp at this
    obtain ⟨rfl, _⟩ := this
    exact d2
  have hi1 : (k : Int) < (bk.trips.length : Int) := by omega
  generalize bk.trips[k].calls = cs at *
  clear hca hsa hta hc0 hn
  go_enter Tryz.func31, Tryz.ntmps31
  go_wp2
  go_loopw [16] (fun i wr => ∃ m : Nat, m ≤ cs.length ∧ i = .int .i64 m ∧ Hid (∀ j, j < m → atStation cs s j = false) ∧ Below w.heap.size w wr) (fun i _ => cs.length - (intOf i).toNat)
  case atStart => exact ⟨0, Nat.zero_le _, rfl, fun j hj => by omega, hb0⟩
  case round =>
    obtain ⟨m, hm, rfl, hno, hbel⟩ := hrel
    by_cases hlt : m < cs.length
    · obtain ⟨b', o', rfl, d0, d1, d2, d3⟩ := HC.out.keep hbel m hlt
      have HA : Hid (atStation cs s m = (cs[m].st == s)) := atStation_at cs s m hlt
      generalize cs[m] = c at *
      clear HC
      cases hcs : (c.st == s)
      · have HS : Hid ((c.st == s) = false) := hcs
        go_wp2
        go_roundw
        case rel =>
          refine ⟨m + 1, by omega, by go_num, fun j hj => ?_, hbel.alloc hbel.size _⟩
          by_cases e : j = m
          · subst e; rw [HA.out, HS.out]
          · exact hno.out j (by omega)
        case measure => simp [intOf]; omega
      · have HF : Hid (callAtC cs s = m) := callAtC_some (first_some hlt (by rw [HA.out, hcs]) hno.out)
        go_wp2
        go_ret
        exact ⟨ret_int HF.out.symm, hbel.alloc hbel.size _⟩
    · have HF : Hid (callAtC cs s = -1) := callAtC_none (first_none (fun j hj => hno.out j (by omega)))
      go_wp2
      go_ret
      exact ⟨ret_int HF.out.symm, hbel⟩

end Go.Proofs.YtjioingdpfgadabGreatDoor
