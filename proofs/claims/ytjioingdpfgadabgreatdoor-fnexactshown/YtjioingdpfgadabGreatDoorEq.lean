import Derived.Test.YtjioingdpfgadabGreatDoorProg
import Derived.Test.YtjioingdpfgadabGreatDoorSz
import Derived.Deep.OwnRows
import Derived.BigRegion
import Derived.Deep.RegionWith
import Derived.BigQuiet
namespace Go.Proofs.YtjioingdpfgadabGreatDoor
open Go Go.RowKit Go.Deep

set_option maxHeartbeats 400000 in
theorem eqCall_same (c0 c1 c2 c3 : Int) (w : World) :
    Calls Tryz.prog 105 #[.agg #[.int .i64 c0, .int .i64 c1, .int .i64 c2, .int .i64 c3], .agg #[.int .i64 c0, .int .i64 c1, .int .i64 c2, .int .i64 c3]] w fun e w' => e = .returned (.bool true) ∧ Below w.heap.size w w' := by
  go_enter Tryz.func105, Tryz.ntmps105
  go_wp2
  go_ret
  exact ⟨rfl, ((Below.refl _ _).alloc (Nat.le_refl _) _).alloc (by simp) _⟩

set_option maxHeartbeats 400000 in
theorem eqStringS_same (a a' : Option Addr) (ss : List ByteArray) (c c' : Nat) (w : World) (hn : ss.length ≤ 1048576) (hat : StrsAt w a ss) (hat' : StrsAt w a' ss) :
    Calls Tryz.prog 42 #[.slice a ss.length c, .slice a' ss.length c'] w fun e w' => e = .returned (.bool true) ∧ Below w.heap.size w w' := by
  go_enter Tryz.func42, Tryz.ntmps42
  go_wp2
  go_loopw [5] (fun i wr => ∃ k : Nat, k ≤ ss.length ∧ i = .int .i64 k ∧ Below w.heap.size w wr) (fun i _ => ss.length - (intOf i).toNat)
  case atStart => exact ⟨0, Nat.zero_le _, rfl, Below.refl _ _⟩
  case round =>
    obtain ⟨k, hk, rfl, hbel⟩ := hrel
    by_cases hlt : k < ss.length
    · obtain ⟨b, o, rfl, hc⟩ := hat.keep hbel k hlt
      obtain ⟨b', o', rfl, hc'⟩ := hat'.keep hbel k hlt
      have hi : (k : Int) < (ss.length : Int) := by omega
      have h0 : (0 : Int) ≤ (k : Int) := by omega
      generalize ss[k] = s at *
      clear hat hat'
      go_wp2
      go_quiet (fail)
      go_wp2
      all_goals try (exfalso; simp_all; done)
      go_roundw
      case rel => exact ⟨k + 1, by omega, by go_num, below_drewN hbel _⟩
      case measure => simp [intOf]; omega
    · go_wp2
      go_ret
      exact ⟨rfl, hbel⟩

set_option maxHeartbeats 400000 in
theorem eqCallS_same (a a' : Option Addr) (cs : List CallD) (c c' : Nat) (w : World) (hn : cs.length ≤ 1048576) (hat : CallsAt w a cs) (hat' : CallsAt w a' cs) :
    Calls Tryz.prog 92 #[.slice a cs.length c, .slice a' cs.length c'] w fun e w' => e = .returned (.bool true) ∧ Below w.heap.size w w' := by
  go_enter Tryz.func92, Tryz.ntmps92
  go_wp2
  go_loopw [5] (fun i wr => ∃ k : Nat, k ≤ cs.length ∧ i = .int .i64 k ∧ Below w.heap.size w wr) (fun i _ => cs.length - (intOf i).toNat)
  case atStart => exact ⟨0, Nat.zero_le _, rfl, Below.refl _ _⟩
  case round =>
    obtain ⟨k, hk, rfl, hbel⟩ := hrel
    by_cases hlt : k < cs.length
    · obtain ⟨b, o, rfl, hc0, hc1, hc2, hc3⟩ := hat.keep hbel k hlt
      obtain ⟨b', o', rfl, hd0, hd1, hd2, hd3⟩ := hat'.keep hbel k hlt
      have hi : (k : Int) < (cs.length : Int) := by omega
      have h0 : (0 : Int) ≤ (k : Int) := by omega
      generalize cs[k].st = x0 at *
      generalize cs[k].co = x1 at *
      generalize cs[k].go = x2 at *
      generalize cs[k].tr = x3 at *
      clear hat hat'
      go_wp2_with fail
      go_region_with (go_at_call 105; refine (eqCall_same _ _ _ _ _).mono ?_; rintro e w1 ⟨rfl, hb1⟩)
      all_goals
        go_wp2
        go_roundw
        case rel => exact ⟨k + 1, by omega, by go_num, hbel.drew.trans (by exact hb1.mono hbel.size)⟩
        case measure => simp [intOf]; omega
    · go_wp2
      go_ret
      exact ⟨rfl, hbel⟩

set_option maxHeartbeats 400000 in
theorem eqTrip_same (nm : ByteArray) (a a' : Option Addr) (cs : List CallD) (c c' : Nat) (w : World) (hn : cs.length ≤ 1048576) (hat : CallsAt w a cs) (hat' : CallsAt w a' cs) :
    Calls Tryz.prog 73 #[.agg #[.string nm, .slice a cs.length c], .agg #[.string nm, .slice a' cs.length c']] w fun e w' => e = .returned (.bool true) ∧ Below w.heap.size w w' := by
  go_enter Tryz.func73, Tryz.ntmps73
  go_wp2_with fail
  all_goals try (exfalso; simp_all; done)
  have hb0 : Below w.heap.size w ((w.alloc (.cells #[.string nm, .slice a cs.length c] 81)).alloc (.cells #[.string nm, .slice a' cs.length c'] 81)) := ((Below.refl _ _).alloc (Nat.le_refl _) _).alloc (by simp) _
  refine (eqCallS_same _ _ _ _ _ _ hn (by exact hat.keep hb0) (by exact hat'.keep hb0)).mono ?_
  rintro e w1 ⟨rfl, hb1⟩
  go_wp2_with fail
  go_ret
  exact ⟨rfl, hb0.trans (hb1.mono (by simp; omega))⟩

set_option maxHeartbeats 400000 in
theorem eqTripS_same (a a' : Option Addr) (ts : List TripD) (c c' : Nat) (w : World) (hn : ts.length ≤ 1048576) (hns : ∀ i (h : i < ts.length), ts[i].calls.length ≤ 1048576) (hat : TripsAt w a ts) (hat' : TripsAt w a' ts) :
    Calls Tryz.prog 43 #[.slice a ts.length c, .slice a' ts.length c'] w fun e w' => e = .returned (.bool true) ∧ Below w.heap.size w w' := by
  go_enter Tryz.func43, Tryz.ntmps43
  go_wp2
  go_loopw [5] (fun i wr => ∃ k : Nat, k ≤ ts.length ∧ i = .int .i64 k ∧ Below w.heap.size w wr) (fun i _ => ts.length - (intOf i).toNat)
  case atStart => exact ⟨0, Nat.zero_le _, rfl, Below.refl _ _⟩
  case round =>
    obtain ⟨k, hk, rfl, hbel⟩ := hrel
    by_cases hlt : k < ts.length
    · obtain ⟨b, o, ca, cc, rfl, hc0, hc1, hca⟩ := hat.keep hbel k hlt
      obtain ⟨b', o', ca', cc', rfl, hd0, hd1, hca'⟩ := hat'.keep hbel k hlt
      have hi : (k : Int) < (ts.length : Int) := by omega
      have h0 : (0 : Int) ≤ (k : Int) := by omega
      have hnk := hns k hlt
      have HC : Hid (CallsAt wr ca ts[k].calls) := hca
      have HC' : Hid (CallsAt wr ca' ts[k].calls) := hca'
      generalize ts[k].name = nm at *
      generalize ts[k].calls = cs at *
      clear hat hat' hca hca' hns
      go_wp2_with fail
      go_region_with (go_at_call 73; refine (eqTrip_same _ _ _ _ _ _ _ hnk (by exact HC.out) (by exact HC'.out)).mono ?_; rintro e w1 ⟨rfl, hb1⟩)
      all_goals
        go_wp2
        go_roundw
        case rel => exact ⟨k + 1, by omega, by go_num, hbel.drew.trans (by exact hb1.mono hbel.size)⟩
        case measure => simp [intOf]; omega
    · go_wp2
      go_ret
      exact ⟨rfl, hbel⟩

set_option maxHeartbeats 400000 in
theorem eqBook_same (v v' : Value) (bk : BookD) (w : World) (hn : bookSize bk ≤ 1048576) (hat : BookAt w v bk) (hat' : BookAt w v' bk) :
    Calls Tryz.prog 13 #[v, v'] w fun e w' => e = .returned (.bool true) ∧ Below w.heap.size w w' := by
  obtain ⟨sa, sc, ta, tc, rfl, hsa, hta⟩ := hat
  obtain ⟨sa', sc', ta', tc', rfl, hsa', hta'⟩ := hat'
  have n1 : bk.sts.length ≤ 1048576 := by unfold bookSize strsSize at hn; omega
  have n2 : bk.trips.length ≤ 1048576 := by unfold bookSize tripsSize at hn; omega
  have n3 : ∀ i (h : i < bk.trips.length), bk.trips[i].calls.length ≤ 1048576 := by
    intro i h
    have := sumTrips_get bk.trips i h
    unfold bookSize tripsSize at hn; unfold tripSize at this; omega
  have hb0 : Below w.heap.size w ((w.alloc (.cells #[.slice sa bk.sts.length sc, .slice ta bk.trips.length tc] 33)).alloc (.cells #[.slice sa' bk.sts.length sc', .slice ta' bk.trips.length tc'] 33)) := ((Below.refl _ _).alloc (Nat.le_refl _) _).alloc (by simp) _
  clear hn
  go_enter Tryz.func13, Tryz.ntmps13
  go_wp2_with fail
  refine (eqStringS_same _ _ _ _ _ _ n1 (by exact hsa.keep hb0) (by exact hsa'.keep hb0)).mono ?_
  rintro e w1 ⟨rfl, hb1⟩
  have q0 := hb1.cell (p := ⟨w.heap.size, 1, none⟩) (by simp; omega)
  have q1 := hb1.cell (p := ⟨w.heap.size + 1, 1, none⟩) (by simp)
  have q0' : w1.cell? ⟨w.heap.size, 1, none⟩ = some (.slice ta bk.trips.length tc) := by rw [q0]; simp [go_sem]
  have q1' : w1.cell? ⟨w.heap.size + 1, 1, none⟩ = some (.slice ta' bk.trips.length tc') := by rw [q1]; simp [go_sem]
  have hb1' : Below w.heap.size w w1 := hb0.trans (hb1.mono (by simp; omega))
  clear q0 q1 hb1
  go_wp2_with fail
  refine (eqTripS_same _ _ _ _ _ _ n2 n3 (by exact hta.keep hb1') (by exact hta'.keep hb1')).mono ?_
  rintro e w2 ⟨rfl, hb2⟩
  go_wp2_with fail
  go_ret
  exact ⟨rfl, hb1'.trans (hb2.mono hb1'.size)⟩

end Go.Proofs.YtjioingdpfgadabGreatDoor
