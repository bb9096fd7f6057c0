import Derived.Test.YtjioingdpfgadaaDoorProg
import Derived.Test.YtjioingdpfgadaaDoorSpecNM
import Derived.Deep.AppendLies
import Derived.Test.YtjioingdpfgadaaDoorSzM
import Derived.Deep.OwnRows
import Derived.BigRegion
import Derived.Deep.RegionWith
import Derived.BigQuiet
namespace Go.Proofs.YtjioingdpfgadaaDoor
open Go Go.RowKit Go.Deep

/-- The mark on place i of a row whose marks begin at k. -/
def mark3 (k : Nat) : Bool := decide (k % 3 = 0)
theorem mark3_eq {z : Int} {n : Nat} (h : z = (n : Int)) : (z % 3 == 0) = mark3 n := by
  subst h
  unfold mark3
  rw [Bool.eq_iff_iff, beq_iff_eq, decide_eq_true_iff]
  omega
def markN (k i : Nat) : NewsD := ⟨((k + i * 5 : Nat) : Int), ((k + i * 5 + 1 : Nat) : Int), mark3 (k + i * 5 + 2), mark3 (k + i * 5 + 3), mark3 (k + i * 5 + 4)⟩
def markRow (k n : Nat) : List NewsD := (List.range n).map (markN k)
def mixRow (k m : Nat) (ns : List NewsD) : List NewsD := ns.mapIdx fun i x => if i < m then markN k i else x
theorem markRow_length (k n : Nat) : (markRow k n).length = n := by simp [markRow]
theorem markRow_get (k n i : Nat) (h : i < n) : (markRow k n)[i]'(by rw [markRow_length]; exact h) = markN k i := by simp [markRow]
theorem mixRow_length (k m : Nat) (ns : List NewsD) : (mixRow k m ns).length = ns.length := by simp [mixRow]
theorem mixRow_start (k : Nat) (ns : List NewsD) : mixRow k 0 ns = ns := by
  apply List.ext_getElem (mixRow_length k 0 ns)
  intro i h1 h2
  simp [mixRow]
theorem mixRow_end (k : Nat) (ns : List NewsD) : mixRow k ns.length ns = markRow k ns.length := by
  apply List.ext_getElem (by rw [mixRow_length, markRow_length])
  intro i h1 h2
  rw [markRow_length] at h2
  rw [markRow_get k _ i h2]
  simp [mixRow, h2]
theorem mixRow_succ (k m : Nat) (ns : List NewsD) : mixRow k (m + 1) ns = (mixRow k m ns).set m (markN k m) := by
  apply List.ext_getElem (by rw [List.length_set, mixRow_length, mixRow_length])
  intro i h1 h2
  rw [List.getElem_set]
  by_cases e : m = i
  · subst e; simp [mixRow]
  · rw [if_neg e]
    simp only [mixRow, List.getElem_mapIdx]
    by_cases h' : i < m
    · rw [if_pos (by omega), if_pos h']
    · rw [if_neg (by omega), if_neg h']

/-- All five cells of a place are written. -/
theorem rowCells_five {w : World} {B g cap : Nat} {ns : List NewsD} (m : Nat) (x : NewsD) (h : m < ns.length)
    (hr : w.ownsRow B 41 5 (.slice (some ⟨g, 0, none⟩) ns.length cap) ns.length (rowCells ns)) :
    (((((w.setCell ⟨g, m * 5, none⟩ (.int .i64 x.late)).setCell ⟨g, m * 5 + 1, none⟩ (.int .i64 x.track)).setCell ⟨g, m * 5 + 2, none⟩ (.bool x.off)).setCell ⟨g, m * 5 + 3, none⟩ (.bool x.here)).setCell ⟨g, m * 5 + 4, none⟩ (.bool x.gone)).ownsRow B 41 5 (.slice (some ⟨g, 0, none⟩) ns.length cap) ns.length (rowCells (ns.set m x)) ∧
    w.grownBy (((((w.setCell ⟨g, m * 5, none⟩ (.int .i64 x.late)).setCell ⟨g, m * 5 + 1, none⟩ (.int .i64 x.track)).setCell ⟨g, m * 5 + 2, none⟩ (.bool x.off)).setCell ⟨g, m * 5 + 3, none⟩ (.bool x.here)).setCell ⟨g, m * 5 + 4, none⟩ (.bool x.gone)) (some g) := by
  have step : ∀ (w1 : World) (y z : NewsD) (c : Nat) (u : Value), c < 5 → newsCells z = (newsCells y).set c u → w1.ownsRow B 41 5 (.slice (some ⟨g, 0, none⟩) ns.length cap) ns.length (rowCells (ns.set m y)) → w.grownBy w1 (some g) →
      (w1.setCell ⟨g, m * 5 + c, none⟩ u).ownsRow B 41 5 (.slice (some ⟨g, 0, none⟩) ns.length cap) ns.length (rowCells (ns.set m z)) ∧ w.grownBy (w1.setCell ⟨g, m * 5 + c, none⟩ u) (some g) := fun w1 y z c u hc hz h1 h2 => by
    have hl : (ns.set m y).length = ns.length := List.length_set
    rw [← hl] at h1
    have := rowCells_set' m c u z (by rw [hl]; exact h) hc (by rw [List.getElem_set_self]; exact hz) h1
    rw [List.set_set, hl] at this
    exact ⟨this.1, h2.trans this.2⟩
  have s0 := step w ns[m] { ns[m] with late := x.late } 0 (.int .i64 x.late) (by omega) rfl (by rw [List.set_getElem_self]; exact hr) (World.grownBy.refl _ _)
  have s1 := step _ { ns[m] with late := x.late } { ns[m] with late := x.late, track := x.track } 1 (.int .i64 x.track) (by omega) rfl s0.1 s0.2
  have s2 := step _ { ns[m] with late := x.late, track := x.track } { ns[m] with late := x.late, track := x.track, off := x.off } 2 (.bool x.off) (by omega) rfl s1.1 s1.2
  have s3 := step _ { ns[m] with late := x.late, track := x.track, off := x.off } { ns[m] with late := x.late, track := x.track, off := x.off, here := x.here } 3 (.bool x.here) (by omega) rfl s2.1 s2.2
  exact step _ { ns[m] with late := x.late, track := x.track, off := x.off, here := x.here } x 4 (.bool x.gone) (by omega) rfl s3.1 s3.2

theorem row_cell5 {w : World} {B g cap : Nat} {ns : List NewsD} (hr : w.ownsRow B 41 5 (.slice (some ⟨g, 0, none⟩) ns.length cap) ns.length (rowCells ns)) (m c : Nat) (hm : m < ns.length) (hc : c < 5) : ∃ u, w.cell? ⟨g, m * 5 + c, none⟩ = some u := by
  rw [hr.cellAt _ (by omega), rowCells_get _ m c hm hc]
  exact ⟨_, List.getElem?_eq_getElem (by simp [newsCells]; omega)⟩

end Go.Proofs.YtjioingdpfgadaaDoor
namespace Go.Proofs.YtjioingdpfgadaaDoor
open Go Go.RowKit Go.Deep

/-- Where the marks of row i begin. -/
def offK (k : Nat) (nss : List (List NewsD)) (i : Nat) : Nat := k + sumLens (nss.take i) * 5
theorem offK_zero (k : Nat) (nss : List (List NewsD)) : offK k nss 0 = k := by simp [offK, sumLens]
theorem offK_succ (k : Nat) (nss : List (List NewsD)) (i : Nat) (h : i < nss.length) : offK k nss (i + 1) = offK k nss i + nss[i].length * 5 := by
  unfold offK; rw [sumLens_take nss i h]; omega
theorem offK_end (k : Nat) (nss : List (List NewsD)) : offK k nss nss.length = k + sumLens nss * 5 := by unfold offK; rw [List.take_length]
theorem offK_le (k : Nat) (nss : List (List NewsD)) (i : Nat) : offK k nss i ≤ k + sumLens nss * 5 := by
  unfold offK; have := sumLens_take_le nss i; omega
def mixAll (k m : Nat) (nss : List (List NewsD)) : List (List NewsD) := nss.mapIdx fun i ns => if i < m then markRow (offK k nss i) ns.length else ns
def markAll (k : Nat) (nss : List (List NewsD)) : List (List NewsD) := nss.mapIdx fun i ns => markRow (offK k nss i) ns.length
theorem mixAll_length (k m : Nat) (nss : List (List NewsD)) : (mixAll k m nss).length = nss.length := by simp [mixAll]
theorem markAll_length (k : Nat) (nss : List (List NewsD)) : (markAll k nss).length = nss.length := by simp [markAll]
theorem markAll_get (k : Nat) (nss : List (List NewsD)) (i : Nat) (h : i < nss.length) : (markAll k nss)[i]'(by rw [markAll_length]; exact h) = markRow (offK k nss i) nss[i].length := by simp [markAll]
theorem mixAll_get (k m : Nat) (nss : List (List NewsD)) (h : m < nss.length) : (mixAll k m nss)[m]'(by rw [mixAll_length]; exact h) = nss[m] := by simp [mixAll]
theorem mixAll_start (k : Nat) (nss : List (List NewsD)) : mixAll k 0 nss = nss := by
  apply List.ext_getElem (mixAll_length k 0 nss)
  intro i h1 h2
  simp [mixAll]
theorem mixAll_end (k : Nat) (nss : List (List NewsD)) : mixAll k nss.length nss = markAll k nss := by
  apply List.ext_getElem (by rw [mixAll_length, markAll_length])
  intro i h1 h2
  rw [markAll_length] at h2
  simp [mixAll, markAll, h2]
theorem mixAll_succ (k m : Nat) (nss : List (List NewsD)) (h : m < nss.length) : mixAll k (m + 1) nss = (mixAll k m nss).set m (markRow (offK k nss m) nss[m].length) := by
  apply List.ext_getElem (by rw [List.length_set, mixAll_length, mixAll_length])
  intro i h1 h2
  rw [List.getElem_set]
  by_cases e : m = i
  · subst e; simp [mixAll]
  · rw [if_neg e]
    simp only [mixAll, List.getElem_mapIdx]
    by_cases h' : i < m
    · rw [if_pos (by omega), if_pos h']
    · rw [if_neg (by omega), if_neg h']

end Go.Proofs.YtjioingdpfgadaaDoor
namespace Go.Proofs.YtjioingdpfgadaaDoor
open Go Go.RowKit Go.Deep

set_option maxHeartbeats 400000 in
theorem eqCall_same (c0 c1 c2 c3 : Int) (w : World) :
    Calls Tryd.prog 132 #[.agg #[.int .i64 c0, .int .i64 c1, .int .i64 c2, .int .i64 c3], .agg #[.int .i64 c0, .int .i64 c1, .int .i64 c2, .int .i64 c3]] w fun e w' => e = .returned (.bool true) ∧ Below w.heap.size w w' := by
  go_enter Tryd.func132, Tryd.ntmps132
  go_wp2
  go_ret
  exact ⟨rfl, ((Below.refl _ _).alloc (Nat.le_refl _) _).alloc (by simp) _⟩

set_option maxHeartbeats 400000 in
theorem eqStringS_same (a a' : Option Addr) (ss : List ByteArray) (c c' : Nat) (w : World) (hn : ss.length ≤ 1048576) (hat : StrsAt w a ss) (hat' : StrsAt w a' ss) :
    Calls Tryd.prog 74 #[.slice a ss.length c, .slice a' ss.length c'] w fun e w' => e = .returned (.bool true) ∧ Below w.heap.size w w' := by
  go_enter Tryd.func74, Tryd.ntmps74
  go_wp2
  go_loopw [5] (fun i wr => ∃ k : Nat, k ≤ ss.length ∧ i = .int .i64 k ∧ Below w.heap.size w wr) (fun i _ => ss.length - (intOf i).toNat)
  case atStart => exact ⟨0, Nat.zero_le _, rfl, Below.refl _ _⟩
  case round =>
    obtain ⟨k, hk, rfl, hbel⟩ := hrel
    by_cases hlt : k < ss.length
    · obtain ⟨b, o, rfl, hc⟩ := hat.keep hbel k hlt
      obtain ⟨b', o', rfl, hc'⟩ := hat'.keep hbel k hlt
      have hi : (k : Int) < (ss.length : Int) := by omega
      have h0 : (0 : Int) ≤ (k : Int) := by omega
      generalize ss[k] = s at *
      clear hat hat'
      go_wp2
      go_quiet (fail)
      go_wp2
      all_goals try (exfalso; simp_all; done)
      go_roundw
      case rel => exact ⟨k + 1, by omega, by go_num, below_drewN hbel _⟩
      case measure => simp [intOf]; omega
    · go_wp2
      go_ret
      exact ⟨rfl, hbel⟩

set_option maxHeartbeats 400000 in
theorem eqCallS_same (a a' : Option Addr) (cs : List CallD) (c c' : Nat) (w : World) (hn : cs.length ≤ 1048576) (hat : CallsAt w a cs) (hat' : CallsAt w a' cs) :
    Calls Tryd.prog 126 #[.slice a cs.length c, .slice a' cs.length c'] w fun e w' => e = .returned (.bool true) ∧ Below w.heap.size w w' := by
  go_enter Tryd.func126, Tryd.ntmps126
  go_wp2
  go_loopw [5] (fun i wr => ∃ k : Nat, k ≤ cs.length ∧ i = .int .i64 k ∧ Below w.heap.size w wr) (fun i _ => cs.length - (intOf i).toNat)
  case atStart => exact ⟨0, Nat.zero_le _, rfl, Below.refl _ _⟩
  case round =>
    obtain ⟨k, hk, rfl, hbel⟩ := hrel
    by_cases hlt : k < cs.length
    · obtain ⟨b, o, rfl, hc0, hc1, hc2, hc3⟩ := hat.keep hbel k hlt
      obtain ⟨b', o', rfl, hd0, hd1, hd2, hd3⟩ := hat'.keep hbel k hlt
      have hi : (k : Int) < (cs.length : Int) := by omega
      have h0 : (0 : Int) ≤ (k : Int) := by omega
      generalize cs[k].st = x0 at *
      generalize cs[k].co = x1 at *
      generalize cs[k].go = x2 at *
      generalize cs[k].tr = x3 at *
      clear hat hat'
      go_wp2_with fail
      go_region_with (go_at_call 132; refine (eqCall_same _ _ _ _ _).mono ?_; rintro e w1 ⟨rfl, hb1⟩)
      all_goals
        go_wp2
        go_roundw
        case rel => exact ⟨k + 1, by omega, by go_num, hbel.drew.trans (by exact hb1.mono hbel.size)⟩
        case measure => simp [intOf]; omega
    · go_wp2
      go_ret
      exact ⟨rfl, hbel⟩

set_option maxHeartbeats 400000 in
theorem eqTrip_same (nm : ByteArray) (a a' : Option Addr) (cs : List CallD) (c c' : Nat) (w : World) (hn : cs.length ≤ 1048576) (hat : CallsAt w a cs) (hat' : CallsAt w a' cs) :
    Calls Tryd.prog 109 #[.agg #[.string nm, .slice a cs.length c], .agg #[.string nm, .slice a' cs.length c']] w fun e w' => e = .returned (.bool true) ∧ Below w.heap.size w w' := by
  go_enter Tryd.func109, Tryd.ntmps109
  go_wp2_with fail
  all_goals try (exfalso; simp_all; done)
  have hb0 : Below w.heap.size w ((w.alloc (.cells #[.string nm, .slice a cs.length c] 54)).alloc (.cells #[.string nm, .slice a' cs.length c'] 54)) := ((Below.refl _ _).alloc (Nat.le_refl _) _).alloc (by simp) _
  refine (eqCallS_same _ _ _ _ _ _ hn (by exact hat.keep hb0) (by exact hat'.keep hb0)).mono ?_
  rintro e w1 ⟨rfl, hb1⟩
  go_wp2_with fail
  go_ret
  exact ⟨rfl, hb0.trans (hb1.mono (by simp; omega))⟩

set_option maxHeartbeats 400000 in
theorem eqTripS_same (a a' : Option Addr) (ts : List TripD) (c c' : Nat) (w : World) (hn : ts.length ≤ 1048576) (hns : ∀ i (h : i < ts.length), ts[i].calls.length ≤ 1048576) (hat : TripsAt w a ts) (hat' : TripsAt w a' ts) :
    Calls Tryd.prog 75 #[.slice a ts.length c, .slice a' ts.length c'] w fun e w' => e = .returned (.bool true) ∧ Below w.heap.size w w' := by
  go_enter Tryd.func75, Tryd.ntmps75
  go_wp2
  go_loopw [5] (fun i wr => ∃ k : Nat, k ≤ ts.length ∧ i = .int .i64 k ∧ Below w.heap.size w wr) (fun i _ => ts.length - (intOf i).toNat)
  case atStart => exact ⟨0, Nat.zero_le _, rfl, Below.refl _ _⟩
  case round =>
    obtain ⟨k, hk, rfl, hbel⟩ := hrel
    by_cases hlt : k < ts.length
    · obtain ⟨b, o, ca, cc, rfl, hc0, hc1, hca⟩ := hat.keep hbel k hlt
      obtain ⟨b', o', ca', cc', rfl, hd0, hd1, hca'⟩ := hat'.keep hbel k hlt
      have hi : (k : Int) < (ts.length : Int) := by omega
      have h0 : (0 : Int) ≤ (k : Int) := by omega
      have hnk := hns k hlt
      have HC : Hid (CallsAt wr ca ts[k].calls) := hca
      have HC' : Hid (CallsAt wr ca' ts[k].calls) := hca'
      generalize ts[k].name = nm at *
      generalize ts[k].calls = cs at *
      clear hat hat' hca hca' hns
      go_wp2_with fail
      go_region_with (go_at_call 109; refine (eqTrip_same _ _ _ _ _ _ _ hnk (by exact HC.out) (by exact HC'.out)).mono ?_; rintro e w1 ⟨rfl, hb1⟩)
      all_goals
        go_wp2
        go_roundw
        case rel => exact ⟨k + 1, by omega, by go_num, hbel.drew.trans (by exact hb1.mono hbel.size)⟩
        case measure => simp [intOf]; omega
    · go_wp2
      go_ret
      exact ⟨rfl, hbel⟩

set_option maxHeartbeats 400000 in
theorem eqBook_same (v v' : Value) (bk : BookD) (w : World) (hn : bookSize bk ≤ 1048576) (hat : BookAt w v bk) (hat' : BookAt w v' bk) :
    Calls Tryd.prog 33 #[v, v'] w fun e w' => e = .returned (.bool true) ∧ Below w.heap.size w w' := by
  obtain ⟨sa, sc, ta, tc, rfl, hsa, hta⟩ := hat
  obtain ⟨sa', sc', ta', tc', rfl, hsa', hta'⟩ := hat'
  have n1 : bk.sts.length ≤ 1048576 := by unfold bookSize strsSize at hn; omega
  have n2 : bk.trips.length ≤ 1048576 := by unfold bookSize tripsSize at hn; omega
  have n3 : ∀ i (h : i < bk.trips.length), bk.trips[i].calls.length ≤ 1048576 := by
    intro i h
    have := sumTrips_get bk.trips i h
    unfold bookSize tripsSize at hn; unfold tripSize at this; omega
  have hb0 : Below w.heap.size w ((w.alloc (.cells #[.slice sa bk.sts.length sc, .slice ta bk.trips.length tc] 26)).alloc (.cells #[.slice sa' bk.sts.length sc', .slice ta' bk.trips.length tc'] 26)) := ((Below.refl _ _).alloc (Nat.le_refl _) _).alloc (by simp) _
  clear hn
  go_enter Tryd.func33, Tryd.ntmps33
  go_wp2_with fail
  refine (eqStringS_same _ _ _ _ _ _ n1 (by exact hsa.keep hb0) (by exact hsa'.keep hb0)).mono ?_
  rintro e w1 ⟨rfl, hb1⟩
  have q0 := hb1.cell (p := ⟨w.heap.size, 1, none⟩) (by simp; omega)
  have q1 := hb1.cell (p := ⟨w.heap.size + 1, 1, none⟩) (by simp)
  have q0' : w1.cell? ⟨w.heap.size, 1, none⟩ = some (.slice ta bk.trips.length tc) := by rw [q0]; simp [go_sem]
  have q1' : w1.cell? ⟨w.heap.size + 1, 1, none⟩ = some (.slice ta' bk.trips.length tc') := by rw [q1]; simp [go_sem]
  have hb1' : Below w.heap.size w w1 := hb0.trans (hb1.mono (by simp; omega))
  clear q0 q1 hb1
  go_wp2_with fail
  refine (eqTripS_same _ _ _ _ _ _ n2 n3 (by exact hta.keep hb1') (by exact hta'.keep hb1')).mono ?_
  rintro e w2 ⟨rfl, hb2⟩
  go_wp2_with fail
  go_ret
  exact ⟨rfl, hb1'.trans (hb2.mono hb1'.size)⟩

end Go.Proofs.YtjioingdpfgadaaDoor
