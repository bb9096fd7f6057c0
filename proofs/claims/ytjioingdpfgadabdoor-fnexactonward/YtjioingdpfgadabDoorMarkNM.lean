import Derived.Test.YtjioingdpfgadabDoorProg
import Derived.Test.YtjioingdpfgadabDoorNewsD
import Derived.Deep.AppendLies
namespace Go.Proofs.YtjioingdpfgadabDoor
open Go Go.RowKit Go.Deep

/-- The mark on place i of a row whose marks begin at k. -/
def mark3 (k : Nat) : Bool := decide (k % 3 = 0)
theorem mark3_eq {z : Int} {n : Nat} (h : z = (n : Int)) : (z % 3 == 0) = mark3 n := by
  subst h
  unfold mark3
  rw [Bool.eq_iff_iff, beq_iff_eq, decide_eq_true_iff]
  omega
def markN (k i : Nat) : NewsD := ⟨((k + i * 5 : Nat) : Int), ((k + i * 5 + 1 : Nat) : Int), mark3 (k + i * 5 + 2), mark3 (k + i * 5 + 3), mark3 (k + i * 5 + 4)⟩
def markRow (k n : Nat) : List NewsD := (List.range n).map (markN k)
def mixRow (k m : Nat) (ns : List NewsD) : List NewsD := ns.mapIdx fun i x => if i < m then markN k i else x
theorem markRow_length (k n : Nat) : (markRow k n).length = n := by simp [markRow]
theorem markRow_get (k n i : Nat) (h : i < n) : (markRow k n)[i]'(by rw [markRow_length]; exact h) = markN k i := by simp [markRow]
theorem mixRow_length (k m : Nat) (ns : List NewsD) : (mixRow k m ns).length = ns.length := by simp [mixRow]
theorem mixRow_start (k : Nat) (ns : List NewsD) : mixRow k 0 ns = ns := by
  apply List.ext_getElem (mixRow_length k 0 ns)
  intro i h1 h2
  simp [mixRow]
theorem mixRow_end (k : Nat) (ns : List NewsD) : mixRow k ns.length ns = markRow k ns.length := by
  apply List.ext_getElem (by rw [mixRow_length, markRow_length])
  intro i h1 h2
  rw [markRow_length] at h2
  rw [markRow_get k _ i h2]
  simp [mixRow, h2]
theorem mixRow_succ (k m : Nat) (ns : List NewsD) : mixRow k (m + 1) ns = (mixRow k m ns).set m (markN k m) := by
  apply List.ext_getElem (by rw [List.length_set, mixRow_length, mixRow_length])
  intro i h1 h2
  rw [List.getElem_set]
  by_cases e : m = i
  · subst e; simp [mixRow]
  · rw [if_neg e]
    simp only [mixRow, List.getElem_mapIdx]
    by_cases h' : i < m
    · rw [if_pos (by omega), if_pos h']
    · rw [if_neg (by omega), if_neg h']

/-- All five cells of a place are written. -/
theorem rowCells_five {w : World} {B g cap : Nat} {ns : List NewsD} (m : Nat) (x : NewsD) (h : m < ns.length)
    (hr : w.ownsRow B 65 5 (.slice (some ⟨g, 0, none⟩) ns.length cap) ns.length (rowCells ns)) :
    (((((w.setCell ⟨g, m * 5, none⟩ (.int .i64 x.late)).setCell ⟨g, m * 5 + 1, none⟩ (.int .i64 x.track)).setCell ⟨g, m * 5 + 2, none⟩ (.bool x.off)).setCell ⟨g, m * 5 + 3, none⟩ (.bool x.here)).setCell ⟨g, m * 5 + 4, none⟩ (.bool x.gone)).ownsRow B 65 5 (.slice (some ⟨g, 0, none⟩) ns.length cap) ns.length (rowCells (ns.set m x)) ∧
    w.grownBy (((((w.setCell ⟨g, m * 5, none⟩ (.int .i64 x.late)).setCell ⟨g, m * 5 + 1, none⟩ (.int .i64 x.track)).setCell ⟨g, m * 5 + 2, none⟩ (.bool x.off)).setCell ⟨g, m * 5 + 3, none⟩ (.bool x.here)).setCell ⟨g, m * 5 + 4, none⟩ (.bool x.gone)) (some g) := by
  have step : ∀ (w1 : World) (y z : NewsD) (c : Nat) (u : Value), c < 5 → newsCells z = (newsCells y).set c u → w1.ownsRow B 65 5 (.slice (some ⟨g, 0, none⟩) ns.length cap) ns.length (rowCells (ns.set m y)) → w.grownBy w1 (some g) →
      (w1.setCell ⟨g, m * 5 + c, none⟩ u).ownsRow B 65 5 (.slice (some ⟨g, 0, none⟩) ns.length cap) ns.length (rowCells (ns.set m z)) ∧ w.grownBy (w1.setCell ⟨g, m * 5 + c, none⟩ u) (some g) := fun w1 y z c u hc hz h1 h2 => by
    have hl : (ns.set m y).length = ns.length := List.length_set
    rw [← hl] at h1
    have := rowCells_set' m c u z (by rw [hl]; exact h) hc (by rw [List.getElem_set_self]; exact hz) h1
    rw [List.set_set, hl] at this
    exact ⟨this.1, h2.trans this.2⟩
  have s0 := step w ns[m] { ns[m] with late := x.late } 0 (.int .i64 x.late) (by omega) rfl (by rw [List.set_getElem_self]; exact hr) (World.grownBy.refl _ _)
  have s1 := step _ { ns[m] with late := x.late } { ns[m] with late := x.late, track := x.track } 1 (.int .i64 x.track) (by omega) rfl s0.1 s0.2
  have s2 := step _ { ns[m] with late := x.late, track := x.track } { ns[m] with late := x.late, track := x.track, off := x.off } 2 (.bool x.off) (by omega) rfl s1.1 s1.2
  have s3 := step _ { ns[m] with late := x.late, track := x.track, off := x.off } { ns[m] with late := x.late, track := x.track, off := x.off, here := x.here } 3 (.bool x.here) (by omega) rfl s2.1 s2.2
  exact step _ { ns[m] with late := x.late, track := x.track, off := x.off, here := x.here } x 4 (.bool x.gone) (by omega) rfl s3.1 s3.2

theorem row_cell5 {w : World} {B g cap : Nat} {ns : List NewsD} (hr : w.ownsRow B 65 5 (.slice (some ⟨g, 0, none⟩) ns.length cap) ns.length (rowCells ns)) (m c : Nat) (hm : m < ns.length) (hc : c < 5) : ∃ u, w.cell? ⟨g, m * 5 + c, none⟩ = some u := by
  rw [hr.cellAt _ (by omega), rowCells_get _ m c hm hc]
  exact ⟨_, List.getElem?_eq_getElem (by simp [newsCells]; omega)⟩

set_option maxRecDepth 100000 in
set_option maxHeartbeats 2000000 in
theorem markNewsS_some (B g cap k : Nat) (ns : List NewsD) (w : World) (hn : ns.length ≤ 1048576) (hk : k ≤ 100000000) (hr : w.ownsRow B 65 5 (.slice (some ⟨g, 0, none⟩) ns.length cap) ns.length (rowCells ns)) :
    Calls Tryd.prog 42 #[.slice (some ⟨g, 0, none⟩) ns.length cap, .int .i64 k] w fun e w' => e = .returned (.int .i64 ((k + ns.length * 5 : Nat) : Int)) ∧ w'.ownsRow B 65 5 (.slice (some ⟨g, 0, none⟩) ns.length cap) ns.length (rowCells (markRow k ns.length)) ∧ w.grownBy w' (some g) := by
  have HS := mixRow_start k ns
  have HE := mixRow_end k ns
  have HX : Hid (∀ m, mixRow k (m + 1) ns = (mixRow k m ns).set m (markN k m)) := fun m => mixRow_succ k m ns
  go_enter Tryd.func42, Tryd.ntmps42
  go_wp2
  go_loopw [1, 5] (fun q i wr => ∃ m : Nat, m ≤ ns.length ∧ i = .int .i64 m ∧ q = .int .i64 ((k + m * 5 : Nat) : Int) ∧ wr.ownsRow B 65 5 (.slice (some ⟨g, 0, none⟩) ns.length cap) ns.length (rowCells (mixRow k m ns)) ∧ w.grownBy wr (some g)) (fun _ i _ => ns.length - (intOf i).toNat)
  case atStart => exact ⟨0, Nat.zero_le _, rfl, by simp, by rw [HS]; exact hr, World.grownBy.refl _ _⟩
  case round =>
    obtain ⟨m, hm, rfl, rfl, hrow, hgr⟩ := hrel
    clear hr
    by_cases hlt : m < ns.length
    · have hlu := mixRow_length k m ns
      have hrow' := hrow
      rw [← hlu] at hrow'
      have hst := rowCells_five m (markN k m) (by rw [hlu]; exact hlt) hrow'
      rw [← HX.out m, hlu] at hst
      have HST : Hid _ := hst
      obtain ⟨u0, d0⟩ := row_cell5 hrow' m 0 (by rw [hlu]; exact hlt) (by omega)
      obtain ⟨u1, d1⟩ := row_cell5 hrow' m 1 (by rw [hlu]; exact hlt) (by omega)
      obtain ⟨u2, d2⟩ := row_cell5 hrow' m 2 (by rw [hlu]; exact hlt) (by omega)
      obtain ⟨u3, d3⟩ := row_cell5 hrow' m 3 (by rw [hlu]; exact hlt) (by omega)
      obtain ⟨u4, d4⟩ := row_cell5 hrow' m 4 (by rw [hlu]; exact hlt) (by omega)
      have hfr := hrow.frozenAt
      rw [Nat.add_zero] at d0
      clear hst hrow' hrow hlu HS HE
      go_wp2
      go_roundw
      case rel =>
        have e0 : (k : Int) + m * 5 = ((k + m * 5 : Nat) : Int) := by omega
        have e1 : (k : Int) + m * 5 + 1 = ((k + m * 5 + 1 : Nat) : Int) := by omega
        have e2 : (((k : Int) + m * 5 + 1 + 1) % 3 == 0) = mark3 (k + m * 5 + 2) := mark3_eq (by omega)
        have e3 : (((k : Int) + m * 5 + 1 + 1 + 1) % 3 == 0) = mark3 (k + m * 5 + 3) := mark3_eq (by omega)
        have e4 : (((k : Int) + m * 5 + 1 + 1 + 1 + 1) % 3 == 0) = mark3 (k + m * 5 + 4) := mark3_eq (by omega)
        refine ⟨m + 1, by omega, by go_num, by go_num, ?_, ?_⟩
        · rw [e4, e3, e2, e1, e0]; exact HST.out.1
        · rw [e4, e3, e2, e1, e0]; exact hgr.trans HST.out.2
      case measure => simp [intOf]; omega
    · have : m = ns.length := by omega
      subst this
      rw [HE] at hrow
      go_wp2
      go_ret
      exact ⟨rfl, hrow, hgr⟩

set_option maxRecDepth 100000 in
set_option maxHeartbeats 2000000 in
theorem heldNewsS_any (a : Option Addr) (n c k : Nat) (w : World) (hn : n ≤ 1048576) (hk : k ≤ 100000000) (hat : NewsAt w a (markRow k n)) :
    Calls Tryd.prog 43 #[.slice a n c, .int .i64 k] w fun e w' => e = .returned (.int .i64 ((k + n * 5 : Nat) : Int)) ∧ w' = w := by
  have HL := markRow_length k n
  have HAT : Hid (∀ m, m < n → ∃ b o, a = some ⟨b, o, none⟩ ∧ w.cell? ⟨b, o + m * 5, none⟩ = some (.int .i64 (k + m * 5)) ∧ w.cell? ⟨b, o + m * 5 + 1, none⟩ = some (.int .i64 (k + m * 5 + 1)) ∧ w.cell? ⟨b, o + m * 5 + 2, none⟩ = some (.bool (((k : Int) + m * 5 + 1 + 1) % 3 == 0)) ∧ w.cell? ⟨b, o + m * 5 + 3, none⟩ = some (.bool (((k : Int) + m * 5 + 1 + 1 + 1) % 3 == 0)) ∧ w.cell? ⟨b, o + m * 5 + 4, none⟩ = some (.bool (((k : Int) + m * 5 + 1 + 1 + 1 + 1) % 3 == 0))) := fun m hm => by
    obtain ⟨b, o, e, c0, c1, c2, c3, c4⟩ := hat m (by rw [HL]; exact hm)
    rw [markRow_get k n m hm] at c0 c1 c2 c3 c4
    have e0 : (k : Int) + m * 5 = ((k + m * 5 : Nat) : Int) := by omega
    have e1 : (k : Int) + m * 5 + 1 = ((k + m * 5 + 1 : Nat) : Int) := by omega
    have e2 : (((k : Int) + m * 5 + 1 + 1) % 3 == 0) = mark3 (k + m * 5 + 2) := mark3_eq (by omega)
    have e3 : (((k : Int) + m * 5 + 1 + 1 + 1) % 3 == 0) = mark3 (k + m * 5 + 3) := mark3_eq (by omega)
    have e4 : (((k : Int) + m * 5 + 1 + 1 + 1 + 1) % 3 == 0) = mark3 (k + m * 5 + 4) := mark3_eq (by omega)
    exact ⟨b, o, e, by rw [e0]; exact c0, by rw [e1]; exact c1, by rw [e2]; exact c2, by rw [e3]; exact c3, by rw [e4]; exact c4⟩
  clear hat HL
  go_enter Tryd.func43, Tryd.ntmps43
  go_wp2
  go_loopw [1, 5] (fun q i wr => ∃ m : Nat, m ≤ n ∧ i = .int .i64 m ∧ q = .int .i64 ((k + m * 5 : Nat) : Int) ∧ wr = w) (fun _ i _ => n - (intOf i).toNat)
  case atStart => exact ⟨0, Nat.zero_le _, rfl, by simp, rfl⟩
  case round =>
    obtain ⟨m, hm, rfl, rfl, rfl⟩ := hrel
    by_cases hlt : m < n
    · obtain ⟨b, o, rfl, c0, c1, c2, c3, c4⟩ := HAT.out m hlt
      go_wp2
      go_roundw
      case rel => exact ⟨m + 1, by omega, by go_num, by go_num, trivial⟩
      case measure => simp [intOf]; omega
    · have : m = n := by omega
      subst this
      go_wp2
      go_ret
      exact ⟨rfl, rfl⟩

end Go.Proofs.YtjioingdpfgadabDoor
namespace Go.Proofs.YtjioingdpfgadabDoor
open Go Go.RowKit Go.Deep

/-- Where the marks of row i begin. -/
def offK (k : Nat) (nss : List (List NewsD)) (i : Nat) : Nat := k + sumLens (nss.take i) * 5
theorem offK_zero (k : Nat) (nss : List (List NewsD)) : offK k nss 0 = k := by simp [offK, sumLens]
theorem offK_succ (k : Nat) (nss : List (List NewsD)) (i : Nat) (h : i < nss.length) : offK k nss (i + 1) = offK k nss i + nss[i].length * 5 := by
  unfold offK; rw [sumLens_take nss i h]; omega
theorem offK_end (k : Nat) (nss : List (List NewsD)) : offK k nss nss.length = k + sumLens nss * 5 := by unfold offK; rw [List.take_length]
theorem offK_le (k : Nat) (nss : List (List NewsD)) (i : Nat) : offK k nss i ≤ k + sumLens nss * 5 := by
  unfold offK; have := sumLens_take_le nss i; omega
def mixAll (k m : Nat) (nss : List (List NewsD)) : List (List NewsD) := nss.mapIdx fun i ns => if i < m then markRow (offK k nss i) ns.length else ns
def markAll (k : Nat) (nss : List (List NewsD)) : List (List NewsD) := nss.mapIdx fun i ns => markRow (offK k nss i) ns.length
theorem mixAll_length (k m : Nat) (nss : List (List NewsD)) : (mixAll k m nss).length = nss.length := by simp [mixAll]
theorem markAll_length (k : Nat) (nss : List (List NewsD)) : (markAll k nss).length = nss.length := by simp [markAll]
theorem markAll_get (k : Nat) (nss : List (List NewsD)) (i : Nat) (h : i < nss.length) : (markAll k nss)[i]'(by rw [markAll_length]; exact h) = markRow (offK k nss i) nss[i].length := by simp [markAll]
theorem mixAll_get (k m : Nat) (nss : List (List NewsD)) (h : m < nss.length) : (mixAll k m nss)[m]'(by rw [mixAll_length]; exact h) = nss[m] := by simp [mixAll]
theorem mixAll_start (k : Nat) (nss : List (List NewsD)) : mixAll k 0 nss = nss := by
  apply List.ext_getElem (mixAll_length k 0 nss)
  intro i h1 h2
  simp [mixAll]
theorem mixAll_end (k : Nat) (nss : List (List NewsD)) : mixAll k nss.length nss = markAll k nss := by
  apply List.ext_getElem (by rw [mixAll_length, markAll_length])
  intro i h1 h2
  rw [markAll_length] at h2
  simp [mixAll, markAll, h2]
theorem mixAll_succ (k m : Nat) (nss : List (List NewsD)) (h : m < nss.length) : mixAll k (m + 1) nss = (mixAll k m nss).set m (markRow (offK k nss m) nss[m].length) := by
  apply List.ext_getElem (by rw [List.length_set, mixAll_length, mixAll_length])
  intro i h1 h2
  rw [List.getElem_set]
  by_cases e : m = i
  · subst e; simp [mixAll]
  · rw [if_neg e]
    simp only [mixAll, List.getElem_mapIdx]
    by_cases h' : i < m
    · rw [if_pos (by omega), if_pos h']
    · rw [if_neg (by omega), if_neg h']

theorem markNewsS_nil (k : Nat) (w : World) :
    Calls Tryd.prog 42 #[.slice none 0 0, .int .i64 k] w fun e w' => e = .returned (.int .i64 (k : Int)) ∧ w' = w := by
  go_enter Tryd.func42, Tryd.ntmps42
  go_wp2
  go_loopw [1, 5] (fun q i wr => i = .int .i64 0 ∧ q = .int .i64 (k : Int) ∧ wr = w) (fun _ _ _ => 0)
  case atStart => exact ⟨rfl, rfl, rfl⟩
  case round =>
    obtain ⟨rfl, rfl, rfl⟩ := hrel
    go_wp2
    go_ret
    exact ⟨rfl, rfl⟩

theorem markNewsS_own (B k : Nat) (v : Value) (ns : List NewsD) (w : World) (hn : ns.length ≤ 1048576) (hk : k ≤ 100000000) (hr : w.ownsRow B 65 5 v ns.length (rowCells ns)) :
    Calls Tryd.prog 42 #[v, .int .i64 k] w fun e w' => e = .returned (.int .i64 ((k + ns.length * 5 : Nat) : Int)) ∧ w'.ownsRow B 65 5 v (markRow k ns.length).length (rowCells (markRow k ns.length)) ∧ w.grownBy w' v.ownBlock := by
  rw [markRow_length]
  rcases hr.2 with ⟨rfl, h0⟩ | ⟨g, cap, cur, rfl, _⟩
  · refine (markNewsS_nil k w).mono ?_
    rintro e w' ⟨rfl, rfl⟩
    refine ⟨by simp [h0], ?_, World.grownBy.refl _ _⟩
    rw [h0]
    exact World.ownsRow_nil _ _ _ _
  · exact markNewsS_some B g cap k ns w hn hk hr

set_option maxRecDepth 100000 in
set_option maxHeartbeats 1000000 in
theorem markNewsSS_any (B k : Nat) (v : Value) (nss : List (List NewsD)) (vs : List Value) (w : World) (hn : newsSize nss ≤ 1048576) (hk : k ≤ 1000000) (hB : B ≤ w.heap.size) (hat : NewsOwnAt B w v nss vs) :
    Calls Tryd.prog 16 #[v, .int .i64 k] w fun e w' => e = .returned (.int .i64 ((k + sumLens nss * 5 : Nat) : Int)) ∧ NewsOwnAt B w' v (markAll k nss) vs ∧ Below B w w' := by
  have m2 : nss.length ≤ 1048576 := by unfold newsSize at hn; omega
  have m3 : Hid (∀ i (h : i < nss.length), nss[i].length ≤ 1048576) := by
    intro i h
    have := sumLens_get nss i h
    unfold newsSize at hn; omega
  have HO : Hid (∀ i, offK k nss i ≤ 100000000) := fun i => by have := offK_le k nss i; unfold newsSize at hn; omega
  have HS := mixAll_start k nss
  have HE := mixAll_end k nss
  have HOE := offK_end k nss
  have HOZ := offK_zero k nss
  clear hn
  obtain ⟨va, vc, rfl⟩ := owns_slice hat.outer
  go_enter Tryd.func16, Tryd.ntmps16
  go_wp2
  go_loopw [1, 5] (fun q i wr => ∃ m : Nat, m ≤ nss.length ∧ i = .int .i64 m ∧ q = .int .i64 (offK k nss m : Int) ∧ Hid (NewsOwnAt B wr (.slice va nss.length vc) (mixAll k m nss) vs) ∧ Below B w wr) (fun _ i _ => nss.length - (intOf i).toNat)
  case atStart => exact ⟨0, Nat.zero_le _, rfl, by rw [HOZ], by rw [HS]; exact hat, Below.refl _ _⟩
  case round =>
    obtain ⟨m, hm, rfl, rfl, hown, hb⟩ := hrel
    clear hat
    have hzz := hb.size
    by_cases hlt : m < nss.length
    · have hl := mixAll_length k m nss
      have hg := mixAll_get k m nss hlt
      have hm' : m < vs.length := by rw [hown.out.len, hl]; exact hlt
      have ho := hown.out.outer
      rw [hl] at ho
      obtain ⟨gv, cv, e, _, hgv⟩ := ho.form (by omega)
      simp only [Value.slice.injEq, true_and] at e
      obtain ⟨rfl, rfl⟩ := e
      have hv : wr.cell? ⟨gv, m, none⟩ = some vs[m] := by rw [ho.cellAt m (by omega), List.getElem?_eq_getElem hm']
      have hr := hown.out.rows m (by rw [hl]; exact hlt) hm'
      rw [hg] at hr
      have HR : Hid (wr.ownsRow B 65 5 vs[m] nss[m].length (rowCells nss[m])) := hr
      have HX := mixAll_succ k m nss hlt
      have HOS := offK_succ k nss m hlt
      have hok := HO.out m
      have hm3 := m3.out m hlt
      generalize hoq : offK k nss m = q at *
      obtain ⟨ra, rc, e2⟩ := owns_slice hr
      rw [e2] at hv
      have HV : Hid (vs[m] = .slice ra nss[m].length rc) := e2
      clear hr e2 ho hg
      go_wp2_with fail
      rw [← HV.out]
      refine (markNewsS_own B q _ nss[m] _ hm3 hok HR.out).mono ?_
      rintro e w1 ⟨rfl, hr1, hg1⟩
      have HN : Hid (NewsOwnAt B w1 (.slice (some ⟨gv, 0, none⟩) nss.length vc) (mixAll k (m + 1) nss) vs) := by
        unfold Hid; rw [HX]; exact hown.out.stored m (by rw [hl]; exact hlt) hm' hr1 hg1
      have hb1 : Below B w w1 := hb.grown hg1 (by omega) fun g hg => (World.ownsRow.lt HR.out g hg).1
      clear hr1 hg1 HX
      go_wp2_with fail
      go_roundw
      case rel => exact ⟨m + 1, by omega, by go_num, by rw [HOS]; try go_num, HN, hb1⟩
      case measure => simp [intOf]; omega
    · have : m = nss.length := by omega
      subst this
      rw [HE] at hown
      rw [HOE]
      go_wp2_with fail
      go_ret
      exact ⟨rfl, hown.out, hb⟩

set_option maxRecDepth 100000 in
set_option maxHeartbeats 1000000 in
theorem heldNewsSS_any (a : Option Addr) (c k : Nat) (nss : List (List NewsD)) (w : World) (hn : newsSize nss ≤ 1048576) (hk : k ≤ 1000000) (hat : NewsSSAt w a (markAll k nss)) :
    Calls Tryd.prog 17 #[.slice a nss.length c, .int .i64 k] w fun e w' => e = .returned (.int .i64 ((k + sumLens nss * 5 : Nat) : Int)) ∧ w' = w := by
  have m2 : nss.length ≤ 1048576 := by unfold newsSize at hn; omega
  have m3 : Hid (∀ i (h : i < nss.length), nss[i].length ≤ 1048576) := by
    intro i h
    have := sumLens_get nss i h
    unfold newsSize at hn; omega
  have HO : Hid (∀ i, offK k nss i ≤ 100000000) := fun i => by have := offK_le k nss i; unfold newsSize at hn; omega
  have HOE := offK_end k nss
  have HOZ := offK_zero k nss
  have HAT : Hid _ := hat
  clear hn hat
  go_enter Tryd.func17, Tryd.ntmps17
  go_wp2
  go_loopw [1, 5] (fun q i wr => ∃ m : Nat, m ≤ nss.length ∧ i = .int .i64 m ∧ q = .int .i64 (offK k nss m : Int) ∧ wr = w) (fun _ i _ => nss.length - (intOf i).toNat)
  case atStart => exact ⟨0, Nat.zero_le _, rfl, by rw [HOZ], rfl⟩
  case round =>
    obtain ⟨m, hm, rfl, rfl, rfl⟩ := hrel
    by_cases hlt : m < nss.length
    · obtain ⟨b, o, ca, cc, rfl, c0, hrow⟩ := HAT.out m (by rw [markAll_length]; exact hlt)
      rw [markAll_get k nss m hlt] at hrow c0
      rw [markRow_length] at c0
      have HR : Hid _ := hrow
      have HOS := offK_succ k nss m hlt
      have hok := HO.out m
      have hm3 := m3.out m hlt
      generalize hoq : offK k nss m = q at *
      generalize nss[m].length = l at *
      clear hrow
      go_wp2_with fail
      refine (heldNewsS_any _ l _ q _ hm3 hok HR.out).mono ?_
      rintro e w1 ⟨rfl, rfl⟩
      go_wp2_with fail
      go_roundw
      case rel => exact ⟨m + 1, by omega, by go_num, by rw [HOS]; simp, trivial⟩
      case measure => simp [intOf]; omega
    · have : m = nss.length := by omega
      subst this
      rw [HOE]
      go_wp2_with fail
      go_ret
      exact ⟨rfl, rfl⟩

end Go.Proofs.YtjioingdpfgadabDoor
