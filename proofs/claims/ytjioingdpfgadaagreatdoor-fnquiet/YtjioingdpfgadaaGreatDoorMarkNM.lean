import Derived.Test.YtjioingdpfgadaaGreatDoorProg
import Derived.Test.YtjioingdpfgadaaGreatDoorSpecNM
import Derived.Deep.AppendLies
import Derived.Test.YtjioingdpfgadaaGreatDoorSzM
import Derived.Deep.OwnRows
import Derived.BigRegion
import Derived.Deep.RegionWith
import Derived.BigQuiet
namespace Go.Proofs.YtjioingdpfgadaaGreatDoor
open Go Go.RowKit Go.Deep

/-- The mark on place i of a row whose marks begin at k. -/
def mark3 (k : Nat) : Bool := decide (k % 3 = 0)
theorem mark3_eq {z : Int} {n : Nat} (h : z = (n : Int)) : (z % 3 == 0) = mark3 n := by
  subst h
  unfold mark3
  rw [Bool.eq_iff_iff, beq_iff_eq, decide_eq_true_iff]
  omega
def markN (k i : Nat) : NewsD := ⟨((k + i * 5 : Nat) : Int), ((k + i * 5 + 1 : Nat) : Int), mark3 (k + i * 5 + 2), mark3 (k + i * 5 + 3), mark3 (k + i * 5 + 4)⟩
def markRow (k n : Nat) : List NewsD := (List.range n).map (markN k)
def mixRow (k m : Nat) (ns : List NewsD) : List NewsD := ns.mapIdx fun i x => if i < m then markN k i else x
theorem markRow_length (k n : Nat) : (markRow k n).length = n := by simp [markRow]
theorem markRow_get (k n i : Nat) (h : i < n) : (markRow k n)[i]'(by rw [markRow_length]; exact h) = markN k i := by simp [markRow]
theorem mixRow_length (k m : Nat) (ns : List NewsD) : (mixRow k m ns).length = ns.length := by simp [mixRow]
theorem mixRow_start (k : Nat) (ns : List NewsD) : mixRow k 0 ns = ns := by
  apply List.ext_getElem (mixRow_length k 0 ns)
  intro i h1 h2
  simp [mixRow]
theorem mixRow_end (k : Nat) (ns : List NewsD) : mixRow k ns.length ns = markRow k ns.length := by
  apply List.ext_getElem (by rw [mixRow_length, markRow_length])
  intro i h1 h2
  rw [markRow_length] at h2
  rw [markRow_get k _ i h2]
  simp [mixRow, h2]
theorem mixRow_succ (k m : Nat) (ns : List NewsD) : mixRow k (m + 1) ns = (mixRow k m ns).set m (markN k m) := by
  apply List.ext_getElem (by rw [List.length_set, mixRow_length, mixRow_length])
  intro i h1 h2
  rw [List.getElem_set]
  by_cases e : m = i
  · subst e; simp [mixRow]
  · rw [if_neg e]
    simp only [mixRow, List.getElem_mapIdx]
    by_cases h' : i < m
    · rw [if_pos (by omega), if_pos h']
    · rw [if_neg (by omega), if_neg h']

/-- All five cells of a place are written. -/
theorem rowCells_five {w : World} {B g cap : Nat} {ns : List NewsD} (m : Nat) (x : NewsD) (h : m < ns.length)
    (hr : w.ownsRow B 43 5 (.slice (some ⟨g, 0, none⟩) ns.length cap) ns.length (rowCells ns)) :
    (((((w.setCell ⟨g, m * 5, none⟩ (.int .i64 x.late)).setCell ⟨g, m * 5 + 1, none⟩ (.int .i64 x.track)).setCell ⟨g, m * 5 + 2, none⟩ (.bool x.off)).setCell ⟨g, m * 5 + 3, none⟩ (.bool x.here)).setCell ⟨g, m * 5 + 4, none⟩ (.bool x.gone)).ownsRow B 43 5 (.slice (some ⟨g, 0, none⟩) ns.length cap) ns.length (rowCells (ns.set m x)) ∧
    w.grownBy (((((w.setCell ⟨g, m * 5, none⟩ (.int .i64 x.late)).setCell ⟨g, m * 5 + 1, none⟩ (.int .i64 x.track)).setCell ⟨g, m * 5 + 2, none⟩ (.bool x.off)).setCell ⟨g, m * 5 + 3, none⟩ (.bool x.here)).setCell ⟨g, m * 5 + 4, none⟩ (.bool x.gone)) (some g) := by
  have step : ∀ (w1 : World) (y z : NewsD) (c : Nat) (u : Value), c < 5 → newsCells z = (newsCells y).set c u → w1.ownsRow B 43 5 (.slice (some ⟨g, 0, none⟩) ns.length cap) ns.length (rowCells (ns.set m y)) → w.grownBy w1 (some g) →
      (w1.setCell ⟨g, m * 5 + c, none⟩ u).ownsRow B 43 5 (.slice (some ⟨g, 0, none⟩) ns.length cap) ns.length (rowCells (ns.set m z)) ∧ w.grownBy (w1.setCell ⟨g, m * 5 + c, none⟩ u) (some g) := fun w1 y z c u hc hz h1 h2 => by
    have hl : (ns.set m y).length = ns.length := List.length_set
    rw [← hl] at h1
    have := rowCells_set' m c u z (by rw [hl]; exact h) hc (by rw [List.getElem_set_self]; exact hz) h1
    rw [List.set_set, hl] at this
    exact ⟨this.1, h2.trans this.2⟩
  have s0 := step w ns[m] { ns[m] with late := x.late } 0 (.int .i64 x.late) (by omega) rfl (by rw [List.set_getElem_self]; exact hr) (World.grownBy.refl _ _)
  have s1 := step _ { ns[m] with late := x.late } { ns[m] with late := x.late, track := x.track } 1 (.int .i64 x.track) (by omega) rfl s0.1 s0.2
  have s2 := step _ { ns[m] with late := x.late, track := x.track } { ns[m] with late := x.late, track := x.track, off := x.off } 2 (.bool x.off) (by omega) rfl s1.1 s1.2
  have s3 := step _ { ns[m] with late := x.late, track := x.track, off := x.off } { ns[m] with late := x.late, track := x.track, off := x.off, here := x.here } 3 (.bool x.here) (by omega) rfl s2.1 s2.2
  exact step _ { ns[m] with late := x.late, track := x.track, off := x.off, here := x.here } x 4 (.bool x.gone) (by omega) rfl s3.1 s3.2

theorem row_cell5 {w : World} {B g cap : Nat} {ns : List NewsD} (hr : w.ownsRow B 43 5 (.slice (some ⟨g, 0, none⟩) ns.length cap) ns.length (rowCells ns)) (m c : Nat) (hm : m < ns.length) (hc : c < 5) : ∃ u, w.cell? ⟨g, m * 5 + c, none⟩ = some u := by
  rw [hr.cellAt _ (by omega), rowCells_get _ m c hm hc]
  exact ⟨_, List.getElem?_eq_getElem (by simp [newsCells]; omega)⟩

end Go.Proofs.YtjioingdpfgadaaGreatDoor
namespace Go.Proofs.YtjioingdpfgadaaGreatDoor
open Go Go.RowKit Go.Deep

/-- Where the marks of row i begin. -/
def offK (k : Nat) (nss : List (List NewsD)) (i : Nat) : Nat := k + sumLens (nss.take i) * 5
theorem offK_zero (k : Nat) (nss : List (List NewsD)) : offK k nss 0 = k := by simp [offK, sumLens]
theorem offK_succ (k : Nat) (nss : List (List NewsD)) (i : Nat) (h : i < nss.length) : offK k nss (i + 1) = offK k nss i + nss[i].length * 5 := by
  unfold offK; rw [sumLens_take nss i h]; omega
theorem offK_end (k : Nat) (nss : List (List NewsD)) : offK k nss nss.length = k + sumLens nss * 5 := by unfold offK; rw [List.take_length]
theorem offK_le (k : Nat) (nss : List (List NewsD)) (i : Nat) : offK k nss i ≤ k + sumLens nss * 5 := by
  unfold offK; have := sumLens_take_le nss i; omega
def mixAll (k m : Nat) (nss : List (List NewsD)) : List (List NewsD) := nss.mapIdx fun i ns => if i < m then markRow (offK k nss i) ns.length else ns
def markAll (k : Nat) (nss : List (List NewsD)) : List (List NewsD) := nss.mapIdx fun i ns => markRow (offK k nss i) ns.length
theorem mixAll_length (k m : Nat) (nss : List (List NewsD)) : (mixAll k m nss).length = nss.length := by simp [mixAll]
theorem markAll_length (k : Nat) (nss : List (List NewsD)) : (markAll k nss).length = nss.length := by simp [markAll]
theorem markAll_get (k : Nat) (nss : List (List NewsD)) (i : Nat) (h : i < nss.length) : (markAll k nss)[i]'(by rw [markAll_length]; exact h) = markRow (offK k nss i) nss[i].length := by simp [markAll]
theorem mixAll_get (k m : Nat) (nss : List (List NewsD)) (h : m < nss.length) : (mixAll k m nss)[m]'(by rw [mixAll_length]; exact h) = nss[m] := by simp [mixAll]
theorem mixAll_start (k : Nat) (nss : List (List NewsD)) : mixAll k 0 nss = nss := by
  apply List.ext_getElem (mixAll_length k 0 nss)
  intro i h1 h2
  simp [mixAll]
theorem mixAll_end (k : Nat) (nss : List (List NewsD)) : mixAll k nss.length nss = markAll k nss := by
  apply List.ext_getElem (by rw [mixAll_length, markAll_length])
  intro i h1 h2
  rw [markAll_length] at h2
  simp [mixAll, markAll, h2]
theorem mixAll_succ (k m : Nat) (nss : List (List NewsD)) (h : m < nss.length) : mixAll k (m + 1) nss = (mixAll k m nss).set m (markRow (offK k nss m) nss[m].length) := by
  apply List.ext_getElem (by rw [List.length_set, mixAll_length, mixAll_length])
  intro i h1 h2
  rw [List.getElem_set]
  by_cases e : m = i
  · subst e; simp [mixAll]
  · rw [if_neg e]
    simp only [mixAll, List.getElem_mapIdx]
    by_cases h' : i < m
    · rw [if_pos (by omega), if_pos h']
    · rw [if_neg (by omega), if_neg h']

end Go.Proofs.YtjioingdpfgadaaGreatDoor
namespace Go.Proofs.YtjioingdpfgadaaGreatDoor
open Go Go.RowKit Go.Deep

end Go.Proofs.YtjioingdpfgadaaGreatDoor
