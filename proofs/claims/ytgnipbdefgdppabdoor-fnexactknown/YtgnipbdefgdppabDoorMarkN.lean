import Derived.Test.YtgnipbdefgdppabDoorProg
import Derived.Test.YtgnipbdefgdppabDoorNewsD
import Derived.Deep.AppendLies
namespace Go.Proofs.YtgnipbdefgdppabDoor
open Go Go.RowKit Go.Deep

/-- The mark on place i of a row whose marks begin at k. -/
def mark3 (k : Nat) : Bool := decide (k % 3 = 0)
theorem mark3_eq {z : Int} {n : Nat} (h : z = (n : Int)) : (z % 3 == 0) = mark3 n := by
  subst h
  unfold mark3
  rw [Bool.eq_iff_iff, beq_iff_eq, decide_eq_true_iff]
  omega
def markN (k i : Nat) : NewsD := ⟨((k + i * 5 : Nat) : Int), ((k + i * 5 + 1 : Nat) : Int), mark3 (k + i * 5 + 2), mark3 (k + i * 5 + 3), mark3 (k + i * 5 + 4)⟩
def markRow (k n : Nat) : List NewsD := (List.range n).map (markN k)
def mixRow (k m : Nat) (ns : List NewsD) : List NewsD := ns.mapIdx fun i x => if i < m then markN k i else x
theorem markRow_length (k n : Nat) : (markRow k n).length = n := by simp [markRow]
theorem markRow_get (k n i : Nat) (h : i < n) : (markRow k n)[i]'(by rw [markRow_length]; exact h) = markN k i := by simp [markRow]
theorem mixRow_length (k m : Nat) (ns : List NewsD) : (mixRow k m ns).length = ns.length := by simp [mixRow]
theorem mixRow_start (k : Nat) (ns : List NewsD) : mixRow k 0 ns = ns := by
  apply List.ext_getElem (mixRow_length k 0 ns)
  intro i h1 h2
  simp [mixRow]
theorem mixRow_end (k : Nat) (ns : List NewsD) : mixRow k ns.length ns = markRow k ns.length := by
  apply List.ext_getElem (by rw [mixRow_length, markRow_length])
  intro i h1 h2
  rw [markRow_length] at h2
  rw [markRow_get k _ i h2]
  simp [mixRow, h2]
theorem mixRow_succ (k m : Nat) (ns : List NewsD) : mixRow k (m + 1) ns = (mixRow k m ns).set m (markN k m) := by
  apply List.ext_getElem (by rw [List.length_set, mixRow_length, mixRow_length])
  intro i h1 h2
  rw [List.getElem_set]
  by_cases e : m = i
  · subst e; simp [mixRow]
  · rw [if_neg e]
    simp only [mixRow, List.getElem_mapIdx]
    by_cases h' : i < m
    · rw [if_pos (by omega), if_pos h']
    · rw [if_neg (by omega), if_neg h']

/-- All five cells of a place are written. -/
theorem rowCells_five {w : World} {B g cap : Nat} {ns : List NewsD} (m : Nat) (x : NewsD) (h : m < ns.length)
    (hr : w.ownsRow B 60 5 (.slice (some ⟨g, 0, none⟩) ns.length cap) ns.length (rowCells ns)) :
    (((((w.setCell ⟨g, m * 5, none⟩ (.int .i64 x.late)).setCell ⟨g, m * 5 + 1, none⟩ (.int .i64 x.track)).setCell ⟨g, m * 5 + 2, none⟩ (.bool x.off)).setCell ⟨g, m * 5 + 3, none⟩ (.bool x.here)).setCell ⟨g, m * 5 + 4, none⟩ (.bool x.gone)).ownsRow B 60 5 (.slice (some ⟨g, 0, none⟩) ns.length cap) ns.length (rowCells (ns.set m x)) ∧
    w.grownBy (((((w.setCell ⟨g, m * 5, none⟩ (.int .i64 x.late)).setCell ⟨g, m * 5 + 1, none⟩ (.int .i64 x.track)).setCell ⟨g, m * 5 + 2, none⟩ (.bool x.off)).setCell ⟨g, m * 5 + 3, none⟩ (.bool x.here)).setCell ⟨g, m * 5 + 4, none⟩ (.bool x.gone)) (some g) := by
  have step : ∀ (w1 : World) (y z : NewsD) (c : Nat) (u : Value), c < 5 → newsCells z = (newsCells y).set c u → w1.ownsRow B 60 5 (.slice (some ⟨g, 0, none⟩) ns.length cap) ns.length (rowCells (ns.set m y)) → w.grownBy w1 (some g) →
      (w1.setCell ⟨g, m * 5 + c, none⟩ u).ownsRow B 60 5 (.slice (some ⟨g, 0, none⟩) ns.length cap) ns.length (rowCells (ns.set m z)) ∧ w.grownBy (w1.setCell ⟨g, m * 5 + c, none⟩ u) (some g) := fun w1 y z c u hc hz h1 h2 => by
    have hl : (ns.set m y).length = ns.length := List.length_set
    rw [← hl] at h1
    have := rowCells_set' m c u z (by rw [hl]; exact h) hc (by rw [List.getElem_set_self]; exact hz) h1
    rw [List.set_set, hl] at this
    exact ⟨this.1, h2.trans this.2⟩
  have s0 := step w ns[m] { ns[m] with late := x.late } 0 (.int .i64 x.late) (by omega) rfl (by rw [List.set_getElem_self]; exact hr) (World.grownBy.refl _ _)
  have s1 := step _ { ns[m] with late := x.late } { ns[m] with late := x.late, track := x.track } 1 (.int .i64 x.track) (by omega) rfl s0.1 s0.2
  have s2 := step _ { ns[m] with late := x.late, track := x.track } { ns[m] with late := x.late, track := x.track, off := x.off } 2 (.bool x.off) (by omega) rfl s1.1 s1.2
  have s3 := step _ { ns[m] with late := x.late, track := x.track, off := x.off } { ns[m] with late := x.late, track := x.track, off := x.off, here := x.here } 3 (.bool x.here) (by omega) rfl s2.1 s2.2
  exact step _ { ns[m] with late := x.late, track := x.track, off := x.off, here := x.here } x 4 (.bool x.gone) (by omega) rfl s3.1 s3.2

theorem row_cell5 {w : World} {B g cap : Nat} {ns : List NewsD} (hr : w.ownsRow B 60 5 (.slice (some ⟨g, 0, none⟩) ns.length cap) ns.length (rowCells ns)) (m c : Nat) (hm : m < ns.length) (hc : c < 5) : ∃ u, w.cell? ⟨g, m * 5 + c, none⟩ = some u := by
  rw [hr.cellAt _ (by omega), rowCells_get _ m c hm hc]
  exact ⟨_, List.getElem?_eq_getElem (by simp [newsCells]; omega)⟩

set_option maxRecDepth 100000 in
set_option maxHeartbeats 2000000 in
theorem markNewsS_some (B g cap k : Nat) (ns : List NewsD) (w : World) (hn : ns.length ≤ 1048576) (hk : k ≤ 100000000) (hr : w.ownsRow B 60 5 (.slice (some ⟨g, 0, none⟩) ns.length cap) ns.length (rowCells ns)) :
    Calls Tryd.prog 36 #[.slice (some ⟨g, 0, none⟩) ns.length cap, .int .i64 k] w fun e w' => e = .returned (.int .i64 ((k + ns.length * 5 : Nat) : Int)) ∧ w'.ownsRow B 60 5 (.slice (some ⟨g, 0, none⟩) ns.length cap) ns.length (rowCells (markRow k ns.length)) ∧ w.grownBy w' (some g) := by
  have HS := mixRow_start k ns
  have HE := mixRow_end k ns
  have HX : Hid (∀ m, mixRow k (m + 1) ns = (mixRow k m ns).set m (markN k m)) := fun m => mixRow_succ k m ns
  go_enter Tryd.func36, Tryd.ntmps36
  go_wp2
  go_loopw [1, 5] (fun q i wr => ∃ m : Nat, m ≤ ns.length ∧ i = .int .i64 m ∧ q = .int .i64 ((k + m * 5 : Nat) : Int) ∧ wr.ownsRow B 60 5 (.slice (some ⟨g, 0, none⟩) ns.length cap) ns.length (rowCells (mixRow k m ns)) ∧ w.grownBy wr (some g)) (fun _ i _ => ns.length - (intOf i).toNat)
  case atStart => exact ⟨0, Nat.zero_le _, rfl, by simp, by rw [HS]; exact hr, World.grownBy.refl _ _⟩
  case round =>
    obtain ⟨m, hm, rfl, rfl, hrow, hgr⟩ := hrel
    clear hr
    by_cases hlt : m < ns.length
    · have hlu := mixRow_length k m ns
      have hrow' := hrow
      rw [← hlu] at hrow'
      have hst := rowCells_five m (markN k m) (by rw [hlu]; exact hlt) hrow'
      rw [← HX.out m, hlu] at hst
      have HST : Hid _ := hst
      obtain ⟨u0, d0⟩ := row_cell5 hrow' m 0 (by rw [hlu]; exact hlt) (by omega)
      obtain ⟨u1, d1⟩ := row_cell5 hrow' m 1 (by rw [hlu]; exact hlt) (by omega)
      obtain ⟨u2, d2⟩ := row_cell5 hrow' m 2 (by rw [hlu]; exact hlt) (by omega)
      obtain ⟨u3, d3⟩ := row_cell5 hrow' m 3 (by rw [hlu]; exact hlt) (by omega)
      obtain ⟨u4, d4⟩ := row_cell5 hrow' m 4 (by rw [hlu]; exact hlt) (by omega)
      have hfr := hrow.frozenAt
      rw [Nat.add_zero] at d0
      clear hst hrow' hrow hlu HS HE
      go_wp2
      go_roundw
      case rel =>
        have e0 : (k : Int) + m * 5 = ((k + m * 5 : Nat) : Int) := by omega
        have e1 : (k : Int) + m * 5 + 1 = ((k + m * 5 + 1 : Nat) : Int) := by omega
        have e2 : (((k : Int) + m * 5 + 1 + 1) % 3 == 0) = mark3 (k + m * 5 + 2) := mark3_eq (by omega)
        have e3 : (((k : Int) + m * 5 + 1 + 1 + 1) % 3 == 0) = mark3 (k + m * 5 + 3) := mark3_eq (by omega)
        have e4 : (((k : Int) + m * 5 + 1 + 1 + 1 + 1) % 3 == 0) = mark3 (k + m * 5 + 4) := mark3_eq (by omega)
        refine ⟨m + 1, by omega, by go_num, by go_num, ?_, ?_⟩
        · rw [e4, e3, e2, e1, e0]; exact HST.out.1
        · rw [e4, e3, e2, e1, e0]; exact hgr.trans HST.out.2
      case measure => simp [intOf]; omega
    · have : m = ns.length := by omega
      subst this
      rw [HE] at hrow
      go_wp2
      go_ret
      exact ⟨rfl, hrow, hgr⟩

set_option maxRecDepth 100000 in
set_option maxHeartbeats 2000000 in
theorem heldNewsS_any (a : Option Addr) (n c k : Nat) (w : World) (hn : n ≤ 1048576) (hk : k ≤ 100000000) (hat : NewsAt w a (markRow k n)) :
    Calls Tryd.prog 37 #[.slice a n c, .int .i64 k] w fun e w' => e = .returned (.int .i64 ((k + n * 5 : Nat) : Int)) ∧ w' = w := by
  have HL := markRow_length k n
  have HAT : Hid (∀ m, m < n → ∃ b o, a = some ⟨b, o, none⟩ ∧ w.cell? ⟨b, o + m * 5, none⟩ = some (.int .i64 (k + m * 5)) ∧ w.cell? ⟨b, o + m * 5 + 1, none⟩ = some (.int .i64 (k + m * 5 + 1)) ∧ w.cell? ⟨b, o + m * 5 + 2, none⟩ = some (.bool (((k : Int) + m * 5 + 1 + 1) % 3 == 0)) ∧ w.cell? ⟨b, o + m * 5 + 3, none⟩ = some (.bool (((k : Int) + m * 5 + 1 + 1 + 1) % 3 == 0)) ∧ w.cell? ⟨b, o + m * 5 + 4, none⟩ = some (.bool (((k : Int) + m * 5 + 1 + 1 + 1 + 1) % 3 == 0))) := fun m hm => by
    obtain ⟨b, o, e, c0, c1, c2, c3, c4⟩ := hat m (by rw [HL]; exact hm)
    rw [markRow_get k n m hm] at c0 c1 c2 c3 c4
    have e0 : (k : Int) + m * 5 = ((k + m * 5 : Nat) : Int) := by omega
    have e1 : (k : Int) + m * 5 + 1 = ((k + m * 5 + 1 : Nat) : Int) := by omega
    have e2 : (((k : Int) + m * 5 + 1 + 1) % 3 == 0) = mark3 (k + m * 5 + 2) := mark3_eq (by omega)
    have e3 : (((k : Int) + m * 5 + 1 + 1 + 1) % 3 == 0) = mark3 (k + m * 5 + 3) := mark3_eq (by omega)
    have e4 : (((k : Int) + m * 5 + 1 + 1 + 1 + 1) % 3 == 0) = mark3 (k + m * 5 + 4) := mark3_eq (by omega)
    exact ⟨b, o, e, by rw [e0]; exact c0, by rw [e1]; exact c1, by rw [e2]; exact c2, by rw [e3]; exact c3, by rw [e4]; exact c4⟩
  clear hat HL
  go_enter Tryd.func37, Tryd.ntmps37
  go_wp2
  go_loopw [1, 5] (fun q i wr => ∃ m : Nat, m ≤ n ∧ i = .int .i64 m ∧ q = .int .i64 ((k + m * 5 : Nat) : Int) ∧ wr = w) (fun _ i _ => n - (intOf i).toNat)
  case atStart => exact ⟨0, Nat.zero_le _, rfl, by simp, rfl⟩
  case round =>
    obtain ⟨m, hm, rfl, rfl, rfl⟩ := hrel
    by_cases hlt : m < n
    · obtain ⟨b, o, rfl, c0, c1, c2, c3, c4⟩ := HAT.out m hlt
      go_wp2
      go_roundw
      case rel => exact ⟨m + 1, by omega, by go_num, by go_num, trivial⟩
      case measure => simp [intOf]; omega
    · have : m = n := by omega
      subst this
      go_wp2
      go_ret
      exact ⟨rfl, rfl⟩

end Go.Proofs.YtgnipbdefgdppabDoor
