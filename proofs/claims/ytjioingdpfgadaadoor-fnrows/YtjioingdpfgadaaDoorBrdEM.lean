import Derived.Test.YtjioingdpfgadaaDoorProg
import Derived.Test.YtjioingdpfgadaaDoorBrdAM
import Derived.Test.YtjioingdpfgadaaDoorHeapM
import Derived.Test.YtjioingdpfgadaaDoorBoardCM
import Derived.Deep.RegionHeld3
import Derived.BigRegion
import Derived.RangeFuncBox
namespace Go.Proofs.YtjioingdpfgadaaDoor
open Go Go.RowKit Go.Deep

/-- A heap in a box: the box holds the slice, the rows lie in memory of the call's own. -/
structure HeapAt (w : World) (B n0 : Nat) (L : List RowD) (v : Value) : Prop where
  box : Boxed w B 87 v
  rows : w.ownsRow n0 38 6 v L.length (sixes L)
  low : B < n0
/-- What a heap's work keeps: below n0 all but its box, and whatever is no cells. -/
structure KeptBox (B n0 : Nat) (w w' : World) : Prop where
  os : w'.os = w.os
  tape : w'.tape = w.tape
  output : w'.output = w.output
  size : w.heap.size ≤ w'.heap.size
  block : ∀ k, k < n0 → k ≠ B → w'.heap[k]? = w.heap[k]?
  others : ∀ (k : Nat) (o : Obj), w.heap[k]? = some o → o.isCells = false → w'.heap[k]? = some o
theorem KeptBox.refl (B n0 : Nat) (w : World) : KeptBox B n0 w w := ⟨rfl, rfl, rfl, Nat.le_refl _, fun _ _ _ => rfl, fun _ _ h _ => h⟩
theorem KeptBox.trans {B n0 : Nat} {a b c : World} (h : KeptBox B n0 a b) (k : KeptBox B n0 b c) : KeptBox B n0 a c :=
  ⟨k.os.trans h.os, k.tape.trans h.tape, k.output.trans h.output, Nat.le_trans h.size k.size, fun i hi hB => (k.block i hi hB).trans (h.block i hi hB), fun i o hi ho => k.others i o (h.others i o hi ho) ho⟩
theorem KeptBox.below {B n0 : Nat} {w w' : World} (h : Below w.heap.size w w') (hn : n0 ≤ w.heap.size) : KeptBox B n0 w w' :=
  ⟨h.os, h.tape, h.output, h.size, fun i hi _ => h.block i (by omega), fun i o hi _ => (h.block i (Array.getElem?_eq_some_iff.1 hi).1).trans hi⟩
theorem heap_at {w : World} {B n0 g cap n : Nat} {L : List RowD} (h : HeapAt w B n0 L (.slice (some ⟨g, 0, none⟩) n cap)) (i : Nat) (hi : i < L.length) :
    w.cell? ⟨g, i * 6, none⟩ = some (.int .i64 (rowIn L i).trip) ∧ w.cell? ⟨g, i * 6 + 1, none⟩ = some (.int .i64 (rowIn L i).to) ∧ w.cell? ⟨g, i * 6 + 2, none⟩ = some (.int .i64 (rowIn L i).due) ∧ w.cell? ⟨g, i * 6 + 3, none⟩ = some (.int .i64 (rowIn L i).expect) ∧ w.cell? ⟨g, i * 6 + 4, none⟩ = some (.int .i64 (rowIn L i).track) ∧ w.cell? ⟨g, i * 6 + 5, none⟩ = some (.int .i64 (rowIn L i).state) := by
  obtain ⟨a, c, e, hr⟩ := rows_at h.rows
  simp only [Value.slice.injEq] at e
  obtain ⟨rfl, _, _⟩ := e
  obtain ⟨b, o, e, c0, c1, c2, c3, c4, c5⟩ := hr i hi
  simp only [Option.some.injEq, Addr.mk.injEq, and_true] at e
  obtain ⟨rfl, rfl⟩ := e
  rw [rowIn_eq L i hi]
  simp only [Nat.zero_add] at c0 c1 c2 c3 c4 c5
  exact ⟨c0, c1, c2, c3, c4, c5⟩
theorem heap_slice {w : World} {B n0 : Nat} {L : List RowD} {v : Value} (h : HeapAt w B n0 L v) (h0 : 0 < L.length) : ∃ g cap, v = .slice (some ⟨g, 0, none⟩) L.length cap ∧ n0 ≤ g ∧ g < w.heap.size := by
  rcases h.rows.2 with ⟨e, e0⟩ | ⟨g, cap, cur, e, hb, hh, _⟩
  · omega
  · exact ⟨g, cap, e, hb, (Array.getElem?_eq_some_iff.1 hh).1⟩

/-- The world when two rows have changed places: the first row is written at j, the second at i. -/
def putSix (w : World) (g i : Nat) (x : RowD) : World := (((((w.setCell ⟨g, i * 6, none⟩ (.int .i64 x.trip)).setCell ⟨g, i * 6 + 1, none⟩ (.int .i64 x.to)).setCell ⟨g, i * 6 + 2, none⟩ (.int .i64 x.due)).setCell ⟨g, i * 6 + 3, none⟩ (.int .i64 x.expect)).setCell ⟨g, i * 6 + 4, none⟩ (.int .i64 x.track)).setCell ⟨g, i * 6 + 5, none⟩ (.int .i64 x.state)
theorem heap_put {w : World} {B n0 g cap : Nat} {L : List RowD} (h : HeapAt w B n0 L (.slice (some ⟨g, 0, none⟩) L.length cap)) (i : Nat) (hi : i < L.length) (x : RowD) :
    HeapAt (putSix w g i x) B n0 (L.set i x) (.slice (some ⟨g, 0, none⟩) L.length cap) ∧ KeptBox B n0 w (putSix w g i x) := by
  have hs := sixes_six i x hi h.rows
  have hg : n0 ≤ g := by
    rcases h.rows.2 with ⟨e, _⟩ | ⟨g', cap', cur, e, hb, _⟩
    · cases e
    · simp only [Value.slice.injEq, Option.some.injEq, Addr.mk.injEq, and_true] at e
      obtain ⟨rfl, _⟩ := e
      exact hb
  have hcell : ∃ cs T fr, w.heap[g]? = some (.cells cs T fr) := by
    rcases h.rows.2 with ⟨e, _⟩ | ⟨g', cap', cur, e, hb, hh, _⟩
    · cases e
    · simp only [Value.slice.injEq, Option.some.injEq, Addr.mk.injEq, and_true] at e
      obtain ⟨rfl, _⟩ := e
      exact ⟨_, _, _, hh⟩
  have hlow := h.low
  refine ⟨⟨?_, ?_, h.low⟩, ?_⟩
  · exact (hs.2.block B h.box.lt (by intro e; cases e; omega)).trans h.box
  · rw [List.length_set]; exact hs.1
  · refine ⟨hs.2.os, hs.2.tape, hs.2.output, hs.2.size, fun k hk hB => ?_, fun k o hk ho => ?_⟩
    · by_cases hkl : k < w.heap.size
      · exact hs.2.block k hkl (by intro e; cases e; omega)
      · have e1 : w.heap[k]? = none := Array.getElem?_eq_none (by omega)
        have e2 : (putSix w g i x).heap.size = w.heap.size := by simp [putSix, World.setCell]
        rw [e1]; exact Array.getElem?_eq_none (by rw [e2]; omega)
    · by_cases e : k = g
      · subst e
        obtain ⟨cs, T, fr, hc⟩ := hcell
        rw [hc] at hk
        cases hk
        cases ho
      · rw [← hk]; exact hs.2.block k (Array.getElem?_eq_some_iff.1 hk).1 (by intro e'; cases e'; exact e rfl)
theorem swap_two (L : List RowD) (i j : Nat) : (L.set i (rowIn L j)).set j (rowIn L i) = swapL L i j := rfl
theorem heap_swapped {w : World} {B n0 g cap : Nat} {L : List RowD} (h : HeapAt w B n0 L (.slice (some ⟨g, 0, none⟩) L.length cap)) (i j : Nat) (hi : i < L.length) (hj : j < L.length) :
    HeapAt (putSix (putSix w g i (rowIn L j)) g j (rowIn L i)) B n0 (swapL L i j) (.slice (some ⟨g, 0, none⟩) L.length cap) ∧ KeptBox B n0 w (putSix (putSix w g i (rowIn L j)) g j (rowIn L i)) := by
  obtain ⟨h1, k1⟩ := heap_put h i hi (rowIn L j)
  have hl : (L.set i (rowIn L j)).length = L.length := List.length_set
  rw [← hl] at h1
  obtain ⟨h2, k2⟩ := heap_put h1 j (by rw [hl]; exact hj) (rowIn L i)
  rw [hl] at h2
  exact ⟨h2, k1.trans k2⟩

end Go.Proofs.YtjioingdpfgadaaDoor
