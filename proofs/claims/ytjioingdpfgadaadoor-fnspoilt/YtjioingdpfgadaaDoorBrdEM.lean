import Derived.Test.YtjioingdpfgadaaDoorProg
import Derived.Test.YtjioingdpfgadaaDoorBrdAM
import Derived.Test.YtjioingdpfgadaaDoorHeapM
import Derived.Test.YtjioingdpfgadaaDoorBoardCM
import Derived.Deep.RegionHeld3
import Derived.BigRegion
import Derived.RangeFuncBox
namespace Go.Proofs.YtjioingdpfgadaaDoor
open Go Go.RowKit Go.Deep

/-- A heap in a box: the box holds the slice, the rows lie in memory of the call's own. -/
structure HeapAt (w : World) (B n0 : Nat) (L : List RowD) (v : Value) : Prop where
  box : Boxed w B 87 v
  rows : w.ownsRow n0 38 6 v L.length (sixes L)
  low : B < n0
/-- What a heap's work keeps: below n0 all but its box, and whatever is no cells. -/
structure KeptBox (B n0 : Nat) (w w' : World) : Prop where
  os : w'.os = w.os
  tape : w'.tape = w.tape
  output : w'.output = w.output
  size : w.heap.size ≤ w'.heap.size
  block : ∀ k, k < n0 → k ≠ B → w'.heap[k]? = w.heap[k]?
  others : ∀ (k : Nat) (o : Obj), w.heap[k]? = some o → o.isCells = false → w'.heap[k]? = some o
theorem KeptBox.refl (B n0 : Nat) (w : World) : KeptBox B n0 w w := ⟨rfl, rfl, rfl, Nat.le_refl _, fun _ _ _ => rfl, fun _ _ h _ => h⟩
theorem KeptBox.trans {B n0 : Nat} {a b c : World} (h : KeptBox B n0 a b) (k : KeptBox B n0 b c) : KeptBox B n0 a c :=
  ⟨k.os.trans h.os, k.tape.trans h.tape, k.output.trans h.output, Nat.le_trans h.size k.size, fun i hi hB => (k.block i hi hB).trans (h.block i hi hB), fun i o hi ho => k.others i o (h.others i o hi ho) ho⟩
theorem KeptBox.below {B n0 : Nat} {w w' : World} (h : Below w.heap.size w w') (hn : n0 ≤ w.heap.size) : KeptBox B n0 w w' :=
  ⟨h.os, h.tape, h.output, h.size, fun i hi _ => h.block i (by omega), fun i o hi _ => (h.block i (Array.getElem?_eq_some_iff.1 hi).1).trans hi⟩
theorem heap_at {w : World} {B n0 g cap n : Nat} {L : List RowD} (h : HeapAt w B n0 L (.slice (some ⟨g, 0, none⟩) n cap)) (i : Nat) (hi : i < L.length) :
    w.cell? ⟨g, i * 6, none⟩ = some (.int .i64 (rowIn L i).trip) ∧ w.cell? ⟨g, i * 6 + 1, none⟩ = some (.int .i64 (rowIn L i).to) ∧ w.cell? ⟨g, i * 6 + 2, none⟩ = some (.int .i64 (rowIn L i).due) ∧ w.cell? ⟨g, i * 6 + 3, none⟩ = some (.int .i64 (rowIn L i).expect) ∧ w.cell? ⟨g, i * 6 + 4, none⟩ = some (.int .i64 (rowIn L i).track) ∧ w.cell? ⟨g, i * 6 + 5, none⟩ = some (.int .i64 (rowIn L i).state) := by
  obtain ⟨a, c, e, hr⟩ := rows_at h.rows
  simp only [Value.slice.injEq] at e
  obtain ⟨rfl, _, _⟩ := e
  obtain ⟨b, o, e, c0, c1, c2, c3, c4, c5⟩ := hr i hi
  simp only [Option.some.injEq, Addr.mk.injEq, and_true] at e
  obtain ⟨rfl, rfl⟩ := e
  rw [rowIn_eq L i hi]
  simp only [Nat.zero_add] at c0 c1 c2 c3 c4 c5
  exact ⟨c0, c1, c2, c3, c4, c5⟩
theorem heap_slice {w : World} {B n0 : Nat} {L : List RowD} {v : Value} (h : HeapAt w B n0 L v) (h0 : 0 < L.length) : ∃ g cap, v = .slice (some ⟨g, 0, none⟩) L.length cap ∧ n0 ≤ g ∧ g < w.heap.size := by
  rcases h.rows.2 with ⟨e, e0⟩ | ⟨g, cap, cur, e, hb, hh, _⟩
  · omega
  · exact ⟨g, cap, e, hb, (Array.getElem?_eq_some_iff.1 hh).1⟩

/-- The world when two rows have changed places: the first row is written at j, the second at i. -/
def putSix (w : World) (g i : Nat) (x : RowD) : World := (((((w.setCell ⟨g, i * 6, none⟩ (.int .i64 x.trip)).setCell ⟨g, i * 6 + 1, none⟩ (.int .i64 x.to)).setCell ⟨g, i * 6 + 2, none⟩ (.int .i64 x.due)).setCell ⟨g, i * 6 + 3, none⟩ (.int .i64 x.expect)).setCell ⟨g, i * 6 + 4, none⟩ (.int .i64 x.track)).setCell ⟨g, i * 6 + 5, none⟩ (.int .i64 x.state)
theorem heap_put {w : World} {B n0 g cap : Nat} {L : List RowD} (h : HeapAt w B n0 L (.slice (some ⟨g, 0, none⟩) L.length cap)) (i : Nat) (hi : i < L.length) (x : RowD) :
    HeapAt (putSix w g i x) B n0 (L.set i x) (.slice (some ⟨g, 0, none⟩) L.length cap) ∧ KeptBox B n0 w (putSix w g i x) := by
  have hs := sixes_six i x hi h.rows
  have hg : n0 ≤ g := by
    rcases h.rows.2 with ⟨e, _⟩ | ⟨g', cap', cur, e, hb, _⟩
    · cases e
    · simp only [Value.slice.injEq, Option.some.injEq, Addr.mk.injEq, and_true] at e
      obtain ⟨rfl, _⟩ := e
      exact hb
  have hcell : ∃ cs T fr, w.heap[g]? = some (.cells cs T fr) := by
    rcases h.rows.2 with ⟨e, _⟩ | ⟨g', cap', cur, e, hb, hh, _⟩
    · cases e
    · simp only [Value.slice.injEq, Option.some.injEq, Addr.mk.injEq, and_true] at e
      obtain ⟨rfl, _⟩ := e
      exact ⟨_, _, _, hh⟩
  have hlow := h.low
  refine ⟨⟨?_, ?_, h.low⟩, ?_⟩
  · exact (hs.2.block B h.box.lt (by intro e; cases e; omega)).trans h.box
  · rw [List.length_set]; exact hs.1
  · refine ⟨hs.2.os, hs.2.tape, hs.2.output, hs.2.size, fun k hk hB => ?_, fun k o hk ho => ?_⟩
    · by_cases hkl : k < w.heap.size
      · exact hs.2.block k hkl (by intro e; cases e; omega)
      · have e1 : w.heap[k]? = none := Array.getElem?_eq_none (by omega)
        have e2 : (putSix w g i x).heap.size = w.heap.size := by simp [putSix, World.setCell]
        rw [e1]; exact Array.getElem?_eq_none (by rw [e2]; omega)
    · by_cases e : k = g
      · subst e
        obtain ⟨cs, T, fr, hc⟩ := hcell
        rw [hc] at hk
        cases hk
        cases ho
      · rw [← hk]; exact hs.2.block k (Array.getElem?_eq_some_iff.1 hk).1 (by intro e'; cases e'; exact e rfl)
theorem swap_two (L : List RowD) (i j : Nat) : (L.set i (rowIn L j)).set j (rowIn L i) = swapL L i j := rfl
theorem heap_swapped {w : World} {B n0 g cap : Nat} {L : List RowD} (h : HeapAt w B n0 L (.slice (some ⟨g, 0, none⟩) L.length cap)) (i j : Nat) (hi : i < L.length) (hj : j < L.length) :
    HeapAt (putSix (putSix w g i (rowIn L j)) g j (rowIn L i)) B n0 (swapL L i j) (.slice (some ⟨g, 0, none⟩) L.length cap) ∧ KeptBox B n0 w (putSix (putSix w g i (rowIn L j)) g j (rowIn L i)) := by
  obtain ⟨h1, k1⟩ := heap_put h i hi (rowIn L j)
  have hl : (L.set i (rowIn L j)).length = L.length := List.length_set
  rw [← hl] at h1
  obtain ⟨h2, k2⟩ := heap_put h1 j (by rw [hl]; exact hj) (rowIn L i)
  rw [hl] at h2
  exact ⟨h2, k1.trans k2⟩

end Go.Proofs.YtjioingdpfgadaaDoor
namespace Go.Proofs.YtjioingdpfgadaaDoor
open Go Go.RowKit Go.Deep

theorem HeapAt.drew {w : World} {B n0 : Nat} {L : List RowD} {v : Value} (h : HeapAt w B n0 L v) : HeapAt w.drew B n0 L v := ⟨h.box, h.rows, h.low⟩
theorem KeptBox.drew {B n0 : Nat} {a w : World} (h : KeptBox B n0 a w) : KeptBox B n0 a w.drew := ⟨h.os, h.tape, h.output, h.size, h.block, h.others⟩
theorem heap_swapped_grown {w : World} {B n0 g cap : Nat} {L : List RowD} (h : HeapAt w B n0 L (.slice (some ⟨g, 0, none⟩) L.length cap)) (i j : Nat) (hi : i < L.length) (hj : j < L.length) :
    w.grownBy (putSix (putSix w g i (rowIn L j)) g j (rowIn L i)) (some g) := by
  have h1 := heap_put h i hi (rowIn L j)
  have g1 := (sixes_six i (rowIn L j) hi h.rows).2
  have hl : (L.set i (rowIn L j)).length = L.length := List.length_set
  have h2 := h1.1
  rw [← hl] at h2
  exact g1.trans (sixes_six j (rowIn L i) (by rw [hl]; exact hj) h2.rows).2
theorem grownBy_drew {w w' : World} {r : Option Nat} (h : w.grownBy w' r) : w.grownBy w'.drew r := ⟨h.os, h.tape, h.output, h.size, h.block⟩
theorem cell_again {w : World} {g o p : Nat} {u : Value} (h : w.cell? ⟨g, p, none⟩ = some u) : (w.setCell ⟨g, o, none⟩ u).cell? ⟨g, p, none⟩ = some u := by
  by_cases e : o = p
  · subst e; exact World.cell?_setCell_same' _ _ _ (by rw [h]; rfl)
  · rw [World.cell?_setCell_other _ _ _ _ (fun h' => e (Addr.mk.inj h').2.1)]; exact h
theorem cell_past {w : World} {g o p : Nat} {u v : Value} (hne : o ≠ p) (h : w.cell? ⟨g, p, none⟩ = some v) : (w.setCell ⟨g, o, none⟩ u).cell? ⟨g, p, none⟩ = some v := by
  rw [World.cell?_setCell_other _ _ _ _ (fun h' => hne (Addr.mk.inj h').2.1)]; exact h

set_option maxRecDepth 100000 in
set_option maxHeartbeats 8000000 in
theorem swap_more (B n0 g cap i j : Nat) (L : List RowD) (w : World) (hi : i < L.length) (hj : j < L.length) (h : HeapAt w B n0 L (.slice (some ⟨g, 0, none⟩) L.length cap)) :
    Calls Tryd.prog 88 #[.pointer (some ⟨B, 0, none⟩), .int .i64 i, .int .i64 j] w fun e w' => (∃ v, e = .returned v) ∧ HeapAt w' B n0 (swapL L i j) (.slice (some ⟨g, 0, none⟩) L.length cap) ∧ KeptBox B n0 w w' ∧ w.grownBy w' (some g) := by
  have HGR : Hid _ := heap_swapped_grown h i j hi hj
  have hc := h.box.cell
  have hfr := h.rows.frozenAt
  obtain ⟨a0, a1, a2, a3, a4, a5⟩ := heap_at h i hi
  obtain ⟨b0, b1, b2, b3, b4, b5⟩ := heap_at h j hj
  obtain ⟨hsw, hkp⟩ := heap_swapped h i j hi hj
  have HS : Hid _ := hsw
  have HK : Hid _ := hkp
  have hi0 : (0 : Int) ≤ (i : Int) := by omega
  have hi1 : (i : Int) < (L.length : Int) := by omega
  have hj0 : (0 : Int) ≤ (j : Int) := by omega
  have hj1 : (j : Int) < (L.length : Int) := by omega
  have e0 := cell_again (o := i * 6) b0
  have e1 := cell_again (o := i * 6 + 1) (cell_past (o := i * 6) (u := .int .i64 (rowIn L j).trip) (by omega) b1)
  have e2 := cell_again (o := i * 6 + 2) (cell_past (o := i * 6 + 1) (u := .int .i64 (rowIn L j).to) (by omega) (cell_past (o := i * 6) (u := .int .i64 (rowIn L j).trip) (by omega) b2))
  have e3 := cell_again (o := i * 6 + 3) (cell_past (o := i * 6 + 2) (u := .int .i64 (rowIn L j).due) (by omega) (cell_past (o := i * 6 + 1) (u := .int .i64 (rowIn L j).to) (by omega) (cell_past (o := i * 6) (u := .int .i64 (rowIn L j).trip) (by omega) b3)))
  have e4 := cell_again (o := i * 6 + 4) (cell_past (o := i * 6 + 3) (u := .int .i64 (rowIn L j).expect) (by omega) (cell_past (o := i * 6 + 2) (u := .int .i64 (rowIn L j).due) (by omega) (cell_past (o := i * 6 + 1) (u := .int .i64 (rowIn L j).to) (by omega) (cell_past (o := i * 6) (u := .int .i64 (rowIn L j).trip) (by omega) b4))))
  have e5 := cell_again (o := i * 6 + 5) (cell_past (o := i * 6 + 4) (u := .int .i64 (rowIn L j).track) (by omega) (cell_past (o := i * 6 + 3) (u := .int .i64 (rowIn L j).expect) (by omega) (cell_past (o := i * 6 + 2) (u := .int .i64 (rowIn L j).due) (by omega) (cell_past (o := i * 6 + 1) (u := .int .i64 (rowIn L j).to) (by omega) (cell_past (o := i * 6) (u := .int .i64 (rowIn L j).trip) (by omega) b5)))))
  clear hsw hkp h hi hj
  generalize rowIn L i = x at *
  generalize rowIn L j = y at *
  generalize L.length = n at *
  go_enter Tryd.func88, Tryd.ntmps88
  go_region
  go_end0
  exact ⟨⟨_, rfl⟩, HeapAt.drew HS.out, KeptBox.drew HK.out, grownBy_drew HGR.out⟩

theorem swap_any (B n0 g cap i j : Nat) (L : List RowD) (w : World) (hi : i < L.length) (hj : j < L.length) (h : HeapAt w B n0 L (.slice (some ⟨g, 0, none⟩) L.length cap)) :
    Calls Tryd.prog 88 #[.pointer (some ⟨B, 0, none⟩), .int .i64 i, .int .i64 j] w fun e w' => (∃ v, e = .returned v) ∧ HeapAt w' B n0 (swapL L i j) (.slice (some ⟨g, 0, none⟩) L.length cap) ∧ KeptBox B n0 w w' :=
  (swap_more B n0 g cap i j L w hi hj h).mono fun _ _ h => ⟨h.1, h.2.1, h.2.2.1⟩

end Go.Proofs.YtjioingdpfgadaaDoor
namespace Go.Proofs.YtjioingdpfgadaaDoor
open Go Go.RowKit Go.Deep

theorem mBef (a b c d e f : Value) (w : World) : (Go.method 376 38 (.agg #[a, b, c, d, e, f]) "loop.example/tannoy/impl.before").run Tryd.prog w = .ok (163, .agg #[a, b, c, d, e, f]) w := by kernel_rfl
theorem nBef (a b c d e f : Value) (w : World) : (Go.nilAhead 376 38 (.agg #[a, b, c, d, e, f]) "loop.example/tannoy/impl.before").run Tryd.prog w = .ok (some false) w := by kernel_rfl

theorem HeapAt.keep {w w' : World} {B n0 : Nat} {L : List RowD} {v : Value} (h : HeapAt w B n0 L v) (hb : Below w.heap.size w w') : HeapAt w' B n0 L v :=
  ⟨(hb.block B h.box.lt).trans h.box, owns_below h.rows hb (owns_lt h.rows), h.low⟩
theorem first1_no {L : List RowD} {a : Nat} (h : L.length ≤ 2 * a + 1) : first1 L a = a := by unfold first1; rw [if_neg (by omega)]
theorem firstD_no {L : List RowD} {a : Nat} (h : L.length ≤ 2 * a + 2) : firstD L a = first1 L a := by unfold firstD; rw [if_neg (by omega)]
theorem first1_yes {L : List RowD} {a : Nat} (h : 2 * a + 1 < L.length) (hl : lessD (rowIn L (2 * a + 1)) (rowIn L a) = true) : first1 L a = 2 * a + 1 := by unfold first1; rw [if_pos ⟨h, hl⟩]
theorem first1_same {L : List RowD} {a : Nat} (hl : lessD (rowIn L (2 * a + 1)) (rowIn L a) = false) : first1 L a = a := by unfold first1; rw [if_neg (by simp [hl])]
theorem firstD_yes {L : List RowD} {a : Nat} (h : 2 * a + 2 < L.length) (hl : lessD (rowIn L (2 * a + 2)) (rowIn L (first1 L a)) = true) : firstD L a = 2 * a + 2 := by unfold firstD; rw [if_pos ⟨h, hl⟩]
theorem firstD_same {L : List RowD} {a : Nat} (hl : lessD (rowIn L (2 * a + 2)) (rowIn L (first1 L a)) = false) : firstD L a = first1 L a := by unfold firstD; rw [if_neg (by simp [hl])]
/-- The first of the row at a and the first s of the two below it. -/
def firstTo (L : List RowD) (a : Nat) : Nat → Nat
  | 0 => a
  | 1 => first1 L a
  | _ => firstD L a
theorem firstTo_out {L : List RowD} {a s : Nat} (hs : s ≤ 2) (h : s = 2 ∨ L.length ≤ 2 * a + 1 + s) : firstTo L a s = firstD L a := by
  have : s = 0 ∨ s = 1 ∨ s = 2 := by omega
  rcases this with rfl | rfl | rfl
  · rw [firstD_no (by omega), first1_no (by omega)]; rfl
  · rw [firstD_no (by omega)]; rfl
  · rfl
theorem firstTo_succ {L : List RowD} {a s : Nat} (hs : s < 2) (h : 2 * a + 1 + s < L.length) : firstTo L a (s + 1) = if lessD (rowIn L (2 * a + 1 + s)) (rowIn L (firstTo L a s)) then 2 * a + 1 + s else firstTo L a s := by
  have : s = 0 ∨ s = 1 := by omega
  rcases this with rfl | rfl
  · show first1 L a = _
    unfold first1 firstTo
    by_cases e : lessD (rowIn L (2 * a + 1)) (rowIn L a) = true
    · rw [if_pos ⟨by omega, e⟩]; simp [e]
    · rw [if_neg (fun h => e h.2)]; simp [e]
  · show firstD L a = _
    unfold firstD firstTo
    by_cases e : lessD (rowIn L (2 * a + 2)) (rowIn L (first1 L a)) = true
    · rw [if_pos ⟨by omega, e⟩]; simp [e]
    · rw [if_neg (fun h => e h.2)]; simp [e]
theorem firstTo_lt {L : List RowD} {a s : Nat} (ha : a < L.length) : firstTo L a s < L.length := by
  have h1 : first1 L a < L.length := by unfold first1; split <;> omega
  have h2 : firstD L a < L.length := by unfold firstD; split <;> omega
  unfold firstTo
  split <;> assumption

set_option maxRecDepth 100000 in
set_option maxHeartbeats 8000000 in
theorem firstOf_any (B n0 g cap a : Nat) (L : List RowD) (w : World) (hm : L.length ≤ 1000) (ham : a ≤ 1000) (h : HeapAt w B n0 L (.slice (some ⟨g, 0, none⟩) L.length cap)) :
    Calls Tryd.prog 89 #[.pointer (some ⟨B, 0, none⟩), .int .i64 a] w fun e w' => e = .returned (.int .i64 (firstD L a)) ∧ Below w.heap.size w w' := by
  have HH : Hid (HeapAt w B n0 L (.slice (some ⟨g, 0, none⟩) L.length cap)) := h
  clear h
  go_enter Tryd.func89, Tryd.ntmps89
  go_wp2_with fail
  go_loopw [5, 6] (fun q i wr => ∃ s : Nat, s ≤ 2 ∧ i = .int .i64 ((2 * a + 1 + s : Nat) : Int) ∧ q = .int .i64 (firstTo L a s) ∧ Hid (Below w.heap.size w wr)) (fun _ i _ => 2 * a + 3 - (intOf i).toNat)
  case atStart => exact ⟨0, by omega, by go_num, rfl, Below.refl _ _⟩
  case round =>
    obtain ⟨s, hs, rfl, rfl, hB⟩ := hrel
    have HW : Hid (HeapAt wr B n0 L (.slice (some ⟨g, 0, none⟩) L.length cap)) := HH.out.keep hB.out
    have hc := HW.out.box.cell
    by_cases hs2 : s < 2
    · by_cases hlt : 2 * a + 1 + s < L.length
      · have hf := firstTo_lt (L := L) (a := a) (s := s) (by omega)
        have HSU := firstTo_succ hs2 hlt
        obtain ⟨a0, a1, a2, a3, a4, a5⟩ := heap_at HW.out (2 * a + 1 + s) hlt
        obtain ⟨b0, b1, b2, b3, b4, b5⟩ := heap_at HW.out (firstTo L a s) hf
        generalize firstTo L a s = f at *
        generalize hd : 2 * a + 1 + s = d at *
        generalize rowIn L d = x at *
        generalize rowIn L f = y at *
        have hd2 : (d : Int) ≤ 2 * (a : Int) + 2 := by omega
        have hd0 : (0 : Int) ≤ (d : Int) := by omega
        have hd1 : (d : Int) < (L.length : Int) := by omega
        have hf0 : (0 : Int) ≤ (f : Int) := by omega
        have hf1 : (f : Int) < (L.length : Int) := by omega
        have mb := mBef
        have nb := nBef
        cases hl : lessD x y
        · have HSU' : Hid (firstTo L a (s + 1) = f) := by unfold Hid; rw [HSU, hl]; rfl
          clear HSU
          generalize L.length = n at *
          go_wp2_with fail
          go_region_held3 (fun w' => w'.cell? ⟨B, 0, none⟩ = some (.slice (some ⟨g, 0, none⟩) n cap) ∧ w'.cell? ⟨g, d * 6, none⟩ = some (.int .i64 x.trip) ∧ w'.cell? ⟨g, d * 6 + 1, none⟩ = some (.int .i64 x.to) ∧ w'.cell? ⟨g, d * 6 + 2, none⟩ = some (.int .i64 x.due) ∧ w'.cell? ⟨g, d * 6 + 3, none⟩ = some (.int .i64 x.expect) ∧ w'.cell? ⟨g, d * 6 + 4, none⟩ = some (.int .i64 x.track) ∧ w'.cell? ⟨g, d * 6 + 5, none⟩ = some (.int .i64 x.state) ∧ w'.cell? ⟨g, f * 6, none⟩ = some (.int .i64 y.trip) ∧ w'.cell? ⟨g, f * 6 + 1, none⟩ = some (.int .i64 y.to) ∧ w'.cell? ⟨g, f * 6 + 2, none⟩ = some (.int .i64 y.due) ∧ w'.cell? ⟨g, f * 6 + 3, none⟩ = some (.int .i64 y.expect) ∧ w'.cell? ⟨g, f * 6 + 4, none⟩ = some (.int .i64 y.track) ∧ w'.cell? ⟨g, f * 6 + 5, none⟩ = some (.int .i64 y.state))
            (first | go_keep | exact ⟨cell_keep hb1 (by exact hc), cell_keep hb1 (by exact a0), cell_keep hb1 (by exact a1), cell_keep hb1 (by exact a2), cell_keep hb1 (by exact a3), cell_keep hb1 (by exact a4), cell_keep hb1 (by exact a5), cell_keep hb1 (by exact b0), cell_keep hb1 (by exact b1), cell_keep hb1 (by exact b2), cell_keep hb1 (by exact b3), cell_keep hb1 (by exact b4), cell_keep hb1 (by exact b5)⟩)
            (first | (go_at_call 163; refine (before_any x y _).mono ?_; rintro e w1 ⟨rfl, hb1⟩; rw [hl]))
          go_wp2_with fail
          go_roundw
          case rel => exact ⟨s + 1, by omega, by go_num, by rw [HSU'.out], hB.out.drew.trans (by exact hb1.mono hB.out.size)⟩
          case measure => simp [intOf]; omega
        · have HSU' : Hid (firstTo L a (s + 1) = d) := by unfold Hid; rw [HSU, hl]; rfl
          clear HSU
          generalize L.length = n at *
          go_wp2_with fail
          go_region_held3 (fun w' => w'.cell? ⟨B, 0, none⟩ = some (.slice (some ⟨g, 0, none⟩) n cap) ∧ w'.cell? ⟨g, d * 6, none⟩ = some (.int .i64 x.trip) ∧ w'.cell? ⟨g, d * 6 + 1, none⟩ = some (.int .i64 x.to) ∧ w'.cell? ⟨g, d * 6 + 2, none⟩ = some (.int .i64 x.due) ∧ w'.cell? ⟨g, d * 6 + 3, none⟩ = some (.int .i64 x.expect) ∧ w'.cell? ⟨g, d * 6 + 4, none⟩ = some (.int .i64 x.track) ∧ w'.cell? ⟨g, d * 6 + 5, none⟩ = some (.int .i64 x.state) ∧ w'.cell? ⟨g, f * 6, none⟩ = some (.int .i64 y.trip) ∧ w'.cell? ⟨g, f * 6 + 1, none⟩ = some (.int .i64 y.to) ∧ w'.cell? ⟨g, f * 6 + 2, none⟩ = some (.int .i64 y.due) ∧ w'.cell? ⟨g, f * 6 + 3, none⟩ = some (.int .i64 y.expect) ∧ w'.cell? ⟨g, f * 6 + 4, none⟩ = some (.int .i64 y.track) ∧ w'.cell? ⟨g, f * 6 + 5, none⟩ = some (.int .i64 y.state))
            (first | go_keep | exact ⟨cell_keep hb1 (by exact hc), cell_keep hb1 (by exact a0), cell_keep hb1 (by exact a1), cell_keep hb1 (by exact a2), cell_keep hb1 (by exact a3), cell_keep hb1 (by exact a4), cell_keep hb1 (by exact a5), cell_keep hb1 (by exact b0), cell_keep hb1 (by exact b1), cell_keep hb1 (by exact b2), cell_keep hb1 (by exact b3), cell_keep hb1 (by exact b4), cell_keep hb1 (by exact b5)⟩)
            (first | (go_at_call 163; refine (before_any x y _).mono ?_; rintro e w1 ⟨rfl, hb1⟩; rw [hl]))
          go_wp2_with fail
          go_roundw
          case rel => exact ⟨s + 1, by omega, by go_num, by rw [HSU'.out], hB.out.drew.trans (by exact hb1.mono hB.out.size)⟩
          case measure => simp [intOf]; omega
      · have HO : Hid (firstTo L a s = firstD L a) := firstTo_out hs (Or.inr (by omega))
        have hd2 : ((2 * a + 1 + s : Nat) : Int) ≤ 2 * (a : Int) + 2 := by omega
        have hd1 : ¬ ((2 * a + 1 + s : Nat) : Int) < (L.length : Int) := by omega
        generalize 2 * a + 1 + s = d at *
        generalize L.length = n at *
        go_wp2_with fail
        go_ret
        exact ⟨ret_int (by rw [HO.out]), hB.out⟩
    · have HO : Hid (firstTo L a s = firstD L a) := firstTo_out hs (Or.inl (by omega))
      have hd2 : ¬ ((2 * a + 1 + s : Nat) : Int) ≤ 2 * (a : Int) + 2 := by omega
      generalize 2 * a + 1 + s = d at *
      go_wp2_with fail
      go_ret
      exact ⟨ret_int (by rw [HO.out]), hB.out⟩

end Go.Proofs.YtjioingdpfgadaaDoor
