import Derived.Test.YtjioingdpfgadabGreatDoorProg
import Derived.Test.YtjioingdpfgadabGreatDoorBoardA
import Derived.Deep.RegionHeld3
import Derived.Test.YtjioingdpfgadabGreatDoorHeap
import Derived.Test.YtjioingdpfgadabGreatDoorBoardCM
import Derived.BigRegion
import Derived.RangeFuncBox
import Derived.Test.YtjioingdpfgadabGreatDoorBoardFM
import Derived.Deep.AppendLies
import Derived.Deep.Cut
import Derived.BigQuiet
import Derived.Deep.DeepCutAuto
import Derived.Deep.WholeRow
namespace Go.Proofs.YtjioingdpfgadabGreatDoor
open Go Go.RowKit Go.Deep

set_option maxRecDepth 100000 in
theorem isNaN_any (x : Int) (w : World) :
    Calls Tryz.prog 155 #[.int .i64 x] w fun e w' => e = .returned (.bool false) ∧ w' = w := by
  go_enter Tryz.func155, Tryz.ntmps155
  go_wp2
  go_ret
  exact ⟨rfl, rfl⟩

/-- -1, 0 or 1. -/
def cmpD (x y : Int) : Int := if x < y then -1 else if y < x then 1 else 0

set_option maxRecDepth 100000 in
set_option maxHeartbeats 1000000 in
theorem compare_any (x y : Int) (w : World) :
    Calls Tryz.prog 154 #[.int .i64 x, .int .i64 y] w fun e w' => e = .returned (.int .i64 (cmpD x y)) ∧ w' = w := by
  by_cases h1 : x < y
  · have HC : Hid (cmpD x y = -1) := by unfold Hid cmpD; rw [if_pos h1]
    go_enter Tryz.func154, Tryz.ntmps154
    go_wp2_with (go_at_call 155; refine (isNaN_any _ _).mono ?_; rintro e w1 ⟨rfl, rfl⟩)
    go_ret
    exact ⟨ret_int HC.out.symm, rfl⟩
  · by_cases h2 : y < x
    · have HC : Hid (cmpD x y = 1) := by unfold Hid cmpD; rw [if_neg h1, if_pos h2]
      go_enter Tryz.func154, Tryz.ntmps154
      go_wp2_with (go_at_call 155; refine (isNaN_any _ _).mono ?_; rintro e w1 ⟨rfl, rfl⟩)
      go_ret
      exact ⟨ret_int HC.out.symm, rfl⟩
    · have HC : Hid (cmpD x y = 0) := by unfold Hid cmpD; rw [if_neg h1, if_neg h2]
      go_enter Tryz.func154, Tryz.ntmps154
      go_wp2_with (go_at_call 155; refine (isNaN_any _ _).mono ?_; rintro e w1 ⟨rfl, rfl⟩)
      go_ret
      exact ⟨ret_int HC.out.symm, rfl⟩

/-- The first of three numbers that is not 0. -/
def orD (a b c : Int) : Int := if a ≠ 0 then a else if b ≠ 0 then b else c
theorem orD_1 {a b c : Int} (h : a ≠ 0) : orD a b c = a := by unfold orD; rw [if_pos h]
theorem orD_2 {a b c : Int} (h : a = 0) (h2 : b ≠ 0) : orD a b c = b := by unfold orD; rw [if_neg (by simp [h]), if_pos h2]
theorem orD_3 {a b c : Int} (h : a = 0) (h2 : b = 0) : orD a b c = c := by unfold orD; rw [if_neg (by simp [h]), if_neg (by simp [h2])]

set_option maxRecDepth 100000 in
set_option maxHeartbeats 2000000 in
theorem or_any (a b c : Int) (g : Nat) (w : World) (h0 : w.cell? ⟨g, 0, none⟩ = some (.int .i64 a)) (h1 : w.cell? ⟨g, 1, none⟩ = some (.int .i64 b)) (h2 : w.cell? ⟨g, 2, none⟩ = some (.int .i64 c)) :
    Calls Tryz.prog 153 #[.slice (some ⟨g, 0, none⟩) 3 3] w fun e w' => e = .returned (.int .i64 (orD a b c)) ∧ w' = w := by
  have H0 : Hid (w.cell? ⟨g, 0, none⟩ = some (.int .i64 a)) := h0
  have H1 : Hid (w.cell? ⟨g, 1, none⟩ = some (.int .i64 b)) := h1
  have H2 : Hid (w.cell? ⟨g, 2, none⟩ = some (.int .i64 c)) := h2
  clear h0 h1 h2
  go_enter Tryz.func153, Tryz.ntmps153
  go_wp2
  go_loopw [8] (fun i wr => ∃ k : Nat, k ≤ 3 ∧ i = .int .i64 k ∧ Hid ((0 < k → a = 0) ∧ (1 < k → b = 0) ∧ (2 < k → c = 0)) ∧ Hid (wr = w)) (fun i _ => 3 - (intOf i).toNat)
  case atStart => exact ⟨0, by omega, rfl, ⟨by omega, by omega, by omega⟩, rfl⟩
  case round =>
    obtain ⟨k, hk, rfl, hz, hw0⟩ := hrel
    obtain rfl : wr = w := hw0.out
    have hcase : k = 0 ∨ k = 1 ∨ k = 2 ∨ k = 3 := by omega
    rcases hcase with rfl | rfl | rfl | rfl
    · have h0 := H0.out
      by_cases ha : a = 0
      · subst ha
        go_wp2_with fail
        go_roundw
        case rel => exact ⟨1, by omega, by go_num, by simp [Hid], by simp [Hid]⟩
        case measure => simp [intOf]
      · have HA : Hid (orD a b c = a) := orD_1 ha
        have hab : (a != 0) = true := by simp [ha]
        clear ha
        go_wp2_with fail
        go_ret
        exact ⟨ret_int HA.out.symm, rfl⟩
    · have h1 := H1.out
      by_cases hb : b = 0
      · subst hb
        go_wp2_with fail
        go_roundw
        case rel => exact ⟨2, by omega, by go_num, by have := hz.out.1 (by omega); simp [Hid, this], by simp [Hid]⟩
        case measure => simp [intOf]
      · have HA : Hid (orD a b c = b) := orD_2 (hz.out.1 (by omega)) hb
        have hab : (b != 0) = true := by simp [hb]
        clear hb
        go_wp2_with fail
        go_ret
        exact ⟨ret_int HA.out.symm, rfl⟩
    · have h2 := H2.out
      by_cases hc : c = 0
      · subst hc
        go_wp2_with fail
        go_roundw
        case rel => exact ⟨3, by omega, by go_num, by have := hz.out.1 (by omega); have := hz.out.2.1 (by omega); simp [Hid, *], by simp [Hid]⟩
        case measure => simp [intOf]
      · have HA : Hid (orD a b c = c) := orD_3 (hz.out.1 (by omega)) (hz.out.2.1 (by omega))
        have hab : (c != 0) = true := by simp [hc]
        clear hc
        go_wp2_with fail
        go_ret
        exact ⟨ret_int HA.out.symm, rfl⟩
    · have HA : Hid (orD a b c = 0) := by unfold Hid; rw [orD_3 (hz.out.1 (by omega)) (hz.out.2.1 (by omega))]; exact hz.out.2.2 (by omega)
      go_wp2_with fail
      go_ret
      exact ⟨ret_int HA.out.symm, rfl⟩

theorem lessD_cmp (a b : RowD) : decide (orD (cmpD a.expect b.expect) (cmpD a.due b.due) (cmpD a.trip b.trip) < 0) = lessD a b := by
  have hc : ∀ x y : Int, (x < y ∧ cmpD x y = -1) ∨ (y < x ∧ cmpD x y = 1) ∨ (x = y ∧ cmpD x y = 0) := fun x y => by
    unfold cmpD
    by_cases h1 : x < y
    · exact .inl ⟨h1, if_pos h1⟩
    · by_cases h2 : y < x
      · exact .inr (.inl ⟨h2, by rw [if_neg h1, if_pos h2]⟩)
      · exact .inr (.inr ⟨by omega, by rw [if_neg h1, if_neg h2]⟩)
  unfold lessD
  rcases hc a.expect b.expect with ⟨h, e⟩ | ⟨h, e⟩ | ⟨h, e⟩
  · rw [e, orD_1 (by omega), if_pos (by omega)]; simp [h]
  · rw [e, orD_1 (by omega), if_pos (by omega)]; simp; omega
  · rw [e, if_neg (by simp [h])]
    rcases hc a.due b.due with ⟨h', e'⟩ | ⟨h', e'⟩ | ⟨h', e'⟩
    · rw [e', orD_2 rfl (by omega), if_pos (by omega)]; simp [h']
    · rw [e', orD_2 rfl (by omega), if_pos (by omega)]; simp; omega
    · rw [e', orD_3 rfl rfl, if_neg (by simp [h'])]
      rcases hc a.trip b.trip with ⟨h3, e3⟩ | ⟨h3, e3⟩ | ⟨h3, e3⟩
      · rw [e3]; simp [h3]
      · rw [e3]; simp; omega
      · rw [e3]; simp; omega

theorem three_cells {w : World} {a b c : Value} {T : TypeId} : ((w.alloc (.cells #[a, b, c] T)).cell? ⟨w.heap.size, 0, none⟩ = some a ∧ (w.alloc (.cells #[a, b, c] T)).cell? ⟨w.heap.size, 1, none⟩ = some b ∧ (w.alloc (.cells #[a, b, c] T)).cell? ⟨w.heap.size, 2, none⟩ = some c) := by
  refine ⟨?_, ?_, ?_⟩ <;> simp [go_sem]

set_option maxRecDepth 100000 in
set_option maxHeartbeats 4000000 in
theorem before_any (a b : RowD) (w : World) :
    Calls Tryz.prog 152 #[rowV a, rowV b] w fun e w' => e = .returned (.bool (lessD a b)) ∧ Below w.heap.size w w' := by
  have HL : Hid (decide (orD (cmpD a.expect b.expect) (cmpD a.due b.due) (cmpD a.trip b.trip) < 0) = lessD a b) := lessD_cmp a b
  unfold rowV
  obtain ⟨W2, hW2⟩ : ∃ W2, (w.alloc (.cells #[.int .i64 a.trip, .int .i64 a.to, .int .i64 a.due, .int .i64 a.expect, .int .i64 a.track, .int .i64 a.state] 57)).alloc (.cells #[.int .i64 b.trip, .int .i64 b.to, .int .i64 b.due, .int .i64 b.expect, .int .i64 b.track, .int .i64 b.state] 57) = W2 := ⟨_, rfl⟩
  have hb2 : Below w.heap.size w W2 := by subst hW2; exact ((Below.refl _ _).alloc (Nat.le_refl _) _).alloc (by simp) _
  have p0 : W2.cell? ⟨w.heap.size, 0, none⟩ = some (.int .i64 a.trip) := by subst hW2; simp [go_sem]
  have p2 : W2.cell? ⟨w.heap.size, 2, none⟩ = some (.int .i64 a.due) := by subst hW2; simp [go_sem]
  have p3 : W2.cell? ⟨w.heap.size, 3, none⟩ = some (.int .i64 a.expect) := by subst hW2; simp [go_sem]
  have q0 : W2.cell? ⟨w.heap.size + 1, 0, none⟩ = some (.int .i64 b.trip) := by subst hW2; simp [go_sem]
  have q2 : W2.cell? ⟨w.heap.size + 1, 2, none⟩ = some (.int .i64 b.due) := by subst hW2; simp [go_sem]
  have q3 : W2.cell? ⟨w.heap.size + 1, 3, none⟩ = some (.int .i64 b.expect) := by subst hW2; simp [go_sem]
  go_enter Tryz.func152, Tryz.ntmps152
  go_wp2_with fail
  clear hW2
  go_region_held3 (fun w' => w'.cell? ⟨w.heap.size, 0, none⟩ = some (.int .i64 a.trip) ∧ w'.cell? ⟨w.heap.size, 2, none⟩ = some (.int .i64 a.due) ∧ w'.cell? ⟨w.heap.size, 3, none⟩ = some (.int .i64 a.expect) ∧ w'.cell? ⟨w.heap.size + 1, 0, none⟩ = some (.int .i64 b.trip) ∧ w'.cell? ⟨w.heap.size + 1, 2, none⟩ = some (.int .i64 b.due) ∧ w'.cell? ⟨w.heap.size + 1, 3, none⟩ = some (.int .i64 b.expect))
    (go_keep)
    (first
      | (go_at_call 154; refine (compare_any _ _ _).mono ?_; rintro e w3 ⟨rfl, rfl⟩)
      | (go_at_call 153; refine (or_any _ _ _ _ _ (by exact three_cells.1) (by exact three_cells.2.1) (by exact three_cells.2.2)).mono ?_; rintro e w4 ⟨rfl, rfl⟩))
  all_goals
    go_wp2
    go_ret
    exact ⟨ret_bool HL.out, (hb2.alloc hb2.size _).drew⟩

end Go.Proofs.YtjioingdpfgadabGreatDoor
namespace Go.Proofs.YtjioingdpfgadabGreatDoor
open Go Go.RowKit Go.Deep

/-- A heap in a box: the box holds the slice, the rows lie in memory of the call's own. -/
structure HeapAt (w : World) (B n0 : Nat) (L : List RowD) (v : Value) : Prop where
  box : Boxed w B 68 v
  rows : w.ownsRow n0 57 6 v L.length (sixes L)
  low : B < n0
/-- What a heap's work keeps: below n0 all but its box, and whatever is no cells. -/
structure KeptBox (B n0 : Nat) (w w' : World) : Prop where
  os : w'.os = w.os
  tape : w'.tape = w.tape
  output : w'.output = w.output
  size : w.heap.size ≤ w'.heap.size
  block : ∀ k, k < n0 → k ≠ B → w'.heap[k]? = w.heap[k]?
  others : ∀ (k : Nat) (o : Obj), w.heap[k]? = some o → o.isCells = false → w'.heap[k]? = some o
theorem KeptBox.refl (B n0 : Nat) (w : World) : KeptBox B n0 w w := ⟨rfl, rfl, rfl, Nat.le_refl _, fun _ _ _ => rfl, fun _ _ h _ => h⟩
theorem KeptBox.trans {B n0 : Nat} {a b c : World} (h : KeptBox B n0 a b) (k : KeptBox B n0 b c) : KeptBox B n0 a c :=
  ⟨k.os.trans h.os, k.tape.trans h.tape, k.output.trans h.output, Nat.le_trans h.size k.size, fun i hi hB => (k.block i hi hB).trans (h.block i hi hB), fun i o hi ho => k.others i o (h.others i o hi ho) ho⟩
theorem KeptBox.below {B n0 : Nat} {w w' : World} (h : Below w.heap.size w w') (hn : n0 ≤ w.heap.size) : KeptBox B n0 w w' :=
  ⟨h.os, h.tape, h.output, h.size, fun i hi _ => h.block i (by omega), fun i o hi _ => (h.block i (Array.getElem?_eq_some_iff.1 hi).1).trans hi⟩
theorem heap_at {w : World} {B n0 g cap n : Nat} {L : List RowD} (h : HeapAt w B n0 L (.slice (some ⟨g, 0, none⟩) n cap)) (i : Nat) (hi : i < L.length) :
    w.cell? ⟨g, i * 6, none⟩ = some (.int .i64 (rowIn L i).trip) ∧ w.cell? ⟨g, i * 6 + 1, none⟩ = some (.int .i64 (rowIn L i).to) ∧ w.cell? ⟨g, i * 6 + 2, none⟩ = some (.int .i64 (rowIn L i).due) ∧ w.cell? ⟨g, i * 6 + 3, none⟩ = some (.int .i64 (rowIn L i).expect) ∧ w.cell? ⟨g, i * 6 + 4, none⟩ = some (.int .i64 (rowIn L i).track) ∧ w.cell? ⟨g, i * 6 + 5, none⟩ = some (.int .i64 (rowIn L i).state) := by
  obtain ⟨a, c, e, hr⟩ := rows_at h.rows
  simp only [Value.slice.injEq] at e
  obtain ⟨rfl, _, _⟩ := e
  obtain ⟨b, o, e, c0, c1, c2, c3, c4, c5⟩ := hr i hi
  simp only [Option.some.injEq, Addr.mk.injEq, and_true] at e
  obtain ⟨rfl, rfl⟩ := e
  rw [rowIn_eq L i hi]
  simp only [Nat.zero_add] at c0 c1 c2 c3 c4 c5
  exact ⟨c0, c1, c2, c3, c4, c5⟩
theorem heap_slice {w : World} {B n0 : Nat} {L : List RowD} {v : Value} (h : HeapAt w B n0 L v) (h0 : 0 < L.length) : ∃ g cap, v = .slice (some ⟨g, 0, none⟩) L.length cap ∧ n0 ≤ g ∧ g < w.heap.size := by
  rcases h.rows.2 with ⟨e, e0⟩ | ⟨g, cap, cur, e, hb, hh, _⟩
  · omega
  · exact ⟨g, cap, e, hb, (Array.getElem?_eq_some_iff.1 hh).1⟩

/-- The world when two rows have changed places: the first row is written at j, the second at i. -/
def putSix (w : World) (g i : Nat) (x : RowD) : World := (((((w.setCell ⟨g, i * 6, none⟩ (.int .i64 x.trip)).setCell ⟨g, i * 6 + 1, none⟩ (.int .i64 x.to)).setCell ⟨g, i * 6 + 2, none⟩ (.int .i64 x.due)).setCell ⟨g, i * 6 + 3, none⟩ (.int .i64 x.expect)).setCell ⟨g, i * 6 + 4, none⟩ (.int .i64 x.track)).setCell ⟨g, i * 6 + 5, none⟩ (.int .i64 x.state)
theorem heap_put {w : World} {B n0 g cap : Nat} {L : List RowD} (h : HeapAt w B n0 L (.slice (some ⟨g, 0, none⟩) L.length cap)) (i : Nat) (hi : i < L.length) (x : RowD) :
    HeapAt (putSix w g i x) B n0 (L.set i x) (.slice (some ⟨g, 0, none⟩) L.length cap) ∧ KeptBox B n0 w (putSix w g i x) := by
  have hs := sixes_six i x hi h.rows
  have hg : n0 ≤ g := by
    rcases h.rows.2 with ⟨e, _⟩ | ⟨g', cap', cur, e, hb, _⟩
    · cases e
    · simp only [Value.slice.injEq, Option.some.injEq, Addr.mk.injEq, and_true] at e
      obtain ⟨rfl, _⟩ := e
      exact hb
  have hcell : ∃ cs T fr, w.heap[g]? = some (.cells cs T fr) := by
    rcases h.rows.2 with ⟨e, _⟩ | ⟨g', cap', cur, e, hb, hh, _⟩
    · cases e
    · simp only [Value.slice.injEq, Option.some.injEq, Addr.mk.injEq, and_true] at e
      obtain ⟨rfl, _⟩ := e
      exact ⟨_, _, _, hh⟩
  have hlow := h.low
  refine ⟨⟨?_, ?_, h.low⟩, ?_⟩
  · exact (hs.2.block B h.box.lt (by intro e; cases e; omega)).trans h.box
  · rw [List.length_set]; exact hs.1
  · refine ⟨hs.2.os, hs.2.tape, hs.2.output, hs.2.size, fun k hk hB => ?_, fun k o hk ho => ?_⟩
    · by_cases hkl : k < w.heap.size
      · exact hs.2.block k hkl (by intro e; cases e; omega)
      · have e1 : w.heap[k]? = none := Array.getElem?_eq_none (by omega)
        have e2 : (putSix w g i x).heap.size = w.heap.size := by simp [putSix, World.setCell]
        rw [e1]; exact Array.getElem?_eq_none (by rw [e2]; omega)
    · by_cases e : k = g
      · subst e
        obtain ⟨cs, T, fr, hc⟩ := hcell
        rw [hc] at hk
        cases hk
        cases ho
      · rw [← hk]; exact hs.2.block k (Array.getElem?_eq_some_iff.1 hk).1 (by intro e'; cases e'; exact e rfl)
theorem swap_two (L : List RowD) (i j : Nat) : (L.set i (rowIn L j)).set j (rowIn L i) = swapL L i j := rfl
theorem heap_swapped {w : World} {B n0 g cap : Nat} {L : List RowD} (h : HeapAt w B n0 L (.slice (some ⟨g, 0, none⟩) L.length cap)) (i j : Nat) (hi : i < L.length) (hj : j < L.length) :
    HeapAt (putSix (putSix w g i (rowIn L j)) g j (rowIn L i)) B n0 (swapL L i j) (.slice (some ⟨g, 0, none⟩) L.length cap) ∧ KeptBox B n0 w (putSix (putSix w g i (rowIn L j)) g j (rowIn L i)) := by
  obtain ⟨h1, k1⟩ := heap_put h i hi (rowIn L j)
  have hl : (L.set i (rowIn L j)).length = L.length := List.length_set
  rw [← hl] at h1
  obtain ⟨h2, k2⟩ := heap_put h1 j (by rw [hl]; exact hj) (rowIn L i)
  rw [hl] at h2
  exact ⟨h2, k1.trans k2⟩

end Go.Proofs.YtjioingdpfgadabGreatDoor
namespace Go.Proofs.YtjioingdpfgadabGreatDoor
open Go Go.RowKit Go.Deep

theorem HeapAt.drew {w : World} {B n0 : Nat} {L : List RowD} {v : Value} (h : HeapAt w B n0 L v) : HeapAt w.drew B n0 L v := ⟨h.box, h.rows, h.low⟩
theorem KeptBox.drew {B n0 : Nat} {a w : World} (h : KeptBox B n0 a w) : KeptBox B n0 a w.drew := ⟨h.os, h.tape, h.output, h.size, h.block, h.others⟩
theorem heap_swapped_grown {w : World} {B n0 g cap : Nat} {L : List RowD} (h : HeapAt w B n0 L (.slice (some ⟨g, 0, none⟩) L.length cap)) (i j : Nat) (hi : i < L.length) (hj : j < L.length) :
    w.grownBy (putSix (putSix w g i (rowIn L j)) g j (rowIn L i)) (some g) := by
  have h1 := heap_put h i hi (rowIn L j)
  have g1 := (sixes_six i (rowIn L j) hi h.rows).2
  have hl : (L.set i (rowIn L j)).length = L.length := List.length_set
  have h2 := h1.1
  rw [← hl] at h2
  exact g1.trans (sixes_six j (rowIn L i) (by rw [hl]; exact hj) h2.rows).2
theorem grownBy_drew {w w' : World} {r : Option Nat} (h : w.grownBy w' r) : w.grownBy w'.drew r := ⟨h.os, h.tape, h.output, h.size, h.block⟩
theorem cell_again {w : World} {g o p : Nat} {u : Value} (h : w.cell? ⟨g, p, none⟩ = some u) : (w.setCell ⟨g, o, none⟩ u).cell? ⟨g, p, none⟩ = some u := by
  by_cases e : o = p
  · subst e; exact World.cell?_setCell_same' _ _ _ (by rw [h]; rfl)
  · rw [World.cell?_setCell_other _ _ _ _ (fun h' => e (Addr.mk.inj h').2.1)]; exact h
theorem cell_past {w : World} {g o p : Nat} {u v : Value} (hne : o ≠ p) (h : w.cell? ⟨g, p, none⟩ = some v) : (w.setCell ⟨g, o, none⟩ u).cell? ⟨g, p, none⟩ = some v := by
  rw [World.cell?_setCell_other _ _ _ _ (fun h' => hne (Addr.mk.inj h').2.1)]; exact h

set_option maxRecDepth 100000 in
set_option maxHeartbeats 8000000 in
theorem swap_more (B n0 g cap i j : Nat) (L : List RowD) (w : World) (hi : i < L.length) (hj : j < L.length) (h : HeapAt w B n0 L (.slice (some ⟨g, 0, none⟩) L.length cap)) :
    Calls Tryz.prog 71 #[.pointer (some ⟨B, 0, none⟩), .int .i64 i, .int .i64 j] w fun e w' => (∃ v, e = .returned v) ∧ HeapAt w' B n0 (swapL L i j) (.slice (some ⟨g, 0, none⟩) L.length cap) ∧ KeptBox B n0 w w' ∧ w.grownBy w' (some g) := by
  have HGR : Hid _ := heap_swapped_grown h i j hi hj
  have hc := h.box.cell
  have hfr := h.rows.frozenAt
  obtain ⟨a0, a1, a2, a3, a4, a5⟩ := heap_at h i hi
  obtain ⟨b0, b1, b2, b3, b4, b5⟩ := heap_at h j hj
  obtain ⟨hsw, hkp⟩ := heap_swapped h i j hi hj
  have HS : Hid _ := hsw
  have HK : Hid _ := hkp
  have hi0 : (0 : Int) ≤ (i : Int) := by omega
  have hi1 : (i : Int) < (L.length : Int) := by omega
  have hj0 : (0 : Int) ≤ (j : Int) := by omega
  have hj1 : (j : Int) < (L.length : Int) := by omega
  have e0 := cell_again (o := i * 6) b0
  have e1 := cell_again (o := i * 6 + 1) (cell_past (o := i * 6) (u := .int .i64 (rowIn L j).trip) (by omega) b1)
  have e2 := cell_again (o := i * 6 + 2) (cell_past (o := i * 6 + 1) (u := .int .i64 (rowIn L j).to) (by omega) (cell_past (o := i * 6) (u := .int .i64 (rowIn L j).trip) (by omega) b2))
  have e3 := cell_again (o := i * 6 + 3) (cell_past (o := i * 6 + 2) (u := .int .i64 (rowIn L j).due) (by omega) (cell_past (o := i * 6 + 1) (u := .int .i64 (rowIn L j).to) (by omega) (cell_past (o := i * 6) (u := .int .i64 (rowIn L j).trip) (by omega) b3)))
  have e4 := cell_again (o := i * 6 + 4) (cell_past (o := i * 6 + 3) (u := .int .i64 (rowIn L j).expect) (by omega) (cell_past (o := i * 6 + 2) (u := .int .i64 (rowIn L j).due) (by omega) (cell_past (o := i * 6 + 1) (u := .int .i64 (rowIn L j).to) (by omega) (cell_past (o := i * 6) (u := .int .i64 (rowIn L j).trip) (by omega) b4))))
  have e5 := cell_again (o := i * 6 + 5) (cell_past (o := i * 6 + 4) (u := .int .i64 (rowIn L j).track) (by omega) (cell_past (o := i * 6 + 3) (u := .int .i64 (rowIn L j).expect) (by omega) (cell_past (o := i * 6 + 2) (u := .int .i64 (rowIn L j).due) (by omega) (cell_past (o := i * 6 + 1) (u := .int .i64 (rowIn L j).to) (by omega) (cell_past (o := i * 6) (u := .int .i64 (rowIn L j).trip) (by omega) b5)))))
  clear hsw hkp h hi hj
  generalize rowIn L i = x at *
  generalize rowIn L j = y at *
  generalize L.length = n at *
  go_enter Tryz.func71, Tryz.ntmps71
  go_region
  go_end0
  exact ⟨⟨_, rfl⟩, HeapAt.drew HS.out, KeptBox.drew HK.out, grownBy_drew HGR.out⟩

theorem swap_any (B n0 g cap i j : Nat) (L : List RowD) (w : World) (hi : i < L.length) (hj : j < L.length) (h : HeapAt w B n0 L (.slice (some ⟨g, 0, none⟩) L.length cap)) :
    Calls Tryz.prog 71 #[.pointer (some ⟨B, 0, none⟩), .int .i64 i, .int .i64 j] w fun e w' => (∃ v, e = .returned v) ∧ HeapAt w' B n0 (swapL L i j) (.slice (some ⟨g, 0, none⟩) L.length cap) ∧ KeptBox B n0 w w' :=
  (swap_more B n0 g cap i j L w hi hj h).mono fun _ _ h => ⟨h.1, h.2.1, h.2.2.1⟩

end Go.Proofs.YtjioingdpfgadabGreatDoor
namespace Go.Proofs.YtjioingdpfgadabGreatDoor
open Go Go.RowKit Go.Deep

theorem mBef (a b c d e f : Value) (w : World) : (Go.method 362 57 (.agg #[a, b, c, d, e, f]) "loop.example/tannoy/impl.before").run Tryz.prog w = .ok (152, .agg #[a, b, c, d, e, f]) w := by kernel_rfl
theorem nBef (a b c d e f : Value) (w : World) : (Go.nilAhead 362 57 (.agg #[a, b, c, d, e, f]) "loop.example/tannoy/impl.before").run Tryz.prog w = .ok (some false) w := by kernel_rfl

theorem HeapAt.keep {w w' : World} {B n0 : Nat} {L : List RowD} {v : Value} (h : HeapAt w B n0 L v) (hb : Below w.heap.size w w') : HeapAt w' B n0 L v :=
  ⟨(hb.block B h.box.lt).trans h.box, owns_below h.rows hb (owns_lt h.rows), h.low⟩
theorem first1_no {L : List RowD} {a : Nat} (h : L.length ≤ 2 * a + 1) : first1 L a = a := by unfold first1; rw [if_neg (by omega)]
theorem firstD_no {L : List RowD} {a : Nat} (h : L.length ≤ 2 * a + 2) : firstD L a = first1 L a := by unfold firstD; rw [if_neg (by omega)]
theorem first1_yes {L : List RowD} {a : Nat} (h : 2 * a + 1 < L.length) (hl : lessD (rowIn L (2 * a + 1)) (rowIn L a) = true) : first1 L a = 2 * a + 1 := by unfold first1; rw [if_pos ⟨h, hl⟩]
theorem first1_same {L : List RowD} {a : Nat} (hl : lessD (rowIn L (2 * a + 1)) (rowIn L a) = false) : first1 L a = a := by unfold first1; rw [if_neg (by simp [hl])]
theorem firstD_yes {L : List RowD} {a : Nat} (h : 2 * a + 2 < L.length) (hl : lessD (rowIn L (2 * a + 2)) (rowIn L (first1 L a)) = true) : firstD L a = 2 * a + 2 := by unfold firstD; rw [if_pos ⟨h, hl⟩]
theorem firstD_same {L : List RowD} {a : Nat} (hl : lessD (rowIn L (2 * a + 2)) (rowIn L (first1 L a)) = false) : firstD L a = first1 L a := by unfold firstD; rw [if_neg (by simp [hl])]
/-- The first of the row at a and the first s of the two below it. -/
def firstTo (L : List RowD) (a : Nat) : Nat → Nat
  | 0 => a
  | 1 => first1 L a
  | _ => firstD L a
theorem firstTo_out {L : List RowD} {a s : Nat} (hs : s ≤ 2) (h : s = 2 ∨ L.length ≤ 2 * a + 1 + s) : firstTo L a s = firstD L a := by
  have : s = 0 ∨ s = 1 ∨ s = 2 := by omega
  rcases this with rfl | rfl | rfl
  · rw [firstD_no (by omega), first1_no (by omega)]; rfl
  · rw [firstD_no (by omega)]; rfl
  · rfl
theorem firstTo_succ {L : List RowD} {a s : Nat} (hs : s < 2) (h : 2 * a + 1 + s < L.length) : firstTo L a (s + 1) = if lessD (rowIn L (2 * a + 1 + s)) (rowIn L (firstTo L a s)) then 2 * a + 1 + s else firstTo L a s := by
  have : s = 0 ∨ s = 1 := by omega
  rcases this with rfl | rfl
  · show first1 L a = _
    unfold first1 firstTo
    by_cases e : lessD (rowIn L (2 * a + 1)) (rowIn L a) = true
    · rw [if_pos ⟨by omega, e⟩]; simp [e]
    · rw [if_neg (fun h => e h.2)]; simp [e]
  · show firstD L a = _
    unfold firstD firstTo
    by_cases e : lessD (rowIn L (2 * a + 2)) (rowIn L (first1 L a)) = true
    · rw [if_pos ⟨by omega, e⟩]; simp [e]
    · rw [if_neg (fun h => e h.2)]; simp [e]
theorem firstTo_lt {L : List RowD} {a s : Nat} (ha : a < L.length) : firstTo L a s < L.length := by
  have h1 : first1 L a < L.length := by unfold first1; split <;> omega
  have h2 : firstD L a < L.length := by unfold firstD; split <;> omega
  unfold firstTo
  split <;> assumption

set_option maxRecDepth 100000 in
set_option maxHeartbeats 8000000 in
theorem firstOf_any (B n0 g cap a : Nat) (L : List RowD) (w : World) (hm : L.length ≤ 1000) (ham : a ≤ 1000) (h : HeapAt w B n0 L (.slice (some ⟨g, 0, none⟩) L.length cap)) :
    Calls Tryz.prog 72 #[.pointer (some ⟨B, 0, none⟩), .int .i64 a] w fun e w' => e = .returned (.int .i64 (firstD L a)) ∧ Below w.heap.size w w' := by
  have HH : Hid (HeapAt w B n0 L (.slice (some ⟨g, 0, none⟩) L.length cap)) := h
  clear h
  go_enter Tryz.func72, Tryz.ntmps72
  go_wp2_with fail
  go_loopw [5, 6] (fun q i wr => ∃ s : Nat, s ≤ 2 ∧ i = .int .i64 ((2 * a + 1 + s : Nat) : Int) ∧ q = .int .i64 (firstTo L a s) ∧ Hid (Below w.heap.size w wr)) (fun _ i _ => 2 * a + 3 - (intOf i).toNat)
  case atStart => exact ⟨0, by omega, by go_num, rfl, Below.refl _ _⟩
  case round =>
    obtain ⟨s, hs, rfl, rfl, hB⟩ := hrel
    have HW : Hid (HeapAt wr B n0 L (.slice (some ⟨g, 0, none⟩) L.length cap)) := HH.out.keep hB.out
    have hc := HW.out.box.cell
    by_cases hs2 : s < 2
    · by_cases hlt : 2 * a + 1 + s < L.length
      · have hf := firstTo_lt (L := L) (a := a) (s := s) (by omega)
        have HSU := firstTo_succ hs2 hlt
        obtain ⟨a0, a1, a2, a3, a4, a5⟩ := heap_at HW.out (2 * a + 1 + s) hlt
        obtain ⟨b0, b1, b2, b3, b4, b5⟩ := heap_at HW.out (firstTo L a s) hf
        generalize firstTo L a s = f at *
        generalize hd : 2 * a + 1 + s = d at *
        generalize rowIn L d = x at *
        generalize rowIn L f = y at *
        have hd2 : (d : Int) ≤ 2 * (a : Int) + 2 := by omega
        have hd0 : (0 : Int) ≤ (d : Int) := by omega
        have hd1 : (d : Int) < (L.length : Int) := by omega
        have hf0 : (0 : Int) ≤ (f : Int) := by omega
        have hf1 : (f : Int) < (L.length : Int) := by omega
        have mb := mBef
        have nb := nBef
        cases hl : lessD x y
        · have HSU' : Hid (firstTo L a (s + 1) = f) := by unfold Hid; rw [HSU, hl]; rfl
          clear HSU
          generalize L.length = n at *
          go_wp2_with fail
          go_region_held3 (fun w' => w'.cell? ⟨B, 0, none⟩ = some (.slice (some ⟨g, 0, none⟩) n cap) ∧ w'.cell? ⟨g, d * 6, none⟩ = some (.int .i64 x.trip) ∧ w'.cell? ⟨g, d * 6 + 1, none⟩ = some (.int .i64 x.to) ∧ w'.cell? ⟨g, d * 6 + 2, none⟩ = some (.int .i64 x.due) ∧ w'.cell? ⟨g, d * 6 + 3, none⟩ = some (.int .i64 x.expect) ∧ w'.cell? ⟨g, d * 6 + 4, none⟩ = some (.int .i64 x.track) ∧ w'.cell? ⟨g, d * 6 + 5, none⟩ = some (.int .i64 x.state) ∧ w'.cell? ⟨g, f * 6, none⟩ = some (.int .i64 y.trip) ∧ w'.cell? ⟨g, f * 6 + 1, none⟩ = some (.int .i64 y.to) ∧ w'.cell? ⟨g, f * 6 + 2, none⟩ = some (.int .i64 y.due) ∧ w'.cell? ⟨g, f * 6 + 3, none⟩ = some (.int .i64 y.expect) ∧ w'.cell? ⟨g, f * 6 + 4, none⟩ = some (.int .i64 y.track) ∧ w'.cell? ⟨g, f * 6 + 5, none⟩ = some (.int .i64 y.state))
            (first | go_keep | exact ⟨cell_keep hb1 (by exact hc), cell_keep hb1 (by exact a0), cell_keep hb1 (by exact a1), cell_keep hb1 (by exact a2), cell_keep hb1 (by exact a3), cell_keep hb1 (by exact a4), cell_keep hb1 (by exact a5), cell_keep hb1 (by exact b0), cell_keep hb1 (by exact b1), cell_keep hb1 (by exact b2), cell_keep hb1 (by exact b3), cell_keep hb1 (by exact b4), cell_keep hb1 (by exact b5)⟩)
            (first | (go_at_call 152; refine (before_any x y _).mono ?_; rintro e w1 ⟨rfl, hb1⟩; rw [hl]))
          go_wp2_with fail
          go_roundw
          case rel => exact ⟨s + 1, by omega, by go_num, by rw [HSU'.out], hB.out.drew.trans (by exact hb1.mono hB.out.size)⟩
          case measure => simp [intOf]; omega
        · have HSU' : Hid (firstTo L a (s + 1) = d) := by unfold Hid; rw [HSU, hl]; rfl
          clear HSU
          generalize L.length = n at *
          go_wp2_with fail
          go_region_held3 (fun w' => w'.cell? ⟨B, 0, none⟩ = some (.slice (some ⟨g, 0, none⟩) n cap) ∧ w'.cell? ⟨g, d * 6, none⟩ = some (.int .i64 x.trip) ∧ w'.cell? ⟨g, d * 6 + 1, none⟩ = some (.int .i64 x.to) ∧ w'.cell? ⟨g, d * 6 + 2, none⟩ = some (.int .i64 x.due) ∧ w'.cell? ⟨g, d * 6 + 3, none⟩ = some (.int .i64 x.expect) ∧ w'.cell? ⟨g, d * 6 + 4, none⟩ = some (.int .i64 x.track) ∧ w'.cell? ⟨g, d * 6 + 5, none⟩ = some (.int .i64 x.state) ∧ w'.cell? ⟨g, f * 6, none⟩ = some (.int .i64 y.trip) ∧ w'.cell? ⟨g, f * 6 + 1, none⟩ = some (.int .i64 y.to) ∧ w'.cell? ⟨g, f * 6 + 2, none⟩ = some (.int .i64 y.due) ∧ w'.cell? ⟨g, f * 6 + 3, none⟩ = some (.int .i64 y.expect) ∧ w'.cell? ⟨g, f * 6 + 4, none⟩ = some (.int .i64 y.track) ∧ w'.cell? ⟨g, f * 6 + 5, none⟩ = some (.int .i64 y.state))
            (first | go_keep | exact ⟨cell_keep hb1 (by exact hc), cell_keep hb1 (by exact a0), cell_keep hb1 (by exact a1), cell_keep hb1 (by exact a2), cell_keep hb1 (by exact a3), cell_keep hb1 (by exact a4), cell_keep hb1 (by exact a5), cell_keep hb1 (by exact b0), cell_keep hb1 (by exact b1), cell_keep hb1 (by exact b2), cell_keep hb1 (by exact b3), cell_keep hb1 (by exact b4), cell_keep hb1 (by exact b5)⟩)
            (first | (go_at_call 152; refine (before_any x y _).mono ?_; rintro e w1 ⟨rfl, hb1⟩; rw [hl]))
          go_wp2_with fail
          go_roundw
          case rel => exact ⟨s + 1, by omega, by go_num, by rw [HSU'.out], hB.out.drew.trans (by exact hb1.mono hB.out.size)⟩
          case measure => simp [intOf]; omega
      · have HO : Hid (firstTo L a s = firstD L a) := firstTo_out hs (Or.inr (by omega))
        have hd2 : ((2 * a + 1 + s : Nat) : Int) ≤ 2 * (a : Int) + 2 := by omega
        have hd1 : ¬ ((2 * a + 1 + s : Nat) : Int) < (L.length : Int) := by omega
        generalize 2 * a + 1 + s = d at *
        generalize L.length = n at *
        go_wp2_with fail
        go_ret
        exact ⟨ret_int (by rw [HO.out]), hB.out⟩
    · have HO : Hid (firstTo L a s = firstD L a) := firstTo_out hs (Or.inl (by omega))
      have hd2 : ¬ ((2 * a + 1 + s : Nat) : Int) ≤ 2 * (a : Int) + 2 := by omega
      generalize 2 * a + 1 + s = d at *
      go_wp2_with fail
      go_ret
      exact ⟨ret_int (by rw [HO.out]), hB.out⟩

end Go.Proofs.YtjioingdpfgadabGreatDoor
namespace Go.Proofs.YtjioingdpfgadabGreatDoor
open Go Go.RowKit Go.Deep

theorem KeptBox.setBox {B n0 : Nat} {a w : World} {t : TypeId} {v : Value} (h : KeptBox B n0 a w) (hb : Boxed w B t v) (u : Value) : KeptBox B n0 a (w.setCell ⟨B, 0, none⟩ u) := by
  refine h.trans ⟨rfl, rfl, rfl, by simp [World.setCell], fun k _ hB => Below.heap_setCell w _ u k (by simpa using hB), fun k o hk ho => ?_⟩
  by_cases e : k = B
  · subst e
    rw [show w.heap[k]? = _ from hb] at hk
    cases hk
    cases ho
  · rw [Below.heap_setCell w _ u k (by simpa using e)]; exact hk
theorem KeptBox.grown {B n0 : Nat} {a w w' : World} {n : Nat} {v : Value} {e : TypeId} {L : List Value} (h : KeptBox B n0 a w) (hg : w.grownBy w' v.ownBlock) (hn : n0 ≤ w.heap.size) (hr : w.ownsRow n0 e 6 v n L) : KeptBox B n0 a w' := by
  have hob : ∀ g, v.ownBlock = some g → n0 ≤ g ∧ ∃ cs T fr, w.heap[g]? = some (.cells cs T fr) := fun g hg => by
    rcases hr.2 with ⟨e, _⟩ | ⟨g', cap', cur, e, hb, hh, _⟩
    · rw [e] at hg; cases hg
    · rw [e] at hg; cases hg; exact ⟨hb, _, _, _, hh⟩
  refine h.trans ⟨hg.os, hg.tape, hg.output, hg.size, fun k hk _ => hg.block k (by omega) (fun e => by have := (hob k e.symm).1; omega), fun k o hk ho => ?_⟩
  by_cases e : v.ownBlock = some k
  · obtain ⟨_, cs, T, fr, hc⟩ := hob k e
    rw [hc] at hk
    cases hk
    cases ho
  · rw [hg.block k (Array.getElem?_eq_some_iff.1 hk).1 (fun e' => e e'.symm)]; exact hk
theorem KeptBox.alloc {B n0 : Nat} {a w : World} (h : KeptBox B n0 a w) (hn : n0 ≤ w.heap.size) (o : Obj) : KeptBox B n0 a (w.alloc o) :=
  h.trans (KeptBox.below ((Below.refl _ _).alloc (Nat.le_refl _) o) hn)
theorem HeapAt.drewN {n : Nat} {w : World} {B n0 : Nat} {L : List RowD} {v : Value} (h : HeapAt w B n0 L v) : HeapAt (w.drewN n) B n0 L v := ⟨h.box, h.rows, h.low⟩
theorem KeptBox.drewN {n B n0 : Nat} {a w : World} (h : KeptBox B n0 a w) : KeptBox B n0 a (w.drewN n) := ⟨h.os, h.tape, h.output, h.size, h.block, h.others⟩
theorem sixOf_one (x : RowD) : ∀ u ∈ sixOf x, u.oneCell' = true := by
  intro u hu
  simp only [sixOf, List.mem_cons, List.not_mem_nil, or_false] at hu
  rcases hu with rfl | rfl | rfl | rfl | rfl | rfl <;> rfl
theorem half_cast (m : Nat) : Int.tdiv (m : Int) 2 = ((m / 2 : Nat) : Int) := by
  rw [Int.tdiv_eq_ediv_of_nonneg (by omega)]; omega

set_option maxRecDepth 100000 in
set_option maxHeartbeats 8000000 in
theorem push_any (B n0 : Nat) (L : List RowD) (v : Value) (x : RowD) (w : World) (hm : L.length < 1000) (hn : n0 ≤ w.heap.size) (h : HeapAt w B n0 L v) (hh : IsHeap L) :
    Calls Tryz.prog 39 #[.pointer (some ⟨B, 0, none⟩), rowV x] w fun e w' => (∃ u, e = .returned u) ∧ ∃ v' L', HeapAt w' B n0 L' v' ∧ IsHeap L' ∧ L'.Perm (x :: L) ∧ KeptBox B n0 w w' := by
  unfold rowV
  obtain ⟨i1, hj1, he0⟩ := Option.map_eq_some_iff.1 infRows
  simp only [Prod.mk.injEq] at he0
  have HJ0 : Hid (Tryz.prog.info? 57 = some i1) := hj1
  have HI0 : Hid (i1.zero = some (.agg #[.int .i64 0, .int .i64 0, .int .i64 0, .int .i64 0, .int .i64 0, .int .i64 0]) ∧ i1.size = 6 ∧ i1.bytes = 48) := he0
  clear hj1 he0
  have HU : Hid (UpHeap (L ++ [x]) L.length) := hh.snoc x
  obtain ⟨a, c, rfl, _⟩ := rows_at h.rows
  obtain ⟨W1, hW1⟩ : ∃ W1, w.alloc (.cells #[.int .i64 x.trip, .int .i64 x.to, .int .i64 x.due, .int .i64 x.expect, .int .i64 x.track, .int .i64 x.state] 57) = W1 := ⟨_, rfl⟩
  have hb1 : Below w.heap.size w W1 := by subst hW1; exact (Below.refl _ _).alloc (Nat.le_refl _) _
  have hs1 : W1.heap.size = w.heap.size + 1 := by subst hW1; simp
  have H1 : Hid (HeapAt W1 B n0 L (.slice a L.length c)) := h.keep hb1
  have hc := H1.out.box.cell
  have HO1 : Hid (W1.ownsRow n0 57 6 (.slice a L.length c) L.length (sixes L)) := H1.out.rows
  have HOD : Hid ((W1.alloc (.cells #[.int .i64 x.trip, .int .i64 x.to, .int .i64 x.due, .int .i64 x.expect, .int .i64 x.track, .int .i64 x.state] 57)).drew.ownsRow n0 57 6 (.slice a L.length c) L.length (sixes L)) := HO1.out.alloc _
  have HCD : Hid (∀ j u, (sixOf x)[j]? = some u → (W1.alloc (.cells #[.int .i64 x.trip, .int .i64 x.to, .int .i64 x.due, .int .i64 x.expect, .int .i64 x.track, .int .i64 x.state] 57)).drew.cell? ((⟨w.heap.size + 1, 0, none⟩ : Addr).add j) = some u) := by unfold Hid; rw [← hs1]; exact cells_six_at W1 x 57
  have HNE : Hid (some B ≠ (Value.slice a L.length c).ownBlock) := fun e => by
    have hlow := H1.out.low
    have hge := (H1.out.rows.lt B e.symm).1
    omega
  have p0 : W1.cell? ⟨w.heap.size, 0, none⟩ = some (.int .i64 x.trip) := by subst hW1; simp [go_sem]
  have p1 : W1.cell? ⟨w.heap.size, 1, none⟩ = some (.int .i64 x.to) := by subst hW1; simp [go_sem]
  have p2 : W1.cell? ⟨w.heap.size, 2, none⟩ = some (.int .i64 x.due) := by subst hW1; simp [go_sem]
  have p3 : W1.cell? ⟨w.heap.size, 3, none⟩ = some (.int .i64 x.expect) := by subst hW1; simp [go_sem]
  have p4 : W1.cell? ⟨w.heap.size, 4, none⟩ = some (.int .i64 x.track) := by subst hW1; simp [go_sem]
  have p5 : W1.cell? ⟨w.heap.size, 5, none⟩ = some (.int .i64 x.state) := by subst hW1; simp [go_sem]
  have hBw := h.box.lt
  have HLOW : Hid (B < n0) := h.low
  have hcA : (W1.alloc (.cells #[.int .i64 x.trip, .int .i64 x.to, .int .i64 x.due, .int .i64 x.expect, .int .i64 x.track, .int .i64 x.state] 57)).cell? ⟨B, 0, none⟩ = some (.slice a L.length c) := (Boxed.alloc H1.out.box _).cell
  clear h hh
  go_enter Tryz.func39, Tryz.ntmps39
  go_upto_region 1 with fail
  clear hW1
  go_cut [12] (fun s wx => ∃ g cap, s = .slice (some ⟨g, 0, none⟩) (L.length + 1) cap ∧ Hid (HeapAt wx B n0 (L ++ [x]) (.slice (some ⟨g, 0, none⟩) (L.length + 1) cap)) ∧ Hid (KeptBox B n0 w wx))
  case first =>
    go_region_law (refine step_append_lies _ (by rfl) _ _ 29 (by rfl) n0 57 i1 (.agg #[.int .i64 0, .int .i64 0, .int .i64 0, .int .i64 0, .int .i64 0, .int .i64 0]) 6 48 uRows HJ0.out HI0.out.1 HI0.out.2.1 HI0.out.2.2 rfl (by decide) (.slice a L.length c) L.length (sixes L) (by first | rfl | simp [Act.eval]) HOD.out ⟨w.heap.size + 1, 0, none⟩ 1 1 (sixOf x) (by first | rfl | simp [Act.eval]) (by rfl) HCD.out (sixOf_one x) (by decide) (by unfold maxLen; omega) (by omega) (by simp; omega) (W1.heap.size + 1) (by simp) ?_; intro g5 cap5 w5 hown5 hgrow hat5 hlt5; have hsz5 : W1.heap.size < w5.heap.size := (by have := hgrow.size; simp at this; omega); have hbx5 : Boxed w5 B 68 (.slice a L.length c) := (Boxed.alloc H1.out.box _).kept (row := (Value.slice a L.length c).ownBlock) ⟨hgrow.os, hgrow.tape, hgrow.output, hgrow.size, hgrow.block⟩ HNE.out; have hc5 := hbx5.cell; have hf5 := hbx5.frozen)
    all_goals
      have HH5 : Hid (HeapAt (w5.setCell ⟨B, 0, none⟩ (.slice (some ⟨g5, 0, none⟩) (L.length + 1) cap5)) B n0 (L ++ [x]) (.slice (some ⟨g5, 0, none⟩) (L.length + 1) cap5)) := by
        refine ⟨hbx5.set _, ?_, HLOW.out⟩
        rw [List.length_append, List.length_singleton, sixes_snoc]
        exact ownsRow_setCell_below hown5 HLOW.out _
      have HK5 : Hid (KeptBox B n0 w (w5.setCell ⟨B, 0, none⟩ (.slice (some ⟨g5, 0, none⟩) (L.length + 1) cap5))) :=
        (((((KeptBox.below hb1 hn).alloc (by omega) _).drew).grown hgrow (by simp; omega) HOD.out).setBox hbx5 _)
      go_wp2_with fail
      go_meet
      exact ⟨g5, cap5, rfl, HH5, HK5⟩
  case rest =>
    obtain ⟨g, cap, rfl, hH, hK⟩ := hcut
    clear hc HO1 H1 HOD HCD HNE p0 p1 p2 p3 p4 p5 hcA hb1 hs1 HJ0 HI0
    have hc6 := hH.out.box.cell
    have HP0 : Hid ((L ++ [x]).Perm (x :: L)) := List.perm_append_singleton _ _
    have hnl : (L ++ [x]).length = L.length + 1 := by simp
    generalize hM : L ++ [x] = M0 at *
    generalize hN : L.length = n at *
    clear hM hN
    have hnm : n < 1000 := hm
    obtain ⟨N, hN0⟩ : ∃ N, n + 1 = N := ⟨_, rfl⟩
    have hNi : (N : Int) - 1 = (n : Int) := by omega
    have hNm : N ≤ 1000 := by omega
    have HN0 : Hid (n + 1 = N) := hN0
    rw [hN0] at hH hc6 hnl
    have HNL : Hid (M0.length = N) := hnl
    clear hN0 hnl
    go_wp2_with fail
    rename World => w6
    go_loopw [4] (fun i wr => ∃ (k : Nat) (M : List RowD), k < N ∧ Hid (M.length = N) ∧ i = .int .i64 k ∧ Hid (HeapAt wr B n0 M (.slice (some ⟨g, 0, none⟩) N cap)) ∧ Hid (UpHeap M k) ∧ Hid (M.Perm (x :: L)) ∧ Hid (KeptBox B n0 w wr)) (fun i _ => (intOf i).toNat)
    case atStart => exact ⟨n, M0, by have := HN0.out; omega, HNL, by go_num, hH, HU, HP0, hK⟩
    case round =>
      obtain ⟨k, M, hk, hMl, rfl, hHr, hUr, hPr, hKr⟩ := hrel
      clear hc6 hH hK HU HP0 HNL hNi hnm
      have hcr := hHr.out.box.cell
      have hsz : n0 ≤ wr.heap.size := Nat.le_trans hn hKr.out.size
      have hkM : k < M.length := by rw [hMl.out]; exact hk
      have HKM : Hid (k < M.length) := hkM
      clear hkM
      have HCR : Hid (wr.cell? ⟨B, 0, none⟩ = some (.slice (some ⟨g, 0, none⟩) N cap)) := hcr
      by_cases hk0 : k = 0
      · subst hk0
        have HT : Hid (IsHeap M) := hUr.out.top (.inl rfl)
        rw [show ((0 : Nat) : Int) = 0 from rfl]
        go_wp2_with fail
        go_quiet (fail)
        go_wp2_with fail
        go_end0
        exact ⟨⟨_, rfl⟩, _, M, HeapAt.drewN hHr.out, HT.out, hPr.out, KeptBox.drewN hKr.out⟩
      · have hq : Hid ((k - 1) / 2 < M.length) := by have := HKM.out; unfold Hid; omega
        have HST : Hid (lessD (rowIn M k) (rowIn M ((k - 1) / 2)) = true → UpHeap (swapL M k ((k - 1) / 2)) ((k - 1) / 2)) := fun hl => hUr.out.step (by omega) HKM.out hl
        have HTT : Hid (lessD (rowIn M k) (rowIn M ((k - 1) / 2)) = false → IsHeap M) := fun hl => hUr.out.top (.inr hl)
        obtain ⟨a0, a1, a2, a3, a4, a5⟩ := heap_at hHr.out k HKM.out
        obtain ⟨b0, b1, b2, b3, b4, b5⟩ := heap_at hHr.out ((k - 1) / 2) hq.out
        have HSW : Hid (∀ w1, HeapAt w1 B n0 M (.slice (some ⟨g, 0, none⟩) N cap) → Calls Tryz.prog 71 #[.pointer (some ⟨B, 0, none⟩), .int .i64 k, .int .i64 (((k - 1) / 2 : Nat) : Int)] w1 fun e w' => (∃ v, e = .returned v) ∧ HeapAt w' B n0 (swapL M k ((k - 1) / 2)) (.slice (some ⟨g, 0, none⟩) N cap) ∧ KeptBox B n0 w1 w') := fun w1 h1 => by rw [← hMl.out] at h1 ⊢; exact swap_any B n0 g cap k ((k - 1) / 2) M w1 HKM.out hq.out h1
        have HSP : Hid ((swapL M k ((k - 1) / 2)).Perm M) := swapL_perm M _ _ HKM.out hq.out
        have HSL : Hid ((swapL M k ((k - 1) / 2)).length = M.length) := swapL_length _ _ _
        have HQ : Hid ((k - 1) / 2 < k) := by unfold Hid; omega
        have hqw : IntKind.i64.wrap (Int.tdiv ((k : Int) - 1) 2) = (((k - 1) / 2 : Nat) : Int) := by rw [Int.tdiv_eq_ediv_of_nonneg (by omega), IntKind.wrap_i64]; omega
        have hh2 : ((k : Int) - 1) / 2 = (((k - 1) / 2 : Nat) : Int) := by omega
        have hkk0 : (0 : Int) ≤ (k : Int) := by omega
        have hkk1 : (k : Int) < (N : Int) := by omega
        have hkg : 0 < k := by omega
        have hkd : decide ((0 : Int) < (k : Int)) = true := decide_eq_true (by omega)
        have hke : decide (0 < k) = true := decide_eq_true hkg
        have hkw : IntKind.i64.wrap ((k : Int) - 1) = (k : Int) - 1 := by rw [IntKind.wrap_i64]; omega
        have hq0 : (0 : Int) ≤ (((k - 1) / 2 : Nat) : Int) := by omega
        have hq1 : (((k - 1) / 2 : Nat) : Int) < (N : Int) := by omega
        have hkn : k ≤ 1001 := by omega
        have hqm : (k - 1) / 2 ≤ 1000 := by omega
        generalize rowIn M k = y at *
        generalize rowIn M ((k - 1) / 2) = z at *
        generalize (k - 1) / 2 = q at *
        have mb := mBef
        have nb := nBef
        cases hl : lessD y z
        · have HT : Hid (IsHeap M) := HTT.out hl
          go_wp2_with fail
          go_region_held3 (fun w' => w'.cell? ⟨B, 0, none⟩ = some (.slice (some ⟨g, 0, none⟩) N cap) ∧ w'.cell? ⟨g, k * 6, none⟩ = some (.int .i64 y.trip) ∧ w'.cell? ⟨g, k * 6 + 1, none⟩ = some (.int .i64 y.to) ∧ w'.cell? ⟨g, k * 6 + 2, none⟩ = some (.int .i64 y.due) ∧ w'.cell? ⟨g, k * 6 + 3, none⟩ = some (.int .i64 y.expect) ∧ w'.cell? ⟨g, k * 6 + 4, none⟩ = some (.int .i64 y.track) ∧ w'.cell? ⟨g, k * 6 + 5, none⟩ = some (.int .i64 y.state) ∧ w'.cell? ⟨g, q * 6, none⟩ = some (.int .i64 z.trip) ∧ w'.cell? ⟨g, q * 6 + 1, none⟩ = some (.int .i64 z.to) ∧ w'.cell? ⟨g, q * 6 + 2, none⟩ = some (.int .i64 z.due) ∧ w'.cell? ⟨g, q * 6 + 3, none⟩ = some (.int .i64 z.expect) ∧ w'.cell? ⟨g, q * 6 + 4, none⟩ = some (.int .i64 z.track) ∧ w'.cell? ⟨g, q * 6 + 5, none⟩ = some (.int .i64 z.state))
            (first | exact ⟨cell_keep hb1 (by exact HCR.out), cell_keep hb1 (by exact a0), cell_keep hb1 (by exact a1), cell_keep hb1 (by exact a2), cell_keep hb1 (by exact a3), cell_keep hb1 (by exact a4), cell_keep hb1 (by exact a5), cell_keep hb1 (by exact b0), cell_keep hb1 (by exact b1), cell_keep hb1 (by exact b2), cell_keep hb1 (by exact b3), cell_keep hb1 (by exact b4), cell_keep hb1 (by exact b5)⟩ | go_keep)
            (first | (go_at_call 152; refine (before_any y z _).mono ?_; rintro e w1 ⟨rfl, hb1⟩; rw [hl]))
          go_wp2_with fail
          go_end0
          exact ⟨⟨_, rfl⟩, _, M, hHr.out.drew.keep (by exact hb1), HT.out, hPr.out, hKr.out.drew.trans (KeptBox.below (by exact hb1) (by exact hsz))⟩
        · have HUS : Hid (UpHeap (swapL M k q) q) := HST.out hl
          go_wp2_with fail
          go_region_held3 (fun w' => w'.cell? ⟨B, 0, none⟩ = some (.slice (some ⟨g, 0, none⟩) N cap) ∧ w'.cell? ⟨g, k * 6, none⟩ = some (.int .i64 y.trip) ∧ w'.cell? ⟨g, k * 6 + 1, none⟩ = some (.int .i64 y.to) ∧ w'.cell? ⟨g, k * 6 + 2, none⟩ = some (.int .i64 y.due) ∧ w'.cell? ⟨g, k * 6 + 3, none⟩ = some (.int .i64 y.expect) ∧ w'.cell? ⟨g, k * 6 + 4, none⟩ = some (.int .i64 y.track) ∧ w'.cell? ⟨g, k * 6 + 5, none⟩ = some (.int .i64 y.state) ∧ w'.cell? ⟨g, q * 6, none⟩ = some (.int .i64 z.trip) ∧ w'.cell? ⟨g, q * 6 + 1, none⟩ = some (.int .i64 z.to) ∧ w'.cell? ⟨g, q * 6 + 2, none⟩ = some (.int .i64 z.due) ∧ w'.cell? ⟨g, q * 6 + 3, none⟩ = some (.int .i64 z.expect) ∧ w'.cell? ⟨g, q * 6 + 4, none⟩ = some (.int .i64 z.track) ∧ w'.cell? ⟨g, q * 6 + 5, none⟩ = some (.int .i64 z.state))
            (first | exact ⟨cell_keep hb1 (by exact HCR.out), cell_keep hb1 (by exact a0), cell_keep hb1 (by exact a1), cell_keep hb1 (by exact a2), cell_keep hb1 (by exact a3), cell_keep hb1 (by exact a4), cell_keep hb1 (by exact a5), cell_keep hb1 (by exact b0), cell_keep hb1 (by exact b1), cell_keep hb1 (by exact b2), cell_keep hb1 (by exact b3), cell_keep hb1 (by exact b4), cell_keep hb1 (by exact b5)⟩ | go_keep)
            (first | (go_at_call 152; refine (before_any y z _).mono ?_; rintro e w1 ⟨rfl, hb1⟩; rw [hl]))
          have HW1 : Hid (HeapAt w1 B n0 M (.slice (some ⟨g, 0, none⟩) N cap)) := hHr.out.drew.keep (by exact hb1)
          have HK1 : Hid (KeptBox B n0 w w1) := hKr.out.drew.trans (KeptBox.below (by exact hb1) (by exact hsz))
          clear a0 a1 a2 a3 a4 a5 b0 b1 b2 b3 b4 b5 hcr HCR hb1 mb nb
          go_wp2_with fail
          refine (HSW.out _ (by exact HW1.out)).mono ?_
          rintro e w2 ⟨⟨u, rfl⟩, hH2, hK2⟩
          have HH2 : Hid _ := hH2
          have HK2 : Hid _ := hK2
          clear hH2 hK2
          go_wp2_with fail
          go_roundw
          case rel => exact ⟨q, swapL M k q, by omega, by unfold Hid; rw [HSL.out]; exact hMl.out, by go_num, HH2, HUS, HSP.out.trans hPr.out, HK1.out.trans HK2.out⟩
          case measure => have := HQ.out; simp [intOf]; omega

end Go.Proofs.YtjioingdpfgadabGreatDoor
namespace Go.Proofs.YtjioingdpfgadabGreatDoor
open Go Go.RowKit Go.Deep

/-- The slice is cut to its first m rows. -/
theorem heap_cut {w : World} {B n0 g cap n m : Nat} {L : List RowD} (h : HeapAt w B n0 L (.slice (some ⟨g, 0, none⟩) n cap)) (hm : m ≤ L.length) :
    HeapAt (w.setCell ⟨B, 0, none⟩ (.slice (some ⟨g, 0, none⟩) m cap)) B n0 (L.take m) (.slice (some ⟨g, 0, none⟩) m cap) := by
  refine ⟨h.box.set _, ?_, h.low⟩
  refine ownsRow_setCell_below ?_ h.low _
  have hl : (L.take m).length = m := by rw [List.length_take]; omega
  rw [hl]
  refine ⟨by rw [sixes_length, hl], Or.inr ?_⟩
  rcases h.rows.2 with ⟨e, _⟩ | ⟨g', cap', cur, e, hb, hh, hn, hcm, hs, ht⟩
  · cases e
  · simp only [Value.slice.injEq, Option.some.injEq, Addr.mk.injEq, and_true] at e
    obtain ⟨rfl, _, rfl⟩ := e
    refine ⟨g, cap, cur, rfl, hb, hh, by omega, hcm, hs, ?_⟩
    have h1 : sixes (L.take m) = (sixes L).take (m * 6) := by
      have h2 : sixes L = sixes (L.take m) ++ sixes (L.drop m) := by rw [← sixes_append, List.take_append_drop]
      rw [h2, List.take_left' (by rw [sixes_length, hl])]
    rw [h1, ← ht, List.take_take]
    congr 1
    omega
theorem heap_alloc_is {n : Nat} (w : World) (o : Obj) (h : n = w.heap.size) : (w.alloc o).heap[n]? = some o := by rw [h]; exact heap_alloc_last w o
theorem keep_after {w w' : World} {F g : Nat} {o : Obj} (hF : w.heap[F]? = some o) (hg : w.grownBy w' (some g)) (hne : F ≠ g) : w'.heap[F]? = some o := by
  rw [hg.block F (Array.getElem?_eq_some_iff.1 hF).1 (fun e => hne (by cases e; rfl))]; exact hF

theorem KeptBox.high {B n0 R : Nat} {a w w' : World} {cs : Array Value} {T : TypeId} {fr : Nat × Nat} (h : KeptBox B n0 a w) (hg : w.grownBy w' (some R)) (hR : n0 ≤ R) (hn : n0 ≤ w.heap.size) (hc : w.heap[R]? = some (.cells cs T fr)) : KeptBox B n0 a w' := by
  refine h.trans ⟨hg.os, hg.tape, hg.output, hg.size, fun k hk _ => hg.block k (by omega) (fun e => by cases e; omega), fun k o hk ho => ?_⟩
  by_cases e : k = R
  · subst e
    rw [hc] at hk
    cases hk
    cases ho
  · rw [hg.block k (Array.getElem?_eq_some_iff.1 hk).1 (fun e' => e (by cases e'; rfl))]; exact hk
theorem HeapAt.high {B n0 R : Nat} {w w' : World} {L : List RowD} {v : Value} (h : HeapAt w B n0 L v) (hg : w.grownBy w' (some R)) (hB : R ≠ B) (hne : v.ownBlock ≠ some R) : HeapAt w' B n0 L v :=
  ⟨(hg.block B h.box.lt (fun e => hB (by cases e; rfl))).trans h.box, h.rows.kept hg (Or.inr hne), h.low⟩
theorem setCells_grown (g : Nat) (vs : List Value) (o : Nat) (w : World) : w.grownBy (w.setCells g o vs) (some g) := by
  have hb : Below 0 w (w.setCells g o vs) := setCells_below g (Nat.zero_le _) vs o w (Below.refl 0 w)
  exact ⟨hb.os, hb.tape, hb.output, hb.size, fun k _ hne => setCells_other g vs o k w (fun e => hne (by rw [e]))⟩

/-- All but the box and the heap's own rows lie as they lay. -/
def KeptGB (B g : Nat) (w w' : World) : Prop := ∀ k, k < w.heap.size → k ≠ B → k ≠ g → w'.heap[k]? = w.heap[k]?
theorem KeptGB.grown {B g : Nat} {a w w' : World} (h : KeptGB B g a w) (hs : a.heap.size ≤ w.heap.size) (hg : w.grownBy w' (some g)) : KeptGB B g a w' := fun k h1 h2 h3 => (hg.block k (by omega) (fun e => h3 (by cases e; rfl))).trans (h k h1 h2 h3)
theorem KeptGB.below {B g : Nat} {a w w' : World} (h : KeptGB B g a w) (hs : a.heap.size ≤ w.heap.size) (hb : Below w.heap.size w w') : KeptGB B g a w' := fun k h1 h2 h3 => (hb.block k (by omega)).trans (h k h1 h2 h3)

set_option maxRecDepth 100000 in
set_option maxHeartbeats 8000000 in
theorem pop_any (B n0 g cap : Nat) (L : List RowD) (w : World) (h0 : 0 < L.length) (hm : L.length ≤ 1000) (hn : n0 ≤ w.heap.size) (h : HeapAt w B n0 L (.slice (some ⟨g, 0, none⟩) L.length cap)) (hh : IsHeap L) :
    Calls Tryz.prog 40 #[.pointer (some ⟨B, 0, none⟩)] w fun e w' => e = .returned (rowV (rowIn L 0)) ∧ ∃ L', HeapAt w' B n0 L' (.slice (some ⟨g, 0, none⟩) L'.length cap) ∧ IsHeap L' ∧ L.Perm (rowIn L 0 :: L') ∧ L'.length = L.length - 1 ∧ KeptBox B n0 w w' ∧ KeptGB B g w w' := by
  obtain ⟨e, he⟩ : ∃ e, L.length - 1 = e := ⟨_, rfl⟩
  have HPP : Hid (L.Perm (rowIn L 0 :: popped L)) := popped_perm L h0
  have HPD : Hid (DownHeap (popped L) 0) := hh.popped h0
  have HPL : Hid ((popped L).length = e) := by unfold Hid; rw [popped_length]; exact he
  have HPE : Hid (popped L = (swapL L 0 e).take e) := by unfold Hid popped; rw [he]
  have HSL : Hid ((swapL L 0 e).length = L.length) := swapL_length _ _ _
  have HFI : Hid (rowIn (swapL L 0 e) e = rowIn L 0) := by unfold Hid; rw [rowIn_swap L 0 e e h0 (by omega), if_pos rfl]
  obtain ⟨W1, hW1⟩ : ∃ W1, w.alloc (.cells #[.int .i64 0, .int .i64 0, .int .i64 0, .int .i64 0, .int .i64 0, .int .i64 0] 57) = W1 := ⟨_, rfl⟩
  have hb1 : Below w.heap.size w W1 := by subst hW1; exact (Below.refl _ _).alloc (Nat.le_refl _) _
  have hs1 : W1.heap.size = w.heap.size + 1 := by subst hW1; simp
  have HR1 : Hid (W1.heap[w.heap.size]? = some (.cells #[.int .i64 0, .int .i64 0, .int .i64 0, .int .i64 0, .int .i64 0, .int .i64 0] 57 (0, 0))) := by subst hW1; exact heap_alloc_last _ _
  have H1 : Hid (HeapAt W1 B n0 L (.slice (some ⟨g, 0, none⟩) L.length cap)) := h.keep hb1
  have hc := H1.out.box.cell
  have HSW : Hid (Calls Tryz.prog 71 #[.pointer (some ⟨B, 0, none⟩), .int .i64 0, .int .i64 e] W1 fun e' w' => (∃ v, e' = .returned v) ∧ HeapAt w' B n0 (swapL L 0 e) (.slice (some ⟨g, 0, none⟩) L.length cap) ∧ KeptBox B n0 W1 w' ∧ W1.grownBy w' (some g)) := swap_more B n0 g cap 0 e L W1 h0 (by omega) H1.out
  have hec : (e : Int) ≤ (cap : Int) := by
    rcases h.rows.2 with ⟨e', _⟩ | ⟨g', cap', cur, e', hb, hh, hn, _⟩
    · cases e'
    · simp only [Value.slice.injEq, Option.some.injEq, Addr.mk.injEq, and_true] at e'
      obtain ⟨rfl, _, rfl⟩ := e'
      omega
  have hgl : g < w.heap.size := by
    obtain ⟨g', c', e', _, hlt⟩ := heap_slice h h0
    simp only [Value.slice.injEq, Option.some.injEq, Addr.mk.injEq, and_true] at e'
    obtain ⟨rfl, _⟩ := e'
    exact hlt
  have HGW : Hid (g < w.heap.size) := hgl
  have HBW : Hid (B < w.heap.size) := h.box.lt
  have HLOW : Hid (B < n0) := h.low
  have HE0 : Hid (L.length = e + 1) := by unfold Hid; omega
  have hei : (L.length : Int) - 1 = (e : Int) := by omega
  have he0 : (0 : Int) ≤ (e : Int) := by omega
  have he1 : (e : Int) < (L.length : Int) := by omega
  have he2 : (e : Int) ≤ (L.length : Int) := by omega
  have hem : e ≤ 1000 := by omega
  have HNW : Hid (n0 ≤ w.heap.size) := hn
  generalize hX : rowIn L 0 = X at *
  generalize hNN : L.length = N at *
  clear h hh hX hNN hgl he h0
  go_enter Tryz.func40, Tryz.ntmps40
  go_wp2_with fail
  refine HSW.out.mono ?_
  clear HSW
  rintro e' w2 ⟨⟨u, rfl⟩, hH2, hK2, hG2⟩
  have HH2 : Hid (HeapAt w2 B n0 (swapL L 0 e) (.slice (some ⟨g, 0, none⟩) N cap)) := hH2
  have HR2 : Hid (w2.heap[w.heap.size]? = some (.cells #[.int .i64 0, .int .i64 0, .int .i64 0, .int .i64 0, .int .i64 0, .int .i64 0] 57 (0, 0))) := keep_after HR1.out hG2 (by have := HGW.out; omega)
  have HK2 : Hid (KeptBox B n0 w w2) := (KeptBox.below hb1 hn).trans hK2
  have HQ2 : Hid (KeptGB B g w w2) := KeptGB.grown (KeptGB.below (fun _ _ _ _ => rfl) (Nat.le_refl _) hb1) hb1.size hG2
  obtain ⟨a0, a1, a2, a3, a4, a5⟩ := heap_at HH2.out e (by rw [HSL.out]; exact HE0.out ▸ Nat.lt_succ_self e)
  rw [HFI.out] at a0 a1 a2 a3 a4 a5
  have hc2 := HH2.out.box.cell
  have hf2 := HH2.out.box.frozen
  have hBs : B < w2.heap.size := HH2.out.box.lt
  have hgs : g < w2.heap.size := by have := HGW.out; have := HK2.out.size; omega
  clear hc HR1 H1 hK2 hG2 hH2 hb1 hs1 hW1
  obtain ⟨W3, hW3⟩ : ∃ W3, (w2.setCell ⟨B, 0, none⟩ (.slice (some ⟨g, 0, none⟩) e cap)).alloc (.cells #[.int .i64 X.trip, .int .i64 X.to, .int .i64 X.due, .int .i64 X.expect, .int .i64 X.track, .int .i64 X.state] 57) = W3 := ⟨_, rfl⟩
  have HH3 : Hid (HeapAt W3 B n0 (popped L) (.slice (some ⟨g, 0, none⟩) e cap)) := by
    subst hW3
    rw [HPE.out]
    exact (heap_cut HH2.out (by rw [HSL.out, HE0.out]; omega)).keep ((Below.refl _ _).alloc (Nat.le_refl _) _)
  have HK3 : Hid (KeptBox B n0 w W3) := by
    subst hW3
    exact (HK2.out.setBox HH2.out.box _).alloc (by have := HK2.out.size; have := HNW.out; simp; omega) _
  have HQ3 : Hid (KeptGB B g w W3) := by
    subst hW3
    intro k h1 h2 h3
    have hsz := HK2.out.size
    rw [Below.heap_alloc _ _ _ (by simp; omega), Below.heap_setCell _ _ _ _ (by simpa using h2)]
    exact HQ2.out k h1 h2 h3
  have HF3 : Hid (W3.heap[w2.heap.size]? = some (.cells #[.int .i64 X.trip, .int .i64 X.to, .int .i64 X.due, .int .i64 X.expect, .int .i64 X.track, .int .i64 X.state] 57 (0, 0))) := by
    subst hW3
    exact heap_alloc_is _ _ (by simp)
  have HR3 : Hid (W3.heap[w.heap.size]? = some (.cells #[.int .i64 0, .int .i64 0, .int .i64 0, .int .i64 0, .int .i64 0, .int .i64 0] 57 (0, 0))) := by
    subst hW3
    unfold Hid
    have hlt := (Array.getElem?_eq_some_iff.1 HR2.out).1
    rw [Below.heap_alloc _ _ _ (by simpa using hlt), Below.heap_setCell _ _ _ _ (by have := HBW.out; simp; omega)]
    exact HR2.out
  have HSF : Hid (w.heap.size < w2.heap.size) := (Array.getElem?_eq_some_iff.1 HR2.out).1
  have HFO : Hid (Calls Tryz.prog 72 #[.pointer (some ⟨B, 0, none⟩), .int .i64 0] W3 fun e w' => e = .returned (.int .i64 (firstD (popped L) 0)) ∧ Below W3.heap.size W3 w') := firstOf_any B n0 g cap 0 (popped L) W3 (by rw [HPL.out]; exact hem) (by omega) (by rw [HPL.out]; exact HH3.out)
  go_wp2_with fail
  clear hW3 hBs hgs hc2 hf2 a0 a1 a2 a3 a4 a5 HH2 HK2 HR2 HFI HPE HQ2
  generalize w2.heap.size = F at *
  refine HFO.out.mono ?_
  rintro e' w4 ⟨rfl, hb4⟩
  have HH4 : Hid (HeapAt w4 B n0 (popped L) (.slice (some ⟨g, 0, none⟩) e cap)) := HH3.out.keep hb4
  have HK4 : Hid (KeptBox B n0 w w4) := HK3.out.trans (KeptBox.below hb4 (Nat.le_trans HNW.out HK3.out.size))
  have HQ4 : Hid (KeptGB B g w w4) := HQ3.out.below HK3.out.size hb4
  have HF4 : Hid (w4.heap[F]? = some (.cells #[.int .i64 X.trip, .int .i64 X.to, .int .i64 X.due, .int .i64 X.expect, .int .i64 X.track, .int .i64 X.state] 57 (0, 0))) := (hb4.block _ (Array.getElem?_eq_some_iff.1 HF3.out).1).trans HF3.out
  have HR4 : Hid (w4.heap[w.heap.size]? = some (.cells #[.int .i64 0, .int .i64 0, .int .i64 0, .int .i64 0, .int .i64 0, .int .i64 0] 57 (0, 0))) := (hb4.block _ (Array.getElem?_eq_some_iff.1 HR3.out).1).trans HR3.out
  clear HFO HH3 HK3 HF3 HR3 hb4 HQ3
  generalize popped L = P at *
  go_wp2_with fail
  go_loopw [5, 6] (fun i nx wr => ∃ (a : Nat) (M : List RowD), a ≤ 1000 ∧ i = .int .i64 a ∧ nx = .int .i64 (firstD M a) ∧ Hid (M.length = e) ∧ Hid (HeapAt wr B n0 M (.slice (some ⟨g, 0, none⟩) e cap)) ∧ Hid (DownHeap M a) ∧ Hid (L.Perm (X :: M)) ∧ Hid (KeptBox B n0 w wr) ∧ Hid (KeptGB B g w wr) ∧ Hid (wr.heap[F]? = some (.cells #[.int .i64 X.trip, .int .i64 X.to, .int .i64 X.due, .int .i64 X.expect, .int .i64 X.track, .int .i64 X.state] 57 (0, 0))) ∧ Hid (wr.heap[w.heap.size]? = some (.cells #[.int .i64 0, .int .i64 0, .int .i64 0, .int .i64 0, .int .i64 0, .int .i64 0] 57 (0, 0)))) (fun i _ _ => e + 1 - (intOf i).toNat)
  case atStart => exact ⟨0, P, by omega, rfl, rfl, HPL, HH4, HPD, HPP, HK4, HQ4, HF4, HR4⟩
  case round =>
    obtain ⟨a, M, ha, rfl, rfl, hMl, hH, hD, hP, hK, hQ, hF, hR⟩ := hrel
    clear HH4 HPD HPP HK4 HF4 HR4 HPL HQ4
    by_cases hne : firstD M a = a
    · have HI : Hid (IsHeap M) := by
        by_cases hlt : a < M.length
        · exact hD.out.end hlt hne
        · exact hD.out.out (by omega)
      have heq : ((firstD M a : Int) == (a : Int)) = true := by simp [hne]
      obtain ⟨⟨u0, u1, u2, u3, u4, u5⟩, uf⟩ := six_cells hF.out
      obtain ⟨⟨z0, z1, z2, z3, z4, z5⟩, zf⟩ := six_cells hR.out
      have zf0 := zf 0; have zf1 := zf 1; have zf2 := zf 2; have zf3 := zf 3; have zf4 := zf 4; have zf5 := zf 5
      clear uf zf
      rw [hne]
      have hFR : F ≠ w.heap.size := by have := HSF.out; omega
      have hRF : w.heap.size ≠ F := by have := HSF.out; omega
      go_wp2_with fail
      have hg := setCells_grown w.heap.size (sixOf X) 0 wr
      refine bodyPost_ret (v := rowV X) ?_ rfl ⟨rfl, M, ?_, HI.out, hP.out, by rw [hMl.out]; have := HE0.out; omega, ?_, ?_⟩
      · exact results_cell_row Tryz.results40 _ _ w.heap.size 57 _ (0, 0) _ rfl (by simp [World.setCell, Array.getElem?_modify, hR.out]) Tryz.underlying57 rfl infRow
      · rw [hMl.out]
        exact hH.out.high hg (by have := HBW.out; omega) (by have := HGW.out; intro e'; simp [Value.ownBlock] at e'; omega)
      · exact hK.out.high hg HNW.out (Nat.le_trans HNW.out hK.out.size) hR.out
      · exact fun k h1 h2 h3 => (hg.block k (Nat.lt_of_lt_of_le h1 hK.out.size) (fun e => by cases e; omega)).trans (hQ.out k h1 h2 h3)
    · have hlt : a < M.length := by
        apply Classical.byContradiction
        intro hge
        exact hne (by rw [firstD_no (by omega), first1_no (by omega)])
      obtain ⟨f1, f2, _, _⟩ := firstD_cases M a hlt
      have HST : Hid (DownHeap (swapL M a (firstD M a)) (firstD M a)) := hD.out.step hlt hne
      have HSP : Hid ((swapL M a (firstD M a)).Perm M) := swapL_perm M _ _ hlt f2
      have HSLM : Hid ((swapL M a (firstD M a)).length = e) := by unfold Hid; rw [swapL_length]; exact hMl.out
      have hHM := hH.out
      rw [← hMl.out] at hHM
      have HSWM : Hid (Calls Tryz.prog 71 #[.pointer (some ⟨B, 0, none⟩), .int .i64 a, .int .i64 (firstD M a)] wr fun e' w' => (∃ v, e' = .returned v) ∧ HeapAt w' B n0 (swapL M a (firstD M a)) (.slice (some ⟨g, 0, none⟩) e cap) ∧ KeptBox B n0 wr w' ∧ wr.grownBy w' (some g)) := by
        have := swap_more B n0 g cap a (firstD M a) M wr hlt f2 hHM
        rw [hMl.out] at this
        exact this
      rw [hMl.out] at hlt f2
      have hfm : firstD M a ≤ 1000 := by omega
      have hfa : a < firstD M a := by omega
      have heq : ((firstD M a : Int) == (a : Int)) = false := by simp; omega
      have heb : ((firstD M a : Int) != (a : Int)) = true := by simp; omega
      have hFg : F ≠ g := by have := HSF.out; have := HGW.out; omega
      have HFO : Hid (∀ w', HeapAt w' B n0 (swapL M a (firstD M a)) (.slice (some ⟨g, 0, none⟩) e cap) → Calls Tryz.prog 72 #[.pointer (some ⟨B, 0, none⟩), .int .i64 (firstD M a)] w' fun e w'' => e = .returned (.int .i64 (firstD (swapL M a (firstD M a)) (firstD M a))) ∧ Below w'.heap.size w' w'') := fun w' hw => firstOf_any B n0 g cap (firstD M a) (swapL M a (firstD M a)) w' (by rw [HSLM.out]; exact hem) hfm (by rw [HSLM.out]; exact hw)
      clear hHM f1 hne
      generalize firstD M a = f at *
      generalize swapL M a f = M' at *
      go_wp2_with fail
      refine HSWM.out.mono ?_
      rintro e' w5 ⟨⟨u, rfl⟩, hH5, hK5, hG5⟩
      have HH5 : Hid _ := hH5
      have HK5 : Hid (KeptBox B n0 w w5) := hK.out.trans hK5
      have HQ5 : Hid (KeptGB B g w w5) := hQ.out.grown hK.out.size hG5
      have HF5 : Hid _ := keep_after hF.out hG5 hFg
      have HR5 : Hid _ := keep_after hR.out hG5 (by have := HGW.out; omega)
      clear hH5 hK5 hG5 HSWM
      go_wp2_with fail
      refine (HFO.out _ (by exact HH5.out)).mono ?_
      rintro e' w6 ⟨rfl, hb6⟩
      have HH6 : Hid (HeapAt w6 B n0 M' (.slice (some ⟨g, 0, none⟩) e cap)) := HH5.out.keep hb6
      have HK6 : Hid (KeptBox B n0 w w6) := HK5.out.trans (KeptBox.below hb6 (Nat.le_trans HNW.out HK5.out.size))
      have HQ6 : Hid (KeptGB B g w w6) := HQ5.out.below HK5.out.size hb6
      have HF6 : Hid (w6.heap[F]? = some (.cells #[.int .i64 X.trip, .int .i64 X.to, .int .i64 X.due, .int .i64 X.expect, .int .i64 X.track, .int .i64 X.state] 57 (0, 0))) := (hb6.block _ (Array.getElem?_eq_some_iff.1 HF5.out).1).trans HF5.out
      have HR6 : Hid (w6.heap[w.heap.size]? = some (.cells #[.int .i64 0, .int .i64 0, .int .i64 0, .int .i64 0, .int .i64 0, .int .i64 0] 57 (0, 0))) := (hb6.block _ (Array.getElem?_eq_some_iff.1 HR5.out).1).trans HR5.out
      clear HFO hb6 HH5 HK5 HF5 HR5 HQ5
      go_wp2_with fail
      go_roundw
      case rel => exact ⟨f, M', hfm, rfl, rfl, HSLM, HH6, HST, hP.out.trans (HSP.out.symm.cons X), HK6, HQ6, HF6, HR6⟩
      case measure => simp [intOf]; omega

end Go.Proofs.YtjioingdpfgadabGreatDoor
