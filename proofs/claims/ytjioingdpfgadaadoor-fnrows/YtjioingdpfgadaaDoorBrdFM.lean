import Derived.Test.YtjioingdpfgadaaDoorProg
import Derived.Test.YtjioingdpfgadaaDoorBrdEM
import Derived.BigRegion
namespace Go.Proofs.YtjioingdpfgadaaDoor
open Go Go.RowKit Go.Deep

theorem HeapAt.drew {w : World} {B n0 : Nat} {L : List RowD} {v : Value} (h : HeapAt w B n0 L v) : HeapAt w.drew B n0 L v := ⟨h.box, h.rows, h.low⟩
theorem KeptBox.drew {B n0 : Nat} {a w : World} (h : KeptBox B n0 a w) : KeptBox B n0 a w.drew := ⟨h.os, h.tape, h.output, h.size, h.block, h.others⟩
theorem heap_swapped_grown {w : World} {B n0 g cap : Nat} {L : List RowD} (h : HeapAt w B n0 L (.slice (some ⟨g, 0, none⟩) L.length cap)) (i j : Nat) (hi : i < L.length) (hj : j < L.length) :
    w.grownBy (putSix (putSix w g i (rowIn L j)) g j (rowIn L i)) (some g) := by
  have h1 := heap_put h i hi (rowIn L j)
  have g1 := (sixes_six i (rowIn L j) hi h.rows).2
  have hl : (L.set i (rowIn L j)).length = L.length := List.length_set
  have h2 := h1.1
  rw [← hl] at h2
  exact g1.trans (sixes_six j (rowIn L i) (by rw [hl]; exact hj) h2.rows).2
theorem grownBy_drew {w w' : World} {r : Option Nat} (h : w.grownBy w' r) : w.grownBy w'.drew r := ⟨h.os, h.tape, h.output, h.size, h.block⟩
theorem cell_again {w : World} {g o p : Nat} {u : Value} (h : w.cell? ⟨g, p, none⟩ = some u) : (w.setCell ⟨g, o, none⟩ u).cell? ⟨g, p, none⟩ = some u := by
  by_cases e : o = p
  · subst e; exact World.cell?_setCell_same' _ _ _ (by rw [h]; rfl)
  · rw [World.cell?_setCell_other _ _ _ _ (fun h' => e (Addr.mk.inj h').2.1)]; exact h
theorem cell_past {w : World} {g o p : Nat} {u v : Value} (hne : o ≠ p) (h : w.cell? ⟨g, p, none⟩ = some v) : (w.setCell ⟨g, o, none⟩ u).cell? ⟨g, p, none⟩ = some v := by
  rw [World.cell?_setCell_other _ _ _ _ (fun h' => hne (Addr.mk.inj h').2.1)]; exact h

set_option maxRecDepth 100000 in
set_option maxHeartbeats 8000000 in
theorem swap_more (B n0 g cap i j : Nat) (L : List RowD) (w : World) (hi : i < L.length) (hj : j < L.length) (h : HeapAt w B n0 L (.slice (some ⟨g, 0, none⟩) L.length cap)) :
    Calls Tryd.prog 88 #[.pointer (some ⟨B, 0, none⟩), .int .i64 i, .int .i64 j] w fun e w' => (∃ v, e = .returned v) ∧ HeapAt w' B n0 (swapL L i j) (.slice (some ⟨g, 0, none⟩) L.length cap) ∧ KeptBox B n0 w w' ∧ w.grownBy w' (some g) := by
  have HGR : Hid _ := heap_swapped_grown h i j hi hj
  have hc := h.box.cell
  have hfr := h.rows.frozenAt
  obtain ⟨a0, a1, a2, a3, a4, a5⟩ := heap_at h i hi
  obtain ⟨b0, b1, b2, b3, b4, b5⟩ := heap_at h j hj
  obtain ⟨hsw, hkp⟩ := heap_swapped h i j hi hj
  have HS : Hid _ := hsw
  have HK : Hid _ := hkp
  have hi0 : (0 : Int) ≤ (i : Int) := by omega
  have hi1 : (i : Int) < (L.length : Int) := by omega
  have hj0 : (0 : Int) ≤ (j : Int) := by omega
  have hj1 : (j : Int) < (L.length : Int) := by omega
  have e0 := cell_again (o := i * 6) b0
  have e1 := cell_again (o := i * 6 + 1) (cell_past (o := i * 6) (u := .int .i64 (rowIn L j).trip) (by omega) b1)
  have e2 := cell_again (o := i * 6 + 2) (cell_past (o := i * 6 + 1) (u := .int .i64 (rowIn L j).to) (by omega) (cell_past (o := i * 6) (u := .int .i64 (rowIn L j).trip) (by omega) b2))
  have e3 := cell_again (o := i * 6 + 3) (cell_past (o := i * 6 + 2) (u := .int .i64 (rowIn L j).due) (by omega) (cell_past (o := i * 6 + 1) (u := .int .i64 (rowIn L j).to) (by omega) (cell_past (o := i * 6) (u := .int .i64 (rowIn L j).trip) (by omega) b3)))
  have e4 := cell_again (o := i * 6 + 4) (cell_past (o := i * 6 + 3) (u := .int .i64 (rowIn L j).expect) (by omega) (cell_past (o := i * 6 + 2) (u := .int .i64 (rowIn L j).due) (by omega) (cell_past (o := i * 6 + 1) (u := .int .i64 (rowIn L j).to) (by omega) (cell_past (o := i * 6) (u := .int .i64 (rowIn L j).trip) (by omega) b4))))
  have e5 := cell_again (o := i * 6 + 5) (cell_past (o := i * 6 + 4) (u := .int .i64 (rowIn L j).track) (by omega) (cell_past (o := i * 6 + 3) (u := .int .i64 (rowIn L j).expect) (by omega) (cell_past (o := i * 6 + 2) (u := .int .i64 (rowIn L j).due) (by omega) (cell_past (o := i * 6 + 1) (u := .int .i64 (rowIn L j).to) (by omega) (cell_past (o := i * 6) (u := .int .i64 (rowIn L j).trip) (by omega) b5)))))
  clear hsw hkp h hi hj
  generalize rowIn L i = x at *
  generalize rowIn L j = y at *
  generalize L.length = n at *
  go_enter Tryd.func88, Tryd.ntmps88
  go_region
  go_end0
  exact ⟨⟨_, rfl⟩, HeapAt.drew HS.out, KeptBox.drew HK.out, grownBy_drew HGR.out⟩

theorem swap_any (B n0 g cap i j : Nat) (L : List RowD) (w : World) (hi : i < L.length) (hj : j < L.length) (h : HeapAt w B n0 L (.slice (some ⟨g, 0, none⟩) L.length cap)) :
    Calls Tryd.prog 88 #[.pointer (some ⟨B, 0, none⟩), .int .i64 i, .int .i64 j] w fun e w' => (∃ v, e = .returned v) ∧ HeapAt w' B n0 (swapL L i j) (.slice (some ⟨g, 0, none⟩) L.length cap) ∧ KeptBox B n0 w w' :=
  (swap_more B n0 g cap i j L w hi hj h).mono fun _ _ h => ⟨h.1, h.2.1, h.2.2.1⟩

end Go.Proofs.YtjioingdpfgadaaDoor
