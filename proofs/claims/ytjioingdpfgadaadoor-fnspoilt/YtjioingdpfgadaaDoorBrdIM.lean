import Derived.Test.YtjioingdpfgadaaDoorProg
import Derived.Test.YtjioingdpfgadaaDoorBrdHM
import Derived.Deep.WholeRow
namespace Go.Proofs.YtjioingdpfgadaaDoor
open Go Go.RowKit Go.Deep

/-- The slice is cut to its first m rows. -/
theorem heap_cut {w : World} {B n0 g cap n m : Nat} {L : List RowD} (h : HeapAt w B n0 L (.slice (some ⟨g, 0, none⟩) n cap)) (hm : m ≤ L.length) :
    HeapAt (w.setCell ⟨B, 0, none⟩ (.slice (some ⟨g, 0, none⟩) m cap)) B n0 (L.take m) (.slice (some ⟨g, 0, none⟩) m cap) := by
  refine ⟨h.box.set _, ?_, h.low⟩
  refine ownsRow_setCell_below ?_ h.low _
  have hl : (L.take m).length = m := by rw [List.length_take]; omega
  rw [hl]
  refine ⟨by rw [sixes_length, hl], Or.inr ?_⟩
  rcases h.rows.2 with ⟨e, _⟩ | ⟨g', cap', cur, e, hb, hh, hn, hcm, hs, ht⟩
  · cases e
  · simp only [Value.slice.injEq, Option.some.injEq, Addr.mk.injEq, and_true] at e
    obtain ⟨rfl, _, rfl⟩ := e
    refine ⟨g, cap, cur, rfl, hb, hh, by omega, hcm, hs, ?_⟩
    have h1 : sixes (L.take m) = (sixes L).take (m * 6) := by
      have h2 : sixes L = sixes (L.take m) ++ sixes (L.drop m) := by rw [← sixes_append, List.take_append_drop]
      rw [h2, List.take_left' (by rw [sixes_length, hl])]
    rw [h1, ← ht, List.take_take]
    congr 1
    omega
theorem heap_alloc_is {n : Nat} (w : World) (o : Obj) (h : n = w.heap.size) : (w.alloc o).heap[n]? = some o := by rw [h]; exact heap_alloc_last w o
theorem keep_after {w w' : World} {F g : Nat} {o : Obj} (hF : w.heap[F]? = some o) (hg : w.grownBy w' (some g)) (hne : F ≠ g) : w'.heap[F]? = some o := by
  rw [hg.block F (Array.getElem?_eq_some_iff.1 hF).1 (fun e => hne (by cases e; rfl))]; exact hF

theorem KeptBox.high {B n0 R : Nat} {a w w' : World} {cs : Array Value} {T : TypeId} {fr : Nat × Nat} (h : KeptBox B n0 a w) (hg : w.grownBy w' (some R)) (hR : n0 ≤ R) (hn : n0 ≤ w.heap.size) (hc : w.heap[R]? = some (.cells cs T fr)) : KeptBox B n0 a w' := by
  refine h.trans ⟨hg.os, hg.tape, hg.output, hg.size, fun k hk _ => hg.block k (by omega) (fun e => by cases e; omega), fun k o hk ho => ?_⟩
  by_cases e : k = R
  · subst e
    rw [hc] at hk
    cases hk
    cases ho
  · rw [hg.block k (Array.getElem?_eq_some_iff.1 hk).1 (fun e' => e (by cases e'; rfl))]; exact hk
theorem HeapAt.high {B n0 R : Nat} {w w' : World} {L : List RowD} {v : Value} (h : HeapAt w B n0 L v) (hg : w.grownBy w' (some R)) (hB : R ≠ B) (hne : v.ownBlock ≠ some R) : HeapAt w' B n0 L v :=
  ⟨(hg.block B h.box.lt (fun e => hB (by cases e; rfl))).trans h.box, h.rows.kept hg (Or.inr hne), h.low⟩
theorem setCells_grown (g : Nat) (vs : List Value) (o : Nat) (w : World) : w.grownBy (w.setCells g o vs) (some g) := by
  have hb : Below 0 w (w.setCells g o vs) := setCells_below g (Nat.zero_le _) vs o w (Below.refl 0 w)
  exact ⟨hb.os, hb.tape, hb.output, hb.size, fun k _ hne => setCells_other g vs o k w (fun e => hne (by rw [e]))⟩

/-- All but the box and the heap's own rows lie as they lay. -/
def KeptGB (B g : Nat) (w w' : World) : Prop := ∀ k, k < w.heap.size → k ≠ B → k ≠ g → w'.heap[k]? = w.heap[k]?
theorem KeptGB.grown {B g : Nat} {a w w' : World} (h : KeptGB B g a w) (hs : a.heap.size ≤ w.heap.size) (hg : w.grownBy w' (some g)) : KeptGB B g a w' := fun k h1 h2 h3 => (hg.block k (by omega) (fun e => h3 (by cases e; rfl))).trans (h k h1 h2 h3)
theorem KeptGB.below {B g : Nat} {a w w' : World} (h : KeptGB B g a w) (hs : a.heap.size ≤ w.heap.size) (hb : Below w.heap.size w w') : KeptGB B g a w' := fun k h1 h2 h3 => (hb.block k (by omega)).trans (h k h1 h2 h3)

set_option maxRecDepth 100000 in
set_option maxHeartbeats 8000000 in
theorem pop_any (B n0 g cap : Nat) (L : List RowD) (w : World) (h0 : 0 < L.length) (hm : L.length ≤ 1000) (hn : n0 ≤ w.heap.size) (h : HeapAt w B n0 L (.slice (some ⟨g, 0, none⟩) L.length cap)) (hh : IsHeap L) :
    Calls Tryd.prog 45 #[.pointer (some ⟨B, 0, none⟩)] w fun e w' => e = .returned (rowV (rowIn L 0)) ∧ ∃ L', HeapAt w' B n0 L' (.slice (some ⟨g, 0, none⟩) L'.length cap) ∧ IsHeap L' ∧ L.Perm (rowIn L 0 :: L') ∧ L'.length = L.length - 1 ∧ KeptBox B n0 w w' ∧ KeptGB B g w w' := by
  obtain ⟨e, he⟩ : ∃ e, L.length - 1 = e := ⟨_, rfl⟩
  have HPP : Hid (L.Perm (rowIn L 0 :: popped L)) := popped_perm L h0
  have HPD : Hid (DownHeap (popped L) 0) := hh.popped h0
  have HPL : Hid ((popped L).length = e) := by unfold Hid; rw [popped_length]; exact he
  have HPE : Hid (popped L = (swapL L 0 e).take e) := by unfold Hid popped; rw [he]
  have HSL : Hid ((swapL L 0 e).length = L.length) := swapL_length _ _ _
  have HFI : Hid (rowIn (swapL L 0 e) e = rowIn L 0) := by unfold Hid; rw [rowIn_swap L 0 e e h0 (by omega), if_pos rfl]
  obtain ⟨W1, hW1⟩ : ∃ W1, w.alloc (.cells #[.int .i64 0, .int .i64 0, .int .i64 0, .int .i64 0, .int .i64 0, .int .i64 0] 38) = W1 := ⟨_, rfl⟩
  have hb1 : Below w.heap.size w W1 := by subst hW1; exact (Below.refl _ _).alloc (Nat.le_refl _) _
  have hs1 : W1.heap.size = w.heap.size + 1 := by subst hW1; simp
  have HR1 : Hid (W1.heap[w.heap.size]? = some (.cells #[.int .i64 0, .int .i64 0, .int .i64 0, .int .i64 0, .int .i64 0, .int .i64 0] 38 (0, 0))) := by subst hW1; exact heap_alloc_last _ _
  have H1 : Hid (HeapAt W1 B n0 L (.slice (some ⟨g, 0, none⟩) L.length cap)) := h.keep hb1
  have hc := H1.out.box.cell
  have HSW : Hid (Calls Tryd.prog 88 #[.pointer (some ⟨B, 0, none⟩), .int .i64 0, .int .i64 e] W1 fun e' w' => (∃ v, e' = .returned v) ∧ HeapAt w' B n0 (swapL L 0 e) (.slice (some ⟨g, 0, none⟩) L.length cap) ∧ KeptBox B n0 W1 w' ∧ W1.grownBy w' (some g)) := swap_more B n0 g cap 0 e L W1 h0 (by omega) H1.out
  have hec : (e : Int) ≤ (cap : Int) := by
    rcases h.rows.2 with ⟨e', _⟩ | ⟨g', cap', cur, e', hb, hh, hn, _⟩
    · cases e'
    · simp only [Value.slice.injEq, Option.some.injEq, Addr.mk.injEq, and_true] at e'
      obtain ⟨rfl, _, rfl⟩ := e'
      omega
  have hgl : g < w.heap.size := by
    obtain ⟨g', c', e', _, hlt⟩ := heap_slice h h0
    simp only [Value.slice.injEq, Option.some.injEq, Addr.mk.injEq, and_true] at e'
    obtain ⟨rfl, _⟩ := e'
    exact hlt
  have HGW : Hid (g < w.heap.size) := hgl
  have HBW : Hid (B < w.heap.size) := h.box.lt
  have HLOW : Hid (B < n0) := h.low
  have HE0 : Hid (L.length = e + 1) := by unfold Hid; omega
  have hei : (L.length : Int) - 1 = (e : Int) := by omega
  have he0 : (0 : Int) ≤ (e : Int) := by omega
  have he1 : (e : Int) < (L.length : Int) := by omega
  have he2 : (e : Int) ≤ (L.length : Int) := by omega
  have hem : e ≤ 1000 := by omega
  have HNW : Hid (n0 ≤ w.heap.size) := hn
  generalize hX : rowIn L 0 = X at *
  generalize hNN : L.length = N at *
  clear h hh hX hNN hgl he h0
  go_enter Tryd.func45, Tryd.ntmps45
  go_wp2_with fail
  refine HSW.out.mono ?_
  clear HSW
  rintro e' w2 ⟨⟨u, rfl⟩, hH2, hK2, hG2⟩
  have HH2 : Hid (HeapAt w2 B n0 (swapL L 0 e) (.slice (some ⟨g, 0, none⟩) N cap)) := hH2
  have HR2 : Hid (w2.heap[w.heap.size]? = some (.cells #[.int .i64 0, .int .i64 0, .int .i64 0, .int .i64 0, .int .i64 0, .int .i64 0] 38 (0, 0))) := keep_after HR1.out hG2 (by have := HGW.out; omega)
  have HK2 : Hid (KeptBox B n0 w w2) := (KeptBox.below hb1 hn).trans hK2
  have HQ2 : Hid (KeptGB B g w w2) := KeptGB.grown (KeptGB.below (fun _ _ _ _ => rfl) (Nat.le_refl _) hb1) hb1.size hG2
  obtain ⟨a0, a1, a2, a3, a4, a5⟩ := heap_at HH2.out e (by rw [HSL.out]; exact HE0.out ▸ Nat.lt_succ_self e)
  rw [HFI.out] at a0 a1 a2 a3 a4 a5
  have hc2 := HH2.out.box.cell
  have hf2 := HH2.out.box.frozen
  have hBs : B < w2.heap.size := HH2.out.box.lt
  have hgs : g < w2.heap.size := by have := HGW.out; have := HK2.out.size; omega
  clear hc HR1 H1 hK2 hG2 hH2 hb1 hs1 hW1
  obtain ⟨W3, hW3⟩ : ∃ W3, (w2.setCell ⟨B, 0, none⟩ (.slice (some ⟨g, 0, none⟩) e cap)).alloc (.cells #[.int .i64 X.trip, .int .i64 X.to, .int .i64 X.due, .int .i64 X.expect, .int .i64 X.track, .int .i64 X.state] 38) = W3 := ⟨_, rfl⟩
  have HH3 : Hid (HeapAt W3 B n0 (popped L) (.slice (some ⟨g, 0, none⟩) e cap)) := by
    subst hW3
    rw [HPE.out]
    exact (heap_cut HH2.out (by rw [HSL.out, HE0.out]; omega)).keep ((Below.refl _ _).alloc (Nat.le_refl _) _)
  have HK3 : Hid (KeptBox B n0 w W3) := by
    subst hW3
    exact (HK2.out.setBox HH2.out.box _).alloc (by have := HK2.out.size; have := HNW.out; simp; omega) _
  have HQ3 : Hid (KeptGB B g w W3) := by
    subst hW3
    intro k h1 h2 h3
    have hsz := HK2.out.size
    rw [Below.heap_alloc _ _ _ (by simp; omega), Below.heap_setCell _ _ _ _ (by simpa using h2)]
    exact HQ2.out k h1 h2 h3
  have HF3 : Hid (W3.heap[w2.heap.size]? = some (.cells #[.int .i64 X.trip, .int .i64 X.to, .int .i64 X.due, .int .i64 X.expect, .int .i64 X.track, .int .i64 X.state] 38 (0, 0))) := by
    subst hW3
    exact heap_alloc_is _ _ (by simp)
  have HR3 : Hid (W3.heap[w.heap.size]? = some (.cells #[.int .i64 0, .int .i64 0, .int .i64 0, .int .i64 0, .int .i64 0, .int .i64 0] 38 (0, 0))) := by
    subst hW3
    unfold Hid
    have hlt := (Array.getElem?_eq_some_iff.1 HR2.out).1
    rw [Below.heap_alloc _ _ _ (by simpa using hlt), Below.heap_setCell _ _ _ _ (by have := HBW.out; simp; omega)]
    exact HR2.out
  have HSF : Hid (w.heap.size < w2.heap.size) := (Array.getElem?_eq_some_iff.1 HR2.out).1
  have HFO : Hid (Calls Tryd.prog 89 #[.pointer (some ⟨B, 0, none⟩), .int .i64 0] W3 fun e w' => e = .returned (.int .i64 (firstD (popped L) 0)) ∧ Below W3.heap.size W3 w') := firstOf_any B n0 g cap 0 (popped L) W3 (by rw [HPL.out]; exact hem) (by omega) (by rw [HPL.out]; exact HH3.out)
  go_wp2_with fail
  clear hW3 hBs hgs hc2 hf2 a0 a1 a2 a3 a4 a5 HH2 HK2 HR2 HFI HPE HQ2
  generalize w2.heap.size = F at *
  refine HFO.out.mono ?_
  rintro e' w4 ⟨rfl, hb4⟩
  have HH4 : Hid (HeapAt w4 B n0 (popped L) (.slice (some ⟨g, 0, none⟩) e cap)) := HH3.out.keep hb4
  have HK4 : Hid (KeptBox B n0 w w4) := HK3.out.trans (KeptBox.below hb4 (Nat.le_trans HNW.out HK3.out.size))
  have HQ4 : Hid (KeptGB B g w w4) := HQ3.out.below HK3.out.size hb4
  have HF4 : Hid (w4.heap[F]? = some (.cells #[.int .i64 X.trip, .int .i64 X.to, .int .i64 X.due, .int .i64 X.expect, .int .i64 X.track, .int .i64 X.state] 38 (0, 0))) := (hb4.block _ (Array.getElem?_eq_some_iff.1 HF3.out).1).trans HF3.out
  have HR4 : Hid (w4.heap[w.heap.size]? = some (.cells #[.int .i64 0, .int .i64 0, .int .i64 0, .int .i64 0, .int .i64 0, .int .i64 0] 38 (0, 0))) := (hb4.block _ (Array.getElem?_eq_some_iff.1 HR3.out).1).trans HR3.out
  clear HFO HH3 HK3 HF3 HR3 hb4 HQ3
  generalize popped L = P at *
  go_wp2_with fail
  go_loopw [5, 6] (fun i nx wr => ∃ (a : Nat) (M : List RowD), a ≤ 1000 ∧ i = .int .i64 a ∧ nx = .int .i64 (firstD M a) ∧ Hid (M.length = e) ∧ Hid (HeapAt wr B n0 M (.slice (some ⟨g, 0, none⟩) e cap)) ∧ Hid (DownHeap M a) ∧ Hid (L.Perm (X :: M)) ∧ Hid (KeptBox B n0 w wr) ∧ Hid (KeptGB B g w wr) ∧ Hid (wr.heap[F]? = some (.cells #[.int .i64 X.trip, .int .i64 X.to, .int .i64 X.due, .int .i64 X.expect, .int .i64 X.track, .int .i64 X.state] 38 (0, 0))) ∧ Hid (wr.heap[w.heap.size]? = some (.cells #[.int .i64 0, .int .i64 0, .int .i64 0, .int .i64 0, .int .i64 0, .int .i64 0] 38 (0, 0)))) (fun i _ _ => e + 1 - (intOf i).toNat)
  case atStart => exact ⟨0, P, by omega, rfl, rfl, HPL, HH4, HPD, HPP, HK4, HQ4, HF4, HR4⟩
  case round =>
    obtain ⟨a, M, ha, rfl, rfl, hMl, hH, hD, hP, hK, hQ, hF, hR⟩ := hrel
    clear HH4 HPD HPP HK4 HF4 HR4 HPL HQ4
    by_cases hne : firstD M a = a
    · have HI : Hid (IsHeap M) := by
        by_cases hlt : a < M.length
        · exact hD.out.end hlt hne
        · exact hD.out.out (by omega)
      have heq : ((firstD M a : Int) == (a : Int)) = true := by simp [hne]
      obtain ⟨⟨u0, u1, u2, u3, u4, u5⟩, uf⟩ := six_cells hF.out
      obtain ⟨⟨z0, z1, z2, z3, z4, z5⟩, zf⟩ := six_cells hR.out
      have zf0 := zf 0; have zf1 := zf 1; have zf2 := zf 2; have zf3 := zf 3; have zf4 := zf 4; have zf5 := zf 5
      clear uf zf
      rw [hne]
      have hFR : F ≠ w.heap.size := by have := HSF.out; omega
      have hRF : w.heap.size ≠ F := by have := HSF.out; omega
      go_wp2_with fail
      have hg := setCells_grown w.heap.size (sixOf X) 0 wr
      refine bodyPost_ret (v := rowV X) ?_ rfl ⟨rfl, M, ?_, HI.out, hP.out, by rw [hMl.out]; have := HE0.out; omega, ?_, ?_⟩
      · exact results_cell_row Tryd.results45 _ _ w.heap.size 38 _ (0, 0) _ rfl (by simp [World.setCell, Array.getElem?_modify, hR.out]) Tryd.underlying38 rfl infRow
      · rw [hMl.out]
        exact hH.out.high hg (by have := HBW.out; omega) (by have := HGW.out; intro e'; simp [Value.ownBlock] at e'; omega)
      · exact hK.out.high hg HNW.out (Nat.le_trans HNW.out hK.out.size) hR.out
      · exact fun k h1 h2 h3 => (hg.block k (Nat.lt_of_lt_of_le h1 hK.out.size) (fun e => by cases e; omega)).trans (hQ.out k h1 h2 h3)
    · have hlt : a < M.length := by
        apply Classical.byContradiction
        intro hge
        exact hne (by rw [firstD_no (by omega), first1_no (by omega)])
      obtain ⟨f1, f2, _, _⟩ := firstD_cases M a hlt
      have HST : Hid (DownHeap (swapL M a (firstD M a)) (firstD M a)) := hD.out.step hlt hne
      have HSP : Hid ((swapL M a (firstD M a)).Perm M) := swapL_perm M _ _ hlt f2
      have HSLM : Hid ((swapL M a (firstD M a)).length = e) := by unfold Hid; rw [swapL_length]; exact hMl.out
      have hHM := hH.out
      rw [← hMl.out] at hHM
      have HSWM : Hid (Calls Tryd.prog 88 #[.pointer (some ⟨B, 0, none⟩), .int .i64 a, .int .i64 (firstD M a)] wr fun e' w' => (∃ v, e' = .returned v) ∧ HeapAt w' B n0 (swapL M a (firstD M a)) (.slice (some ⟨g, 0, none⟩) e cap) ∧ KeptBox B n0 wr w' ∧ wr.grownBy w' (some g)) := by
        have := swap_more B n0 g cap a (firstD M a) M wr hlt f2 hHM
        rw [hMl.out] at this
        exact this
      rw [hMl.out] at hlt f2
      have hfm : firstD M a ≤ 1000 := by omega
      have hfa : a < firstD M a := by omega
      have heq : ((firstD M a : Int) == (a : Int)) = false := by simp; omega
      have heb : ((firstD M a : Int) != (a : Int)) = true := by simp; omega
      have hFg : F ≠ g := by have := HSF.out; have := HGW.out; omega
      have HFO : Hid (∀ w', HeapAt w' B n0 (swapL M a (firstD M a)) (.slice (some ⟨g, 0, none⟩) e cap) → Calls Tryd.prog 89 #[.pointer (some ⟨B, 0, none⟩), .int .i64 (firstD M a)] w' fun e w'' => e = .returned (.int .i64 (firstD (swapL M a (firstD M a)) (firstD M a))) ∧ Below w'.heap.size w' w'') := fun w' hw => firstOf_any B n0 g cap (firstD M a) (swapL M a (firstD M a)) w' (by rw [HSLM.out]; exact hem) hfm (by rw [HSLM.out]; exact hw)
      clear hHM f1 hne
      generalize firstD M a = f at *
      generalize swapL M a f = M' at *
      go_wp2_with fail
      refine HSWM.out.mono ?_
      rintro e' w5 ⟨⟨u, rfl⟩, hH5, hK5, hG5⟩
      have HH5 : Hid _ := hH5
      have HK5 : Hid (KeptBox B n0 w w5) := hK.out.trans hK5
      have HQ5 : Hid (KeptGB B g w w5) := hQ.out.grown hK.out.size hG5
      have HF5 : Hid _ := keep_after hF.out hG5 hFg
      have HR5 : Hid _ := keep_after hR.out hG5 (by have := HGW.out; omega)
      clear hH5 hK5 hG5 HSWM
      go_wp2_with fail
      refine (HFO.out _ (by exact HH5.out)).mono ?_
      rintro e' w6 ⟨rfl, hb6⟩
      have HH6 : Hid (HeapAt w6 B n0 M' (.slice (some ⟨g, 0, none⟩) e cap)) := HH5.out.keep hb6
      have HK6 : Hid (KeptBox B n0 w w6) := HK5.out.trans (KeptBox.below hb6 (Nat.le_trans HNW.out HK5.out.size))
      have HQ6 : Hid (KeptGB B g w w6) := HQ5.out.below HK5.out.size hb6
      have HF6 : Hid (w6.heap[F]? = some (.cells #[.int .i64 X.trip, .int .i64 X.to, .int .i64 X.due, .int .i64 X.expect, .int .i64 X.track, .int .i64 X.state] 38 (0, 0))) := (hb6.block _ (Array.getElem?_eq_some_iff.1 HF5.out).1).trans HF5.out
      have HR6 : Hid (w6.heap[w.heap.size]? = some (.cells #[.int .i64 0, .int .i64 0, .int .i64 0, .int .i64 0, .int .i64 0, .int .i64 0] 38 (0, 0))) := (hb6.block _ (Array.getElem?_eq_some_iff.1 HR5.out).1).trans HR5.out
      clear HFO hb6 HH5 HK5 HF5 HR5 HQ5
      go_wp2_with fail
      go_roundw
      case rel => exact ⟨f, M', hfm, rfl, rfl, HSLM, HH6, HST, hP.out.trans (HSP.out.symm.cons X), HK6, HQ6, HF6, HR6⟩
      case measure => simp [intOf]; omega

end Go.Proofs.YtjioingdpfgadaaDoor
