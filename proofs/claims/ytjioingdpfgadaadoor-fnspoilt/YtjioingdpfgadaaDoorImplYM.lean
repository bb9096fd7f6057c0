import Derived.Test.YtjioingdpfgadaaDoorProg
import Derived.Test.YtjioingdpfgadaaDoorImplWM
import Derived.Test.YtjioingdpfgadaaDoorImplHM
import Derived.Lib.SliceRun
import Derived.Deep.RegionHeld3
import Derived.Deep.AppendLies
namespace Go.Proofs.YtjioingdpfgadaaDoor
open Go Go.RowKit Go.Deep

set_option maxRecDepth 100000 in
set_option maxHeartbeats 1000000 in
theorem clone_any (b o n c : Nat) (ns : List NewsD) (w : World) (hl : ns.length = n) (h0 : 0 < n) (hn : n ≤ 20) (hc : ∀ j u, (rowCells ns)[j]? = some u → w.cell? ⟨b, o + j, none⟩ = some u) :
    Calls Tryd.prog 91 #[.slice (some ⟨b, o, none⟩) n c] w fun e w' => ∃ g cap, e = .returned (.slice (some ⟨g, 0, none⟩) n cap) ∧ w'.ownsRow w.heap.size 41 5 (.slice (some ⟨g, 0, none⟩) n cap) n (rowCells ns) ∧ Below w.heap.size w w' := by
  have q22 : ∀ (w : World) (a : Option Addr) (n c n' c' : Nat), (binOp .eql 42 (.slice a n c) (.slice none n' c')).run Tryd.prog w = .ok (.bool a.isNone) w := fun w a n c n' c' => Lib.run_eql_slice_nil w _ _ a n c n' c' uNw
  obtain ⟨i0, hi0, he0⟩ := Option.map_eq_some_iff.1 infNw
  simp only [Prod.mk.injEq] at he0
  have HI0 : Hid (i0.zero = some (.agg #[.int .i64 0, .int .i64 0, .bool false, .bool false, .bool false]) ∧ i0.size = 5 ∧ i0.bytes = 24) := he0
  have HJ0 : Hid (Tryd.prog.info? 41 = some i0) := hi0
  have HC : Hid (∀ j u, (rowCells ns)[j]? = some u → w.cell? ⟨b, o + j, none⟩ = some u) := hc
  have HR1 : Hid ((rowCells ns).length = n * 5) := by unfold Hid; rw [rowCells_length, hl]
  clear hi0 he0 hc hl
  go_enter Tryd.func91, Tryd.ntmps91
  go_wp2_with (at_builtin; refine wpList_append_own_at _ rfl _ _ 42 rfl w.heap.size 41 i0 (.agg #[.int .i64 0, .int .i64 0, .bool false, .bool false, .bool false]) 5 24 uNw HJ0.out HI0.out.1 HI0.out.2.1 HI0.out.2.2 rfl (by decide) _ _ _ rfl (World.ownsRow_made w #[] 0 (Nat.le_refl _) (Nat.zero_le _) (by simp)) ⟨b, o, none⟩ n c (rowCells ns) rfl HR1.out ?qc2 (rowCells_one ns) ?qc4 ?qc5 ?qc6 ?_)
  case qc2 =>
    intro j u hj
    have hadd : (⟨b, o, none⟩ : Addr).add j = ⟨b, o + j, none⟩ := by unfold Addr.add; split <;> simp_all
    rw [hadd]
    exact cell_keep (ibox w _) (HC.out j u hj)
  case qc4 => unfold maxLen; omega
  case qc5 => omega
  case qc6 => simp
  intro v' w1 hown hgrow _ _
  have hown' : w1.ownsRow w.heap.size 41 5 v' n (rowCells ns) := by simpa using hown
  have hbf : Below w.heap.size w w1 := ((Below.refl _ w).alloc (Nat.le_refl _) _).grown hgrow (by simp) (by intro k hk; simp [Value.ownBlock] at hk; omega)
  rcases hown'.2 with ⟨_, e0⟩ | ⟨g, cap, cur, rfl, _⟩
  · omega
  · have HO : Hid (w1.ownsRow w.heap.size 41 5 (.slice (some ⟨g, 0, none⟩) n cap) n (rowCells ns)) := hown'
    clear hown hown' hgrow
    go_wp2
    go_ret
    exact ⟨g, cap, rfl, HO.out, hbf⟩

end Go.Proofs.YtjioingdpfgadaaDoor
namespace Go.Proofs.YtjioingdpfgadaaDoor
open Go Go.RowKit Go.Deep

theorem grid_store {wi : World} {g : Nat} {G : List (List NewsD)} {T : TypeId} (hg : wi.heap[g]? = some (.cells (gridCells G).toArray T (0, 0))) (hG : Grid G) (o : Obj) (i j c : Nat) (u : Value) (x : NewsD) (hi : i < G.length) (hj : j < 20) (hc : c < 5) (hx : newsCells x = (newsCells ((G[i]'hi)[j]'(by rw [hG.at i hi]; exact hj))).set c u) :
    ((wi.setCell ⟨g, i * 100 + j * 5 + c, none⟩ u).alloc o).heap[g]? = some (.cells (gridCells (G.set i (G[i].set j x))).toArray T (0, 0)) := by
  have hlt : g < wi.heap.size := (Array.getElem?_eq_some_iff.1 hg).1
  rw [setCell_eq_setRow _ _ _ _ _ _ _ hg, heap_alloc_old _ _ (by rw [setRow_size]; exact hlt), setRow_heap _ _ _ _ _ _ hg, hG.stored i j c u x hi hj hc hx]
theorem grid_cell {wi : World} {g : Nat} {G : List (List NewsD)} {T : TypeId} (hg : wi.heap[g]? = some (.cells (gridCells G).toArray T (0, 0))) (hG : Grid G) (i j c : Nat) (hi : i < G.length) (hj : j < 20) (hc : c < 5) :
    wi.cell? ⟨g, i * 100 + j * 5 + c, none⟩ = (newsCells ((G[i]'hi)[j]'(by rw [hG.at i hi]; exact hj)))[c]? := by
  rw [cell_of_row _ _ _ _ _ _ hg]
  simp only [List.getElem?_toArray]
  exact hG.cell i j c hi hj hc
theorem set_same {α : Type} (l : List α) (i : Nat) (x : α) (h : l[i]? = some x) : l.set i x = l := by
  apply List.ext_getElem?
  intro j
  rw [List.getElem?_set]
  by_cases e : i = j
  · subst e
    have hi : i < l.length := (List.getElem?_eq_some_iff.1 h).1
    rw [if_pos rfl, if_pos hi, h]
  · rw [if_neg e]

set_option maxRecDepth 100000 in
set_option maxHeartbeats 4000000 in
theorem planned_any (v : Value) (bk : BookD) (w : World) (h40 : bk.trips.length ≤ 40) (h20 : ∀ i (h : i < bk.trips.length), bk.trips[i].calls.length ≤ 20) (hat : BookAt w v bk) :
    Calls Tryd.prog 55 #[v] w fun e w' => e = .returned (.agg (gridCells (planGrid bk)).toArray) ∧ Below w.heap.size w w' := by
  obtain ⟨sa, sc, ta, tc, rfl, hsa, hta⟩ := hat
  have hz := zeroB
  have HZ4 : Hid ((gridCells zeroGrid).toArray.size = 4000) := grid_zero.size
  have HZ0 : Hid ((gridCells (planTo bk 0)).toArray = (gridCells zeroGrid).toArray) := by unfold Hid; rw [planTo_zero]
  generalize hZ : (gridCells zeroGrid).toArray = Z at *
  obtain ⟨W1, hW1⟩ : ∃ W1, (w.alloc (.cells #[.slice sa bk.sts.length sc, .slice ta bk.trips.length tc] 26)).alloc (.cells Z 107) = W1 := ⟨_, rfl⟩
  have hs1 : W1.heap.size = w.heap.size + 1 + 1 := by subst hW1; simp
  have hb1 : Below w.heap.size w W1 := by subst hW1; exact (ibox _ _).alloc (by simp) _
  have q0 : W1.cell? ⟨w.heap.size, 0, none⟩ = some (.slice sa bk.sts.length sc) := by subst hW1; simp [go_sem]
  have q1 : W1.cell? ⟨w.heap.size, 1, none⟩ = some (.slice ta bk.trips.length tc) := by subst hW1; simp [go_sem]
  have HG1 : Hid (W1.heap[w.heap.size + 1]? = some (.cells Z 107 (0, 0))) := by
    have := heap_alloc_last (w.alloc (.cells #[.slice sa bk.sts.length sc, .slice ta bk.trips.length tc] 26)) (.cells Z 107)
    rw [hW1] at this
    have e : (w.alloc (.cells #[.slice sa bk.sts.length sc, .slice ta bk.trips.length tc] 26)).heap.size = w.heap.size + 1 := by simp
    rw [e] at this; exact this
  have HTA : Hid (TripsAt w ta bk.trips) := hta
  have H20 : Hid (∀ i (h : i < bk.trips.length), bk.trips[i].calls.length ≤ 20) := h20
  have hb2 : Below W1.heap.size W1 (W1.alloc (.cells Z 107)) := ibox _ _
  have a0 := cell_keep hb2 q0
  have a1 := cell_keep hb2 q1
  clear hsa hta h20 q0 q1
  go_enter Tryd.func55, Tryd.ntmps55
  go_wp2_with fail
  go_loopw [11] (fun i wr => ∃ k : Nat, k ≤ bk.trips.length ∧ i = .int .i64 k ∧ Hid (wr.heap[w.heap.size + 1 + 1]? = some (.cells (gridCells (planTo bk k)).toArray 107 (0, 0))) ∧ Below W1.heap.size W1 wr) (fun i _ => bk.trips.length - (intOf i).toNat)
  case atStart =>
    refine ⟨0, Nat.zero_le _, rfl, ?_, hb2⟩
    rw [HZ0.out, ← hs1]; exact heap_alloc_last W1 _
  case round =>
    obtain ⟨k, hk, rfl, hgr, hbel⟩ := hrel
    have hB : Below w.heap.size w wr := hb1.trans (hbel.mono hb1.size)
    have hlt3 : w.heap.size + 1 + 1 < wr.heap.size := (Array.getElem?_eq_some_iff.1 hgr.out).1
    clear a0 a1 hz
    by_cases hlt : k < bk.trips.length
    · obtain ⟨b, o, ca, cc, rfl, c0, c1, hca⟩ := HTA.out.keep hB k hlt
      have hnk := H20.out k hlt
      have HCA : Hid (CallsAt w ca bk.trips[k].calls) := by
        obtain ⟨b', o', ca', cc', e', c0', c1', hca'⟩ := HTA.out k hlt
        have := cell_keep hB c1'
        simp only [Option.some.injEq, Addr.mk.injEq] at e'
        obtain ⟨rfl, rfl, _⟩ := e'
        rw [c1] at this
        simp only [Option.some.injEq, Value.slice.injEq] at this
        obtain ⟨rfl, _, _⟩ := this
        exact hca'
      have HGd : Hid (Grid (planTo bk k)) := planTo_grid hk h40 H20.out
      have HP0 : Hid ((planTo bk k).set k (padRow (startRow (bk.trips[k].calls.take 0))) = planTo bk k) := set_same _ _ _ (by rw [planTo_at hk (by omega)]; simp [startRow, padRow_nil])
      have HPS : Hid ((planTo bk k).set k (padRow (startRow bk.trips[k].calls)) = planTo bk (k + 1)) := planTo_succ hlt (by omega)
      have hk0 : (0 : Int) ≤ (k : Int) := by omega
      have hk40 : (k : Int) < 40 := by omega
      have hki : (k : Int) < (bk.trips.length : Int) := by omega
      generalize bk.trips[k] = t at *
      clear hca
      rename World => W2
      go_wp2_with fail
      go_loopw [19] (fun j wi => ∃ m : Nat, m ≤ t.calls.length ∧ j = .int .i64 m ∧ Hid (wi.heap[w.heap.size + 1 + 1]? = some (.cells (gridCells ((planTo bk k).set k (padRow (startRow (t.calls.take m))))).toArray 107 (0, 0))) ∧ Below W1.heap.size W1 wi) (fun j _ => t.calls.length - (intOf j).toNat)
      case atStart =>
        refine ⟨0, Nat.zero_le _, rfl, ?_, hbel.alloc hbel.size _⟩
        rw [HP0.out, heap_alloc_old _ _ hlt3]; exact hgr.out
      case round =>
        obtain ⟨m, hm, rfl, hgi, hbi⟩ := hrel
        have hBi : Below w.heap.size w wr := hb1.trans (hbi.mono hb1.size)
        have hlti : w.heap.size + 1 + 1 < wr.heap.size := (Array.getElem?_eq_some_iff.1 hgi.out).1
        by_cases hlm : m < t.calls.length
        · obtain ⟨b', o', rfl, d0, d1, d2, d3⟩ := HCA.out.keep hBi m hlm
          have hG : Grid ((planTo bk k).set k (padRow (startRow (t.calls.take m)))) := HGd.out.set k _ (padRow_length (by simp [startRow]; omega))
          have hkG : k < ((planTo bk k).set k (padRow (startRow (t.calls.take m)))).length := by rw [hG.len]; omega
          have hm20 : m < 20 := by omega
          have hrow : ((planTo bk k).set k (padRow (startRow (t.calls.take m))))[k]'hkG = padRow (startRow (t.calls.take m)) := List.getElem_set_self _
          have hxm : (((planTo bk k).set k (padRow (startRow (t.calls.take m))))[k]'hkG)[m]'(by rw [hG.at k hkG]; exact hm20) = zeroN := by
            have := padRow_at hlm hnk
            rw [← hrow, List.getElem?_eq_getElem (by rw [hG.at k hkG]; exact hm20)] at this
            exact Option.some.inj this
          have hce : wr.cell? ⟨w.heap.size + 1 + 1, k * 100 + m * 5 + 1, none⟩ = some (.int .i64 0) := by
            rw [grid_cell hgi.out hG k m 1 hkG hm20 (by omega), hxm]; rfl
          have hfr : wr.frozen? ⟨w.heap.size + 1 + 1, k * 100 + m * 5 + 1, none⟩ = false := by simp [World.frozen?, hgi.out]
          have HST : Hid (∀ o, ((wr.setCell ⟨w.heap.size + 1 + 1, k * 100 + m * 5 + 1, none⟩ (.int .i64 t.calls[m].tr)).alloc o).heap[w.heap.size + 1 + 1]? = some (.cells (gridCells ((planTo bk k).set k (padRow (startRow (t.calls.take (m + 1)))))).toArray 107 (0, 0))) := fun o => by
            rw [grid_store hgi.out hG o k m 1 _ (startOf t.calls[m]) hkG hm20 (by omega) (by rw [hxm]; rfl), hrow, List.set_set, padRow_succ hlm hnk]
          have hm0 : (0 : Int) ≤ (m : Int) := by omega
          have hmi : (m : Int) < 20 := by omega
          generalize t.calls[m] = c at *
          clear hG hrow hxm hgi
          go_wp2_with fail
          go_region
          go_wp2_with fail
          go_roundw
          case rel =>
            refine ⟨m + 1, by omega, by go_num, ?_, ?_⟩
            · exact HST.out _
            · refine Below.drew (Below.alloc (Below.setCell hbi ?_ _) ?_ _)
              · show W1.heap.size ≤ w.heap.size + 1 + 1
                omega
              · simpa [World.setCell] using hbi.size
          case measure => simp [intOf]; omega
        · have hm' : m = t.calls.length := by omega
          subst hm'
          have HGf : Hid (wr.heap[w.heap.size + 1 + 1]? = some (.cells (gridCells (planTo bk (k + 1))).toArray 107 (0, 0))) := by
            have := hgi.out
            rw [List.take_length, HPS.out] at this
            exact this
          clear hgi
          go_wp2_with fail
          go_roundw
          case rel => exact ⟨k + 1, by omega, by go_num, HGf, hbi⟩
          case measure => simp [intOf]; omega
    · have hk' : k = bk.trips.length := by omega
      subst hk'
      have HX4 : Hid ((gridCells (planTo bk bk.trips.length)).toArray.size = 4000) := (planTo_grid (Nat.le_refl _) h40 H20.out).size
      have H1 : Hid ((gridCells (planTo bk bk.trips.length)).toArray.all (·.oneCell') = true) := gridCells_one _
      have HX : Hid ((gridCells (planTo bk bk.trips.length)).toArray = (gridCells (planGrid bk)).toArray) := rfl
      generalize (gridCells (planTo bk bk.trips.length)).toArray = X at *
      have HI : Hid ((Tryd.prog.info? 107).map (·.size) = some X.size) := by unfold Hid; rw [HX4.out]; exact sizeB
      have HG2 : Hid (wr.heap[w.heap.size + 1]? = some (.cells Z 107 (0, 0))) := by unfold Hid; rw [hbel.block _ (by rw [hs1]; omega)]; exact HG1.out
      have HS : Hid (Z.size = X.size) := by unfold Hid; rw [HX4.out, HZ4.out]
      go_wp2_with (first
        | (refine wpList_load_row (by rfl) 107 (.tmp 3) (by rfl) (w.heap.size + 1 + 1) (by rfl) 107 X (0, 0) _ hgr.out underB rfl HI.out ?_)
        | (refine wpList_store_row (by rfl) 107 (.tmp 2) (.tmp 33) (by rfl) (w.heap.size + 1) X (by rfl) (by rfl) 107 Z HG2.out HI.out HS.out H1.out ?_))
      refine bodyPost_ret (v := .agg X) ?_ rfl ⟨by rw [HX.out], below_setRow hB _ _ (by omega)⟩
      exact results_cell_row Tryd.results55 _ _ (w.heap.size + 1) 107 X (0, 0) _ rfl (setRow_heap _ _ _ _ _ _ HG2.out) underB rfl HI.out

end Go.Proofs.YtjioingdpfgadaaDoor
namespace Go.Proofs.YtjioingdpfgadaaDoor
open Go Go.RowKit Go.Deep

/-- What is known, cut to the trips and calls of the book. -/
def cutRows (ts : List TripD) (G : List (List NewsD)) : List (List NewsD) := List.zipWith (fun t row => row.take t.calls.length) ts G
theorem cutRows_length {ts : List TripD} {G : List (List NewsD)} (h : ts.length ≤ G.length) : (cutRows ts G).length = ts.length := by simp [cutRows]; omega
theorem cutRows_take {ts : List TripD} {G : List (List NewsD)} (k : Nat) (h1 : k < ts.length) (h2 : k < G.length) : (cutRows ts G).take (k + 1) = (cutRows ts G).take k ++ [G[k].take ts[k].calls.length] := by
  have hk : k < (cutRows ts G).length := by simp [cutRows]; omega
  rw [take_snoc _ k hk]
  simp [cutRows]
/-- The cells of a row's head, in the midst of the grid. -/
theorem grid_src {G : List (List NewsD)} (hG : Grid G) (k n : Nat) (hk : k < G.length) {w : World} {g : Nat} {T : TypeId} (hg : w.heap[g]? = some (.cells (gridCells G).toArray T (0, 0))) : ∀ j u, (rowCells (G[k].take n))[j]? = some u → w.cell? ⟨g, k * 100 + j, none⟩ = some u := by
  intro j u hj
  have hlt : j < (rowCells (G[k].take n)).length := (List.getElem?_eq_some_iff.1 hj).1
  have hl : (rowCells G[k]).length = 100 := hG.cells _ (List.getElem_mem hk)
  have he : rowCells G[k] = rowCells (G[k].take n) ++ rowCells (G[k].drop n) := by rw [← rowCells_append, List.take_append_drop]
  have hj1 : j < 100 := by
    rw [← hl, he, List.length_append]; omega
  rw [cell_of_row _ _ _ _ _ _ hg]
  simp only [List.getElem?_toArray]
  unfold gridCells
  rw [flat_get rowCells 100 G hG.cells k j hk hj1, he, List.getElem?_append_left hlt]
  exact hj

set_option maxRecDepth 100000 in
set_option maxHeartbeats 8000000 in
theorem rows_any (v : Value) (bk : BookD) (G : List (List NewsD)) (w : World) (hG : Grid G) (h40 : bk.trips.length ≤ 40) (h20 : ∀ i (h : i < bk.trips.length), 2 ≤ bk.trips[i].calls.length ∧ bk.trips[i].calls.length ≤ 20) (hat : BookAt w v bk) :
    Calls Tryd.prog 57 #[.agg (gridCells G).toArray, v] w fun e w' => ∃ v', e = .returned v' ∧ NewsOwn w.heap.size w' v' (cutRows bk.trips G) ∧ Below w.heap.size w w' := by
  obtain ⟨sa, sc, ta, tc, rfl, hsa, hta⟩ := hat
  obtain ⟨i1, hi1, he1⟩ := Option.map_eq_some_iff.1 infNwS
  simp only [Prod.mk.injEq] at he1
  have HI1 : Hid (i1.zero = some (.slice none 0 0) ∧ i1.size = 1 ∧ i1.bytes = 24) := he1
  have HJ1 : Hid (Tryd.prog.info? 42 = some i1) := hi1
  have HGr : Hid (Grid G) := hG
  have HL : Hid ((cutRows bk.trips G).length = bk.trips.length) := cutRows_length (by rw [hG.len]; exact h40)
  have HGL : Hid (bk.trips.length ≤ G.length) := by unfold Hid; rw [hG.len]; exact h40
  have HTA : Hid (TripsAt w ta bk.trips) := hta
  have H20 : Hid (∀ i (h : i < bk.trips.length), 2 ≤ bk.trips[i].calls.length ∧ bk.trips[i].calls.length ≤ 20) := h20
  obtain ⟨X, hX⟩ : ∃ X, (gridCells G).toArray = X := ⟨_, rfl⟩
  have HX : Hid ((gridCells G).toArray = X) := hX
  rw [hX]
  obtain ⟨W1, hW1⟩ : ∃ W1, (w.alloc (.cells X 107)).alloc (.cells #[.slice sa bk.sts.length sc, .slice ta bk.trips.length tc] 26) = W1 := ⟨_, rfl⟩
  have hs1 : W1.heap.size = w.heap.size + 1 + 1 := by subst hW1; simp
  have hb1 : Below w.heap.size w W1 := by subst hW1; exact (ibox _ _).alloc (by simp) _
  have q0 : W1.cell? ⟨w.heap.size + 1, 0, none⟩ = some (.slice sa bk.sts.length sc) := by subst hW1; simp [go_sem]
  have q1 : W1.cell? ⟨w.heap.size + 1, 1, none⟩ = some (.slice ta bk.trips.length tc) := by subst hW1; simp [go_sem]
  have HG1 : Hid (W1.heap[w.heap.size]? = some (.cells X 107 (0, 0))) := by
    unfold Hid; rw [← hW1, heap_alloc_old _ _ (by simp)]; exact heap_alloc_last w _
  clear hsa hta h20 hi1 he1 hX hG
  go_enter Tryd.func57, Tryd.ntmps57
  go_wp2_with fail
  go_loopw [5, 11] (fun out i wr => ∃ k : Nat, k ≤ bk.trips.length ∧ i = .int .i64 k ∧ Hid (NewsOwn W1.heap.size wr out ((cutRows bk.trips G).take k)) ∧ Below W1.heap.size W1 wr) (fun _ i _ => bk.trips.length - (intOf i).toNat)
  case atStart => exact ⟨0, Nat.zero_le _, rfl, ⟨[], World.ownsRow_nil _ _ _ _, rfl, fun i h => by simp at h, fun i j hi => by simp at hi⟩, Below.refl _ _⟩
  case round =>
    obtain ⟨k, hk, rfl, hown, hbel⟩ := hrel
    have hB : Below w.heap.size w wr := hb1.trans (hbel.mono hb1.size)
    have hzr := hbel.size
    clear q0 q1
    by_cases hlt : k < bk.trips.length
    · obtain ⟨b, o, ca, cc, rfl, c0, c1, _⟩ := HTA.out.keep hB k hlt
      obtain ⟨l2, l20⟩ := H20.out k hlt
      have hkG : k < G.length := Nat.lt_of_lt_of_le hlt HGL.out
      have HT : Hid ((cutRows bk.trips G).take (k + 1) = (cutRows bk.trips G).take k ++ [G[k].take bk.trips[k].calls.length]) := cutRows_take k hlt hkG
      have HRL : Hid ((G[k].take bk.trips[k].calls.length).length = bk.trips[k].calls.length) := by unfold Hid; rw [List.length_take, HGr.out.at k hkG]; omega
      have hk0 : (0 : Int) ≤ (k : Int) := by omega
      have hk40 : (k : Int) < 40 := by omega
      have hki : (k : Int) < (bk.trips.length : Int) := by omega
      generalize bk.trips[k] = t at *
      obtain ⟨W2, hW2⟩ : ∃ W2, wr.alloc (.cells #[.string t.name, .slice ca t.calls.length cc] 54) = W2 := ⟨_, rfl⟩
      have hb2 : Below wr.heap.size wr W2 := by subst hW2; exact ibox _ _
      have hs2 : W2.heap.size = wr.heap.size + 1 := by subst hW2; simp
      have tb : W2.cell? ⟨wr.heap.size, 1, none⟩ = some (.slice ca t.calls.length cc) := by subst hW2; simp [go_sem]
      have hB2 : Below W1.heap.size W1 W2 := hbel.trans (hb2.mono hbel.size)
      have HSRC : Hid (∀ j u, (rowCells (G[k].take t.calls.length))[j]? = some u → W2.cell? ⟨w.heap.size, k * 100 + j, none⟩ = some u) := grid_src HGr.out k _ hkG (by rw [hB2.block _ ((Array.getElem?_eq_some_iff.1 HG1.out).1), HX.out]; exact HG1.out)
      obtain ⟨vs, hvs⟩ := hown
      have hk' : ((cutRows bk.trips G).take k).length = k := by rw [List.length_take, HL.out]; omega
      have HV : Hid (NewsOwnAt W1.heap.size W2 u5 ((cutRows bk.trips G).take k) vs) := hvs.below hb2
      have hout0 := hvs.outer
      rw [hk'] at hout0
      have HOB : Hid (some wr.heap.size ≠ u5.ownBlock) := fun e => by have := (hout0.lt wr.heap.size e.symm).2; omega
      have HOL : Hid (∀ g, u5.ownBlock = some g → g < W2.heap.size) := fun g hg => by have := (hout0.lt g hg).2; omega
      have hout : W2.ownsRow W1.heap.size 42 1 u5 k vs := owns_below hout0 hb2 (owns_lt hout0)
      have HO : Hid (W2.ownsRow W1.heap.size 42 1 u5 k vs) := hout
      have HLOW : Hid (∀ i (hi : i < vs.length), ∀ g, vs[i].ownBlock = some g → g < W2.heap.size) := fun i hi g hg => by
        have := ((hvs.rows i (by rw [← hvs.len]; exact hi) hi).lt g hg).2
        omega
      have n0 : (0 : Int) ≤ (t.calls.length : Int) := by omega
      have n1 : (t.calls.length : Int) ≤ 20 := by omega
      clear hvs hout hout0
      go_wp2_with fail
      go_region_held3 (fun w' => w'.cell? ⟨wr.heap.size, 1, none⟩ = some (.slice ca t.calls.length cc))
        (first
          | go_keep
          | (exact cell_keep (by exact hb3) (by exact tb))
          | (rw [hgrow.cell_far _ (by simp; omega) HOB.out]; assumption))
        (first
          | (go_at_call 91; refine (clone_any w.heap.size (k * 100) t.calls.length _ (G[k].take t.calls.length) _ HRL.out (by omega) l20 (by exact HSRC.out)).mono ?_; rintro e w3 ⟨g3, cap3, rfl, hown3, hb3⟩; have hsz3 : W2.heap.size ≤ w3.heap.size := hb3.size)
          | (refine step_append_lies _ (by rfl) _ _ 33 (by rfl) W1.heap.size 42 i1 (.slice none 0 0) 1 24 uNwS HJ1.out HI1.out.1 HI1.out.2.1 HI1.out.2.2 rfl (by decide) u5 k vs (by rfl) ((owns_below HO.out ((Below.refl _ _).drew.trans (by exact hb3)) HOL.out).alloc _)
              ⟨w3.heap.size, 0, none⟩ 1 1 [.slice (some ⟨g3, 0, none⟩) t.calls.length cap3] (by rfl) (by rfl) (World.news_of_block (cs := #[.slice (some ⟨g3, 0, none⟩) t.calls.length cap3]) (t := 42) (fr := (0, 0)) (heap_alloc_new w3 _)) (by simp [Value.oneCell'])
              (by decide) (by unfold maxLen; omega) (by omega) (by simp; omega) (w3.heap.size + 1) (by simp) ?_; intro g5 cap5 w5 hown5 hgrow hat5 hlt5))
      have C3 : Below W2.heap.size W2 w3 := (Below.refl _ _).drew.trans (by exact hb3)
      have HV5 : Hid (NewsOwn W1.heap.size w5 (.slice (some ⟨g5, 0, none⟩) (k + 1) cap5) ((cutRows bk.trips G).take (k + 1))) := by
        refine ⟨vs ++ [.slice (some ⟨g3, 0, none⟩) t.calls.length cap3], ?_⟩
        rw [HT.out]
        refine NewsOwnAt.snoc (H := W2.heap.size) ((HV.out.below C3).below (ibox _ _)) ?_ hB2.size HLOW.out hgrow (by rw [hk']; exact hown5)
        rw [HRL.out]
        exact (show w3.ownsRow W2.heap.size 41 5 (.slice (some ⟨g3, 0, none⟩) t.calls.length cap3) t.calls.length (rowCells (G[k].take t.calls.length)) from hown3).alloc _
      have hbel5 : Below W1.heap.size W1 w5 := by
        have C4 : Below W1.heap.size W1 w3 := hB2.trans (C3.mono hB2.size)
        exact Below.grown (C4.alloc C4.size _) hgrow (by have := C4.size; simp; omega) fun g hg => (HO.out.lt g hg).1
      clear hown3 hown5 hgrow hat5 hlt5 hb3 HV HO tb
      go_wp2_with fail
      go_roundw
      case rel => exact ⟨k + 1, by omega, by go_num, HV5, hbel5⟩
      case measure => simp [intOf]; omega
    · have hk' : k = bk.trips.length := by omega
      subst hk'
      have HF : Hid (NewsOwn w.heap.size wr u5 (cutRows bk.trips G)) := by
        obtain ⟨vs, hvs⟩ := hown
        rw [← HL.out, List.take_length] at hvs
        exact ⟨vs, owns_mono hvs.outer (by omega), hvs.len, fun i h1 h2 => owns_mono (hvs.rows i h1 h2) (by omega), hvs.apart⟩
      clear hown
      go_wp2_with fail
      go_ret
      exact ⟨_, rfl, HF.out, hB⟩

end Go.Proofs.YtjioingdpfgadaaDoor
