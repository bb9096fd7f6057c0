import Derived.Test.YtjioingdpfgadabGreatDoorProg
import Derived.Test.YtjioingdpfgadabGreatDoorImplW
import Derived.Test.YtjioingdpfgadabGreatDoorNewsOM
import Derived.BigRegion
import Derived.Test.YtjioingdpfgadabGreatDoorImplHM
namespace Go.Proofs.YtjioingdpfgadabGreatDoor
open Go Go.RowKit Go.Deep

def zeroN : NewsD := ⟨0, 0, false, false, false⟩
/-- A row with room for all calls that a trip may have. -/
def padRow (ns : List NewsD) : List NewsD := ns ++ List.replicate (20 - ns.length) zeroN
theorem padRow_length {ns : List NewsD} (h : ns.length ≤ 20) : (padRow ns).length = 20 := by simp [padRow]; omega
theorem padRow_get {ns : List NewsD} (i : Nat) (h : i < ns.length) : (padRow ns)[i]? = some ns[i] := by
  unfold padRow; rw [List.getElem?_append_left h, List.getElem?_eq_getElem h]
def zeroRow : List NewsD := List.replicate 20 zeroN
theorem infT : (Tryz.prog.info? 124).map (fun i => (i.zero, i.size)) = some (some (.agg (rowCells zeroRow).toArray), 100) := by kernel_rfl
theorem zeroT : ∀ w, (zeroValue 124).run Tryz.prog w = .ok (.agg (rowCells zeroRow).toArray) w := (zero_of_info infT).1
theorem sizeT : (Tryz.prog.info? 124).map (·.size) = some 100 := (zero_of_info infT).2
theorem underT : Tryz.prog.underlying 124 = some (.array 20 115) := by kernel_rfl
theorem undNw : Tryz.prog.underlying 116 = some (.slice 115) := by kernel_rfl
theorem sizeNw : (Tryz.prog.info? 115).map (·.size) = some 5 := by kernel_rfl

theorem run_copy_wide {P : Program} (w : World) (dT sT ty elem : TypeId) (size g o dLen dCap : Nat) (a : Addr) (sLen sCap n : Nat) (cur : Array Value) (t : TypeId) (cs : List Value)
    (hu : P.underlying dT = some (.slice elem)) (hs : (P.info? elem).map (·.size) = some size)
    (hg : w.heap[g]? = some (.cells cur t (0, 0))) (hmin : Nat.min sLen dLen = n) (hn : cs.length = n * size)
    (hsrc : ∀ j v, cs[j]? = some v → w.cell? (a.add j) = some v) (hfit : o + cs.length ≤ cur.size) (h1 : ∀ v ∈ cs, v.oneCell' = true) :
    (Builtin.copy_ #[dT, sT] ty #[.slice (some ⟨g, o, none⟩) dLen dCap, .slice (some a) sLen sCap]).run P w = .ok (goInt n) (w.setRow g (putAt cur o cs)) := by
  have hl := run_loadCells_list (P := P) w a cs hsrc
  have hst := run_storeCells_mid (P := P) g o t cs 0 cur w hg (by simpa using hfit) h1
  cases hq : P.info? elem with
  | none => simp [hq] at hs
  | some i =>
    have hi : i.size = size := by simpa [hq] using hs
    rw [Nat.add_zero] at hst
    rw [hn] at hl
    simp [Builtin.copy_, run_underlying hu, Builtin.lenOf, Builtin.firstCells, sizeOf, typeInfo, hq, hi, hmin, hl, hst]
theorem wpList_copy_wide {P : Program} {w : World} {ops : Array Oper} {rest : List Oper} {op : Oper} {a : Act} {Q : Exit → Act → World → Prop} (hgd : op.guard = none) (d s : Operand) (t t' : TypeId)
    (ho : op.op = .call { callee := .builtin .copy, args := #[d, s], argTypes := #[t, t'] }) (v u : Value) (hd : a.eval d = v) (hs : a.eval s = u) {v' : Value} {w' : World}
    (hr : (Builtin.copy_ #[t, t'] op.type #[v, u]).run P w = .ok v' w') (h : wpList P ops Q rest (a.put op.dst v') w') : wpList P ops Q (op :: rest) a w :=
  wpList_plain hgd fun _ hK => by
    unfold Oper.wp execOp
    simp only [ho, resolve, invoke, builtin, Sem.run_bind, Sem.run_pure, Result.andThen_ok, List.map_toArray, List.map_cons, List.map_nil, hd, hs, hr]
    exact hK _ _ h

theorem rowCells_append (a b : List NewsD) : rowCells (a ++ b) = rowCells a ++ rowCells b := by simp [rowCells]
theorem put_pad (ns : List NewsD) (h : ns.length ≤ 20) : putAt (rowCells zeroRow).toArray 0 (rowCells ns) = (rowCells (padRow ns)).toArray := by
  have hz : (rowCells zeroRow).length = 100 := by rw [rowCells_length]; rfl
  have hl : (rowCells ns).length = ns.length * 5 := rowCells_length ns
  apply Array.ext_getElem?
  intro j
  rw [putAt_get _ _ _ _ (by simp only [List.size_toArray]; omega)]
  simp only [List.getElem?_toArray, Nat.zero_add, Nat.zero_le, true_and, Nat.sub_zero]
  have e : rowCells (padRow ns) = rowCells ns ++ rowCells (List.replicate (20 - ns.length) zeroN) := rowCells_append _ _
  have e0 : rowCells zeroRow = rowCells (List.replicate ns.length zeroN) ++ rowCells (List.replicate (20 - ns.length) zeroN) := by
    rw [← rowCells_append, List.replicate_append_replicate]
    have : ns.length + (20 - ns.length) = 20 := by omega
    rw [this]; rfl
  have hr : (rowCells (List.replicate ns.length zeroN)).length = ns.length * 5 := by rw [rowCells_length]; simp
  rw [e]
  by_cases hj : j < (rowCells ns).length
  · rw [if_pos hj, List.getElem?_append_left hj]
  · rw [if_neg hj, e0, List.getElem?_append_right (by omega), List.getElem?_append_right (by omega), hr, hl]

/-- Cells of news, as a source. -/
theorem NewsAt.src {w : World} {b o : Nat} {ns : List NewsD} (h : NewsAt w (some ⟨b, o, none⟩) ns) : ∀ j v, (rowCells ns)[j]? = some v → w.cell? ⟨b, o + j, none⟩ = some v := by
  intro j v hv
  have hj : j < ns.length * 5 := by rw [← rowCells_length]; exact (List.getElem?_eq_some_iff.1 hv).1
  have hq : j / 5 < ns.length := by omega
  have hr : j % 5 < 5 := by omega
  have hdm : j / 5 * 5 + j % 5 = j := by omega
  obtain ⟨b', o', e, c0, c1, c2, c3, c4⟩ := h (j / 5) hq
  simp only [Option.some.injEq, Addr.mk.injEq] at e
  obtain ⟨rfl, rfl, _⟩ := e
  have hg := rowCells_get ns (j / 5) (j % 5) hq hr
  rw [hdm, hv] at hg
  have : j % 5 = 0 ∨ j % 5 = 1 ∨ j % 5 = 2 ∨ j % 5 = 3 ∨ j % 5 = 4 := by omega
  rcases this with r | r | r | r | r
  · rw [r] at hg hdm; simp [newsCells] at hg; rw [← hdm, Nat.add_zero, c0, hg]
  · rw [r] at hg hdm; simp [newsCells] at hg; rw [← hdm, ← Nat.add_assoc, c1, hg]
  · rw [r] at hg hdm; simp [newsCells] at hg; rw [← hdm, ← Nat.add_assoc, c2, hg]
  · rw [r] at hg hdm; simp [newsCells] at hg; rw [← hdm, ← Nat.add_assoc, c3, hg]
  · rw [r] at hg hdm; simp [newsCells] at hg; rw [← hdm, ← Nat.add_assoc, c4, hg]

end Go.Proofs.YtjioingdpfgadabGreatDoor
namespace Go.Proofs.YtjioingdpfgadabGreatDoor
open Go Go.RowKit Go.Deep

/-- One cell of lists of one length laid one behind the other. -/
theorem flat_set {α : Type} (f : α → List Value) (m : Nat) : ∀ (l : List α), (∀ x ∈ l, (f x).length = m) → ∀ i c (u : Value) (y : α) (h : i < l.length), c < m → f y = (f l[i]).set c u → (l.flatMap f).set (i * m + c) u = (l.set i y).flatMap f
  | [], _, i, c, u, y, h, _, _ => by simp at h
  | a :: l, hm, i, c, u, y, h, hc, hy => by
    have ha : (f a).length = m := hm a (by simp)
    cases i with
    | zero =>
      rw [List.set_cons_zero, List.flatMap_cons, List.flatMap_cons, Nat.zero_mul, Nat.zero_add, List.set_append_left _ _ (by omega)]
      simp at hy
      rw [hy]
    | succ i =>
      rw [List.set_cons_succ, List.flatMap_cons, List.flatMap_cons, List.set_append_right _ _ (by rw [ha, Nat.succ_mul]; omega), ha]
      have : (i + 1) * m + c - m = i * m + c := by rw [Nat.succ_mul]; omega
      rw [this, flat_set f m l (fun x hx => hm x (by simp [hx])) i c u y (by simpa using h) hc (by simpa using hy)]

/-- All rows have room for twenty calls, and there is room for forty trips. -/
structure Grid (G : List (List NewsD)) : Prop where
  len : G.length = 40
  row : ∀ ns ∈ G, ns.length = 20
theorem Grid.cells {G : List (List NewsD)} (h : Grid G) : ∀ ns ∈ G, (rowCells ns).length = 100 := fun ns hn => by rw [rowCells_length, h.row ns hn]
theorem Grid.size {G : List (List NewsD)} (h : Grid G) : (gridCells G).toArray.size = 4000 := by
  simp only [List.size_toArray, gridCells]; rw [flat_length rowCells 100 G h.cells, h.len]
theorem Grid.set {G : List (List NewsD)} (h : Grid G) (i : Nat) (ns : List NewsD) (hn : ns.length = 20) : Grid (G.set i ns) :=
  ⟨by rw [List.length_set]; exact h.len, fun x hx => by
    rcases List.mem_or_eq_of_mem_set hx with h1 | h1
    · exact h.row x h1
    · rw [h1]; exact hn⟩
theorem Grid.at {G : List (List NewsD)} (h : Grid G) (i : Nat) (hi : i < G.length) : G[i].length = 20 := h.row _ (List.getElem_mem hi)
theorem Grid.cell {G : List (List NewsD)} (h : Grid G) (i j c : Nat) (hi : i < G.length) (hj : j < 20) (hc : c < 5) : (gridCells G)[i * 100 + j * 5 + c]? = (newsCells ((G[i]'hi)[j]'(by rw [h.at i hi]; exact hj)))[c]? := by
  have e : i * 100 + j * 5 + c = i * 100 + (j * 5 + c) := by omega
  rw [e]
  unfold gridCells
  rw [flat_get rowCells 100 G h.cells i (j * 5 + c) hi (by omega), rowCells_get _ j c (by rw [h.at i hi]; exact hj) hc]
theorem Grid.stored {G : List (List NewsD)} (h : Grid G) (i j c : Nat) (u : Value) (x : NewsD) (hi : i < G.length) (hj : j < 20) (hc : c < 5) (hx : newsCells x = (newsCells ((G[i]'hi)[j]'(by rw [h.at i hi]; exact hj))).set c u) :
    (gridCells G).toArray.setIfInBounds (i * 100 + j * 5 + c) u = (gridCells (G.set i (G[i].set j x))).toArray := by
  have e : i * 100 + j * 5 + c = i * 100 + (j * 5 + c) := by omega
  rw [e]
  apply Array.ext'
  simp only [Array.toList_setIfInBounds]
  exact flat_set rowCells 100 G h.cells i (j * 5 + c) u (G[i].set j x) hi (by omega) (rowCells_set G[i] j c u x (by rw [h.at i hi]; exact hj) hc hx).symm

def zeroGrid : List (List NewsD) := List.replicate 40 zeroRow
theorem grid_zero : Grid zeroGrid := ⟨by simp [zeroGrid], fun ns hn => by rw [List.eq_of_mem_replicate hn]; simp [zeroRow]⟩
theorem infB : (Tryz.prog.info? 126).map (fun i => (i.zero, i.size)) = some (some (.agg (gridCells zeroGrid).toArray), 4000) := by kernel_rfl
theorem zeroB : ∀ w, (zeroValue 126).run Tryz.prog w = .ok (.agg (gridCells zeroGrid).toArray) w := (zero_of_info infB).1
theorem sizeB : (Tryz.prog.info? 126).map (·.size) = some 4000 := (zero_of_info infB).2
theorem underB : Tryz.prog.underlying 126 = some (.array 40 124) := by kernel_rfl
theorem gridCells_one (G : List (List NewsD)) : (gridCells G).toArray.all (·.oneCell') = true := by
  rw [Array.all_eq_true_iff_forall_mem]
  intro x hx
  obtain ⟨ns, _, h⟩ := List.mem_flatMap.1 (show x ∈ gridCells G by simpa using hx)
  exact rowCells_one ns x h

/-- What is planned of the first k trips. -/
def planTo (bk : BookD) (k : Nat) : List (List NewsD) := (bk.trips.take k).map (fun t => padRow (startRow t.calls)) ++ List.replicate (40 - k) zeroRow
def planGrid (bk : BookD) : List (List NewsD) := planTo bk bk.trips.length
theorem planTo_zero (bk : BookD) : planTo bk 0 = zeroGrid := by simp [planTo, zeroGrid]
theorem planTo_grid {bk : BookD} {k : Nat} (hk : k ≤ bk.trips.length) (h40 : bk.trips.length ≤ 40) (h20 : ∀ i (h : i < bk.trips.length), bk.trips[i].calls.length ≤ 20) : Grid (planTo bk k) := by
  refine ⟨by simp [planTo]; omega, fun ns hn => ?_⟩
  rcases List.mem_append.1 hn with h | h
  · obtain ⟨t, ht, rfl⟩ := List.mem_map.1 h
    obtain ⟨i, hi, e⟩ := List.getElem_of_mem (List.mem_of_mem_take ht)
    refine padRow_length ?_
    rw [← e]; simpa [startRow] using h20 i hi
  · rw [List.eq_of_mem_replicate h]; simp [zeroRow]
theorem planTo_at {bk : BookD} {k : Nat} (hk : k ≤ bk.trips.length) (h40 : k < 40) : (planTo bk k)[k]? = some zeroRow := by
  unfold planTo
  have hl : ((bk.trips.take k).map (fun t => padRow (startRow t.calls))).length = k := by simp; omega
  rw [List.getElem?_append_right (by rw [hl]; exact Nat.le_refl _), hl, Nat.sub_self, List.getElem?_replicate, if_pos (by omega)]
theorem planTo_succ {bk : BookD} {k : Nat} (hk : k < bk.trips.length) (h40 : k < 40) : (planTo bk k).set k (padRow (startRow bk.trips[k].calls)) = planTo bk (k + 1) := by
  unfold planTo
  have hl : ((bk.trips.take k).map (fun t => padRow (startRow t.calls))).length = k := by simp; omega
  rw [List.set_append_right _ _ (by rw [hl]; exact Nat.le_refl _), hl, Nat.sub_self, take_snoc bk.trips k hk, List.map_append]
  have e : 40 - k = (40 - (k + 1)) + 1 := by omega
  rw [e, List.replicate_succ, List.set_cons_zero]
  simp
theorem padRow_nil : padRow [] = zeroRow := by simp [padRow, zeroRow]
theorem padRow_succ {cs : List CallD} {m : Nat} (h : m < cs.length) (h20 : cs.length ≤ 20) : (padRow (startRow (cs.take m))).set m (startOf cs[m]) = padRow (startRow (cs.take (m + 1))) := by
  have hl : (startRow (cs.take m)).length = m := by simp [startRow]; omega
  have hl' : (startRow (cs.take (m + 1))).length = m + 1 := by simp [startRow]; omega
  unfold padRow
  rw [List.set_append_right _ _ (by rw [hl]; exact Nat.le_refl _), hl, hl', Nat.sub_self, startRow_take cs m h]
  have e : 20 - m = (20 - (m + 1)) + 1 := by omega
  rw [e, List.replicate_succ, List.set_cons_zero]
  simp
theorem padRow_at {cs : List CallD} {m : Nat} (h : m < cs.length) (h20 : cs.length ≤ 20) : (padRow (startRow (cs.take m)))[m]? = some zeroN := by
  have hl : (startRow (cs.take m)).length = m := by simp [startRow]; omega
  unfold padRow
  rw [List.getElem?_append_right (by rw [hl]; exact Nat.le_refl _), hl, Nat.sub_self, List.getElem?_replicate, if_pos (by omega)]

end Go.Proofs.YtjioingdpfgadabGreatDoor
namespace Go.Proofs.YtjioingdpfgadabGreatDoor
open Go Go.RowKit Go.Deep

theorem grid_store {wi : World} {g : Nat} {G : List (List NewsD)} {T : TypeId} (hg : wi.heap[g]? = some (.cells (gridCells G).toArray T (0, 0))) (hG : Grid G) (o : Obj) (i j c : Nat) (u : Value) (x : NewsD) (hi : i < G.length) (hj : j < 20) (hc : c < 5) (hx : newsCells x = (newsCells ((G[i]'hi)[j]'(by rw [hG.at i hi]; exact hj))).set c u) :
    ((wi.setCell ⟨g, i * 100 + j * 5 + c, none⟩ u).alloc o).heap[g]? = some (.cells (gridCells (G.set i (G[i].set j x))).toArray T (0, 0)) := by
  have hlt : g < wi.heap.size := (Array.getElem?_eq_some_iff.1 hg).1
  rw [setCell_eq_setRow _ _ _ _ _ _ _ hg, heap_alloc_old _ _ (by rw [setRow_size]; exact hlt), setRow_heap _ _ _ _ _ _ hg, hG.stored i j c u x hi hj hc hx]
theorem grid_cell {wi : World} {g : Nat} {G : List (List NewsD)} {T : TypeId} (hg : wi.heap[g]? = some (.cells (gridCells G).toArray T (0, 0))) (hG : Grid G) (i j c : Nat) (hi : i < G.length) (hj : j < 20) (hc : c < 5) :
    wi.cell? ⟨g, i * 100 + j * 5 + c, none⟩ = (newsCells ((G[i]'hi)[j]'(by rw [hG.at i hi]; exact hj)))[c]? := by
  rw [cell_of_row _ _ _ _ _ _ hg]
  simp only [List.getElem?_toArray]
  exact hG.cell i j c hi hj hc
theorem set_same {α : Type} (l : List α) (i : Nat) (x : α) (h : l[i]? = some x) : l.set i x = l := by
  apply List.ext_getElem?
  intro j
  rw [List.getElem?_set]
  by_cases e : i = j
  · subst e
    have hi : i < l.length := (List.getElem?_eq_some_iff.1 h).1
    rw [if_pos rfl, if_pos hi, h]
  · rw [if_neg e]

set_option maxRecDepth 100000 in
set_option maxHeartbeats 4000000 in
theorem planned_any (v : Value) (bk : BookD) (w : World) (h40 : bk.trips.length ≤ 40) (h20 : ∀ i (h : i < bk.trips.length), bk.trips[i].calls.length ≤ 20) (hat : BookAt w v bk) :
    Calls Tryz.prog 68 #[v] w fun e w' => e = .returned (.agg (gridCells (planGrid bk)).toArray) ∧ Below w.heap.size w w' := by
  obtain ⟨sa, sc, ta, tc, rfl, hsa, hta⟩ := hat
  have hz := zeroB
  have HZ4 : Hid ((gridCells zeroGrid).toArray.size = 4000) := grid_zero.size
  have HZ0 : Hid ((gridCells (planTo bk 0)).toArray = (gridCells zeroGrid).toArray) := by unfold Hid; rw [planTo_zero]
  generalize hZ : (gridCells zeroGrid).toArray = Z at *
  obtain ⟨W1, hW1⟩ : ∃ W1, (w.alloc (.cells #[.slice sa bk.sts.length sc, .slice ta bk.trips.length tc] 33)).alloc (.cells Z 126) = W1 := ⟨_, rfl⟩
  have hs1 : W1.heap.size = w.heap.size + 1 + 1 := by subst hW1; simp
  have hb1 : Below w.heap.size w W1 := by subst hW1; exact (ibox _ _).alloc (by simp) _
  have q0 : W1.cell? ⟨w.heap.size, 0, none⟩ = some (.slice sa bk.sts.length sc) := by subst hW1; simp [go_sem]
  have q1 : W1.cell? ⟨w.heap.size, 1, none⟩ = some (.slice ta bk.trips.length tc) := by subst hW1; simp [go_sem]
  have HG1 : Hid (W1.heap[w.heap.size + 1]? = some (.cells Z 126 (0, 0))) := by
    have := heap_alloc_last (w.alloc (.cells #[.slice sa bk.sts.length sc, .slice ta bk.trips.length tc] 33)) (.cells Z 126)
    rw [hW1] at this
    have e : (w.alloc (.cells #[.slice sa bk.sts.length sc, .slice ta bk.trips.length tc] 33)).heap.size = w.heap.size + 1 := by simp
    rw [e] at this; exact this
  have HTA : Hid (TripsAt w ta bk.trips) := hta
  have H20 : Hid (∀ i (h : i < bk.trips.length), bk.trips[i].calls.length ≤ 20) := h20
  have hb2 : Below W1.heap.size W1 (W1.alloc (.cells Z 126)) := ibox _ _
  have a0 := cell_keep hb2 q0
  have a1 := cell_keep hb2 q1
  clear hsa hta h20 q0 q1
  go_enter Tryz.func68, Tryz.ntmps68
  go_wp2_with fail
  go_loopw [11] (fun i wr => ∃ k : Nat, k ≤ bk.trips.length ∧ i = .int .i64 k ∧ Hid (wr.heap[w.heap.size + 1 + 1]? = some (.cells (gridCells (planTo bk k)).toArray 126 (0, 0))) ∧ Below W1.heap.size W1 wr) (fun i _ => bk.trips.length - (intOf i).toNat)
  case atStart =>
    refine ⟨0, Nat.zero_le _, rfl, ?_, hb2⟩
    rw [HZ0.out, ← hs1]; exact heap_alloc_last W1 _
  case round =>
    obtain ⟨k, hk, rfl, hgr, hbel⟩ := hrel
    have hB : Below w.heap.size w wr := hb1.trans (hbel.mono hb1.size)
    have hlt3 : w.heap.size + 1 + 1 < wr.heap.size := (Array.getElem?_eq_some_iff.1 hgr.out).1
    clear a0 a1 hz
    by_cases hlt : k < bk.trips.length
    · obtain ⟨b, o, ca, cc, rfl, c0, c1, hca⟩ := HTA.out.keep hB k hlt
      have hnk := H20.out k hlt
      have HCA : Hid (CallsAt w ca bk.trips[k].calls) := by
        obtain ⟨b', o', ca', cc', e', c0', c1', hca'⟩ := HTA.out k hlt
        have := cell_keep hB c1'
        simp only [Option.some.injEq, Addr.mk.injEq] at e'
        obtain ⟨rfl, rfl, _⟩ := e'
        rw [c1] at this
        simp only [Option.some.injEq, Value.slice.injEq] at this
        obtain ⟨rfl, _, _⟩ := this
        exact hca'
      have HGd : Hid (Grid (planTo bk k)) := planTo_grid hk h40 H20.out
      have HP0 : Hid ((planTo bk k).set k (padRow (startRow (bk.trips[k].calls.take 0))) = planTo bk k) := set_same _ _ _ (by rw [planTo_at hk (by omega)]; simp [startRow, padRow_nil])
      have HPS : Hid ((planTo bk k).set k (padRow (startRow bk.trips[k].calls)) = planTo bk (k + 1)) := planTo_succ hlt (by omega)
      have hk0 : (0 : Int) ≤ (k : Int) := by omega
      have hk40 : (k : Int) < 40 := by omega
      have hki : (k : Int) < (bk.trips.length : Int) := by omega
      generalize bk.trips[k] = t at *
      clear hca
      rename World => W2
      go_wp2_with fail
      go_loopw [19] (fun j wi => ∃ m : Nat, m ≤ t.calls.length ∧ j = .int .i64 m ∧ Hid (wi.heap[w.heap.size + 1 + 1]? = some (.cells (gridCells ((planTo bk k).set k (padRow (startRow (t.calls.take m))))).toArray 126 (0, 0))) ∧ Below W1.heap.size W1 wi) (fun j _ => t.calls.length - (intOf j).toNat)
      case atStart =>
        refine ⟨0, Nat.zero_le _, rfl, ?_, hbel.alloc hbel.size _⟩
        rw [HP0.out, heap_alloc_old _ _ hlt3]; exact hgr.out
      case round =>
        obtain ⟨m, hm, rfl, hgi, hbi⟩ := hrel
        have hBi : Below w.heap.size w wr := hb1.trans (hbi.mono hb1.size)
        have hlti : w.heap.size + 1 + 1 < wr.heap.size := (Array.getElem?_eq_some_iff.1 hgi.out).1
        by_cases hlm : m < t.calls.length
        · obtain ⟨b', o', rfl, d0, d1, d2, d3⟩ := HCA.out.keep hBi m hlm
          have hG : Grid ((planTo bk k).set k (padRow (startRow (t.calls.take m)))) := HGd.out.set k _ (padRow_length (by simp [startRow]; omega))
          have hkG : k < ((planTo bk k).set k (padRow (startRow (t.calls.take m)))).length := by rw [hG.len]; omega
          have hm20 : m < 20 := by omega
          have hrow : ((planTo bk k).set k (padRow (startRow (t.calls.take m))))[k]'hkG = padRow (startRow (t.calls.take m)) := List.getElem_set_self _
          have hxm : (((planTo bk k).set k (padRow (startRow (t.calls.take m))))[k]'hkG)[m]'(by rw [hG.at k hkG]; exact hm20) = zeroN := by
            have := padRow_at hlm hnk
            rw [← hrow, List.getElem?_eq_getElem (by rw [hG.at k hkG]; exact hm20)] at this
            exact Option.some.inj this
          have hce : wr.cell? ⟨w.heap.size + 1 + 1, k * 100 + m * 5 + 1, none⟩ = some (.int .i64 0) := by
            rw [grid_cell hgi.out hG k m 1 hkG hm20 (by omega), hxm]; rfl
          have hfr : wr.frozen? ⟨w.heap.size + 1 + 1, k * 100 + m * 5 + 1, none⟩ = false := by simp [World.frozen?, hgi.out]
          have HST : Hid (∀ o, ((wr.setCell ⟨w.heap.size + 1 + 1, k * 100 + m * 5 + 1, none⟩ (.int .i64 t.calls[m].tr)).alloc o).heap[w.heap.size + 1 + 1]? = some (.cells (gridCells ((planTo bk k).set k (padRow (startRow (t.calls.take (m + 1)))))).toArray 126 (0, 0))) := fun o => by
            rw [grid_store hgi.out hG o k m 1 _ (startOf t.calls[m]) hkG hm20 (by omega) (by rw [hxm]; rfl), hrow, List.set_set, padRow_succ hlm hnk]
          have hm0 : (0 : Int) ≤ (m : Int) := by omega
          have hmi : (m : Int) < 20 := by omega
          generalize t.calls[m] = c at *
          clear hG hrow hxm hgi
          go_wp2_with fail
          go_region
          go_wp2_with fail
          go_roundw
          case rel =>
            refine ⟨m + 1, by omega, by go_num, ?_, ?_⟩
            · exact HST.out _
            · refine Below.drew (Below.alloc (Below.setCell hbi ?_ _) ?_ _)
              · show W1.heap.size ≤ w.heap.size + 1 + 1
                omega
              · simpa [World.setCell] using hbi.size
          case measure => simp [intOf]; omega
        · have hm' : m = t.calls.length := by omega
          subst hm'
          have HGf : Hid (wr.heap[w.heap.size + 1 + 1]? = some (.cells (gridCells (planTo bk (k + 1))).toArray 126 (0, 0))) := by
            have := hgi.out
            rw [List.take_length, HPS.out] at this
            exact this
          clear hgi
          go_wp2_with fail
          go_roundw
          case rel => exact ⟨k + 1, by omega, by go_num, HGf, hbi⟩
          case measure => simp [intOf]; omega
    · have hk' : k = bk.trips.length := by omega
      subst hk'
      have HX4 : Hid ((gridCells (planTo bk bk.trips.length)).toArray.size = 4000) := (planTo_grid (Nat.le_refl _) h40 H20.out).size
      have H1 : Hid ((gridCells (planTo bk bk.trips.length)).toArray.all (·.oneCell') = true) := gridCells_one _
      have HX : Hid ((gridCells (planTo bk bk.trips.length)).toArray = (gridCells (planGrid bk)).toArray) := rfl
      generalize (gridCells (planTo bk bk.trips.length)).toArray = X at *
      have HI : Hid ((Tryz.prog.info? 126).map (·.size) = some X.size) := by unfold Hid; rw [HX4.out]; exact sizeB
      have HG2 : Hid (wr.heap[w.heap.size + 1]? = some (.cells Z 126 (0, 0))) := by unfold Hid; rw [hbel.block _ (by rw [hs1]; omega)]; exact HG1.out
      have HS : Hid (Z.size = X.size) := by unfold Hid; rw [HX4.out, HZ4.out]
      go_wp2_with (first
        | (refine wpList_load_row (by rfl) 126 (.tmp 3) (by rfl) (w.heap.size + 1 + 1) (by rfl) 126 X (0, 0) _ hgr.out underB rfl HI.out ?_)
        | (refine wpList_store_row (by rfl) 126 (.tmp 2) (.tmp 33) (by rfl) (w.heap.size + 1) X (by rfl) (by rfl) 126 Z HG2.out HI.out HS.out H1.out ?_))
      refine bodyPost_ret (v := .agg X) ?_ rfl ⟨by rw [HX.out], below_setRow hB _ _ (by omega)⟩
      exact results_cell_row Tryz.results68 _ _ (w.heap.size + 1) 126 X (0, 0) _ rfl (setRow_heap _ _ _ _ _ _ HG2.out) underB rfl HI.out

end Go.Proofs.YtjioingdpfgadabGreatDoor
