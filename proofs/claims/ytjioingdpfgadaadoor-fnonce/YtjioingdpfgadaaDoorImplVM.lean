import Derived.Test.YtjioingdpfgadaaDoorProg
import Derived.Test.YtjioingdpfgadaaDoorImplHM
import Derived.Test.YtjioingdpfgadaaDoorSpecNM
import Derived.BigRegion
import Derived.Lib.SliceRun
namespace Go.Proofs.YtjioingdpfgadaaDoor
open Go Go.RowKit Go.Deep

def zeroN : NewsD := ⟨0, 0, false, false, false⟩
/-- A row with room for all calls that a trip may have. -/
def padRow (ns : List NewsD) : List NewsD := ns ++ List.replicate (20 - ns.length) zeroN
theorem padRow_length {ns : List NewsD} (h : ns.length ≤ 20) : (padRow ns).length = 20 := by simp [padRow]; omega
theorem padRow_get {ns : List NewsD} (i : Nat) (h : i < ns.length) : (padRow ns)[i]? = some ns[i] := by
  unfold padRow; rw [List.getElem?_append_left h, List.getElem?_eq_getElem h]
def zeroRow : List NewsD := List.replicate 20 zeroN
theorem infT : (Tryd.prog.info? 105).map (fun i => (i.zero, i.size)) = some (some (.agg (rowCells zeroRow).toArray), 100) := by kernel_rfl
theorem zeroT : ∀ w, (zeroValue 105).run Tryd.prog w = .ok (.agg (rowCells zeroRow).toArray) w := (zero_of_info infT).1
theorem sizeT : (Tryd.prog.info? 105).map (·.size) = some 100 := (zero_of_info infT).2
theorem underT : Tryd.prog.underlying 105 = some (.array 20 41) := by kernel_rfl
theorem undNw : Tryd.prog.underlying 42 = some (.slice 41) := by kernel_rfl
theorem sizeNw : (Tryd.prog.info? 41).map (·.size) = some 5 := by kernel_rfl

theorem run_copy_wide {P : Program} (w : World) (dT sT ty elem : TypeId) (size g o dLen dCap : Nat) (a : Addr) (sLen sCap n : Nat) (cur : Array Value) (t : TypeId) (cs : List Value)
    (hu : P.underlying dT = some (.slice elem)) (hs : (P.info? elem).map (·.size) = some size)
    (hg : w.heap[g]? = some (.cells cur t (0, 0))) (hmin : Nat.min sLen dLen = n) (hn : cs.length = n * size)
    (hsrc : ∀ j v, cs[j]? = some v → w.cell? (a.add j) = some v) (hfit : o + cs.length ≤ cur.size) (h1 : ∀ v ∈ cs, v.oneCell' = true) :
    (Builtin.copy_ #[dT, sT] ty #[.slice (some ⟨g, o, none⟩) dLen dCap, .slice (some a) sLen sCap]).run P w = .ok (goInt n) (w.setRow g (putAt cur o cs)) := by
  have hl := run_loadCells_list (P := P) w a cs hsrc
  have hst := run_storeCells_mid (P := P) g o t cs 0 cur w hg (by simpa using hfit) h1
  cases hq : P.info? elem with
  | none => simp [hq] at hs
  | some i =>
    have hi : i.size = size := by simpa [hq] using hs
    rw [Nat.add_zero] at hst
    rw [hn] at hl
    simp [Builtin.copy_, run_underlying hu, Builtin.lenOf, Builtin.firstCells, sizeOf, typeInfo, hq, hi, hmin, hl, hst]
theorem wpList_copy_wide {P : Program} {w : World} {ops : Array Oper} {rest : List Oper} {op : Oper} {a : Act} {Q : Exit → Act → World → Prop} (hgd : op.guard = none) (d s : Operand) (t t' : TypeId)
    (ho : op.op = .call { callee := .builtin .copy, args := #[d, s], argTypes := #[t, t'] }) (v u : Value) (hd : a.eval d = v) (hs : a.eval s = u) {v' : Value} {w' : World}
    (hr : (Builtin.copy_ #[t, t'] op.type #[v, u]).run P w = .ok v' w') (h : wpList P ops Q rest (a.put op.dst v') w') : wpList P ops Q (op :: rest) a w :=
  wpList_plain hgd fun _ hK => by
    unfold Oper.wp execOp
    simp only [ho, resolve, invoke, builtin, Sem.run_bind, Sem.run_pure, Result.andThen_ok, List.map_toArray, List.map_cons, List.map_nil, hd, hs, hr]
    exact hK _ _ h

theorem rowCells_append (a b : List NewsD) : rowCells (a ++ b) = rowCells a ++ rowCells b := by simp [rowCells]
theorem put_pad (ns : List NewsD) (h : ns.length ≤ 20) : putAt (rowCells zeroRow).toArray 0 (rowCells ns) = (rowCells (padRow ns)).toArray := by
  have hz : (rowCells zeroRow).length = 100 := by rw [rowCells_length]; rfl
  have hl : (rowCells ns).length = ns.length * 5 := rowCells_length ns
  apply Array.ext_getElem?
  intro j
  rw [putAt_get _ _ _ _ (by simp only [List.size_toArray]; omega)]
  simp only [List.getElem?_toArray, Nat.zero_add, Nat.zero_le, true_and, Nat.sub_zero]
  have e : rowCells (padRow ns) = rowCells ns ++ rowCells (List.replicate (20 - ns.length) zeroN) := rowCells_append _ _
  have e0 : rowCells zeroRow = rowCells (List.replicate ns.length zeroN) ++ rowCells (List.replicate (20 - ns.length) zeroN) := by
    rw [← rowCells_append, List.replicate_append_replicate]
    have : ns.length + (20 - ns.length) = 20 := by omega
    rw [this]; rfl
  have hr : (rowCells (List.replicate ns.length zeroN)).length = ns.length * 5 := by rw [rowCells_length]; simp
  rw [e]
  by_cases hj : j < (rowCells ns).length
  · rw [if_pos hj, List.getElem?_append_left hj]
  · rw [if_neg hj, e0, List.getElem?_append_right (by omega), List.getElem?_append_right (by omega), hr, hl]

/-- Cells of news, as a source. -/
theorem NewsAt.src {w : World} {b o : Nat} {ns : List NewsD} (h : NewsAt w (some ⟨b, o, none⟩) ns) : ∀ j v, (rowCells ns)[j]? = some v → w.cell? ⟨b, o + j, none⟩ = some v := by
  intro j v hv
  have hj : j < ns.length * 5 := by rw [← rowCells_length]; exact (List.getElem?_eq_some_iff.1 hv).1
  have hq : j / 5 < ns.length := by omega
  have hr : j % 5 < 5 := by omega
  have hdm : j / 5 * 5 + j % 5 = j := by omega
  obtain ⟨b', o', e, c0, c1, c2, c3, c4⟩ := h (j / 5) hq
  simp only [Option.some.injEq, Addr.mk.injEq] at e
  obtain ⟨rfl, rfl, _⟩ := e
  have hg := rowCells_get ns (j / 5) (j % 5) hq hr
  rw [hdm, hv] at hg
  have : j % 5 = 0 ∨ j % 5 = 1 ∨ j % 5 = 2 ∨ j % 5 = 3 ∨ j % 5 = 4 := by omega
  rcases this with r | r | r | r | r
  · rw [r] at hg hdm; simp [newsCells] at hg; rw [← hdm, Nat.add_zero, c0, hg]
  · rw [r] at hg hdm; simp [newsCells] at hg; rw [← hdm, ← Nat.add_assoc, c1, hg]
  · rw [r] at hg hdm; simp [newsCells] at hg; rw [← hdm, ← Nat.add_assoc, c2, hg]
  · rw [r] at hg hdm; simp [newsCells] at hg; rw [← hdm, ← Nat.add_assoc, c3, hg]
  · rw [r] at hg hdm; simp [newsCells] at hg; rw [← hdm, ← Nat.add_assoc, c4, hg]

set_option maxRecDepth 100000 in
set_option maxHeartbeats 2000000 in
theorem copyRow_any (a : Option Addr) (c : Nat) (ns : List NewsD) (w : World) (h0 : 0 < ns.length) (hn : ns.length ≤ 20) (hat : NewsAt w a ns) :
    Calls Tryd.prog 80 #[.slice a ns.length c] w fun e w' => e = .returned (.agg (rowCells (padRow ns)).toArray) ∧ Below w.heap.size w w' := by
  obtain ⟨b, o, rfl, _⟩ := hat 0 h0
  have hz := zeroT
  have hlz : (rowCells zeroRow).toArray.size = 100 := by simp only [List.size_toArray]; rw [rowCells_length]; rfl
  have hlp : (rowCells (padRow ns)).toArray.size = 100 := by simp only [List.size_toArray]; rw [rowCells_length, padRow_length hn]
  have HP : Hid (putAt (rowCells zeroRow).toArray 0 (rowCells ns) = (rowCells (padRow ns)).toArray) := put_pad ns hn
  have H1 : Hid ((rowCells (padRow ns)).toArray.all (·.oneCell') = true) := by unfold Hid; rw [Array.all_eq_true_iff_forall_mem]; intro x hx; exact rowCells_one _ x (by simpa using hx)
  have HI : Hid ((Tryd.prog.info? 105).map (·.size) = some (rowCells (padRow ns)).toArray.size) := by unfold Hid; rw [hlp]; exact sizeT
  generalize hZ : (rowCells zeroRow).toArray = Z at *
  generalize hX : (rowCells (padRow ns)).toArray = X at *
  obtain ⟨W1, hW1⟩ : ∃ W1, w.alloc (.cells Z 105) = W1 := ⟨_, rfl⟩
  have hb1 : Below w.heap.size w W1 := by subst hW1; exact ibox _ _
  have hs1 : W1.heap.size = w.heap.size + 1 := by subst hW1; simp
  have HR : Hid ((Builtin.copy_ #[42, 42] 3 #[.slice (some ⟨W1.heap.size, 0, none⟩) 20 20, .slice (some ⟨b, o, none⟩) ns.length c]).run Tryd.prog (W1.alloc (.cells Z 105)) = .ok (goInt ns.length) (W1.alloc (.cells X 105))) := by
    unfold Hid
    rw [run_copy_wide (P := Tryd.prog) (W1.alloc (.cells Z 105)) 42 42 3 41 5 W1.heap.size 0 20 20 ⟨b, o, none⟩ ns.length c ns.length Z 105 (rowCells ns) undNw sizeNw (heap_alloc_last W1 _) (Nat.min_eq_left hn) (rowCells_length ns) ?_ (by rw [rowCells_length, hlz]; omega) (rowCells_one ns), HP.out, World.setRow_alloc_new]
    intro j v hv
    have hadd : (⟨b, o, none⟩ : Addr).add j = ⟨b, o + j, none⟩ := by unfold Addr.add; split <;> simp_all
    rw [hadd]
    exact (hat.keep (hb1.trans (ibox W1 _ |>.mono hb1.size))).src j v hv
  go_enter Tryd.func80, Tryd.ntmps80
  go_wp2_with fail
  rw [← hs1, HR.out]
  have HG : Hid ((W1.alloc (.cells X 105)).heap[W1.heap.size]? = some (.cells X 105 (0, 0))) := heap_alloc_last W1 _
  have HG0 : Hid ((W1.alloc (.cells X 105)).heap[w.heap.size]? = some (.cells Z 105 (0, 0))) := by
    unfold Hid; rw [heap_alloc_old _ _ (by omega), ← hW1]; exact heap_alloc_last w _
  have HS : Hid (Z.size = X.size) := by unfold Hid; omega
  have hBf : Below w.heap.size w (W1.alloc (.cells X 105)) := hb1.alloc hb1.size _
  clear hz hlz hlp HP hW1 hb1 hs1 HR hat
  go_wp2_with (first
    | (refine wpList_load_row (by rfl) 105 (.tmp 3) (by rfl) W1.heap.size (by rfl) 105 X (0, 0) _ HG.out underT rfl HI.out ?_)
    | (refine wpList_store_row (by rfl) 105 (.tmp 2) (.tmp 7) (by rfl) w.heap.size X (by rfl) (by rfl) 105 Z HG0.out HI.out HS.out H1.out ?_))
  refine bodyPost_ret (v := .agg X) ?_ rfl ⟨rfl, below_setRow hBf _ _ (Nat.le_refl _)⟩
  exact results_cell_row Tryd.results80 _ _ w.heap.size 105 X (0, 0) _ rfl (setRow_heap _ _ _ _ _ _ HG0.out) underT rfl HI.out

end Go.Proofs.YtjioingdpfgadaaDoor
namespace Go.Proofs.YtjioingdpfgadaaDoor
open Go Go.RowKit Go.Deep

/-- One cell of lists of one length laid one behind the other. -/
theorem flat_set {α : Type} (f : α → List Value) (m : Nat) : ∀ (l : List α), (∀ x ∈ l, (f x).length = m) → ∀ i c (u : Value) (y : α) (h : i < l.length), c < m → f y = (f l[i]).set c u → (l.flatMap f).set (i * m + c) u = (l.set i y).flatMap f
  | [], _, i, c, u, y, h, _, _ => by simp at h
  | a :: l, hm, i, c, u, y, h, hc, hy => by
    have ha : (f a).length = m := hm a (by simp)
    cases i with
    | zero =>
      rw [List.set_cons_zero, List.flatMap_cons, List.flatMap_cons, Nat.zero_mul, Nat.zero_add, List.set_append_left _ _ (by omega)]
      simp at hy
      rw [hy]
    | succ i =>
      rw [List.set_cons_succ, List.flatMap_cons, List.flatMap_cons, List.set_append_right _ _ (by rw [ha, Nat.succ_mul]; omega), ha]
      have : (i + 1) * m + c - m = i * m + c := by rw [Nat.succ_mul]; omega
      rw [this, flat_set f m l (fun x hx => hm x (by simp [hx])) i c u y (by simpa using h) hc (by simpa using hy)]

/-- All rows have room for twenty calls, and there is room for forty trips. -/
structure Grid (G : List (List NewsD)) : Prop where
  len : G.length = 40
  row : ∀ ns ∈ G, ns.length = 20
theorem Grid.cells {G : List (List NewsD)} (h : Grid G) : ∀ ns ∈ G, (rowCells ns).length = 100 := fun ns hn => by rw [rowCells_length, h.row ns hn]
theorem Grid.size {G : List (List NewsD)} (h : Grid G) : (gridCells G).toArray.size = 4000 := by
  simp only [List.size_toArray, gridCells]; rw [flat_length rowCells 100 G h.cells, h.len]
theorem Grid.set {G : List (List NewsD)} (h : Grid G) (i : Nat) (ns : List NewsD) (hn : ns.length = 20) : Grid (G.set i ns) :=
  ⟨by rw [List.length_set]; exact h.len, fun x hx => by
    rcases List.mem_or_eq_of_mem_set hx with h1 | h1
    · exact h.row x h1
    · rw [h1]; exact hn⟩
theorem Grid.at {G : List (List NewsD)} (h : Grid G) (i : Nat) (hi : i < G.length) : G[i].length = 20 := h.row _ (List.getElem_mem hi)
theorem Grid.cell {G : List (List NewsD)} (h : Grid G) (i j c : Nat) (hi : i < G.length) (hj : j < 20) (hc : c < 5) : (gridCells G)[i * 100 + j * 5 + c]? = (newsCells ((G[i]'hi)[j]'(by rw [h.at i hi]; exact hj)))[c]? := by
  have e : i * 100 + j * 5 + c = i * 100 + (j * 5 + c) := by omega
  rw [e]
  unfold gridCells
  rw [flat_get rowCells 100 G h.cells i (j * 5 + c) hi (by omega), rowCells_get _ j c (by rw [h.at i hi]; exact hj) hc]
theorem Grid.stored {G : List (List NewsD)} (h : Grid G) (i j c : Nat) (u : Value) (x : NewsD) (hi : i < G.length) (hj : j < 20) (hc : c < 5) (hx : newsCells x = (newsCells ((G[i]'hi)[j]'(by rw [h.at i hi]; exact hj))).set c u) :
    (gridCells G).toArray.setIfInBounds (i * 100 + j * 5 + c) u = (gridCells (G.set i (G[i].set j x))).toArray := by
  have e : i * 100 + j * 5 + c = i * 100 + (j * 5 + c) := by omega
  rw [e]
  apply Array.ext'
  simp only [Array.toList_setIfInBounds]
  exact flat_set rowCells 100 G h.cells i (j * 5 + c) u (G[i].set j x) hi (by omega) (rowCells_set G[i] j c u x (by rw [h.at i hi]; exact hj) hc hx).symm

def zeroGrid : List (List NewsD) := List.replicate 40 zeroRow
theorem grid_zero : Grid zeroGrid := ⟨by simp [zeroGrid], fun ns hn => by rw [List.eq_of_mem_replicate hn]; simp [zeroRow]⟩
theorem infB : (Tryd.prog.info? 107).map (fun i => (i.zero, i.size)) = some (some (.agg (gridCells zeroGrid).toArray), 4000) := by kernel_rfl
theorem zeroB : ∀ w, (zeroValue 107).run Tryd.prog w = .ok (.agg (gridCells zeroGrid).toArray) w := (zero_of_info infB).1
theorem sizeB : (Tryd.prog.info? 107).map (·.size) = some 4000 := (zero_of_info infB).2
theorem underB : Tryd.prog.underlying 107 = some (.array 40 105) := by kernel_rfl
theorem gridCells_one (G : List (List NewsD)) : (gridCells G).toArray.all (·.oneCell') = true := by
  rw [Array.all_eq_true_iff_forall_mem]
  intro x hx
  obtain ⟨ns, _, h⟩ := List.mem_flatMap.1 (show x ∈ gridCells G by simpa using hx)
  exact rowCells_one ns x h

/-- What is planned of the first k trips. -/
def planTo (bk : BookD) (k : Nat) : List (List NewsD) := (bk.trips.take k).map (fun t => padRow (startRow t.calls)) ++ List.replicate (40 - k) zeroRow
def planGrid (bk : BookD) : List (List NewsD) := planTo bk bk.trips.length
theorem planTo_zero (bk : BookD) : planTo bk 0 = zeroGrid := by simp [planTo, zeroGrid]
theorem planTo_grid {bk : BookD} {k : Nat} (hk : k ≤ bk.trips.length) (h40 : bk.trips.length ≤ 40) (h20 : ∀ i (h : i < bk.trips.length), bk.trips[i].calls.length ≤ 20) : Grid (planTo bk k) := by
  refine ⟨by simp [planTo]; omega, fun ns hn => ?_⟩
  rcases List.mem_append.1 hn with h | h
  · obtain ⟨t, ht, rfl⟩ := List.mem_map.1 h
    obtain ⟨i, hi, e⟩ := List.getElem_of_mem (List.mem_of_mem_take ht)
    refine padRow_length ?_
    rw [← e]; simpa [startRow] using h20 i hi
  · rw [List.eq_of_mem_replicate h]; simp [zeroRow]
theorem planTo_at {bk : BookD} {k : Nat} (hk : k ≤ bk.trips.length) (h40 : k < 40) : (planTo bk k)[k]? = some zeroRow := by
  unfold planTo
  have hl : ((bk.trips.take k).map (fun t => padRow (startRow t.calls))).length = k := by simp; omega
  rw [List.getElem?_append_right (by rw [hl]; exact Nat.le_refl _), hl, Nat.sub_self, List.getElem?_replicate, if_pos (by omega)]
theorem planTo_succ {bk : BookD} {k : Nat} (hk : k < bk.trips.length) (h40 : k < 40) : (planTo bk k).set k (padRow (startRow bk.trips[k].calls)) = planTo bk (k + 1) := by
  unfold planTo
  have hl : ((bk.trips.take k).map (fun t => padRow (startRow t.calls))).length = k := by simp; omega
  rw [List.set_append_right _ _ (by rw [hl]; exact Nat.le_refl _), hl, Nat.sub_self, take_snoc bk.trips k hk, List.map_append]
  have e : 40 - k = (40 - (k + 1)) + 1 := by omega
  rw [e, List.replicate_succ, List.set_cons_zero]
  simp
theorem padRow_nil : padRow [] = zeroRow := by simp [padRow, zeroRow]
theorem padRow_succ {cs : List CallD} {m : Nat} (h : m < cs.length) (h20 : cs.length ≤ 20) : (padRow (startRow (cs.take m))).set m (startOf cs[m]) = padRow (startRow (cs.take (m + 1))) := by
  have hl : (startRow (cs.take m)).length = m := by simp [startRow]; omega
  have hl' : (startRow (cs.take (m + 1))).length = m + 1 := by simp [startRow]; omega
  unfold padRow
  rw [List.set_append_right _ _ (by rw [hl]; exact Nat.le_refl _), hl, hl', Nat.sub_self, startRow_take cs m h]
  have e : 20 - m = (20 - (m + 1)) + 1 := by omega
  rw [e, List.replicate_succ, List.set_cons_zero]
  simp
theorem padRow_at {cs : List CallD} {m : Nat} (h : m < cs.length) (h20 : cs.length ≤ 20) : (padRow (startRow (cs.take m)))[m]? = some zeroN := by
  have hl : (startRow (cs.take m)).length = m := by simp [startRow]; omega
  unfold padRow
  rw [List.getElem?_append_right (by rw [hl]; exact Nat.le_refl _), hl, Nat.sub_self, List.getElem?_replicate, if_pos (by omega)]

end Go.Proofs.YtjioingdpfgadaaDoor
namespace Go.Proofs.YtjioingdpfgadaaDoor
open Go Go.RowKit Go.Deep

set_option maxRecDepth 100000 in
set_option maxHeartbeats 1000000 in
theorem clone_any (b o n c : Nat) (ns : List NewsD) (w : World) (hl : ns.length = n) (h0 : 0 < n) (hn : n ≤ 20) (hc : ∀ j u, (rowCells ns)[j]? = some u → w.cell? ⟨b, o + j, none⟩ = some u) :
    Calls Tryd.prog 91 #[.slice (some ⟨b, o, none⟩) n c] w fun e w' => ∃ g cap, e = .returned (.slice (some ⟨g, 0, none⟩) n cap) ∧ w'.ownsRow w.heap.size 41 5 (.slice (some ⟨g, 0, none⟩) n cap) n (rowCells ns) ∧ Below w.heap.size w w' := by
  have q22 : ∀ (w : World) (a : Option Addr) (n c n' c' : Nat), (binOp .eql 42 (.slice a n c) (.slice none n' c')).run Tryd.prog w = .ok (.bool a.isNone) w := fun w a n c n' c' => Lib.run_eql_slice_nil w _ _ a n c n' c' uNw
  obtain ⟨i0, hi0, he0⟩ := Option.map_eq_some_iff.1 infNw
  simp only [Prod.mk.injEq] at he0
  have HI0 : Hid (i0.zero = some (.agg #[.int .i64 0, .int .i64 0, .bool false, .bool false, .bool false]) ∧ i0.size = 5 ∧ i0.bytes = 24) := he0
  have HJ0 : Hid (Tryd.prog.info? 41 = some i0) := hi0
  have HC : Hid (∀ j u, (rowCells ns)[j]? = some u → w.cell? ⟨b, o + j, none⟩ = some u) := hc
  have HR1 : Hid ((rowCells ns).length = n * 5) := by unfold Hid; rw [rowCells_length, hl]
  clear hi0 he0 hc hl
  go_enter Tryd.func91, Tryd.ntmps91
  go_wp2_with (at_builtin; refine wpList_append_own_at _ rfl _ _ 42 rfl w.heap.size 41 i0 (.agg #[.int .i64 0, .int .i64 0, .bool false, .bool false, .bool false]) 5 24 uNw HJ0.out HI0.out.1 HI0.out.2.1 HI0.out.2.2 rfl (by decide) _ _ _ rfl (World.ownsRow_made w #[] 0 (Nat.le_refl _) (Nat.zero_le _) (by simp)) ⟨b, o, none⟩ n c (rowCells ns) rfl HR1.out ?qc2 (rowCells_one ns) ?qc4 ?qc5 ?qc6 ?_)
  case qc2 =>
    intro j u hj
    have hadd : (⟨b, o, none⟩ : Addr).add j = ⟨b, o + j, none⟩ := by unfold Addr.add; split <;> simp_all
    rw [hadd]
    exact cell_keep (ibox w _) (HC.out j u hj)
  case qc4 => unfold maxLen; omega
  case qc5 => omega
  case qc6 => simp
  intro v' w1 hown hgrow _ _
  have hown' : w1.ownsRow w.heap.size 41 5 v' n (rowCells ns) := by simpa using hown
  have hbf : Below w.heap.size w w1 := ((Below.refl _ w).alloc (Nat.le_refl _) _).grown hgrow (by simp) (by intro k hk; simp [Value.ownBlock] at hk; omega)
  rcases hown'.2 with ⟨_, e0⟩ | ⟨g, cap, cur, rfl, _⟩
  · omega
  · have HO : Hid (w1.ownsRow w.heap.size 41 5 (.slice (some ⟨g, 0, none⟩) n cap) n (rowCells ns)) := hown'
    clear hown hown' hgrow
    go_wp2
    go_ret
    exact ⟨g, cap, rfl, HO.out, hbf⟩

end Go.Proofs.YtjioingdpfgadaaDoor
