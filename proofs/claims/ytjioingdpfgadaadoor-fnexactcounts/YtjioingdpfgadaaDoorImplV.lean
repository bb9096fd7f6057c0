import Derived.Test.YtjioingdpfgadaaDoorProg
import Derived.Test.YtjioingdpfgadaaDoorImplW
namespace Go.Proofs.YtjioingdpfgadaaDoor
open Go Go.RowKit Go.Deep

def zeroN : NewsD := ⟨0, 0, false, false, false⟩
/-- A row with room for all calls that a trip may have. -/
def padRow (ns : List NewsD) : List NewsD := ns ++ List.replicate (20 - ns.length) zeroN
theorem padRow_length {ns : List NewsD} (h : ns.length ≤ 20) : (padRow ns).length = 20 := by simp [padRow]; omega
theorem padRow_get {ns : List NewsD} (i : Nat) (h : i < ns.length) : (padRow ns)[i]? = some ns[i] := by
  unfold padRow; rw [List.getElem?_append_left h, List.getElem?_eq_getElem h]
def zeroRow : List NewsD := List.replicate 20 zeroN
theorem infT : (Tryd.prog.info? 105).map (fun i => (i.zero, i.size)) = some (some (.agg (rowCells zeroRow).toArray), 100) := by kernel_rfl
theorem zeroT : ∀ w, (zeroValue 105).run Tryd.prog w = .ok (.agg (rowCells zeroRow).toArray) w := (zero_of_info infT).1
theorem sizeT : (Tryd.prog.info? 105).map (·.size) = some 100 := (zero_of_info infT).2
theorem underT : Tryd.prog.underlying 105 = some (.array 20 41) := by kernel_rfl
theorem undNw : Tryd.prog.underlying 42 = some (.slice 41) := by kernel_rfl
theorem sizeNw : (Tryd.prog.info? 41).map (·.size) = some 5 := by kernel_rfl

theorem run_copy_wide {P : Program} (w : World) (dT sT ty elem : TypeId) (size g o dLen dCap : Nat) (a : Addr) (sLen sCap n : Nat) (cur : Array Value) (t : TypeId) (cs : List Value)
    (hu : P.underlying dT = some (.slice elem)) (hs : (P.info? elem).map (·.size) = some size)
    (hg : w.heap[g]? = some (.cells cur t (0, 0))) (hmin : Nat.min sLen dLen = n) (hn : cs.length = n * size)
    (hsrc : ∀ j v, cs[j]? = some v → w.cell? (a.add j) = some v) (hfit : o + cs.length ≤ cur.size) (h1 : ∀ v ∈ cs, v.oneCell' = true) :
    (Builtin.copy_ #[dT, sT] ty #[.slice (some ⟨g, o, none⟩) dLen dCap, .slice (some a) sLen sCap]).run P w = .ok (goInt n) (w.setRow g (putAt cur o cs)) := by
  have hl := run_loadCells_list (P := P) w a cs hsrc
  have hst := run_storeCells_mid (P := P) g o t cs 0 cur w hg (by simpa using hfit) h1
  cases hq : P.info? elem with
  | none => simp [hq] at hs
  | some i =>
    have hi : i.size = size := by simpa [hq] using hs
    rw [Nat.add_zero] at hst
    rw [hn] at hl
    simp [Builtin.copy_, run_underlying hu, Builtin.lenOf, Builtin.firstCells, sizeOf, typeInfo, hq, hi, hmin, hl, hst]
theorem wpList_copy_wide {P : Program} {w : World} {ops : Array Oper} {rest : List Oper} {op : Oper} {a : Act} {Q : Exit → Act → World → Prop} (hgd : op.guard = none) (d s : Operand) (t t' : TypeId)
    (ho : op.op = .call { callee := .builtin .copy, args := #[d, s], argTypes := #[t, t'] }) (v u : Value) (hd : a.eval d = v) (hs : a.eval s = u) {v' : Value} {w' : World}
    (hr : (Builtin.copy_ #[t, t'] op.type #[v, u]).run P w = .ok v' w') (h : wpList P ops Q rest (a.put op.dst v') w') : wpList P ops Q (op :: rest) a w :=
  wpList_plain hgd fun _ hK => by
    unfold Oper.wp execOp
    simp only [ho, resolve, invoke, builtin, Sem.run_bind, Sem.run_pure, Result.andThen_ok, List.map_toArray, List.map_cons, List.map_nil, hd, hs, hr]
    exact hK _ _ h

theorem rowCells_append (a b : List NewsD) : rowCells (a ++ b) = rowCells a ++ rowCells b := by simp [rowCells]
theorem put_pad (ns : List NewsD) (h : ns.length ≤ 20) : putAt (rowCells zeroRow).toArray 0 (rowCells ns) = (rowCells (padRow ns)).toArray := by
  have hz : (rowCells zeroRow).length = 100 := by rw [rowCells_length]; rfl
  have hl : (rowCells ns).length = ns.length * 5 := rowCells_length ns
  apply Array.ext_getElem?
  intro j
  rw [putAt_get _ _ _ _ (by simp only [List.size_toArray]; omega)]
  simp only [List.getElem?_toArray, Nat.zero_add, Nat.zero_le, true_and, Nat.sub_zero]
  have e : rowCells (padRow ns) = rowCells ns ++ rowCells (List.replicate (20 - ns.length) zeroN) := rowCells_append _ _
  have e0 : rowCells zeroRow = rowCells (List.replicate ns.length zeroN) ++ rowCells (List.replicate (20 - ns.length) zeroN) := by
    rw [← rowCells_append, List.replicate_append_replicate]
    have : ns.length + (20 - ns.length) = 20 := by omega
    rw [this]; rfl
  have hr : (rowCells (List.replicate ns.length zeroN)).length = ns.length * 5 := by rw [rowCells_length]; simp
  rw [e]
  by_cases hj : j < (rowCells ns).length
  · rw [if_pos hj, List.getElem?_append_left hj]
  · rw [if_neg hj, e0, List.getElem?_append_right (by omega), List.getElem?_append_right (by omega), hr, hl]

/-- Cells of news, as a source. -/
theorem NewsAt.src {w : World} {b o : Nat} {ns : List NewsD} (h : NewsAt w (some ⟨b, o, none⟩) ns) : ∀ j v, (rowCells ns)[j]? = some v → w.cell? ⟨b, o + j, none⟩ = some v := by
  intro j v hv
  have hj : j < ns.length * 5 := by rw [← rowCells_length]; exact (List.getElem?_eq_some_iff.1 hv).1
  have hq : j / 5 < ns.length := by omega
  have hr : j % 5 < 5 := by omega
  have hdm : j / 5 * 5 + j % 5 = j := by omega
  obtain ⟨b', o', e, c0, c1, c2, c3, c4⟩ := h (j / 5) hq
  simp only [Option.some.injEq, Addr.mk.injEq] at e
  obtain ⟨rfl, rfl, _⟩ := e
  have hg := rowCells_get ns (j / 5) (j % 5) hq hr
  rw [hdm, hv] at hg
  have : j % 5 = 0 ∨ j % 5 = 1 ∨ j % 5 = 2 ∨ j % 5 = 3 ∨ j % 5 = 4 := by omega
  rcases this with r | r | r | r | r
  · rw [r] at hg hdm; simp [newsCells] at hg; rw [← hdm, Nat.add_zero, c0, hg]
  · rw [r] at hg hdm; simp [newsCells] at hg; rw [← hdm, ← Nat.add_assoc, c1, hg]
  · rw [r] at hg hdm; simp [newsCells] at hg; rw [← hdm, ← Nat.add_assoc, c2, hg]
  · rw [r] at hg hdm; simp [newsCells] at hg; rw [← hdm, ← Nat.add_assoc, c3, hg]
  · rw [r] at hg hdm; simp [newsCells] at hg; rw [← hdm, ← Nat.add_assoc, c4, hg]

set_option maxRecDepth 100000 in
set_option maxHeartbeats 2000000 in
theorem copyRow_any (a : Option Addr) (c : Nat) (ns : List NewsD) (w : World) (h0 : 0 < ns.length) (hn : ns.length ≤ 20) (hat : NewsAt w a ns) :
    Calls Tryd.prog 80 #[.slice a ns.length c] w fun e w' => e = .returned (.agg (rowCells (padRow ns)).toArray) ∧ Below w.heap.size w w' := by
  obtain ⟨b, o, rfl, _⟩ := hat 0 h0
  have hz := zeroT
  have hlz : (rowCells zeroRow).toArray.size = 100 := by simp only [List.size_toArray]; rw [rowCells_length]; rfl
  have hlp : (rowCells (padRow ns)).toArray.size = 100 := by simp only [List.size_toArray]; rw [rowCells_length, padRow_length hn]
  have HP : Hid (putAt (rowCells zeroRow).toArray 0 (rowCells ns) = (rowCells (padRow ns)).toArray) := put_pad ns hn
  have H1 : Hid ((rowCells (padRow ns)).toArray.all (·.oneCell') = true) := by unfold Hid; rw [Array.all_eq_true_iff_forall_mem]; intro x hx; exact rowCells_one _ x (by simpa using hx)
  have HI : Hid ((Tryd.prog.info? 105).map (·.size) = some (rowCells (padRow ns)).toArray.size) := by unfold Hid; rw [hlp]; exact sizeT
  generalize hZ : (rowCells zeroRow).toArray = Z at *
  generalize hX : (rowCells (padRow ns)).toArray = X at *
  obtain ⟨W1, hW1⟩ : ∃ W1, w.alloc (.cells Z 105) = W1 := ⟨_, rfl⟩
  have hb1 : Below w.heap.size w W1 := by subst hW1; exact ibox _ _
  have hs1 : W1.heap.size = w.heap.size + 1 := by subst hW1; simp
  have HR : Hid ((Builtin.copy_ #[42, 42] 3 #[.slice (some ⟨W1.heap.size, 0, none⟩) 20 20, .slice (some ⟨b, o, none⟩) ns.length c]).run Tryd.prog (W1.alloc (.cells Z 105)) = .ok (goInt ns.length) (W1.alloc (.cells X 105))) := by
    unfold Hid
    rw [run_copy_wide (P := Tryd.prog) (W1.alloc (.cells Z 105)) 42 42 3 41 5 W1.heap.size 0 20 20 ⟨b, o, none⟩ ns.length c ns.length Z 105 (rowCells ns) undNw sizeNw (heap_alloc_last W1 _) (Nat.min_eq_left hn) (rowCells_length ns) ?_ (by rw [rowCells_length, hlz]; omega) (rowCells_one ns), HP.out, World.setRow_alloc_new]
    intro j v hv
    have hadd : (⟨b, o, none⟩ : Addr).add j = ⟨b, o + j, none⟩ := by unfold Addr.add; split <;> simp_all
    rw [hadd]
    exact (hat.keep (hb1.trans (ibox W1 _ |>.mono hb1.size))).src j v hv
  go_enter Tryd.func80, Tryd.ntmps80
  go_wp2_with fail
  rw [← hs1, HR.out]
  have HG : Hid ((W1.alloc (.cells X 105)).heap[W1.heap.size]? = some (.cells X 105 (0, 0))) := heap_alloc_last W1 _
  have HG0 : Hid ((W1.alloc (.cells X 105)).heap[w.heap.size]? = some (.cells Z 105 (0, 0))) := by
    unfold Hid; rw [heap_alloc_old _ _ (by omega), ← hW1]; exact heap_alloc_last w _
  have HS : Hid (Z.size = X.size) := by unfold Hid; omega
  have hBf : Below w.heap.size w (W1.alloc (.cells X 105)) := hb1.alloc hb1.size _
  clear hz hlz hlp HP hW1 hb1 hs1 HR hat
  go_wp2_with (first
    | (refine wpList_load_row (by rfl) 105 (.tmp 3) (by rfl) W1.heap.size (by rfl) 105 X (0, 0) _ HG.out underT rfl HI.out ?_)
    | (refine wpList_store_row (by rfl) 105 (.tmp 2) (.tmp 7) (by rfl) w.heap.size X (by rfl) (by rfl) 105 Z HG0.out HI.out HS.out H1.out ?_))
  refine bodyPost_ret (v := .agg X) ?_ rfl ⟨rfl, below_setRow hBf _ _ (Nat.le_refl _)⟩
  exact results_cell_row Tryd.results80 _ _ w.heap.size 105 X (0, 0) _ rfl (setRow_heap _ _ _ _ _ _ HG0.out) underT rfl HI.out

end Go.Proofs.YtjioingdpfgadaaDoor
