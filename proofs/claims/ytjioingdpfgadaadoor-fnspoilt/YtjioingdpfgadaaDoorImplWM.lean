import Derived.Test.YtjioingdpfgadaaDoorProg
import Derived.Test.YtjioingdpfgadaaDoorImplHM
import Derived.Test.YtjioingdpfgadaaDoorArrM
import Derived.Test.YtjioingdpfgadaaDoorSpecRM
import Derived.Test.YtjioingdpfgadaaDoorSpecNM
import Derived.BigRegion
namespace Go.Proofs.YtjioingdpfgadaaDoor
open Go Go.RowKit Go.Deep

theorem mLate (t c l n : Value) (w : World) : (Go.method 376 155 (.agg #[t, c, l, n]) "loop.example/tannoy/impl.where").run Tryd.prog w = .ok (167, .agg #[t, c, l]) w := by kernel_rfl
theorem mTrack (t c l n : Value) (w : World) : (Go.method 376 157 (.agg #[t, c, l, n]) "loop.example/tannoy/impl.where").run Tryd.prog w = .ok (167, .agg #[t, c, l]) w := by kernel_rfl
theorem mStop (t c l : Value) (w : World) : (Go.method 376 159 (.agg #[t, c, l]) "loop.example/tannoy/impl.where").run Tryd.prog w = .ok (167, .agg #[t, c, l]) w := by kernel_rfl
theorem mHere (t c l : Value) (w : World) : (Go.method 376 160 (.agg #[t, c, l]) "loop.example/tannoy/impl.where").run Tryd.prog w = .ok (167, .agg #[t, c, l]) w := by kernel_rfl
theorem mGone (t c l : Value) (w : World) : (Go.method 376 161 (.agg #[t, c, l]) "loop.example/tannoy/impl.where").run Tryd.prog w = .ok (167, .agg #[t, c, l]) w := by kernel_rfl
theorem nLate (t c l n : Value) (w : World) : (Go.nilAhead 376 155 (.agg #[t, c, l, n]) "loop.example/tannoy/impl.where").run Tryd.prog w = .ok (some false) w := by kernel_rfl
theorem nTrack (t c l n : Value) (w : World) : (Go.nilAhead 376 157 (.agg #[t, c, l, n]) "loop.example/tannoy/impl.where").run Tryd.prog w = .ok (some false) w := by kernel_rfl
theorem nStop (t c l : Value) (w : World) : (Go.nilAhead 376 159 (.agg #[t, c, l]) "loop.example/tannoy/impl.where").run Tryd.prog w = .ok (some false) w := by kernel_rfl
theorem nHere (t c l : Value) (w : World) : (Go.nilAhead 376 160 (.agg #[t, c, l]) "loop.example/tannoy/impl.where").run Tryd.prog w = .ok (some false) w := by kernel_rfl
theorem nGone (t c l : Value) (w : World) : (Go.nilAhead 376 161 (.agg #[t, c, l]) "loop.example/tannoy/impl.where").run Tryd.prog w = .ok (some false) w := by kernel_rfl

theorem fld0 (t c l : Value) (w : World) : (Instr.field 112 (.agg #[t, c, l]) 0).run Tryd.prog w = .ok t w := by kernel_rfl
theorem fld1 (t c l : Value) (w : World) : (Instr.field 112 (.agg #[t, c, l]) 1).run Tryd.prog w = .ok c w := by kernel_rfl

theorem ta11 (v : Value) (w : World) : (Instr.typeAssert (.iface 155 v) 110 155 true).run Tryd.prog w = .ok (.tuple #[v, .bool true]) w := by kernel_rfl
theorem ta21 (v : Value) (w : World) : (Instr.typeAssert (.iface 157 v) 110 155 true).run Tryd.prog w = .ok (.tuple #[.agg #[.int .i64 0, .int .i64 0, .bool false, .int .i64 0], .bool false]) w := by kernel_rfl
theorem ta22 (v : Value) (w : World) : (Instr.typeAssert (.iface 157 v) 110 157 true).run Tryd.prog w = .ok (.tuple #[v, .bool true]) w := by kernel_rfl
theorem ta31 (v : Value) (w : World) : (Instr.typeAssert (.iface 159 v) 110 155 true).run Tryd.prog w = .ok (.tuple #[.agg #[.int .i64 0, .int .i64 0, .bool false, .int .i64 0], .bool false]) w := by kernel_rfl
theorem ta32 (v : Value) (w : World) : (Instr.typeAssert (.iface 159 v) 110 157 true).run Tryd.prog w = .ok (.tuple #[.agg #[.int .i64 0, .int .i64 0, .bool false, .int .i64 0], .bool false]) w := by kernel_rfl
theorem ta33 (v : Value) (w : World) : (Instr.typeAssert (.iface 159 v) 110 159 true).run Tryd.prog w = .ok (.tuple #[v, .bool true]) w := by kernel_rfl
theorem ta41 (v : Value) (w : World) : (Instr.typeAssert (.iface 160 v) 110 155 true).run Tryd.prog w = .ok (.tuple #[.agg #[.int .i64 0, .int .i64 0, .bool false, .int .i64 0], .bool false]) w := by kernel_rfl
theorem ta42 (v : Value) (w : World) : (Instr.typeAssert (.iface 160 v) 110 157 true).run Tryd.prog w = .ok (.tuple #[.agg #[.int .i64 0, .int .i64 0, .bool false, .int .i64 0], .bool false]) w := by kernel_rfl
theorem ta43 (v : Value) (w : World) : (Instr.typeAssert (.iface 160 v) 110 159 true).run Tryd.prog w = .ok (.tuple #[.agg #[.int .i64 0, .int .i64 0, .bool false], .bool false]) w := by kernel_rfl
theorem ta44 (v : Value) (w : World) : (Instr.typeAssert (.iface 160 v) 110 160 true).run Tryd.prog w = .ok (.tuple #[v, .bool true]) w := by kernel_rfl
theorem ta51 (v : Value) (w : World) : (Instr.typeAssert (.iface 161 v) 110 155 true).run Tryd.prog w = .ok (.tuple #[.agg #[.int .i64 0, .int .i64 0, .bool false, .int .i64 0], .bool false]) w := by kernel_rfl
theorem ta52 (v : Value) (w : World) : (Instr.typeAssert (.iface 161 v) 110 157 true).run Tryd.prog w = .ok (.tuple #[.agg #[.int .i64 0, .int .i64 0, .bool false, .int .i64 0], .bool false]) w := by kernel_rfl
theorem ta53 (v : Value) (w : World) : (Instr.typeAssert (.iface 161 v) 110 159 true).run Tryd.prog w = .ok (.tuple #[.agg #[.int .i64 0, .int .i64 0, .bool false], .bool false]) w := by kernel_rfl
theorem ta54 (v : Value) (w : World) : (Instr.typeAssert (.iface 161 v) 110 160 true).run Tryd.prog w = .ok (.tuple #[.agg #[.int .i64 0, .int .i64 0, .bool false], .bool false]) w := by kernel_rfl
theorem ta55 (v : Value) (w : World) : (Instr.typeAssert (.iface 161 v) 110 161 true).run Tryd.prog w = .ok (.tuple #[v, .bool true]) w := by kernel_rfl

set_option maxRecDepth 100000 in
theorem where_any (t c : Int) (l : Bool) (w : World) : Calls Tryd.prog 167 #[.agg #[.int .i64 t, .int .i64 c, .bool l]] w fun e w' => e = .returned (.agg #[.int .i64 t, .int .i64 c, .bool l]) ∧ Below w.heap.size w w' := by
  go_enter Tryd.func167, Tryd.ntmps167
  go_wp2_with fail
  refine bodyPost_ret (v := .agg #[.int .i64 t, .int .i64 c, .bool l]) (by simp [results, Tryd.results167, go_sem]) rfl ⟨rfl, ?_⟩
  exact ((((Below.refl _ _).alloc (Nat.le_refl _) _).alloc (by simp) _))

/-- Whether what a message says can still be, as the program asks it. -/
def allowsX (ns : List NewsD) (k : Nat) (last : Bool) (x : NewsD) (r : RepD) : Bool :=
  if x.gone then false else if x.off then false
  else if r.op = 1 then x.late != r.n
  else if r.op = 2 then !x.here && (x.track != r.n)
  else if r.op = 3 then !x.here
  else if r.op = 4 then !x.here && (decide (k = 0) || ((ns[k - 1]?.map (·.gone)).getD false))
  else x.here && !last
theorem allowsX_gone {ns : List NewsD} {k : Nat} {l : Bool} {x : NewsD} {r : RepD} (h : x.gone = true) : allowsX ns k l x r = false := by unfold allowsX; rw [h]; rfl
theorem allowsX_off {ns : List NewsD} {k : Nat} {l : Bool} {x : NewsD} {r : RepD} (h : x.off = true) : allowsX ns k l x r = false := by unfold allowsX; rw [h]; cases x.gone <;> rfl
/-- It is what the document asks, of the trip's own calls. -/
theorem allowsX_counts {full ns : List NewsD} {k : Nat} {l : Bool} {r : RepD} (ho : 1 ≤ r.op ∧ r.op ≤ 5) (hk : k < ns.length) (hk' : k < full.length) (ht : ∀ i (h : i < ns.length), full[i]? = some ns[i]) (hl : l = !decide (k + 1 < ns.length)) : allowsX full k l full[k] r = countsX ns k ns[k] r := by
  have e : full[k] = ns[k] := by
    have := ht k hk
    rw [List.getElem?_eq_getElem hk'] at this
    exact Option.some.inj this
  have e1 : k ≠ 0 → full[k - 1]? = ns[k - 1]? := fun h => by
    rw [ht (k - 1) (by omega), List.getElem?_eq_getElem (by omega)]
  unfold allowsX countsX
  rw [e]
  cases ns[k].gone <;> simp only [Bool.false_eq_true, ↓reduceIte]
  cases ns[k].off <;> simp only [Bool.false_eq_true, ↓reduceIte]
  by_cases g1 : r.op = 1
  · simp [g1]
  · by_cases g2 : r.op = 2
    · simp [g2]
    · by_cases g3 : r.op = 3
      · simp [g3]
      · by_cases g4 : r.op = 4
        · simp only [g4]
          by_cases hk0 : k = 0
          · simp [hk0]
          · rw [e1 hk0]; simp
        · have g5 : r.op = 5 := by omega
          simp [g5, hl]

/-- The box of a row, and what lies in it. -/
theorem rowBox_cells (ns : List NewsD) (w W : World) (t : TypeId) (hW : w.alloc (.cells (rowCells ns).toArray t) = W) (i : Nat) (h : i < ns.length) :
    W.cell? ⟨w.heap.size, i * 5, none⟩ = some (.int .i64 ns[i].late) ∧ W.cell? ⟨w.heap.size, i * 5 + 1, none⟩ = some (.int .i64 ns[i].track) ∧ W.cell? ⟨w.heap.size, i * 5 + 2, none⟩ = some (.bool ns[i].off) ∧ W.cell? ⟨w.heap.size, i * 5 + 3, none⟩ = some (.bool ns[i].here) ∧ W.cell? ⟨w.heap.size, i * 5 + 4, none⟩ = some (.bool ns[i].gone) := by
  have hc : ∀ c, c < 5 → W.cell? ⟨w.heap.size, i * 5 + c, none⟩ = (newsCells ns[i])[c]? := fun c hc => by
    rw [← hW, cell_of_row _ _ _ _ _ _ (heap_alloc_last w _)]
    simp only [List.getElem?_toArray]
    exact rowCells_get ns i c h hc
  exact ⟨by simpa [newsCells] using hc 0 (by omega), by simpa [newsCells] using hc 1 (by omega), by simpa [newsCells] using hc 2 (by omega), by simpa [newsCells] using hc 3 (by omega), by simpa [newsCells] using hc 4 (by omega)⟩

end Go.Proofs.YtjioingdpfgadaaDoor
namespace Go.Proofs.YtjioingdpfgadaaDoor
open Go Go.RowKit Go.Deep

def zeroN : NewsD := ⟨0, 0, false, false, false⟩
/-- A row with room for all calls that a trip may have. -/
def padRow (ns : List NewsD) : List NewsD := ns ++ List.replicate (20 - ns.length) zeroN
theorem padRow_length {ns : List NewsD} (h : ns.length ≤ 20) : (padRow ns).length = 20 := by simp [padRow]; omega
theorem padRow_get {ns : List NewsD} (i : Nat) (h : i < ns.length) : (padRow ns)[i]? = some ns[i] := by
  unfold padRow; rw [List.getElem?_append_left h, List.getElem?_eq_getElem h]
def zeroRow : List NewsD := List.replicate 20 zeroN
theorem infT : (Tryd.prog.info? 105).map (fun i => (i.zero, i.size)) = some (some (.agg (rowCells zeroRow).toArray), 100) := by kernel_rfl
theorem zeroT : ∀ w, (zeroValue 105).run Tryd.prog w = .ok (.agg (rowCells zeroRow).toArray) w := (zero_of_info infT).1
theorem sizeT : (Tryd.prog.info? 105).map (·.size) = some 100 := (zero_of_info infT).2
theorem underT : Tryd.prog.underlying 105 = some (.array 20 41) := by kernel_rfl
theorem undNw : Tryd.prog.underlying 42 = some (.slice 41) := by kernel_rfl
theorem sizeNw : (Tryd.prog.info? 41).map (·.size) = some 5 := by kernel_rfl

theorem run_copy_wide {P : Program} (w : World) (dT sT ty elem : TypeId) (size g o dLen dCap : Nat) (a : Addr) (sLen sCap n : Nat) (cur : Array Value) (t : TypeId) (cs : List Value)
    (hu : P.underlying dT = some (.slice elem)) (hs : (P.info? elem).map (·.size) = some size)
    (hg : w.heap[g]? = some (.cells cur t (0, 0))) (hmin : Nat.min sLen dLen = n) (hn : cs.length = n * size)
    (hsrc : ∀ j v, cs[j]? = some v → w.cell? (a.add j) = some v) (hfit : o + cs.length ≤ cur.size) (h1 : ∀ v ∈ cs, v.oneCell' = true) :
    (Builtin.copy_ #[dT, sT] ty #[.slice (some ⟨g, o, none⟩) dLen dCap, .slice (some a) sLen sCap]).run P w = .ok (goInt n) (w.setRow g (putAt cur o cs)) := by
  have hl := run_loadCells_list (P := P) w a cs hsrc
  have hst := run_storeCells_mid (P := P) g o t cs 0 cur w hg (by simpa using hfit) h1
  cases hq : P.info? elem with
  | none => simp [hq] at hs
  | some i =>
    have hi : i.size = size := by simpa [hq] using hs
    rw [Nat.add_zero] at hst
    rw [hn] at hl
    simp [Builtin.copy_, run_underlying hu, Builtin.lenOf, Builtin.firstCells, sizeOf, typeInfo, hq, hi, hmin, hl, hst]
theorem wpList_copy_wide {P : Program} {w : World} {ops : Array Oper} {rest : List Oper} {op : Oper} {a : Act} {Q : Exit → Act → World → Prop} (hgd : op.guard = none) (d s : Operand) (t t' : TypeId)
    (ho : op.op = .call { callee := .builtin .copy, args := #[d, s], argTypes := #[t, t'] }) (v u : Value) (hd : a.eval d = v) (hs : a.eval s = u) {v' : Value} {w' : World}
    (hr : (Builtin.copy_ #[t, t'] op.type #[v, u]).run P w = .ok v' w') (h : wpList P ops Q rest (a.put op.dst v') w') : wpList P ops Q (op :: rest) a w :=
  wpList_plain hgd fun _ hK => by
    unfold Oper.wp execOp
    simp only [ho, resolve, invoke, builtin, Sem.run_bind, Sem.run_pure, Result.andThen_ok, List.map_toArray, List.map_cons, List.map_nil, hd, hs, hr]
    exact hK _ _ h

theorem rowCells_append (a b : List NewsD) : rowCells (a ++ b) = rowCells a ++ rowCells b := by simp [rowCells]
theorem put_pad (ns : List NewsD) (h : ns.length ≤ 20) : putAt (rowCells zeroRow).toArray 0 (rowCells ns) = (rowCells (padRow ns)).toArray := by
  have hz : (rowCells zeroRow).length = 100 := by rw [rowCells_length]; rfl
  have hl : (rowCells ns).length = ns.length * 5 := rowCells_length ns
  apply Array.ext_getElem?
  intro j
  rw [putAt_get _ _ _ _ (by simp only [List.size_toArray]; omega)]
  simp only [List.getElem?_toArray, Nat.zero_add, Nat.zero_le, true_and, Nat.sub_zero]
  have e : rowCells (padRow ns) = rowCells ns ++ rowCells (List.replicate (20 - ns.length) zeroN) := rowCells_append _ _
  have e0 : rowCells zeroRow = rowCells (List.replicate ns.length zeroN) ++ rowCells (List.replicate (20 - ns.length) zeroN) := by
    rw [← rowCells_append, List.replicate_append_replicate]
    have : ns.length + (20 - ns.length) = 20 := by omega
    rw [this]; rfl
  have hr : (rowCells (List.replicate ns.length zeroN)).length = ns.length * 5 := by rw [rowCells_length]; simp
  rw [e]
  by_cases hj : j < (rowCells ns).length
  · rw [if_pos hj, List.getElem?_append_left hj]
  · rw [if_neg hj, e0, List.getElem?_append_right (by omega), List.getElem?_append_right (by omega), hr, hl]

/-- Cells of news, as a source. -/
theorem NewsAt.src {w : World} {b o : Nat} {ns : List NewsD} (h : NewsAt w (some ⟨b, o, none⟩) ns) : ∀ j v, (rowCells ns)[j]? = some v → w.cell? ⟨b, o + j, none⟩ = some v := by
  intro j v hv
  have hj : j < ns.length * 5 := by rw [← rowCells_length]; exact (List.getElem?_eq_some_iff.1 hv).1
  have hq : j / 5 < ns.length := by omega
  have hr : j % 5 < 5 := by omega
  have hdm : j / 5 * 5 + j % 5 = j := by omega
  obtain ⟨b', o', e, c0, c1, c2, c3, c4⟩ := h (j / 5) hq
  simp only [Option.some.injEq, Addr.mk.injEq] at e
  obtain ⟨rfl, rfl, _⟩ := e
  have hg := rowCells_get ns (j / 5) (j % 5) hq hr
  rw [hdm, hv] at hg
  have : j % 5 = 0 ∨ j % 5 = 1 ∨ j % 5 = 2 ∨ j % 5 = 3 ∨ j % 5 = 4 := by omega
  rcases this with r | r | r | r | r
  · rw [r] at hg hdm; simp [newsCells] at hg; rw [← hdm, Nat.add_zero, c0, hg]
  · rw [r] at hg hdm; simp [newsCells] at hg; rw [← hdm, ← Nat.add_assoc, c1, hg]
  · rw [r] at hg hdm; simp [newsCells] at hg; rw [← hdm, ← Nat.add_assoc, c2, hg]
  · rw [r] at hg hdm; simp [newsCells] at hg; rw [← hdm, ← Nat.add_assoc, c3, hg]
  · rw [r] at hg hdm; simp [newsCells] at hg; rw [← hdm, ← Nat.add_assoc, c4, hg]

set_option maxRecDepth 100000 in
set_option maxHeartbeats 2000000 in
theorem copyRow_any (a : Option Addr) (c : Nat) (ns : List NewsD) (w : World) (h0 : 0 < ns.length) (hn : ns.length ≤ 20) (hat : NewsAt w a ns) :
    Calls Tryd.prog 80 #[.slice a ns.length c] w fun e w' => e = .returned (.agg (rowCells (padRow ns)).toArray) ∧ Below w.heap.size w w' := by
  obtain ⟨b, o, rfl, _⟩ := hat 0 h0
  have hz := zeroT
  have hlz : (rowCells zeroRow).toArray.size = 100 := by simp only [List.size_toArray]; rw [rowCells_length]; rfl
  have hlp : (rowCells (padRow ns)).toArray.size = 100 := by simp only [List.size_toArray]; rw [rowCells_length, padRow_length hn]
  have HP : Hid (putAt (rowCells zeroRow).toArray 0 (rowCells ns) = (rowCells (padRow ns)).toArray) := put_pad ns hn
  have H1 : Hid ((rowCells (padRow ns)).toArray.all (·.oneCell') = true) := by unfold Hid; rw [Array.all_eq_true_iff_forall_mem]; intro x hx; exact rowCells_one _ x (by simpa using hx)
  have HI : Hid ((Tryd.prog.info? 105).map (·.size) = some (rowCells (padRow ns)).toArray.size) := by unfold Hid; rw [hlp]; exact sizeT
  generalize hZ : (rowCells zeroRow).toArray = Z at *
  generalize hX : (rowCells (padRow ns)).toArray = X at *
  obtain ⟨W1, hW1⟩ : ∃ W1, w.alloc (.cells Z 105) = W1 := ⟨_, rfl⟩
  have hb1 : Below w.heap.size w W1 := by subst hW1; exact ibox _ _
  have hs1 : W1.heap.size = w.heap.size + 1 := by subst hW1; simp
  have HR : Hid ((Builtin.copy_ #[42, 42] 3 #[.slice (some ⟨W1.heap.size, 0, none⟩) 20 20, .slice (some ⟨b, o, none⟩) ns.length c]).run Tryd.prog (W1.alloc (.cells Z 105)) = .ok (goInt ns.length) (W1.alloc (.cells X 105))) := by
    unfold Hid
    rw [run_copy_wide (P := Tryd.prog) (W1.alloc (.cells Z 105)) 42 42 3 41 5 W1.heap.size 0 20 20 ⟨b, o, none⟩ ns.length c ns.length Z 105 (rowCells ns) undNw sizeNw (heap_alloc_last W1 _) (Nat.min_eq_left hn) (rowCells_length ns) ?_ (by rw [rowCells_length, hlz]; omega) (rowCells_one ns), HP.out, World.setRow_alloc_new]
    intro j v hv
    have hadd : (⟨b, o, none⟩ : Addr).add j = ⟨b, o + j, none⟩ := by unfold Addr.add; split <;> simp_all
    rw [hadd]
    exact (hat.keep (hb1.trans (ibox W1 _ |>.mono hb1.size))).src j v hv
  go_enter Tryd.func80, Tryd.ntmps80
  go_wp2_with fail
  rw [← hs1, HR.out]
  have HG : Hid ((W1.alloc (.cells X 105)).heap[W1.heap.size]? = some (.cells X 105 (0, 0))) := heap_alloc_last W1 _
  have HG0 : Hid ((W1.alloc (.cells X 105)).heap[w.heap.size]? = some (.cells Z 105 (0, 0))) := by
    unfold Hid; rw [heap_alloc_old _ _ (by omega), ← hW1]; exact heap_alloc_last w _
  have HS : Hid (Z.size = X.size) := by unfold Hid; omega
  have hBf : Below w.heap.size w (W1.alloc (.cells X 105)) := hb1.alloc hb1.size _
  clear hz hlz hlp HP hW1 hb1 hs1 HR hat
  go_wp2_with (first
    | (refine wpList_load_row (by rfl) 105 (.tmp 3) (by rfl) W1.heap.size (by rfl) 105 X (0, 0) _ HG.out underT rfl HI.out ?_)
    | (refine wpList_store_row (by rfl) 105 (.tmp 2) (.tmp 7) (by rfl) w.heap.size X (by rfl) (by rfl) 105 Z HG0.out HI.out HS.out H1.out ?_))
  refine bodyPost_ret (v := .agg X) ?_ rfl ⟨rfl, below_setRow hBf _ _ (Nat.le_refl _)⟩
  exact results_cell_row Tryd.results80 _ _ w.heap.size 105 X (0, 0) _ rfl (setRow_heap _ _ _ _ _ _ HG0.out) underT rfl HI.out

end Go.Proofs.YtjioingdpfgadaaDoor
namespace Go.Proofs.YtjioingdpfgadaaDoor
open Go Go.RowKit Go.Deep

/-- One cell of lists of one length laid one behind the other. -/
theorem flat_set {α : Type} (f : α → List Value) (m : Nat) : ∀ (l : List α), (∀ x ∈ l, (f x).length = m) → ∀ i c (u : Value) (y : α) (h : i < l.length), c < m → f y = (f l[i]).set c u → (l.flatMap f).set (i * m + c) u = (l.set i y).flatMap f
  | [], _, i, c, u, y, h, _, _ => by simp at h
  | a :: l, hm, i, c, u, y, h, hc, hy => by
    have ha : (f a).length = m := hm a (by simp)
    cases i with
    | zero =>
      rw [List.set_cons_zero, List.flatMap_cons, List.flatMap_cons, Nat.zero_mul, Nat.zero_add, List.set_append_left _ _ (by omega)]
      simp at hy
      rw [hy]
    | succ i =>
      rw [List.set_cons_succ, List.flatMap_cons, List.flatMap_cons, List.set_append_right _ _ (by rw [ha, Nat.succ_mul]; omega), ha]
      have : (i + 1) * m + c - m = i * m + c := by rw [Nat.succ_mul]; omega
      rw [this, flat_set f m l (fun x hx => hm x (by simp [hx])) i c u y (by simpa using h) hc (by simpa using hy)]

/-- All rows have room for twenty calls, and there is room for forty trips. -/
structure Grid (G : List (List NewsD)) : Prop where
  len : G.length = 40
  row : ∀ ns ∈ G, ns.length = 20
theorem Grid.cells {G : List (List NewsD)} (h : Grid G) : ∀ ns ∈ G, (rowCells ns).length = 100 := fun ns hn => by rw [rowCells_length, h.row ns hn]
theorem Grid.size {G : List (List NewsD)} (h : Grid G) : (gridCells G).toArray.size = 4000 := by
  simp only [List.size_toArray, gridCells]; rw [flat_length rowCells 100 G h.cells, h.len]
theorem Grid.set {G : List (List NewsD)} (h : Grid G) (i : Nat) (ns : List NewsD) (hn : ns.length = 20) : Grid (G.set i ns) :=
  ⟨by rw [List.length_set]; exact h.len, fun x hx => by
    rcases List.mem_or_eq_of_mem_set hx with h1 | h1
    · exact h.row x h1
    · rw [h1]; exact hn⟩
theorem Grid.at {G : List (List NewsD)} (h : Grid G) (i : Nat) (hi : i < G.length) : G[i].length = 20 := h.row _ (List.getElem_mem hi)
theorem Grid.cell {G : List (List NewsD)} (h : Grid G) (i j c : Nat) (hi : i < G.length) (hj : j < 20) (hc : c < 5) : (gridCells G)[i * 100 + j * 5 + c]? = (newsCells ((G[i]'hi)[j]'(by rw [h.at i hi]; exact hj)))[c]? := by
  have e : i * 100 + j * 5 + c = i * 100 + (j * 5 + c) := by omega
  rw [e]
  unfold gridCells
  rw [flat_get rowCells 100 G h.cells i (j * 5 + c) hi (by omega), rowCells_get _ j c (by rw [h.at i hi]; exact hj) hc]
theorem Grid.stored {G : List (List NewsD)} (h : Grid G) (i j c : Nat) (u : Value) (x : NewsD) (hi : i < G.length) (hj : j < 20) (hc : c < 5) (hx : newsCells x = (newsCells ((G[i]'hi)[j]'(by rw [h.at i hi]; exact hj))).set c u) :
    (gridCells G).toArray.setIfInBounds (i * 100 + j * 5 + c) u = (gridCells (G.set i (G[i].set j x))).toArray := by
  have e : i * 100 + j * 5 + c = i * 100 + (j * 5 + c) := by omega
  rw [e]
  apply Array.ext'
  simp only [Array.toList_setIfInBounds]
  exact flat_set rowCells 100 G h.cells i (j * 5 + c) u (G[i].set j x) hi (by omega) (rowCells_set G[i] j c u x (by rw [h.at i hi]; exact hj) hc hx).symm

def zeroGrid : List (List NewsD) := List.replicate 40 zeroRow
theorem grid_zero : Grid zeroGrid := ⟨by simp [zeroGrid], fun ns hn => by rw [List.eq_of_mem_replicate hn]; simp [zeroRow]⟩
theorem infB : (Tryd.prog.info? 107).map (fun i => (i.zero, i.size)) = some (some (.agg (gridCells zeroGrid).toArray), 4000) := by kernel_rfl
theorem zeroB : ∀ w, (zeroValue 107).run Tryd.prog w = .ok (.agg (gridCells zeroGrid).toArray) w := (zero_of_info infB).1
theorem sizeB : (Tryd.prog.info? 107).map (·.size) = some 4000 := (zero_of_info infB).2
theorem underB : Tryd.prog.underlying 107 = some (.array 40 105) := by kernel_rfl
theorem gridCells_one (G : List (List NewsD)) : (gridCells G).toArray.all (·.oneCell') = true := by
  rw [Array.all_eq_true_iff_forall_mem]
  intro x hx
  obtain ⟨ns, _, h⟩ := List.mem_flatMap.1 (show x ∈ gridCells G by simpa using hx)
  exact rowCells_one ns x h

/-- What is planned of the first k trips. -/
def planTo (bk : BookD) (k : Nat) : List (List NewsD) := (bk.trips.take k).map (fun t => padRow (startRow t.calls)) ++ List.replicate (40 - k) zeroRow
def planGrid (bk : BookD) : List (List NewsD) := planTo bk bk.trips.length
theorem planTo_zero (bk : BookD) : planTo bk 0 = zeroGrid := by simp [planTo, zeroGrid]
theorem planTo_grid {bk : BookD} {k : Nat} (hk : k ≤ bk.trips.length) (h40 : bk.trips.length ≤ 40) (h20 : ∀ i (h : i < bk.trips.length), bk.trips[i].calls.length ≤ 20) : Grid (planTo bk k) := by
  refine ⟨by simp [planTo]; omega, fun ns hn => ?_⟩
  rcases List.mem_append.1 hn with h | h
  · obtain ⟨t, ht, rfl⟩ := List.mem_map.1 h
    obtain ⟨i, hi, e⟩ := List.getElem_of_mem (List.mem_of_mem_take ht)
    refine padRow_length ?_
    rw [← e]; simpa [startRow] using h20 i hi
  · rw [List.eq_of_mem_replicate h]; simp [zeroRow]
theorem planTo_at {bk : BookD} {k : Nat} (hk : k ≤ bk.trips.length) (h40 : k < 40) : (planTo bk k)[k]? = some zeroRow := by
  unfold planTo
  have hl : ((bk.trips.take k).map (fun t => padRow (startRow t.calls))).length = k := by simp; omega
  rw [List.getElem?_append_right (by rw [hl]; exact Nat.le_refl _), hl, Nat.sub_self, List.getElem?_replicate, if_pos (by omega)]
theorem planTo_succ {bk : BookD} {k : Nat} (hk : k < bk.trips.length) (h40 : k < 40) : (planTo bk k).set k (padRow (startRow bk.trips[k].calls)) = planTo bk (k + 1) := by
  unfold planTo
  have hl : ((bk.trips.take k).map (fun t => padRow (startRow t.calls))).length = k := by simp; omega
  rw [List.set_append_right _ _ (by rw [hl]; exact Nat.le_refl _), hl, Nat.sub_self, take_snoc bk.trips k hk, List.map_append]
  have e : 40 - k = (40 - (k + 1)) + 1 := by omega
  rw [e, List.replicate_succ, List.set_cons_zero]
  simp
theorem padRow_nil : padRow [] = zeroRow := by simp [padRow, zeroRow]
theorem padRow_succ {cs : List CallD} {m : Nat} (h : m < cs.length) (h20 : cs.length ≤ 20) : (padRow (startRow (cs.take m))).set m (startOf cs[m]) = padRow (startRow (cs.take (m + 1))) := by
  have hl : (startRow (cs.take m)).length = m := by simp [startRow]; omega
  have hl' : (startRow (cs.take (m + 1))).length = m + 1 := by simp [startRow]; omega
  unfold padRow
  rw [List.set_append_right _ _ (by rw [hl]; exact Nat.le_refl _), hl, hl', Nat.sub_self, startRow_take cs m h]
  have e : 20 - m = (20 - (m + 1)) + 1 := by omega
  rw [e, List.replicate_succ, List.set_cons_zero]
  simp
theorem padRow_at {cs : List CallD} {m : Nat} (h : m < cs.length) (h20 : cs.length ≤ 20) : (padRow (startRow (cs.take m)))[m]? = some zeroN := by
  have hl : (startRow (cs.take m)).length = m := by simp [startRow]; omega
  unfold padRow
  rw [List.getElem?_append_right (by rw [hl]; exact Nat.le_refl _), hl, Nat.sub_self, List.getElem?_replicate, if_pos (by omega)]

end Go.Proofs.YtjioingdpfgadaaDoor
