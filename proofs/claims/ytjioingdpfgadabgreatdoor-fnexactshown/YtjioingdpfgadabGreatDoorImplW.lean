import Derived.Test.YtjioingdpfgadabGreatDoorProg
import Derived.Test.YtjioingdpfgadabGreatDoorImplHM
import Derived.Test.YtjioingdpfgadabGreatDoorArr
import Derived.Test.YtjioingdpfgadabGreatDoorSpecRM
namespace Go.Proofs.YtjioingdpfgadabGreatDoor
open Go Go.RowKit Go.Deep

theorem mLate (t c l n : Value) (w : World) : (Go.method 362 156 (.agg #[t, c, l, n]) "loop.example/tannoy/impl.where").run Tryz.prog w = .ok (157, .agg #[t, c, l]) w := by kernel_rfl
theorem mTrack (t c l n : Value) (w : World) : (Go.method 362 158 (.agg #[t, c, l, n]) "loop.example/tannoy/impl.where").run Tryz.prog w = .ok (157, .agg #[t, c, l]) w := by kernel_rfl
theorem mStop (t c l : Value) (w : World) : (Go.method 362 160 (.agg #[t, c, l]) "loop.example/tannoy/impl.where").run Tryz.prog w = .ok (157, .agg #[t, c, l]) w := by kernel_rfl
theorem mHere (t c l : Value) (w : World) : (Go.method 362 161 (.agg #[t, c, l]) "loop.example/tannoy/impl.where").run Tryz.prog w = .ok (157, .agg #[t, c, l]) w := by kernel_rfl
theorem mGone (t c l : Value) (w : World) : (Go.method 362 162 (.agg #[t, c, l]) "loop.example/tannoy/impl.where").run Tryz.prog w = .ok (157, .agg #[t, c, l]) w := by kernel_rfl
theorem nLate (t c l n : Value) (w : World) : (Go.nilAhead 362 156 (.agg #[t, c, l, n]) "loop.example/tannoy/impl.where").run Tryz.prog w = .ok (some false) w := by kernel_rfl
theorem nTrack (t c l n : Value) (w : World) : (Go.nilAhead 362 158 (.agg #[t, c, l, n]) "loop.example/tannoy/impl.where").run Tryz.prog w = .ok (some false) w := by kernel_rfl
theorem nStop (t c l : Value) (w : World) : (Go.nilAhead 362 160 (.agg #[t, c, l]) "loop.example/tannoy/impl.where").run Tryz.prog w = .ok (some false) w := by kernel_rfl
theorem nHere (t c l : Value) (w : World) : (Go.nilAhead 362 161 (.agg #[t, c, l]) "loop.example/tannoy/impl.where").run Tryz.prog w = .ok (some false) w := by kernel_rfl
theorem nGone (t c l : Value) (w : World) : (Go.nilAhead 362 162 (.agg #[t, c, l]) "loop.example/tannoy/impl.where").run Tryz.prog w = .ok (some false) w := by kernel_rfl

theorem fld0 (t c l : Value) (w : World) : (Instr.field 129 (.agg #[t, c, l]) 0).run Tryz.prog w = .ok t w := by kernel_rfl
theorem fld1 (t c l : Value) (w : World) : (Instr.field 129 (.agg #[t, c, l]) 1).run Tryz.prog w = .ok c w := by kernel_rfl

theorem ta11 (v : Value) (w : World) : (Instr.typeAssert (.iface 156 v) 104 156 true).run Tryz.prog w = .ok (.tuple #[v, .bool true]) w := by kernel_rfl
theorem ta21 (v : Value) (w : World) : (Instr.typeAssert (.iface 158 v) 104 156 true).run Tryz.prog w = .ok (.tuple #[.agg #[.int .i64 0, .int .i64 0, .bool false, .int .i64 0], .bool false]) w := by kernel_rfl
theorem ta22 (v : Value) (w : World) : (Instr.typeAssert (.iface 158 v) 104 158 true).run Tryz.prog w = .ok (.tuple #[v, .bool true]) w := by kernel_rfl
theorem ta31 (v : Value) (w : World) : (Instr.typeAssert (.iface 160 v) 104 156 true).run Tryz.prog w = .ok (.tuple #[.agg #[.int .i64 0, .int .i64 0, .bool false, .int .i64 0], .bool false]) w := by kernel_rfl
theorem ta32 (v : Value) (w : World) : (Instr.typeAssert (.iface 160 v) 104 158 true).run Tryz.prog w = .ok (.tuple #[.agg #[.int .i64 0, .int .i64 0, .bool false, .int .i64 0], .bool false]) w := by kernel_rfl
theorem ta33 (v : Value) (w : World) : (Instr.typeAssert (.iface 160 v) 104 160 true).run Tryz.prog w = .ok (.tuple #[v, .bool true]) w := by kernel_rfl
theorem ta41 (v : Value) (w : World) : (Instr.typeAssert (.iface 161 v) 104 156 true).run Tryz.prog w = .ok (.tuple #[.agg #[.int .i64 0, .int .i64 0, .bool false, .int .i64 0], .bool false]) w := by kernel_rfl
theorem ta42 (v : Value) (w : World) : (Instr.typeAssert (.iface 161 v) 104 158 true).run Tryz.prog w = .ok (.tuple #[.agg #[.int .i64 0, .int .i64 0, .bool false, .int .i64 0], .bool false]) w := by kernel_rfl
theorem ta43 (v : Value) (w : World) : (Instr.typeAssert (.iface 161 v) 104 160 true).run Tryz.prog w = .ok (.tuple #[.agg #[.int .i64 0, .int .i64 0, .bool false], .bool false]) w := by kernel_rfl
theorem ta44 (v : Value) (w : World) : (Instr.typeAssert (.iface 161 v) 104 161 true).run Tryz.prog w = .ok (.tuple #[v, .bool true]) w := by kernel_rfl
theorem ta51 (v : Value) (w : World) : (Instr.typeAssert (.iface 162 v) 104 156 true).run Tryz.prog w = .ok (.tuple #[.agg #[.int .i64 0, .int .i64 0, .bool false, .int .i64 0], .bool false]) w := by kernel_rfl
theorem ta52 (v : Value) (w : World) : (Instr.typeAssert (.iface 162 v) 104 158 true).run Tryz.prog w = .ok (.tuple #[.agg #[.int .i64 0, .int .i64 0, .bool false, .int .i64 0], .bool false]) w := by kernel_rfl
theorem ta53 (v : Value) (w : World) : (Instr.typeAssert (.iface 162 v) 104 160 true).run Tryz.prog w = .ok (.tuple #[.agg #[.int .i64 0, .int .i64 0, .bool false], .bool false]) w := by kernel_rfl
theorem ta54 (v : Value) (w : World) : (Instr.typeAssert (.iface 162 v) 104 161 true).run Tryz.prog w = .ok (.tuple #[.agg #[.int .i64 0, .int .i64 0, .bool false], .bool false]) w := by kernel_rfl
theorem ta55 (v : Value) (w : World) : (Instr.typeAssert (.iface 162 v) 104 162 true).run Tryz.prog w = .ok (.tuple #[v, .bool true]) w := by kernel_rfl

set_option maxRecDepth 100000 in
theorem where_any (t c : Int) (l : Bool) (w : World) : Calls Tryz.prog 157 #[.agg #[.int .i64 t, .int .i64 c, .bool l]] w fun e w' => e = .returned (.agg #[.int .i64 t, .int .i64 c, .bool l]) ∧ Below w.heap.size w w' := by
  go_enter Tryz.func157, Tryz.ntmps157
  go_wp2_with fail
  refine bodyPost_ret (v := .agg #[.int .i64 t, .int .i64 c, .bool l]) (by simp [results, Tryz.results157, go_sem]) rfl ⟨rfl, ?_⟩
  exact ((((Below.refl _ _).alloc (Nat.le_refl _) _).alloc (by simp) _))

/-- Whether what a message says can still be, as the program asks it. -/
def allowsX (ns : List NewsD) (k : Nat) (last : Bool) (x : NewsD) (r : RepD) : Bool :=
  if x.gone then false else if x.off then false
  else if r.op = 1 then x.late != r.n
  else if r.op = 2 then !x.here && (x.track != r.n)
  else if r.op = 3 then !x.here
  else if r.op = 4 then !x.here && (decide (k = 0) || ((ns[k - 1]?.map (·.gone)).getD false))
  else x.here && !last
theorem allowsX_gone {ns : List NewsD} {k : Nat} {l : Bool} {x : NewsD} {r : RepD} (h : x.gone = true) : allowsX ns k l x r = false := by unfold allowsX; rw [h]; rfl
theorem allowsX_off {ns : List NewsD} {k : Nat} {l : Bool} {x : NewsD} {r : RepD} (h : x.off = true) : allowsX ns k l x r = false := by unfold allowsX; rw [h]; cases x.gone <;> rfl
/-- It is what the document asks, of the trip's own calls. -/
theorem allowsX_counts {full ns : List NewsD} {k : Nat} {l : Bool} {r : RepD} (ho : 1 ≤ r.op ∧ r.op ≤ 5) (hk : k < ns.length) (hk' : k < full.length) (ht : ∀ i (h : i < ns.length), full[i]? = some ns[i]) (hl : l = !decide (k + 1 < ns.length)) : allowsX full k l full[k] r = countsX ns k ns[k] r := by
  have e : full[k] = ns[k] := by
    have := ht k hk
    rw [List.getElem?_eq_getElem hk'] at this
    exact Option.some.inj this
  have e1 : k ≠ 0 → full[k - 1]? = ns[k - 1]? := fun h => by
    rw [ht (k - 1) (by omega), List.getElem?_eq_getElem (by omega)]
  unfold allowsX countsX
  rw [e]
  cases ns[k].gone <;> simp only [Bool.false_eq_true, ↓reduceIte]
  cases ns[k].off <;> simp only [Bool.false_eq_true, ↓reduceIte]
  by_cases g1 : r.op = 1
  · simp [g1]
  · by_cases g2 : r.op = 2
    · simp [g2]
    · by_cases g3 : r.op = 3
      · simp [g3]
      · by_cases g4 : r.op = 4
        · simp only [g4]
          by_cases hk0 : k = 0
          · simp [hk0]
          · rw [e1 hk0]; simp
        · have g5 : r.op = 5 := by omega
          simp [g5, hl]

/-- The box of a row, and what lies in it. -/
theorem rowBox_cells (ns : List NewsD) (w W : World) (t : TypeId) (hW : w.alloc (.cells (rowCells ns).toArray t) = W) (i : Nat) (h : i < ns.length) :
    W.cell? ⟨w.heap.size, i * 5, none⟩ = some (.int .i64 ns[i].late) ∧ W.cell? ⟨w.heap.size, i * 5 + 1, none⟩ = some (.int .i64 ns[i].track) ∧ W.cell? ⟨w.heap.size, i * 5 + 2, none⟩ = some (.bool ns[i].off) ∧ W.cell? ⟨w.heap.size, i * 5 + 3, none⟩ = some (.bool ns[i].here) ∧ W.cell? ⟨w.heap.size, i * 5 + 4, none⟩ = some (.bool ns[i].gone) := by
  have hc : ∀ c, c < 5 → W.cell? ⟨w.heap.size, i * 5 + c, none⟩ = (newsCells ns[i])[c]? := fun c hc => by
    rw [← hW, cell_of_row _ _ _ _ _ _ (heap_alloc_last w _)]
    simp only [List.getElem?_toArray]
    exact rowCells_get ns i c h hc
  exact ⟨by simpa [newsCells] using hc 0 (by omega), by simpa [newsCells] using hc 1 (by omega), by simpa [newsCells] using hc 2 (by omega), by simpa [newsCells] using hc 3 (by omega), by simpa [newsCells] using hc 4 (by omega)⟩

end Go.Proofs.YtjioingdpfgadabGreatDoor
