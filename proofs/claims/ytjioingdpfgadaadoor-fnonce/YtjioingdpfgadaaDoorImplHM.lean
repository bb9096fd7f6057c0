import Derived.Test.YtjioingdpfgadaaDoorProg
import Derived.Test.YtjioingdpfgadaaDoorSzM
import Derived.Test.YtjioingdpfgadaaDoorArrM
import Derived.Test.YtjioingdpfgadaaDoorSpecKM
namespace Go.Proofs.YtjioingdpfgadaaDoor
open Go Go.RowKit

theorem ibox (w : World) (o : Obj) : Below w.heap.size w (w.alloc o) := (Below.refl _ _).alloc (Nat.le_refl _) _

/-- There are such a trip and such a call. -/
def hasCallB (bk : BookD) (trip call : Int) : Bool := decide ((0 ≤ trip ∧ trip < bk.trips.length) ∧ (0 ≤ call ∧ call < (callsOf bk trip).length))
theorem hasCallB_no {bk : BookD} {trip call : Int} (h : ¬ ((0 ≤ trip ∧ trip < bk.trips.length) ∧ (0 ≤ call ∧ call < (callsOf bk trip).length))) : hasCallB bk trip call = false := decide_eq_false h

set_option maxRecDepth 100000 in
set_option maxHeartbeats 1000000 in
theorem hasCall_any (v : Value) (bk : BookD) (trip call : Int) (w : World) (hn : bookSize bk ≤ 1048576) (hat : BookAt w v bk) :
    Calls Tryd.prog 106 #[v, .int .i64 trip, .int .i64 call] w fun e w' => e = .returned (.bool (hasCallB bk trip call)) ∧ Below w.heap.size w w' := by
  obtain ⟨sa, sc, ta, tc, rfl, hsa, hta⟩ := hat
  have hb0 := ibox w (.cells #[.slice sa bk.sts.length sc, .slice ta bk.trips.length tc] 26)
  have n2 : bk.trips.length ≤ 1048576 := by unfold bookSize tripsSize at hn; omega
  have n3 : ∀ i (h : i < bk.trips.length), bk.trips[i].calls.length ≤ 1048576 := by
    intro i h
    have := sumTrips_get bk.trips i h
    unfold bookSize tripsSize at hn; unfold tripSize at this; omega
  have hta' := hta.keep hb0
  clear hsa hta
  by_cases h1 : 0 ≤ trip
  · by_cases h2 : trip < (bk.trips.length : Int)
    · by_cases h3 : 0 ≤ call
      · obtain ⟨k, rfl⟩ := Int.eq_ofNat_of_zero_le h1
        have hk : k < bk.trips.length := by omega
        have HC : Hid (callsOf bk k = bk.trips[k].calls) := callsOf_at bk k hk
        obtain ⟨b, o, ca, cc, rfl, hc0, hc1, _⟩ := hta' k hk
        have n4 := n3 k hk
        have HL : Hid (hasCallB bk k call = decide (call < (bk.trips[k].calls.length : Int))) := by
          unfold Hid hasCallB; rw [HC.out]; simp [h3, hk]
        generalize bk.trips[k].calls = cs at *
        clear n3 hta' HC
        go_enter Tryd.func106, Tryd.ntmps106
        go_wp2_with fail
        go_ret
        exact ⟨ret_bool HL.out.symm, hb0⟩
      · have HL : Hid (hasCallB bk trip call = false) := hasCallB_no (fun h => h3 h.2.1)
        clear n3 hta'
        go_enter Tryd.func106, Tryd.ntmps106
        go_wp2_with fail
        go_ret
        exact ⟨ret_bool HL.out.symm, hb0⟩
    · have HL : Hid (hasCallB bk trip call = false) := hasCallB_no (fun h => h2 h.1.2)
      clear n3 hta'
      go_enter Tryd.func106, Tryd.ntmps106
      go_wp2_with fail
      go_ret
      exact ⟨ret_bool HL.out.symm, hb0⟩
  · have HL : Hid (hasCallB bk trip call = false) := hasCallB_no (fun h => h1 h.1.1)
    clear n3 hta'
    go_enter Tryd.func106, Tryd.ntmps106
    go_wp2_with fail
    go_ret
    exact ⟨ret_bool HL.out.symm, hb0⟩

end Go.Proofs.YtjioingdpfgadaaDoor
namespace Go.Proofs.YtjioingdpfgadaaDoor
open Go Go.RowKit

/-- The report's call is its trip's last. -/
def lastB (bk : BookD) (r : RepD) : Bool := r.call == ((callsOf bk r.trip).length : Int) - 1
/-- The message of a report. -/
def msgV (r : RepD) (last : Bool) : Value :=
  if r.op = 1 then .iface 155 (.agg #[.int .i64 r.trip, .int .i64 r.call, .bool last, .int .i64 r.n])
  else if r.op = 2 then .iface 157 (.agg #[.int .i64 r.trip, .int .i64 r.call, .bool last, .int .i64 r.n])
  else if r.op = 3 then .iface 159 (.agg #[.int .i64 r.trip, .int .i64 r.call, .bool last])
  else if r.op = 4 then .iface 160 (.agg #[.int .i64 r.trip, .int .i64 r.call, .bool last])
  else .iface 161 (.agg #[.int .i64 r.trip, .int .i64 r.call, .bool last])
def readV (bk : BookD) (r : RepD) : Value := if reportB bk r then msgV r (lastB bk r) else .nilIface
theorem readV_no {bk : BookD} {r : RepD} (h : reportB bk r = false) : readV bk r = .nilIface := by unfold readV; rw [h]; rfl
theorem readV_yes {bk : BookD} {r : RepD} (h : reportB bk r = true) : readV bk r = msgV r (lastB bk r) := by unfold readV; rw [h]; rfl
theorem reportB_num {bk : BookD} {r : RepD} (h : (1 ≤ r.op ∧ r.op ≤ 5) → numB r = false) : reportB bk r = false := by
  unfold reportB
  by_cases ho : 1 ≤ r.op ∧ r.op ≤ 5
  · rw [h ho, Bool.and_false]
  · rw [decide_eq_false (fun g => ho g.2.2.1), Bool.false_and]

theorem ret_same {a b : Value} (h : a = b) : Ending.returned a = .returned b := by rw [h]

end Go.Proofs.YtjioingdpfgadaaDoor
namespace Go.Proofs.YtjioingdpfgadaaDoor
open Go Go.RowKit Go.Deep

theorem mLate (t c l n : Value) (w : World) : (Go.method 376 155 (.agg #[t, c, l, n]) "loop.example/tannoy/impl.where").run Tryd.prog w = .ok (167, .agg #[t, c, l]) w := by kernel_rfl
theorem mTrack (t c l n : Value) (w : World) : (Go.method 376 157 (.agg #[t, c, l, n]) "loop.example/tannoy/impl.where").run Tryd.prog w = .ok (167, .agg #[t, c, l]) w := by kernel_rfl
theorem mStop (t c l : Value) (w : World) : (Go.method 376 159 (.agg #[t, c, l]) "loop.example/tannoy/impl.where").run Tryd.prog w = .ok (167, .agg #[t, c, l]) w := by kernel_rfl
theorem mHere (t c l : Value) (w : World) : (Go.method 376 160 (.agg #[t, c, l]) "loop.example/tannoy/impl.where").run Tryd.prog w = .ok (167, .agg #[t, c, l]) w := by kernel_rfl
theorem mGone (t c l : Value) (w : World) : (Go.method 376 161 (.agg #[t, c, l]) "loop.example/tannoy/impl.where").run Tryd.prog w = .ok (167, .agg #[t, c, l]) w := by kernel_rfl
theorem nLate (t c l n : Value) (w : World) : (Go.nilAhead 376 155 (.agg #[t, c, l, n]) "loop.example/tannoy/impl.where").run Tryd.prog w = .ok (some false) w := by kernel_rfl
theorem nTrack (t c l n : Value) (w : World) : (Go.nilAhead 376 157 (.agg #[t, c, l, n]) "loop.example/tannoy/impl.where").run Tryd.prog w = .ok (some false) w := by kernel_rfl
theorem nStop (t c l : Value) (w : World) : (Go.nilAhead 376 159 (.agg #[t, c, l]) "loop.example/tannoy/impl.where").run Tryd.prog w = .ok (some false) w := by kernel_rfl
theorem nHere (t c l : Value) (w : World) : (Go.nilAhead 376 160 (.agg #[t, c, l]) "loop.example/tannoy/impl.where").run Tryd.prog w = .ok (some false) w := by kernel_rfl
theorem nGone (t c l : Value) (w : World) : (Go.nilAhead 376 161 (.agg #[t, c, l]) "loop.example/tannoy/impl.where").run Tryd.prog w = .ok (some false) w := by kernel_rfl

theorem fld0 (t c l : Value) (w : World) : (Instr.field 112 (.agg #[t, c, l]) 0).run Tryd.prog w = .ok t w := by kernel_rfl
theorem fld1 (t c l : Value) (w : World) : (Instr.field 112 (.agg #[t, c, l]) 1).run Tryd.prog w = .ok c w := by kernel_rfl

theorem ta11 (v : Value) (w : World) : (Instr.typeAssert (.iface 155 v) 110 155 true).run Tryd.prog w = .ok (.tuple #[v, .bool true]) w := by kernel_rfl
theorem ta21 (v : Value) (w : World) : (Instr.typeAssert (.iface 157 v) 110 155 true).run Tryd.prog w = .ok (.tuple #[.agg #[.int .i64 0, .int .i64 0, .bool false, .int .i64 0], .bool false]) w := by kernel_rfl
theorem ta22 (v : Value) (w : World) : (Instr.typeAssert (.iface 157 v) 110 157 true).run Tryd.prog w = .ok (.tuple #[v, .bool true]) w := by kernel_rfl
theorem ta31 (v : Value) (w : World) : (Instr.typeAssert (.iface 159 v) 110 155 true).run Tryd.prog w = .ok (.tuple #[.agg #[.int .i64 0, .int .i64 0, .bool false, .int .i64 0], .bool false]) w := by kernel_rfl
theorem ta32 (v : Value) (w : World) : (Instr.typeAssert (.iface 159 v) 110 157 true).run Tryd.prog w = .ok (.tuple #[.agg #[.int .i64 0, .int .i64 0, .bool false, .int .i64 0], .bool false]) w := by kernel_rfl
theorem ta33 (v : Value) (w : World) : (Instr.typeAssert (.iface 159 v) 110 159 true).run Tryd.prog w = .ok (.tuple #[v, .bool true]) w := by kernel_rfl
theorem ta41 (v : Value) (w : World) : (Instr.typeAssert (.iface 160 v) 110 155 true).run Tryd.prog w = .ok (.tuple #[.agg #[.int .i64 0, .int .i64 0, .bool false, .int .i64 0], .bool false]) w := by kernel_rfl
theorem ta42 (v : Value) (w : World) : (Instr.typeAssert (.iface 160 v) 110 157 true).run Tryd.prog w = .ok (.tuple #[.agg #[.int .i64 0, .int .i64 0, .bool false, .int .i64 0], .bool false]) w := by kernel_rfl
theorem ta43 (v : Value) (w : World) : (Instr.typeAssert (.iface 160 v) 110 159 true).run Tryd.prog w = .ok (.tuple #[.agg #[.int .i64 0, .int .i64 0, .bool false], .bool false]) w := by kernel_rfl
theorem ta44 (v : Value) (w : World) : (Instr.typeAssert (.iface 160 v) 110 160 true).run Tryd.prog w = .ok (.tuple #[v, .bool true]) w := by kernel_rfl
theorem ta51 (v : Value) (w : World) : (Instr.typeAssert (.iface 161 v) 110 155 true).run Tryd.prog w = .ok (.tuple #[.agg #[.int .i64 0, .int .i64 0, .bool false, .int .i64 0], .bool false]) w := by kernel_rfl
theorem ta52 (v : Value) (w : World) : (Instr.typeAssert (.iface 161 v) 110 157 true).run Tryd.prog w = .ok (.tuple #[.agg #[.int .i64 0, .int .i64 0, .bool false, .int .i64 0], .bool false]) w := by kernel_rfl
theorem ta53 (v : Value) (w : World) : (Instr.typeAssert (.iface 161 v) 110 159 true).run Tryd.prog w = .ok (.tuple #[.agg #[.int .i64 0, .int .i64 0, .bool false], .bool false]) w := by kernel_rfl
theorem ta54 (v : Value) (w : World) : (Instr.typeAssert (.iface 161 v) 110 160 true).run Tryd.prog w = .ok (.tuple #[.agg #[.int .i64 0, .int .i64 0, .bool false], .bool false]) w := by kernel_rfl
theorem ta55 (v : Value) (w : World) : (Instr.typeAssert (.iface 161 v) 110 161 true).run Tryd.prog w = .ok (.tuple #[v, .bool true]) w := by kernel_rfl

set_option maxRecDepth 100000 in
theorem where_any (t c : Int) (l : Bool) (w : World) : Calls Tryd.prog 167 #[.agg #[.int .i64 t, .int .i64 c, .bool l]] w fun e w' => e = .returned (.agg #[.int .i64 t, .int .i64 c, .bool l]) ∧ Below w.heap.size w w' := by
  go_enter Tryd.func167, Tryd.ntmps167
  go_wp2_with fail
  refine bodyPost_ret (v := .agg #[.int .i64 t, .int .i64 c, .bool l]) (by simp [results, Tryd.results167, go_sem]) rfl ⟨rfl, ?_⟩
  exact ((((Below.refl _ _).alloc (Nat.le_refl _) _).alloc (by simp) _))

/-- Whether what a message says can still be, as the program asks it. -/
def allowsX (ns : List NewsD) (k : Nat) (last : Bool) (x : NewsD) (r : RepD) : Bool :=
  if x.gone then false else if x.off then false
  else if r.op = 1 then x.late != r.n
  else if r.op = 2 then !x.here && (x.track != r.n)
  else if r.op = 3 then !x.here
  else if r.op = 4 then !x.here && (decide (k = 0) || ((ns[k - 1]?.map (·.gone)).getD false))
  else x.here && !last
theorem allowsX_gone {ns : List NewsD} {k : Nat} {l : Bool} {x : NewsD} {r : RepD} (h : x.gone = true) : allowsX ns k l x r = false := by unfold allowsX; rw [h]; rfl
theorem allowsX_off {ns : List NewsD} {k : Nat} {l : Bool} {x : NewsD} {r : RepD} (h : x.off = true) : allowsX ns k l x r = false := by unfold allowsX; rw [h]; cases x.gone <;> rfl
/-- It is what the document asks, of the trip's own calls. -/
theorem allowsX_counts {full ns : List NewsD} {k : Nat} {l : Bool} {r : RepD} (ho : 1 ≤ r.op ∧ r.op ≤ 5) (hk : k < ns.length) (hk' : k < full.length) (ht : ∀ i (h : i < ns.length), full[i]? = some ns[i]) (hl : l = !decide (k + 1 < ns.length)) : allowsX full k l full[k] r = countsX ns k ns[k] r := by
  have e : full[k] = ns[k] := by
    have := ht k hk
    rw [List.getElem?_eq_getElem hk'] at this
    exact Option.some.inj this
  have e1 : k ≠ 0 → full[k - 1]? = ns[k - 1]? := fun h => by
    rw [ht (k - 1) (by omega), List.getElem?_eq_getElem (by omega)]
  unfold allowsX countsX
  rw [e]
  cases ns[k].gone <;> simp only [Bool.false_eq_true, ↓reduceIte]
  cases ns[k].off <;> simp only [Bool.false_eq_true, ↓reduceIte]
  by_cases g1 : r.op = 1
  · simp [g1]
  · by_cases g2 : r.op = 2
    · simp [g2]
    · by_cases g3 : r.op = 3
      · simp [g3]
      · by_cases g4 : r.op = 4
        · simp only [g4]
          by_cases hk0 : k = 0
          · simp [hk0]
          · rw [e1 hk0]; simp
        · have g5 : r.op = 5 := by omega
          simp [g5, hl]

/-- The box of a row, and what lies in it. -/
theorem rowBox_cells (ns : List NewsD) (w W : World) (t : TypeId) (hW : w.alloc (.cells (rowCells ns).toArray t) = W) (i : Nat) (h : i < ns.length) :
    W.cell? ⟨w.heap.size, i * 5, none⟩ = some (.int .i64 ns[i].late) ∧ W.cell? ⟨w.heap.size, i * 5 + 1, none⟩ = some (.int .i64 ns[i].track) ∧ W.cell? ⟨w.heap.size, i * 5 + 2, none⟩ = some (.bool ns[i].off) ∧ W.cell? ⟨w.heap.size, i * 5 + 3, none⟩ = some (.bool ns[i].here) ∧ W.cell? ⟨w.heap.size, i * 5 + 4, none⟩ = some (.bool ns[i].gone) := by
  have hc : ∀ c, c < 5 → W.cell? ⟨w.heap.size, i * 5 + c, none⟩ = (newsCells ns[i])[c]? := fun c hc => by
    rw [← hW, cell_of_row _ _ _ _ _ _ (heap_alloc_last w _)]
    simp only [List.getElem?_toArray]
    exact rowCells_get ns i c h hc
  exact ⟨by simpa [newsCells] using hc 0 (by omega), by simpa [newsCells] using hc 1 (by omega), by simpa [newsCells] using hc 2 (by omega), by simpa [newsCells] using hc 3 (by omega), by simpa [newsCells] using hc 4 (by omega)⟩

end Go.Proofs.YtjioingdpfgadaaDoor
