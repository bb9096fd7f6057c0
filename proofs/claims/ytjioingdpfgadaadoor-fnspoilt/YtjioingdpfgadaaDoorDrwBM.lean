import Derived.Test.YtjioingdpfgadaaDoorProg
import Derived.Test.YtjioingdpfgadaaDoorHeapM
import Derived.Test.YtjioingdpfgadaaDoorToM
import Derived.Test.YtjioingdpfgadaaDoorSzM
import Derived.Deep.AppendLies
import Derived.Deep.RegionLaw
import Derived.Deep.Cut
import Derived.Deep.DeepCutAuto
namespace Go.Proofs.YtjioingdpfgadaaDoor
open Go Go.RowKit Go.Deep

/-- The four cells of a call. -/
def fourOf (c : CallD) : List Value := [.int .i64 c.st, .int .i64 c.co, .int .i64 c.go, .int .i64 c.tr]
def fours (cs : List CallD) : List Value := cs.flatMap fourOf
theorem fours_snoc (cs : List CallD) (c : CallD) : fours (cs ++ [c]) = fours cs ++ fourOf c := by simp [fours]
theorem fours_length (cs : List CallD) : (fours cs).length = cs.length * 4 := by
  induction cs with
  | nil => rfl
  | cons a l ih => simp only [fours, List.flatMap_cons, List.length_append, List.length_cons] at ih ⊢; rw [show (l.flatMap fourOf).length = l.length * 4 from ih]; simp [fourOf]; omega
theorem fours_get (cs : List CallD) (i c : Nat) (h : i < cs.length) (hc : c < 4) : (fours cs)[i * 4 + c]? = (fourOf cs[i])[c]? := by
  induction cs generalizing i with
  | nil => simp at h
  | cons a l ih =>
    have e : fours (a :: l) = fourOf a ++ fours l := by simp [fours]
    rw [e]
    cases i with
    | zero => rw [List.getElem?_append_left (by simp [fourOf]; omega)]; simp
    | succ i =>
      rw [List.getElem?_append_right (by simp [fourOf]; omega)]
      have : (i + 1) * 4 + c - (fourOf a).length = i * 4 + c := by simp [fourOf]; omega
      rw [this, ih i (by simpa using h)]
      rfl
/-- Calls in memory of one's own can be read. -/
theorem calls_at {B : Nat} {w : World} {v : Value} {cs : List CallD} (h : w.ownsRow B 56 4 v cs.length (fours cs)) : ∃ a c, v = .slice a cs.length c ∧ CallsAt w a cs := by
  rcases h.2 with ⟨e, e0⟩ | ⟨g, cap, cur, e, _⟩
  · exact ⟨none, 0, by rw [e, e0], fun j hj => by omega⟩
  · refine ⟨some ⟨g, 0, none⟩, cap, e, fun j hj => ?_⟩
    rw [e] at h
    have hc : ∀ c, c < 4 → w.cell? ⟨g, j * 4 + c, none⟩ = (fourOf cs[j])[c]? := fun c hc => by
      rw [h.cellAt _ (by omega), fours_get _ j c hj hc]
    refine ⟨g, 0, rfl, ?_, ?_, ?_, ?_⟩
    · simpa [fourOf] using hc 0 (by omega)
    · simpa [fourOf] using hc 1 (by omega)
    · simpa [fourOf] using hc 2 (by omega)
    · simpa [fourOf] using hc 3 (by omega)
theorem strs_at {B : Nat} {w : World} {v : Value} {ss : List ByteArray} (h : w.ownsRow B 9 1 v ss.length (ss.map Value.string)) : ∃ a c, v = .slice a ss.length c ∧ StrsAt w a ss := by
  rcases h.2 with ⟨e, e0⟩ | ⟨g, cap, cur, e, _⟩
  · exact ⟨none, 0, by rw [e, e0], fun j hj => by omega⟩
  · refine ⟨some ⟨g, 0, none⟩, cap, e, fun j hj => ⟨g, 0, rfl, ?_⟩⟩
    rw [e] at h
    rw [Nat.zero_add, h.cellAt j (by omega)]
    simp [hj]
/-- The cells of trips whose calls lie at vs. -/
def tripCells : List TripD → List Value → List Value
  | t :: ts, v :: vs => .string t.name :: v :: tripCells ts vs
  | _, _ => []
theorem tripCells_length : ∀ (ts : List TripD) (vs : List Value), vs.length = ts.length → (tripCells ts vs).length = ts.length * 2
  | [], [], _ => rfl
  | t :: ts, v :: vs, h => by simp only [tripCells, List.length_cons]; rw [tripCells_length ts vs (by simpa using h)]; omega
theorem tripCells_snoc : ∀ (ts : List TripD) (vs : List Value) (t : TripD) (v : Value), vs.length = ts.length → tripCells (ts ++ [t]) (vs ++ [v]) = tripCells ts vs ++ [.string t.name, v]
  | [], [], _, _, _ => rfl
  | a :: ts, b :: vs, t, v, h => by simp only [List.cons_append, tripCells]; rw [tripCells_snoc ts vs t v (by simpa using h)]
theorem tripCells_get : ∀ (ts : List TripD) (vs : List Value) (i : Nat) (h : i < ts.length) (h' : i < vs.length), (tripCells ts vs)[i * 2]? = some (.string ts[i].name) ∧ (tripCells ts vs)[i * 2 + 1]? = some vs[i]
  | t :: ts, v :: vs, 0, _, _ => ⟨rfl, rfl⟩
  | t :: ts, v :: vs, i + 1, h, h' => by
    have := tripCells_get ts vs i (by simpa using h) (by simpa using h')
    have e1 : (i + 1) * 2 = i * 2 + 1 + 1 := by omega
    rw [e1]
    simpa [tripCells] using this
/-- Trips in memory of one's own. -/
structure TripsOwn (B : Nat) (w : World) (v : Value) (ts : List TripD) (vs : List Value) : Prop where
  outer : w.ownsRow B 54 2 v ts.length (tripCells ts vs)
  len : vs.length = ts.length
  rows : ∀ i (h : i < ts.length) (h' : i < vs.length), w.ownsRow B 56 4 vs[i] ts[i].calls.length (fours ts[i].calls)
theorem trips_at {B : Nat} {w : World} {v : Value} {ts : List TripD} {vs : List Value} (h : TripsOwn B w v ts vs) : ∃ a c, v = .slice a ts.length c ∧ TripsAt w a ts := by
  rcases h.outer.2 with ⟨e, e0⟩ | ⟨g, cap, cur, e, _⟩
  · exact ⟨none, 0, by rw [e, e0], fun j hj => by omega⟩
  · refine ⟨some ⟨g, 0, none⟩, cap, e, fun j hj => ?_⟩
    have hj' : j < vs.length := by rw [h.len]; exact hj
    obtain ⟨ca, cc, ev, hca⟩ := calls_at (h.rows j hj hj')
    have ho := h.outer
    rw [e] at ho
    obtain ⟨g1, g2⟩ := tripCells_get ts vs j hj hj'
    refine ⟨g, 0, ca, cc, rfl, ?_, ?_, hca⟩
    · rw [Nat.zero_add, ho.cellAt _ (by omega)]; exact g1
    · rw [Nat.zero_add, ho.cellAt _ (by omega), g2, ev]
/-- A book that is being made: its box, and rows of the call's own. -/
structure DraftAt (w : World) (Bb B : Nat) (ss : List ByteArray) (ts : List TripD) (sv tv : Value) (vs : List Value) : Prop where
  box : w.heap[Bb]? = some (.cells #[sv, tv] 26 (0, 0))
  strs : w.ownsRow B 9 1 sv ss.length (ss.map Value.string)
  trips : TripsOwn B w tv ts vs
  low : Bb < B
theorem TripsOwn.other {B C : Nat} {w w' : World} {v : Value} {ts : List TripD} {vs : List Value} (h : TripsOwn B w v ts vs) (hg : w.grownBy w' (some C)) (hC : C < B) : TripsOwn B w' v ts vs := by
  have hne : ∀ {u : Value} {e : TypeId} {s n : Nat} {xs : List Value}, w.ownsRow B e s u n xs → u.ownBlock = none ∨ u.ownBlock ≠ some C := fun hr => Or.inr (fun e => by have := (hr.lt _ e).1; omega)
  exact ⟨h.outer.kept hg (hne h.outer), h.len, fun i h1 h2 => (h.rows i h1 h2).kept hg (hne (h.rows i h1 h2))⟩
theorem TripsOwn.below {B : Nat} {w w' : World} {v : Value} {ts : List TripD} {vs : List Value} (h : TripsOwn B w v ts vs) (hb : Below w.heap.size w w') : TripsOwn B w' v ts vs :=
  ⟨owns_below h.outer hb (owns_lt h.outer), h.len, fun i h1 h2 => owns_below (h.rows i h1 h2) hb (owns_lt (h.rows i h1 h2))⟩
theorem DraftAt.other {w w' : World} {Bb B C : Nat} {ss : List ByteArray} {ts : List TripD} {sv tv : Value} {vs : List Value} (h : DraftAt w Bb B ss ts sv tv vs) (hg : w.grownBy w' (some C)) (hC : C < B) (hne : C ≠ Bb) : DraftAt w' Bb B ss ts sv tv vs :=
  ⟨(hg.block Bb (Array.getElem?_eq_some_iff.1 h.box).1 (fun e => hne (by cases e; rfl))).trans h.box, h.strs.kept hg (Or.inr (fun e => by have := (h.strs.lt _ e).1; omega)), h.trips.other hg hC, h.low⟩
theorem DraftAt.below {w w' : World} {Bb B : Nat} {ss : List ByteArray} {ts : List TripD} {sv tv : Value} {vs : List Value} (h : DraftAt w Bb B ss ts sv tv vs) (hb : Below w.heap.size w w') : DraftAt w' Bb B ss ts sv tv vs :=
  ⟨(hb.block Bb (Array.getElem?_eq_some_iff.1 h.box).1).trans h.box, owns_below h.strs hb (owns_lt h.strs), h.trips.below hb, h.low⟩
theorem draft_book {w : World} {Bb B : Nat} {ss : List ByteArray} {ts : List TripD} {sv tv : Value} {vs : List Value} (h : DraftAt w Bb B ss ts sv tv vs) : BookAt w (.agg #[sv, tv]) ⟨ss, ts⟩ := by
  obtain ⟨a, c, rfl, h1⟩ := strs_at h.strs
  obtain ⟨a', c', rfl, h2⟩ := trips_at h.trips
  exact ⟨a, c, a', c', rfl, h1, h2⟩

end Go.Proofs.YtjioingdpfgadaaDoor
namespace Go.Proofs.YtjioingdpfgadaaDoor
open Go Go.RowKit Go.Deep

theorem two_cells {w : World} {C : Nat} {x y : Value} {T : TypeId} (h : w.heap[C]? = some (.cells #[x, y] T (0, 0))) : (w.cell? ⟨C, 0, none⟩ = some x ∧ w.cell? ⟨C, 1, none⟩ = some y) ∧ (∀ i, w.frozen? ⟨C, i, none⟩ = false) := by
  refine ⟨⟨?_, ?_⟩, fun i => ?_⟩ <;> simp [World.cell?, World.frozen?, h]
/-- All below n0 but block C lies as it lay. -/
structure KeepC (C n0 : Nat) (w w' : World) : Prop where
  os : w'.os = w.os
  tape : w'.tape = w.tape
  output : w'.output = w.output
  size : w.heap.size ≤ w'.heap.size
  block : ∀ k, k < n0 → k ≠ C → w'.heap[k]? = w.heap[k]?
theorem KeepC.refl (C n0 : Nat) (w : World) : KeepC C n0 w w := ⟨rfl, rfl, rfl, Nat.le_refl _, fun _ _ _ => rfl⟩
theorem KeepC.trans {C n0 : Nat} {a b c : World} (h : KeepC C n0 a b) (k : KeepC C n0 b c) : KeepC C n0 a c :=
  ⟨k.os.trans h.os, k.tape.trans h.tape, k.output.trans h.output, Nat.le_trans h.size k.size, fun i hi hB => (k.block i hi hB).trans (h.block i hi hB)⟩
theorem KeepC.below {C n0 : Nat} {w w' : World} (h : Below n0 w w') : KeepC C n0 w w' := ⟨h.os, h.tape, h.output, h.size, fun i hi _ => h.block i hi⟩
theorem KeepC.cur {C n0 : Nat} {w w' : World} (h : w.grownBy w' (some C)) (hn : n0 ≤ w.heap.size) : KeepC C n0 w w' := ⟨h.os, h.tape, h.output, h.size, fun i hi hC => h.block i (by omega) (fun e => hC (by cases e; rfl))⟩
theorem BytesAt.keep {w w' : World} {a : Option Addr} {bs : List Int} (h : BytesAt w a bs) (hb : Below w.heap.size w w') : BytesAt w' a bs := fun i hi => by
  obtain ⟨b, o, e, hc, hx⟩ := h i hi
  exact ⟨b, o, e, cell_keep hb hc, hx⟩
theorem CurAt.keep {w w' : World} {C : Nat} {ca : Option Addr} {bs : List Int} {cap m : Nat} {s : Rd} (h : CurAt w C ca bs cap s m) (hb : Below w.heap.size w w') : CurAt w' C ca bs cap s m :=
  ⟨h.low, h.sd0, h.sd1, (hb.block C (Array.getElem?_eq_some_iff.1 h.box).1).trans h.box, h.code.keep hb, h.apart⟩
/-- The reader stays what it is while another block is written. -/
theorem CurAt.other {w w' : World} {C r : Nat} {ca : Option Addr} {bs : List Int} {cap m : Nat} {s : Rd} (h : CurAt w C ca bs cap s m) (hg : w.grownBy w' (some r)) (hC : C ≠ r) (hr : ∀ b o, ca = some ⟨b, o, none⟩ → b ≠ r) : CurAt w' C ca bs cap s m := by
  refine ⟨h.low, h.sd0, h.sd1, (hg.block C (Array.getElem?_eq_some_iff.1 h.box).1 (fun e => hC (by cases e; rfl))).trans h.box, fun i hi => ?_, h.apart⟩
  obtain ⟨b, o, e, hc, hx⟩ := h.code i hi
  exact ⟨b, o, e, (World.cell?_of_block (w := w) (hg.block b (cell_lt hc) (fun e' => hr b o e (by cases e'; rfl)))).trans hc, hx⟩
theorem CurAt.grown {w w' : World} {C B : Nat} {ca : Option Addr} {bs : List Int} {cap m k s : Nat} {rd : Rd} {e : TypeId} {v : Value} {xs : List Value} (h : CurAt w C ca bs cap rd m) (hg : w.grownBy w' v.ownBlock) (hr : w.ownsRow B e s v k xs) (hC : C < B) (hcode : ∀ b o, ca = some ⟨b, o, none⟩ → b < B) : CurAt w' C ca bs cap rd m := by
  cases hb : v.ownBlock with
  | none =>
    rw [hb] at hg
    exact h.keep ⟨hg.os, hg.tape, hg.output, hg.size, fun k hk => hg.block k hk (by simp)⟩
  | some r =>
    have := (hr.lt r hb).1
    rw [hb] at hg
    exact h.other hg (by omega) (fun b o e => by have := hcode b o e; omega)
theorem CurAt.more {w : World} {C : Nat} {ca : Option Addr} {bs : List Int} {cap m m' : Nat} {s : Rd} (h : CurAt w C ca bs cap s m) (hm : m ≤ m') : CurAt w C ca bs cap s m' := ⟨by have := h.low; omega, h.sd0, h.sd1, h.box, h.code, h.apart⟩

/-- At a step of a region that draws its order: a call by its contract (for go_region_law, beside step_append_lies). -/
theorem step_call {P : Program} {ops : Array Oper} {o : Oper} {a : Act} {w : World} {K : Act → World → Prop} {Q : Exit → Act → World → Prop} {E : Prop} {R : Ending → World → Prop} (hgd : o.guard = none) (f : FuncId) (args : Array Value) (hrun : (execOp a.eval o).run P w = .ok (.enter f args) w) (hc : Calls P f args w R)
    (h : ∀ e w', R e w' → ∃ v, e = .returned v ∧ K (a.put o.dst v) w') : if Region.wanted o (yielded ops a.tmps) = true then Oper.wp P o a w K Q else E := by
  have hw : Region.wanted o (yielded ops a.tmps) = true := by simp [Region.wanted, hgd]
  rw [if_pos hw]
  unfold Oper.wp
  rw [hrun, Oper.upon_enter]
  refine hc.mono fun e w' hr => ?_
  obtain ⟨v, rfl, hk⟩ := h e w' hr
  exact hk

end Go.Proofs.YtjioingdpfgadaaDoor
namespace Go.Proofs.YtjioingdpfgadaaDoor
open Go Go.RowKit Go.Deep

/-- What lies in blocks of a world stays while only C and new blocks are written. -/
theorem KeepC.mono {C n0 n1 : Nat} {w w' : World} (h : KeepC C n0 w w') (hn : n1 ≤ n0) : KeepC C n1 w w' := ⟨h.os, h.tape, h.output, h.size, fun k hk hC => h.block k (by omega) hC⟩
theorem owns_keepC {C B : Nat} {w w' : World} {e : TypeId} {s n : Nat} {v : Value} {xs : List Value} (h : w.ownsRow B e s v n xs) (hk : KeepC C w.heap.size w w') (hC : C < B) : w'.ownsRow B e s v n xs := by
  refine ⟨h.1, ?_⟩
  rcases h.2 with h0 | ⟨g, cap, cur, rfl, h1, hh, r⟩
  · exact Or.inl h0
  · exact Or.inr ⟨g, cap, cur, rfl, h1, by rw [hk.block g (Array.getElem?_eq_some_iff.1 hh).1 (by omega)]; exact hh, r⟩
theorem TripsOwn.keepC {C B : Nat} {w w' : World} {v : Value} {ts : List TripD} {vs : List Value} (h : TripsOwn B w v ts vs) (hk : KeepC C w.heap.size w w') (hC : C < B) : TripsOwn B w' v ts vs :=
  ⟨owns_keepC h.outer hk hC, h.len, fun i h1 h2 => owns_keepC (h.rows i h1 h2) hk hC⟩
theorem DraftAt.keepC {w w' : World} {Bb B C : Nat} {ss : List ByteArray} {ts : List TripD} {sv tv : Value} {vs : List Value} (h : DraftAt w Bb B ss ts sv tv vs) (hk : KeepC C w.heap.size w w') (hC : C < B) (hne : C ≠ Bb) : DraftAt w' Bb B ss ts sv tv vs :=
  ⟨(hk.block Bb (Array.getElem?_eq_some_iff.1 h.box).1 (fun e => hne e.symm)).trans h.box, owns_keepC h.strs hk hC, h.trips.keepC hk hC, h.low⟩
/-- A store into a block that is none of those below n0. -/
theorem KeepC.set {C n0 : Nat} (w : World) (p : Addr) (u : Value) (h : n0 ≤ p.block) : KeepC C n0 w (w.setCell p u) :=
  ⟨rfl, rfl, rfl, by simp [World.setCell], fun k hk _ => Below.heap_setCell _ _ _ _ (by omega)⟩
theorem KeepC.own {C n0 B : Nat} {w w' : World} {e : TypeId} {s n : Nat} {v : Value} {xs : List Value} (hr : w.ownsRow B e s v n xs) (hg : w.grownBy w' v.ownBlock) (h0 : n0 ≤ B) (h1 : n0 ≤ w.heap.size) : KeepC C n0 w w' :=
  ⟨hg.os, hg.tape, hg.output, hg.size, fun k hk _ => hg.block k (by omega) (fun e => by have := (hr.lt k e.symm).1; omega)⟩
theorem set_grown (w : World) (b o : Nat) (u : Value) : w.grownBy (w.setCell ⟨b, o, none⟩ u) (some b) :=
  ⟨rfl, rfl, rfl, by simp [World.setCell], fun k _ hk => Below.heap_setCell _ _ _ _ (fun e => hk (by rw [e]))⟩
theorem TripsOwn.apart {B B' : Nat} {w w' : World} {tv v : Value} {ts : List TripD} {vs : List Value} {e : TypeId} {s n : Nat} {xs : List Value} (h : TripsOwn B w tv ts vs) (hr : w.ownsRow B' e s v n xs) (hg : w.grownBy w' v.ownBlock) (h1 : e ≠ 54) (h2 : e ≠ 56) : TripsOwn B w' tv ts vs := by
  have go : ∀ {e' : TypeId} {s' n' : Nat} {u : Value} {ys : List Value}, e ≠ e' → w.ownsRow B e' s' u n' ys → w'.ownsRow B e' s' u n' ys := fun {e' s' n' u ys} hne hu => by
    refine hu.kept hg ?_
    cases hb : u.ownBlock with
    | none => exact Or.inl rfl
    | some g => exact Or.inr fun e2 => hne (owns_types hr hu e2.symm hb)
  exact ⟨go h1 h.outer, h.len, fun i a b => go h2 (h.rows i a b)⟩
theorem draft_box {w4 w5 : World} {Bb B : Nat} {ss : List ByteArray} {ts : List TripD} {sv tv : Value} {vs : List Value} {o : Obj} (h : DraftAt w4 Bb B ss ts sv tv vs) (hg : (w4.alloc o).grownBy w5 sv.ownBlock) : w5.heap[Bb]? = some (.cells #[sv, tv] 26 (0, 0)) := by
  have hD := h.below ((Below.refl w4.heap.size w4).alloc (Nat.le_refl _) o)
  rw [hg.block Bb (Array.getElem?_eq_some_iff.1 hD.box).1 (fun e => by have := (hD.strs.lt _ e.symm).1; have := h.low; omega)]; exact hD.box
theorem draft_boxT {w4 w5 : World} {Bb B : Nat} {ss : List ByteArray} {ts : List TripD} {sv tv : Value} {vs : List Value} {o : Obj} (h : DraftAt w4 Bb B ss ts sv tv vs) (hg : (w4.alloc o).grownBy w5 tv.ownBlock) : w5.heap[Bb]? = some (.cells #[sv, tv] 26 (0, 0)) := by
  have hD := h.below ((Below.refl w4.heap.size w4).alloc (Nat.le_refl _) o)
  rw [hg.block Bb (Array.getElem?_eq_some_iff.1 hD.box).1 (fun e => by have := (hD.trips.outer.lt _ e.symm).1; have := h.low; omega)]; exact hD.box
/-- A name more. -/
theorem draft_name {w4 w5 : World} {Bb B : Nat} {ss : List ByteArray} {ts : List TripD} {sv tv v' : Value} {vs : List Value} {nm : ByteArray} {o : Obj} (h : DraftAt w4 Bb B ss ts sv tv vs) (hown : w5.ownsRow B 9 1 v' (ss.length + 1) (ss.map Value.string ++ [.string nm])) (hg : (w4.alloc o).grownBy w5 sv.ownBlock) :
    DraftAt (w5.setCell ⟨Bb, 0, none⟩ v') Bb B (ss ++ [nm]) ts v' tv vs := by
  have hA : Below w4.heap.size w4 (w4.alloc o) := (Below.refl _ _).alloc (Nat.le_refl _) _
  have hD := h.below hA
  have hbx : w5.heap[Bb]? = some (.cells #[sv, tv] 26 (0, 0)) := by
    rw [hg.block Bb (Array.getElem?_eq_some_iff.1 hD.box).1 (fun e => by have := (hD.strs.lt _ e.symm).1; have := h.low; omega)]; exact hD.box
  refine ⟨?_, ?_, ?_, h.low⟩
  · simp [World.setCell, Array.getElem?_modify, hbx]
  · have h1 : w5.ownsRow B 9 1 v' (ss ++ [nm]).length ((ss ++ [nm]).map Value.string) := by simpa using hown
    exact h1.kept (set_grown w5 Bb 0 v') (Or.inr (fun e => by have := (h1.lt _ e).1; have := h.low; omega))
  · exact (hD.trips.apart hD.strs hg (by decide) (by decide)).other (set_grown w5 Bb 0 v') h.low
/-- A trip more. -/
theorem draft_trip {w4 w5 : World} {Bb B : Nat} {ss : List ByteArray} {ts : List TripD} {sv tv v' cv : Value} {vs : List Value} {t : TripD} {o : Obj} (h : DraftAt w4 Bb B ss ts sv tv vs) (hc : w4.ownsRow B 56 4 cv t.calls.length (fours t.calls))
    (hown : w5.ownsRow B 54 2 v' (ts.length + 1) (tripCells ts vs ++ [.string t.name, cv])) (hg : (w4.alloc o).grownBy w5 tv.ownBlock) :
    DraftAt (w5.setCell ⟨Bb, 1, none⟩ v') Bb B ss (ts ++ [t]) sv v' (vs ++ [cv]) := by
  have hA : Below w4.heap.size w4 (w4.alloc o) := (Below.refl _ _).alloc (Nat.le_refl _) _
  have hD := h.below hA
  have hc' := owns_below hc hA (owns_lt hc)
  have hbx : w5.heap[Bb]? = some (.cells #[sv, tv] 26 (0, 0)) := by
    rw [hg.block Bb (Array.getElem?_eq_some_iff.1 hD.box).1 (fun e => by have := (hD.trips.outer.lt _ e.symm).1; have := h.low; omega)]; exact hD.box
  have ne : ∀ {e' : TypeId} {s' n' : Nat} {u : Value} {ys : List Value}, 54 ≠ e' → (w4.alloc o).ownsRow B e' s' u n' ys → (w5.setCell ⟨Bb, 1, none⟩ v').ownsRow B e' s' u n' ys := fun {e' s' n' u ys} hne hu => by
    have h1 : w5.ownsRow B e' s' u n' ys := by
      refine hu.kept hg ?_
      cases hb : u.ownBlock with
      | none => exact Or.inl rfl
      | some g => exact Or.inr fun e2 => hne (owns_types hD.trips.outer hu e2.symm hb)
    exact h1.kept (set_grown w5 Bb 1 v') (Or.inr (fun e => by have := (h1.lt _ e).1; have := h.low; omega))
  refine ⟨?_, ne (by decide) hD.strs, ⟨?_, by simp [h.trips.len], fun i h1 h2 => ?_⟩, h.low⟩
  · simp [World.setCell, Array.getElem?_modify, hbx]
  · have h1 : w5.ownsRow B 54 2 v' (ts ++ [t]).length (tripCells (ts ++ [t]) (vs ++ [cv])) := by
      rw [tripCells_snoc ts vs t cv h.trips.len, List.length_append]; exact hown
    exact h1.kept (set_grown w5 Bb 1 v') (Or.inr (fun e => by have := (h1.lt _ e).1; have := h.low; omega))
  · by_cases hi : i < ts.length
    · have e1 : (ts ++ [t])[i] = ts[i] := List.getElem_append_left hi
      have e2 : (vs ++ [cv])[i] = vs[i]'(by rw [h.trips.len]; exact hi) := List.getElem_append_left (by rw [h.trips.len]; exact hi)
      rw [e1, e2]
      exact ne (by decide) (hD.trips.rows i hi (by rw [h.trips.len]; exact hi))
    · have hi' : i = ts.length := by simp at h1; omega
      subst hi'
      have e1 : (ts ++ [t])[ts.length]'h1 = t := by simp
      have e2 : (vs ++ [cv])[ts.length]'h2 = cv := by simp [← h.trips.len]
      rw [e1, e2]
      exact ne (by decide) hc'
/-- A block below the rows stays behind an append and a store into another block. -/
theorem block_kept {w4 w5 : World} {x B Bb i s n : Nat} {e : TypeId} {o : Obj} {sv v' : Value} {xs : List Value} (hown : w4.ownsRow B e s sv n xs) (hg : (w4.alloc o).grownBy w5 sv.ownBlock) (hx : x < B) (hx4 : x < w4.heap.size) (hne : x ≠ Bb) : (w5.setCell ⟨Bb, i, none⟩ v').heap[x]? = w4.heap[x]? := by
  rw [Below.heap_setCell _ _ _ _ hne, hg.block x (by simp; omega) (fun e => by have := ((hown.alloc o).lt _ e.symm).1; omega)]
  exact Below.heap_alloc _ _ _ hx4
theorem KeepC.drewCur {w w' : World} {C : Nat} (h : w.drew.grownBy w' (some C)) : KeepC C w.heap.size w w' := (KeepC.below (Below.refl _ _).drew).trans (KeepC.cur h (Nat.le_refl _))
theorem four_one (c : CallD) : ∀ u ∈ fourOf c, u.oneCell' = true := by
  intro u hu
  simp only [fourOf, List.mem_cons, List.not_mem_nil, or_false] at hu
  rcases hu with rfl | rfl | rfl | rfl <;> rfl
/-- A call more, in a trip's box. -/
theorem trip_call {w4 w5 : World} {X C : Nat} {nm : ByteArray} {cv v' : Value} {cs : List CallD} {c : CallD} {o : Obj} (hX : w4.heap[X]? = some (.cells #[.string nm, cv] 54 (0, 0))) (hO : w4.ownsRow (X + 1) 56 4 cv cs.length (fours cs)) (hown : w5.ownsRow (X + 1) 56 4 v' (cs.length + 1) (fours cs ++ fourOf c)) (hg : (w4.alloc o).grownBy w5 cv.ownBlock) :
    w5.heap[X]? = some (.cells #[.string nm, cv] 54 (0, 0)) ∧ (w5.setCell ⟨X, 1, none⟩ v').heap[X]? = some (.cells #[.string nm, v'] 54 (0, 0)) ∧ (w5.setCell ⟨X, 1, none⟩ v').ownsRow (X + 1) 56 4 v' (cs ++ [c]).length (fours (cs ++ [c])) ∧ KeepC C X w4 (w5.setCell ⟨X, 1, none⟩ v') := by
  have hXl := (Array.getElem?_eq_some_iff.1 hX).1
  have hbx : w5.heap[X]? = some (.cells #[.string nm, cv] 54 (0, 0)) := by
    rw [hg.block X (by simp; omega) (fun e => by have := ((hO.alloc o).lt _ e.symm).1; omega), Below.heap_alloc _ _ _ hXl]; exact hX
  have h1 : w5.ownsRow (X + 1) 56 4 v' (cs ++ [c]).length (fours (cs ++ [c])) := by rw [fours_snoc, List.length_append]; exact hown
  refine ⟨hbx, ?_, h1.kept (set_grown w5 X 1 v') (Or.inr (fun e => by have := (h1.lt _ e).1; omega)), ?_⟩
  · simp [World.setCell, Array.getElem?_modify, hbx]
  · exact ((KeepC.below ((Below.refl _ _).alloc (by omega) _)).trans (KeepC.own (hO.alloc o) hg (by omega) (by simp; omega))).trans (KeepC.set _ _ _ (Nat.le_refl _))
/-- One result, a struct in a box. -/
theorem results_row {P : Program} {fn : Func} {p : Tmp} {ty : TypeId} (h : fn.results = #[.cell p ty]) (tmps : Array Value) (w : World) (g : Nat) (t : TypeId) (cs : Array Value) (fr : Nat × Nat) (d : TypeDesc)
    (hp : tmps.getD p undef = .pointer (some ⟨g, 0, none⟩)) (hg : w.heap[g]? = some (.cells cs t fr))
    (hu : P.underlying ty = some d) (hd : (match d with | .struct _ | .array _ _ => true | _ => false) = true) (hi : (P.info? ty).map (·.size) = some cs.size) :
    (results fn tmps).run P w = .ok (.agg cs) w := by
  have hp' : tmps[p]?.getD undef = .pointer (some ⟨g, 0, none⟩) := by simpa using hp
  simp [results, h, hp', asAddr, run_loadVar_row w g t ty cs fr d hg hu hd hi]
theorem infBook : (Tryd.prog.info? 26).map (·.size) = some 2 := by kernel_rfl
theorem KeepC.set2 {C n0 : Nat} (w : World) (b : Nat) (u v : Value) (h : n0 ≤ b) : KeepC C n0 w ((w.setCell ⟨b, 0, none⟩ u).setCell ⟨b, 1, none⟩ v) := (KeepC.set w ⟨b, 0, none⟩ u h).trans (KeepC.set _ ⟨b, 1, none⟩ v h)

end Go.Proofs.YtjioingdpfgadaaDoor
