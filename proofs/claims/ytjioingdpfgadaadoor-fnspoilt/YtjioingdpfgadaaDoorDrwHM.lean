import Derived.Test.YtjioingdpfgadaaDoorDrwGM
import Derived.Deep.CutBlock
namespace Go.Proofs.YtjioingdpfgadaaDoor
open Go Go.RowKit Go.Deep

/-- A block of another type is none of a row's. -/
theorem block_apart {w : World} {B x g s n : Nat} {T E : TypeId} {cs : Array Value} {fr : Nat × Nat} {v : Value} {xs : List Value} (hx : w.heap[x]? = some (.cells cs T fr)) (hr : w.ownsRow B E s v n xs) (hg : v.ownBlock = some g) (hT : T ≠ E) : x ≠ g := by
  rintro rfl
  rcases hr.2 with ⟨rfl, _⟩ | ⟨g1, c1, cur1, rfl, _, hh, _⟩
  · simp [Value.ownBlock] at hg
  · simp [Value.ownBlock] at hg
    subst hg
    rw [hx] at hh
    simp at hh
    exact hT hh.2.1
/-- l2do writes into one row of the news alone. -/
theorem l2do_rep (B : Nat) (v : Value) (nss : List (List NewsD)) (vs : List Value) (r : RepD) (j k : Nat) (w : World) (hj : j < nss.length) (hjk : r.trip = (j : Int)) (hk : k < nss[j].length) (hkk : r.call = (k : Int)) (hm2 : nss[j].length ≤ 1048576) (hop : 1 ≤ r.op ∧ r.op ≤ 5) (hat : NewsOwnAt B w v nss vs) :
    Calls Tryd.prog 49 #[v, repV r] w fun e w' => e = .returned (.tuple #[]) ∧ NewsOwnAt B w' v (nss.set j (doRow r nss[j])) vs ∧ ∃ g rv n xs, w.ownsRow B 41 5 rv n xs ∧ rv.ownBlock = some g ∧ w.grownBy w' (some g) := by
  have hj' : j < vs.length := by rw [hat.len]; exact hj
  have hr := hat.rows j hj hj'
  obtain ⟨gv, cv, rfl, _, _⟩ := hat.outer.form (by omega)
  obtain ⟨g, cap, e, hg1, _⟩ := hr.form (by omega)
  have hv : w.cell? ⟨gv, j, none⟩ = some vs[j] := by rw [hat.outer.cellAt j (by omega), List.getElem?_eq_getElem hj']
  rw [e] at hr
  have fin : ∀ w', w'.ownsRow B 41 5 (.slice (some ⟨g, 0, none⟩) nss[j].length cap) nss[j].length (rowCells (doRow r nss[j])) → w.grownBy w' (some g) → NewsOwnAt B w' (.slice (some ⟨gv, 0, none⟩) nss.length cv) (nss.set j (doRow r nss[j])) vs ∧ ∃ g rv n xs, w.ownsRow B 41 5 rv n xs ∧ rv.ownBlock = some g ∧ w.grownBy w' (some g) := fun w' h1 h2 =>
    ⟨hat.stored j hj hj' (by rw [e, doRow_length]; exact h1) (by rw [e]; exact h2), g, _, _, _, hr, rfl, h2⟩
  rw [e] at hv
  rcases (by omega : r.op = 1 ∨ r.op = 2 ∨ r.op = 3 ∨ r.op = 4 ∨ r.op = 5) with h | h | h | h | h
  · exact (l2do_1 B gv cv g cap _ _ r j k w hj hjk hk hkk hm2 h hv hr).mono fun _ w' ⟨e, h1, h2⟩ => ⟨e, fin w' h1 h2⟩
  · exact (l2do_2 B gv cv g cap _ _ r j k w hj hjk hk hkk h hv hr).mono fun _ w' ⟨e, h1, h2⟩ => ⟨e, fin w' h1 h2⟩
  · exact (l2do_3 B gv cv g cap _ _ r j k w hj hjk hk hkk hm2 h hv hr).mono fun _ w' ⟨e, h1, h2⟩ => ⟨e, fin w' h1 h2⟩
  · exact (l2do_4 B gv cv g cap _ _ r j k w hj hjk hk hkk h hv hr).mono fun _ w' ⟨e, h1, h2⟩ => ⟨e, fin w' h1 h2⟩
  · exact (l2do_5 B gv cv g cap _ _ r j k w hj hjk hk hkk h hv hr).mono fun _ w' ⟨e, h1, h2⟩ => ⟨e, fin w' h1 h2⟩
theorem NewsOwnAt.keepC {B C : Nat} {w w' : World} {v : Value} {nss : List (List NewsD)} {vs : List Value} (h : NewsOwnAt B w v nss vs) (hk : KeepC C w.heap.size w w') (hC : C < B) : NewsOwnAt B w' v nss vs :=
  ⟨owns_keepC h.outer hk hC, h.len, fun i h1 h2 => owns_keepC (h.rows i h1 h2) hk hC, h.apart⟩
/-- The rounds of drawn reports: what lies where. -/
structure RepInv (C : Nat) (ca : Option Addr) (bs : List Int) (cap : Nat) (B : Nat) (sv tv : Value) (bk : BookD) (BN : Nat) (nv : Value) (vs : List Value) (w0 : World) (wr : World) (ov : Value) (out : List RepD) (nss : List (List NewsD)) (s : Rd) (m : Nat) : Prop where
  book : BookOwn B wr (.agg #[sv, tv]) bk
  box : wr.heap[w0.heap.size]? = some (.cells #[sv, tv] 26 (0, 0))
  news : NewsOwnAt BN wr nv nss vs
  outs : wr.ownsRow BN 45 5 ov out.length (fives out)
  cur : CurAt wr C ca bs cap s m
  keep : KeepC C w0.heap.size w0 wr
  size : BN ≤ wr.heap.size
  base : w0.heap.size < BN
  bookLow : B ≤ w0.heap.size
  curLow : C < B
  code : ∀ b o, ca = some ⟨b, o, none⟩ → b < w0.heap.size
section
variable {C : Nat} {ca : Option Addr} {bs : List Int} {cap B : Nat} {sv tv : Value} {bk : BookD} {BN : Nat} {nv : Value} {vs : List Value} {w0 wr w' : World} {ov : Value} {out : List RepD} {nss : List (List NewsD)} {s s' : Rd} {m m' : Nat}
theorem RepInv.keepC (h : RepInv C ca bs cap B sv tv bk BN nv vs w0 wr ov out nss s m) (hk : KeepC C wr.heap.size wr w') (hc : CurAt w' C ca bs cap s' m') : RepInv C ca bs cap B sv tv bk BN nv vs w0 w' ov out nss s' m' := by
  have b1 := h.base
  have b2 := h.bookLow
  have b3 := h.curLow
  have b4 := h.size
  exact ⟨h.book.keepC hk h.curLow, (hk.block _ (Array.getElem?_eq_some_iff.1 h.box).1 (by omega)).trans h.box, h.news.keepC hk (by omega), owns_keepC h.outs hk (by omega), hc, h.keep.trans (hk.mono (by omega)), Nat.le_trans h.size hk.size, h.base, h.bookLow, h.curLow, h.code⟩
theorem RepInv.below (h : RepInv C ca bs cap B sv tv bk BN nv vs w0 wr ov out nss s m) (hb : Below wr.heap.size wr w') : RepInv C ca bs cap B sv tv bk BN nv vs w0 w' ov out nss s m := h.keepC (KeepC.below hb) (h.cur.keep hb)
theorem RepInv.cur' (h : RepInv C ca bs cap B sv tv bk BN nv vs w0 wr ov out nss s m) (hg : wr.grownBy w' (some C)) (hc : CurAt w' C ca bs cap s' m') : RepInv C ca bs cap B sv tv bk BN nv vs w0 w' ov out nss s' m' := h.keepC (KeepC.cur hg (Nat.le_refl _)) hc
/-- Behind a report that counts. -/
theorem RepInv.did {nss' : List (List NewsD)} (h : RepInv C ca bs cap B sv tv bk BN nv vs w0 wr ov out nss s m) (hn : NewsOwnAt BN w' nv nss' vs) {g n : Nat} {rv : Value} {xs : List Value} (hr : wr.ownsRow BN 41 5 rv n xs) (hg : rv.ownBlock = some g) (hw : wr.grownBy w' (some g)) : RepInv C ca bs cap B sv tv bk BN nv vs w0 w' ov out nss' s m := by
  have b1 := h.base
  have b2 := h.bookLow
  have b3 := h.curLow
  have b4 := h.size
  have hgl := (hr.lt g hg).1
  obtain ⟨sv', tv', vs', e, k1, k2⟩ := h.book
  have ne : ∀ {e : TypeId} {s n B' : Nat} {u : Value} {ys : List Value}, 41 ≠ e → wr.ownsRow B' e s u n ys → w'.ownsRow B' e s u n ys := fun {e s n B' u ys} hne hu => by
    refine hu.kept hw ?_
    cases hb : u.ownBlock with
    | none => exact Or.inl rfl
    | some g' => exact Or.inr fun e2 => hne (owns_types hr hu (hg.trans e2.symm) hb)
  have hK : KeepC C w0.heap.size wr w' := ⟨hw.os, hw.tape, hw.output, hw.size, fun i hi _ => hw.block i (by omega) (fun e => by cases e; omega)⟩
  refine ⟨⟨sv', tv', vs', e, ne (by decide) k1, ne (by decide) k2.outer, k2.len, fun i a b => ne (by decide) (k2.rows i a b)⟩, ?_, hn, ne (by decide) h.outs, ?_, h.keep.trans hK, Nat.le_trans h.size hw.size, h.base, h.bookLow, h.curLow, h.code⟩
  · rw [hw.block _ (Array.getElem?_eq_some_iff.1 h.box).1 (fun e => by cases e; omega)]; exact h.box
  · exact h.cur.other hw (by omega) (fun b o e => by have := h.code b o e; omega)
/-- Behind a report more. -/
theorem RepInv.more {x : RepD} {o : Obj} {ov' : Value} (h : RepInv C ca bs cap B sv tv bk BN nv vs w0 wr ov out nss s m) (hown : w'.ownsRow BN 45 5 ov' (out.length + 1) (fives out ++ fiveOf x)) (hg : (wr.alloc o).grownBy w' ov.ownBlock) : RepInv C ca bs cap B sv tv bk BN nv vs w0 w' ov' (out ++ [x]) nss s m := by
  have hA := h.below ((Below.refl _ _).alloc (Nat.le_refl _) o)
  have b1 := h.base
  have b2 := h.bookLow
  have b3 := h.curLow
  have b4 := hA.size
  have hlt : ∀ g, ov.ownBlock = some g → BN ≤ g := fun g e => (hA.outs.lt g e).1
  obtain ⟨sv', tv', vs', e, k1, k2⟩ := hA.book
  have ne : ∀ {e : TypeId} {s n B' : Nat} {u : Value} {ys : List Value}, 45 ≠ e → (wr.alloc o).ownsRow B' e s u n ys → w'.ownsRow B' e s u n ys := fun {e s n B' u ys} hne hu => by
    refine hu.kept hg ?_
    cases hb : u.ownBlock with
    | none => exact Or.inl rfl
    | some g' => exact Or.inr fun e2 => hne (owns_types hA.outs hu e2.symm hb)
  have hK : KeepC C w0.heap.size (wr.alloc o) w' := KeepC.own hA.outs hg (by omega) (by omega)
  refine ⟨⟨sv', tv', vs', e, ne (by decide) k1, ne (by decide) k2.outer, k2.len, fun i a b => ne (by decide) (k2.rows i a b)⟩, ?_, ⟨ne (by decide) hA.news.outer, hA.news.len, fun i a b => ne (by decide) (hA.news.rows i a b), hA.news.apart⟩, ?_, ?_, hA.keep.trans hK, Nat.le_trans hA.size hg.size, h.base, h.bookLow, h.curLow, h.code⟩
  · rw [hg.block _ (Array.getElem?_eq_some_iff.1 hA.box).1 (fun e => by have := hlt _ e.symm; omega)]; exact hA.box
  · rw [fives_snoc, List.length_append]; exact hown
  · exact hA.cur.grown hg hA.outs (by omega) (fun b o e => by have := h.code b o e; omega)
end
theorem KeepC.cell {C n0 b o : Nat} {w w' : World} {v : Value} (hk : KeepC C n0 w w') (h : w.cell? ⟨b, o, none⟩ = some v) (hb : b < n0) (hne : b ≠ C) : w'.cell? ⟨b, o, none⟩ = some v :=
  (World.cell?_of_block (w := w) (hk.block b hb hne)).trans h
/-- A trip's calls, as its cell has them. -/
theorem trip_cell {B : Nat} {w : World} {sv tv : Value} {bk : BookD} (h : BookOwn B w (.agg #[sv, tv]) bk) (i : Nat) (hi : i < bk.trips.length) : ∃ b cp ka kc, tv = .slice (some ⟨b, 0, none⟩) bk.trips.length cp ∧ B ≤ b ∧ b < w.heap.size ∧ w.cell? ⟨b, i * 2, none⟩ = some (.string bk.trips[i].name) ∧ w.cell? ⟨b, i * 2 + 1, none⟩ = some (.slice ka bk.trips[i].calls.length kc) ∧ CallsAt w ka bk.trips[i].calls := by
  obtain ⟨sv', tv', vs, e, _, h2⟩ := h
  simp only [Value.agg.injEq, Array.mk.injEq, List.cons.injEq, and_true] at e
  obtain ⟨rfl, rfl⟩ := e
  obtain ⟨b, cp, rfl, hb, hl⟩ := h2.outer.form (by omega)
  have hi' : i < vs.length := by rw [h2.len]; exact hi
  obtain ⟨ka, kc, ev, hk⟩ := calls_at (h2.rows i hi hi')
  obtain ⟨g1, g2⟩ := tripCells_get bk.trips vs i hi hi'
  refine ⟨b, cp, ka, kc, rfl, hb, hl, ?_, ?_, hk⟩
  · rw [h2.outer.cellAt _ (by omega)]; exact g1
  · rw [h2.outer.cellAt _ (by omega), g2, ev]
theorem KeepC.allocCur {w w' : World} {C : Nat} {o : Obj} (h : (w.alloc o).grownBy w' (some C)) : KeepC C w.heap.size w w' := (KeepC.below ((Below.refl _ _).alloc (Nat.le_refl _) o)).trans (KeepC.cur h (by simp))
theorem KeepC.allocDrewCur {w w' : World} {C : Nat} {o : Obj} (h : (w.alloc o).drew.grownBy w' (some C)) : KeepC C w.heap.size w w' := (KeepC.below ((Below.refl _ _).alloc (Nat.le_refl _) o).drew).trans (KeepC.cur h (by show w.heap.size ≤ (w.alloc o).heap.size; simp))
theorem five_cells {w : World} {C : Nat} {x y z u v : Value} {T : TypeId} (h : w.heap[C]? = some (.cells #[x, y, z, u, v] T (0, 0))) : (w.cell? ⟨C, 0, none⟩ = some x ∧ w.cell? ⟨C, 1, none⟩ = some y ∧ w.cell? ⟨C, 2, none⟩ = some z ∧ w.cell? ⟨C, 3, none⟩ = some u ∧ w.cell? ⟨C, 4, none⟩ = some v) ∧ (w.frozen? ⟨C, 0, none⟩ = false ∧ w.frozen? ⟨C, 1, none⟩ = false ∧ w.frozen? ⟨C, 2, none⟩ = false ∧ w.frozen? ⟨C, 3, none⟩ = false ∧ w.frozen? ⟨C, 4, none⟩ = false) := by
  refine ⟨⟨?_, ?_, ?_, ?_, ?_⟩, ?_, ?_, ?_, ?_, ?_⟩ <;> simp [World.cell?, World.frozen?, h]
theorem grown_new {w w' : World} {C : Nat} {cs : Array Value} {T : TypeId} (h : (w.alloc (.cells cs T)).grownBy w' (some C)) (hne : w.heap.size ≠ C) : w'.heap[w.heap.size]? = some (.cells cs T (0, 0)) := by
  rw [h.block _ (by simp) (fun e => hne (by cases e; rfl))]; exact heap_alloc_last w _
theorem grown_newD {w w' : World} {C : Nat} {cs : Array Value} {T : TypeId} (h : (w.alloc (.cells cs T)).drew.grownBy w' (some C)) (hne : w.heap.size ≠ C) : w'.heap[w.heap.size]? = some (.cells cs T (0, 0)) := by
  rw [h.block _ (by show w.heap.size < (w.alloc _).heap.size; simp) (fun e => hne (by cases e; rfl))]; exact heap_alloc_last w _
theorem five_other {w : World} {b o X : Nat} {x y z u v : Value} (h : b ≠ X) : (((((w.setCell ⟨X, 0, none⟩ x).setCell ⟨X, 1, none⟩ y).setCell ⟨X, 2, none⟩ z).setCell ⟨X, 3, none⟩ u).setCell ⟨X, 4, none⟩ v).cell? ⟨b, o, none⟩ = w.cell? ⟨b, o, none⟩ := by
  rw [cell_other h, cell_other h, cell_other h, cell_other h, cell_other h]
theorem five_set {w : World} {X : Nat} {x y z u v x' y' z' u' v' : Value} {T : TypeId} (h : w.heap[X]? = some (.cells #[x', y', z', u', v'] T (0, 0))) : (((((w.setCell ⟨X, 0, none⟩ x).setCell ⟨X, 1, none⟩ y).setCell ⟨X, 2, none⟩ z).setCell ⟨X, 3, none⟩ u).setCell ⟨X, 4, none⟩ v).heap[X]? = some (.cells #[x, y, z, u, v] T (0, 0)) := by
  simp [World.setCell, Array.getElem?_modify, h]
theorem five_keep {w : World} {C n0 X : Nat} {x y z u v : Value} (h : n0 ≤ X) : KeepC C n0 w (((((w.setCell ⟨X, 0, none⟩ x).setCell ⟨X, 1, none⟩ y).setCell ⟨X, 2, none⟩ z).setCell ⟨X, 3, none⟩ u).setCell ⟨X, 4, none⟩ v) :=
  ((((KeepC.set w ⟨X, 0, none⟩ x h).trans (KeepC.set _ ⟨X, 1, none⟩ y h)).trans (KeepC.set _ ⟨X, 2, none⟩ z h)).trans (KeepC.set _ ⟨X, 3, none⟩ u h)).trans (KeepC.set _ ⟨X, 4, none⟩ v h)
theorem five_cur {w : World} {C X : Nat} {ca : Option Addr} {bs : List Int} {cap m : Nat} {s : Rd} {x y z u v : Value} (h : CurAt w C ca bs cap s m) (hC : C ≠ X) (hc : ∀ b o, ca = some ⟨b, o, none⟩ → b ≠ X) : CurAt (((((w.setCell ⟨X, 0, none⟩ x).setCell ⟨X, 1, none⟩ y).setCell ⟨X, 2, none⟩ z).setCell ⟨X, 3, none⟩ u).setCell ⟨X, 4, none⟩ v) C ca bs cap s m :=
  ((((h.other (set_grown w X 0 x) hC hc).other (set_grown _ X 1 y) hC hc).other (set_grown _ X 2 z) hC hc).other (set_grown _ X 3 u) hC hc).other (set_grown _ X 4 v) hC hc
/-- A report's call and op, set anew. -/
theorem two_set {w : World} {X : Nat} {x y z u v q r : Value} {T : TypeId} {o : Obj} (h : w.heap[X]? = some (.cells #[x, y, z, u, v] T (0, 0))) : (((w.setCell ⟨X, 3, none⟩ q).setCell ⟨X, 1, none⟩ r).alloc o).heap[X]? = some (.cells #[x, r, z, q, v] T (0, 0)) := by
  rw [Below.heap_alloc _ _ _ (by have := (Array.getElem?_eq_some_iff.1 h).1; simp [World.setCell]; omega)]
  simp [World.setCell, Array.getElem?_modify, h]
theorem two_keep {w : World} {C n0 X : Nat} {q r : Value} {o : Obj} (h : n0 ≤ X) (h' : n0 ≤ w.heap.size) : KeepC C n0 w (((w.setCell ⟨X, 3, none⟩ q).setCell ⟨X, 1, none⟩ r).alloc o) :=
  ((KeepC.set w ⟨X, 3, none⟩ q h).trans (KeepC.set _ ⟨X, 1, none⟩ r h)).trans (KeepC.below ((Below.refl _ _).alloc (by simpa [World.setCell] using h') _))
theorem two_cur {w : World} {C X : Nat} {ca : Option Addr} {bs : List Int} {cap m : Nat} {s : Rd} {q r : Value} {o : Obj} (h : CurAt w C ca bs cap s m) (hC : C ≠ X) (hc : ∀ b o, ca = some ⟨b, o, none⟩ → b ≠ X) : CurAt (((w.setCell ⟨X, 3, none⟩ q).setCell ⟨X, 1, none⟩ r).alloc o) C ca bs cap s m :=
  ((h.other (set_grown w X 3 q) hC hc).other (set_grown _ X 1 r) hC hc).keep ((Below.refl _ _).alloc (Nat.le_refl _) _)
theorem three_set {w : World} {X : Nat} {x y z u v q r r' : Value} {T : TypeId} {o : Obj} (h : w.heap[X]? = some (.cells #[x, y, z, u, v] T (0, 0))) : ((((w.setCell ⟨X, 3, none⟩ q).setCell ⟨X, 1, none⟩ r').setCell ⟨X, 1, none⟩ r).alloc o).heap[X]? = some (.cells #[x, r, z, q, v] T (0, 0)) := by
  rw [Below.heap_alloc _ _ _ (by have := (Array.getElem?_eq_some_iff.1 h).1; simp [World.setCell]; omega)]
  simp [World.setCell, Array.getElem?_modify, h]
theorem three_keep {w : World} {C n0 X : Nat} {q r r' : Value} {o : Obj} (h : n0 ≤ X) (h' : n0 ≤ w.heap.size) : KeepC C n0 w ((((w.setCell ⟨X, 3, none⟩ q).setCell ⟨X, 1, none⟩ r').setCell ⟨X, 1, none⟩ r).alloc o) :=
  (((KeepC.set w ⟨X, 3, none⟩ q h).trans (KeepC.set _ ⟨X, 1, none⟩ r' h)).trans (KeepC.set _ ⟨X, 1, none⟩ r h)).trans (KeepC.below ((Below.refl _ _).alloc (by simpa [World.setCell] using h') _))
theorem three_cur {w : World} {C X : Nat} {ca : Option Addr} {bs : List Int} {cap m : Nat} {s : Rd} {q r r' : Value} {o : Obj} (h : CurAt w C ca bs cap s m) (hC : C ≠ X) (hc : ∀ b o, ca = some ⟨b, o, none⟩ → b ≠ X) : CurAt ((((w.setCell ⟨X, 3, none⟩ q).setCell ⟨X, 1, none⟩ r').setCell ⟨X, 1, none⟩ r).alloc o) C ca bs cap s m :=
  (((h.other (set_grown w X 3 q) hC hc).other (set_grown _ X 1 r') hC hc).other (set_grown _ X 1 r) hC hc).keep ((Below.refl _ _).alloc (Nat.le_refl _) _)
theorem num_set {w : World} {X : Nat} {x y z u v r : Value} {T : TypeId} (h : w.heap[X]? = some (.cells #[x, y, z, u, v] T (0, 0))) : (w.setCell ⟨X, 4, none⟩ r).heap[X]? = some (.cells #[x, y, z, u, r] T (0, 0)) := by
  simp [World.setCell, Array.getElem?_modify, h]
theorem wrap_small {n : Nat} (h : n ≤ 1000000000) : IntKind.i64.wrap (n : Int) = (n : Int) := by rw [IntKind.wrap_i64]; omega

end Go.Proofs.YtjioingdpfgadaaDoor
