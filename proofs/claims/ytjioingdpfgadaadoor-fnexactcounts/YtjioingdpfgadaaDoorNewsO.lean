import Derived.Test.YtjioingdpfgadaaDoorProg
import Derived.Test.YtjioingdpfgadaaDoorBaseR
import Derived.Maps.AppendAt
import Derived.OwnWalk
import Derived.Deep.OwnRows
namespace Go.Proofs.YtjioingdpfgadaaDoor
open Go Go.RowKit Go.Deep

theorem uNw : Tryd.prog.underlying 42 = some (.slice 41) := by kernel_rfl
theorem uNwS : Tryd.prog.underlying 33 = some (.slice 42) := by kernel_rfl
theorem infNw : (Tryd.prog.info? 41).map (fun i => (i.zero, i.size, i.bytes)) = some (some (.agg #[.int .i64 0, .int .i64 0, .bool false, .bool false, .bool false]), 5, 24) := by kernel_rfl
theorem infNwS : (Tryd.prog.info? 42).map (fun i => (i.zero, i.size, i.bytes)) = some (some (.slice none 0 0), 1, 24) := by kernel_rfl

/-- The five cells of the news of a call. -/
def newsCells (x : NewsD) : List Value := [.int .i64 x.late, .int .i64 x.track, .bool x.off, .bool x.here, .bool x.gone]
def rowCells (ns : List NewsD) : List Value := ns.flatMap newsCells
theorem rowCells_snoc (ns : List NewsD) (x : NewsD) : rowCells (ns ++ [x]) = rowCells ns ++ newsCells x := by simp [rowCells]
theorem rowCells_length (ns : List NewsD) : (rowCells ns).length = ns.length * 5 := by
  induction ns with
  | nil => rfl
  | cons a l ih => simp only [rowCells, List.flatMap_cons, List.length_append, List.length_cons] at ih ⊢; rw [show (l.flatMap newsCells).length = l.length * 5 from ih]; simp [newsCells]; omega
theorem rowCells_get (ns : List NewsD) (i c : Nat) (h : i < ns.length) (hc : c < 5) : (rowCells ns)[i * 5 + c]? = (newsCells ns[i])[c]? := by
  induction ns generalizing i with
  | nil => simp at h
  | cons a l ih =>
    have e : rowCells (a :: l) = newsCells a ++ rowCells l := by simp [rowCells]
    rw [e]
    cases i with
    | zero =>
      rw [List.getElem?_append_left (by simp [newsCells]; omega)]
      simp
    | succ i =>
      rw [List.getElem?_append_right (by simp [newsCells]; omega)]
      have : (i + 1) * 5 + c - (newsCells a).length = i * 5 + c := by simp [newsCells]; omega
      rw [this, ih i (by simpa using h)]
      rfl

/-- Two rows in one block are of one type. -/
theorem owns_types {w : World} {B B' : Nat} {e e' : TypeId} {s s' n n' g : Nat} {v v' : Value} {xs xs' : List Value} (h : w.ownsRow B e s v n xs) (h' : w.ownsRow B' e' s' v' n' xs') (hg : v.ownBlock = some g) (hg' : v'.ownBlock = some g) : e = e' := by
  rcases h.2 with ⟨rfl, _⟩ | ⟨g1, c1, cur1, rfl, _, hh, _⟩
  · simp [Value.ownBlock] at hg
  rcases h'.2 with ⟨rfl, _⟩ | ⟨g2, c2, cur2, rfl, _, hh', _⟩
  · simp [Value.ownBlock] at hg'
  simp [Value.ownBlock] at hg hg'
  subst hg; subst hg'
  rw [hh] at hh'
  simp at hh'
  exact hh'.2

/-- News of all trips in rows of the call's own, no two in one block. -/
structure NewsOwnAt (B : Nat) (w : World) (v : Value) (nss : List (List NewsD)) (vs : List Value) : Prop where
  outer : w.ownsRow B 42 1 v nss.length vs
  len : vs.length = nss.length
  rows : ∀ i (h : i < nss.length) (h' : i < vs.length), w.ownsRow B 41 5 vs[i] nss[i].length (rowCells nss[i])
  apart : ∀ i j (hi : i < vs.length) (hj : j < vs.length), i < j → vs[i].ownBlock = none ∨ vs[i].ownBlock ≠ vs[j].ownBlock
def NewsOwn (B : Nat) (w : World) (v : Value) (nss : List (List NewsD)) : Prop := ∃ vs, NewsOwnAt B w v nss vs

theorem owns_below {w w' : World} {B B' : Nat} {e : TypeId} {s n : Nat} {v : Value} {xs : List Value} (h : w.ownsRow B e s v n xs) (hb : Below B' w w') (hB : ∀ g, v.ownBlock = some g → g < B') : w'.ownsRow B e s v n xs := by
  refine ⟨h.1, ?_⟩
  rcases h.2 with h0 | ⟨g, cap, cur, rfl, h1, hh, r⟩
  · exact Or.inl h0
  · exact Or.inr ⟨g, cap, cur, rfl, h1, by rw [hb.block g (hB g rfl)]; exact hh, r⟩
theorem owns_lt {w : World} {B : Nat} {e : TypeId} {s n : Nat} {v : Value} {xs : List Value} (h : w.ownsRow B e s v n xs) : ∀ g, v.ownBlock = some g → g < w.heap.size := fun g hg => (h.lt g hg).2
theorem NewsOwnAt.below {B : Nat} {w w' : World} {v : Value} {nss : List (List NewsD)} {vs : List Value} (h : NewsOwnAt B w v nss vs) (hb : Below w.heap.size w w') : NewsOwnAt B w' v nss vs :=
  ⟨owns_below h.outer hb (owns_lt h.outer), h.len, fun i h1 h2 => owns_below (h.rows i h1 h2) hb (owns_lt (h.rows i h1 h2)), h.apart⟩

/-- News in rows of the call's own can be read. -/
theorem NewsOwnAt.at {B : Nat} {w : World} {v : Value} {nss : List (List NewsD)} {vs : List Value} (h : NewsOwnAt B w v nss vs) : ∃ na nc, v = .slice na nss.length nc ∧ NewsSSAt w na nss := by
  have hrow : ∀ i (h1 : i < nss.length), ∃ ca cc, vs[i]'(by rw [h.len]; exact h1) = .slice ca nss[i].length cc ∧ NewsAt w ca nss[i] := fun i h1 => by
    have hr := h.rows i h1 (by rw [h.len]; exact h1)
    rcases hr.2 with ⟨e, e0⟩ | ⟨g, cap, cur, e, _⟩
    · refine ⟨none, 0, by rw [e, e0], fun j hj => by omega⟩
    · refine ⟨some ⟨g, 0, none⟩, cap, e, fun j hj => ?_⟩
      rw [e] at hr
      have hc : ∀ c, c < 5 → w.cell? ⟨g, j * 5 + c, none⟩ = (newsCells nss[i][j])[c]? := fun c hc => by
        rw [hr.cellAt _ (by omega), rowCells_get _ j c hj hc]
      refine ⟨g, 0, rfl, ?_, ?_, ?_, ?_, ?_⟩
      · simpa [newsCells] using hc 0 (by omega)
      · simpa [newsCells] using hc 1 (by omega)
      · simpa [newsCells] using hc 2 (by omega)
      · simpa [newsCells] using hc 3 (by omega)
      · simpa [newsCells] using hc 4 (by omega)
  have ho := h.outer
  rcases ho.2 with ⟨e, e0⟩ | ⟨g, cap, cur, e, _⟩
  · exact ⟨none, 0, by rw [e, e0], fun j hj => by omega⟩
  · refine ⟨some ⟨g, 0, none⟩, cap, e, fun i hi => ?_⟩
    obtain ⟨ca, cc, e1, hn⟩ := hrow i hi
    rw [e] at ho
    refine ⟨g, 0, ca, cc, rfl, ?_, hn⟩
    rw [Nat.zero_add, ho.cellAt i (by omega), List.getElem?_eq_getElem (by rw [h.len]; exact hi), e1]

end Go.Proofs.YtjioingdpfgadaaDoor
