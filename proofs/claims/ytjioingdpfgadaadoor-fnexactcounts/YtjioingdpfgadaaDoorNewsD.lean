import Derived.Test.YtjioingdpfgadaaDoorProg
import Derived.Test.YtjioingdpfgadaaDoorSpecN
import Derived.Laws.OwnMore
namespace Go.Proofs.YtjioingdpfgadaaDoor
open Go Go.RowKit Go.Deep

/-- What a report that counts does to the news of call k of its trip. -/
def doNews (r : RepD) (k : Nat) (x : NewsD) : NewsD :=
  if r.op = 1 then (if r.call ≤ k then { x with late := r.n } else x)
  else if r.op = 2 then (if r.call = k then { x with track := r.n } else x)
  else if r.op = 3 then (if r.call ≤ k then { x with off := true } else x)
  else if r.op = 4 then (if r.call = k then { x with here := true } else x)
  else if r.op = 5 then (if r.call = k then { x with here := false, gone := true } else x)
  else x
def doRow (r : RepD) (ns : List NewsD) : List NewsD := ns.mapIdx (doNews r)
def upTo (r : RepD) (m : Nat) (ns : List NewsD) : List NewsD := ns.mapIdx fun i x => if i < m then doNews r i x else x
theorem doRow_length (r : RepD) (ns : List NewsD) : (doRow r ns).length = ns.length := by simp [doRow]
theorem upTo_length (r : RepD) (m : Nat) (ns : List NewsD) : (upTo r m ns).length = ns.length := by simp [upTo]
theorem upTo_get (r : RepD) (m : Nat) (ns : List NewsD) (i : Nat) (h : i < ns.length) : (upTo r m ns)[i]'(by rw [upTo_length]; exact h) = if i < m then doNews r i ns[i] else ns[i] := by simp [upTo]
theorem upTo_start (r : RepD) (k : Nat) (ns : List NewsD) (hk : r.call = (k : Int)) (ho : r.op = 1 ∨ r.op = 3) : upTo r k ns = ns := by
  apply List.ext_getElem (upTo_length r k ns)
  intro i h1 h2
  rw [upTo_get r k ns i h2]
  by_cases h : i < k
  · rw [if_pos h]
    unfold doNews
    have : ¬ r.call ≤ (i : Int) := by omega
    rcases ho with ho | ho <;> simp [ho, this]
  · rw [if_neg h]
theorem upTo_end (r : RepD) (ns : List NewsD) : upTo r ns.length ns = doRow r ns := by
  apply List.ext_getElem (by rw [upTo_length, doRow_length])
  intro i h1 h2
  rw [doRow_length] at h2
  rw [upTo_get r _ ns i h2, if_pos h2]
  simp [doRow]
theorem upTo_succ (r : RepD) (m : Nat) (ns : List NewsD) (h : m < ns.length) : upTo r (m + 1) ns = (upTo r m ns).set m (doNews r m ns[m]) := by
  apply List.ext_getElem (by rw [List.length_set, upTo_length, upTo_length])
  intro i h1 h2
  rw [upTo_length] at h1
  rw [upTo_get r _ ns i h1, List.getElem_set]
  by_cases e : m = i
  · subst e; rw [if_pos (by omega), if_pos rfl]
  · rw [if_neg e, upTo_get r _ ns i h1]
    by_cases h' : i < m
    · rw [if_pos (by omega), if_pos h']
    · rw [if_neg (by omega), if_neg h']
theorem doRow_one (r : RepD) (k : Nat) (ns : List NewsD) (hk : r.call = (k : Int)) (h : k < ns.length) (h1 : r.op ≠ 1) (h3 : r.op ≠ 3) : doRow r ns = ns.set k (doNews r k ns[k]) := by
  apply List.ext_getElem (by rw [List.length_set, doRow_length])
  intro i h4 h2
  rw [doRow_length] at h4
  rw [List.getElem_set]
  have e0 : (doRow r ns)[i]'(by rw [doRow_length]; exact h4) = doNews r i ns[i] := by simp [doRow]
  rw [e0]
  by_cases e : k = i
  · subst e; rw [if_pos rfl]
  · rw [if_neg e]
    have : ¬ r.call = (i : Int) := by omega
    unfold doNews
    simp [h1, h3, this]

/-- One cell of a row is written. -/
theorem rowCells_set (ns : List NewsD) (m c : Nat) (u : Value) (x : NewsD) (h : m < ns.length) (hc : c < 5) (hx : newsCells x = (newsCells ns[m]).set c u) : (rowCells ns).set (m * 5 + c) u = rowCells (ns.set m x) := by
  induction ns generalizing m with
  | nil => simp at h
  | cons a l ih =>
    have e : ∀ b, rowCells (b :: l) = newsCells b ++ rowCells l := fun b => by simp [rowCells]
    have la : ∀ b, (newsCells b).length = 5 := fun b => rfl
    cases m with
    | zero =>
      rw [List.set_cons_zero, e, e, List.set_append_left _ _ (by rw [la]; omega)]
      simp at hx
      rw [hx, Nat.zero_mul, Nat.zero_add]
    | succ m =>
      rw [List.set_cons_succ, e, List.set_append_right _ _ (by rw [la]; omega), la]
      have e2 : rowCells (a :: l.set m x) = newsCells a ++ rowCells (l.set m x) := by simp [rowCells]
      rw [e2, ← ih m (by simpa using h) (by simpa using hx)]
      have : (m + 1) * 5 + c - 5 = m * 5 + c := by omega
      rw [this]
theorem rowCells_set' {w : World} {B g cap : Nat} {ns : List NewsD} (m c : Nat) (u : Value) (x : NewsD) (h : m < ns.length) (hc : c < 5) (hx : newsCells x = (newsCells ns[m]).set c u)
    (hr : w.ownsRow B 41 5 (.slice (some ⟨g, 0, none⟩) ns.length cap) ns.length (rowCells ns)) :
    (w.setCell ⟨g, m * 5 + c, none⟩ u).ownsRow B 41 5 (.slice (some ⟨g, 0, none⟩) ns.length cap) ns.length (rowCells (ns.set m x)) ∧ w.grownBy (w.setCell ⟨g, m * 5 + c, none⟩ u) (some g) := by
  have := hr.stored (m * 5 + c) u
  rw [rowCells_set ns m c u x h hc hx] at this
  exact this

/-- One row of the news is turned; the others stay. -/
theorem NewsOwnAt.stored {B : Nat} {w w' : World} {v : Value} {nss : List (List NewsD)} {vs : List Value} (h : NewsOwnAt B w v nss vs) (j : Nat) (hj : j < nss.length) (hj' : j < vs.length) {ns : List NewsD} (hr : w'.ownsRow B 41 5 vs[j] ns.length (rowCells ns)) (hg : w.grownBy w' vs[j].ownBlock) : NewsOwnAt B w' v (nss.set j ns) vs := by
  have hrj := h.rows j hj hj'
  refine ⟨?_, by rw [List.length_set]; exact h.len, fun i h1 h2 => ?_, h.apart⟩
  · rw [List.length_set]
    refine h.outer.kept hg ?_
    cases hb : v.ownBlock with
    | none => exact Or.inl rfl
    | some g =>
      refine Or.inr fun e => ?_
      have := owns_types hrj h.outer e.symm hb
      exact absurd this (by decide)
  · rw [List.length_set] at h1
    by_cases e : j = i
    · subst e
      rw [List.getElem_set_self]
      exact hr
    · rw [List.getElem_set_ne e]
      refine (h.rows i h1 h2).kept hg ?_
      rcases Nat.lt_or_ge i j with hij | hij
      · exact h.apart i j h2 hj' hij
      · rcases h.apart j i hj' h2 (by omega) with h0 | h0
        · cases hb : vs[i].ownBlock with
          | none => exact Or.inl rfl
          | some g => rw [h0]; exact Or.inr (by simp)
        · exact Or.inr (fun e => h0 e.symm)

end Go.Proofs.YtjioingdpfgadaaDoor
