import Derived.Test.YtjioingdpfgadaaDoorPlain
import Derived.Maps.Own
import Derived.Maps.OwnSet
import Derived.Maps.Views
namespace Go.Proofs.YtjioingdpfgadaaDoor
open Go Go.RowKit Go.WideMaps Go.Maps

/-- A map of numbers that was filled from a list: each number at its (last) place. -/
structure IntsMap (l : List Int) (D : DataW Unit) : Prop where
  has : ∀ s : Int, Maps.has D (.int .i64 s) = l.contains s
  size : Maps.size D ≤ l.length
  full : Maps.size D = l.length ↔ l.Nodup
  atKey : l.Nodup → ∀ j (h : j < l.length), D.atKey (.int .i64 l[j]) (.lit (.int .i64 0)) = .lit (.int .i64 j)
theorem intsMap_nil : IntsMap [] (.map []) :=
  ⟨fun s => rfl, Nat.le_refl _, ⟨fun _ => List.nodup_nil, fun _ => rfl⟩, fun _ j h => by simp at h⟩
theorem intsMap_snoc {l : List Int} {D : DataW Unit} (m : IntsMap l D) (hm : IsMap D) (ht : Tidy D) (s : Int) (hk : WideAt.IsKeyLit (.int .i64 s)) : IntsMap (l ++ [s]) (D.put (.int .i64 s) (.lit (.int .i64 l.length))) := by
  have hs : Maps.size (D.put (.int .i64 s) (.lit (.int .i64 l.length))) = if Maps.has D (.int .i64 s) = true then Maps.size D else Maps.size D + 1 := size_put ht _
  rw [m.has] at hs
  have hnd : (l ++ [s]).Nodup ↔ l.Nodup ∧ l.contains s = false := by
    rw [List.nodup_append]; simp
    intro _
    exact ⟨fun b h => b s h rfl, fun b x hx e => b (e ▸ hx)⟩
  refine ⟨fun x => ?_, ?_, ?_, ?_⟩
  · by_cases e : x = s
    · subst e; rw [has_put_same hm hk]; simp
    · rw [has_put_other (by simp [e]), m.has]; simp [e]
  · rw [hs]; have := m.size; split <;> simp <;> omega
  · rw [hs, hnd]; have := m.size; have := m.full
    cases hc : l.contains s
    · simp; omega
    · simp; intro; omega
  · intro hn j hj
    obtain ⟨h1, h2⟩ := hnd.1 hn
    by_cases e : j < l.length
    · have hne : l[j] ≠ s := fun h => by
        have : s ∈ l := h ▸ List.getElem_mem e
        simp at h2; exact h2 this
      rw [List.getElem_append_left e, atKey_put_other (by simp [hne])]
      exact m.atKey h1 j e
    · have : j = l.length := by simp at hj; omega
      subst this
      rw [List.getElem_append_right (Nat.le_refl _)]
      simp only [Nat.sub_self, List.getElem_cons_zero]
      rw [atKey_put_same hm hk]

/-- A map of texts that was filled from a list. -/
structure StrsMap (l : List (List UInt8)) (D : DataW Unit) : Prop where
  has : ∀ s : List UInt8, Maps.has D (.string s) = l.contains s
theorem strsMap_nil : StrsMap [] (.map []) := ⟨fun _ => rfl⟩
theorem strsMap_snoc {l : List (List UInt8)} {D : DataW Unit} (m : StrsMap l D) (hm : IsMap D) (s : List UInt8) (hk : WideAt.IsKeyLit (.string s)) (d : DataW Unit) : StrsMap (l ++ [s]) (D.put (.string s) d) := by
  refine ⟨fun x => ?_⟩
  by_cases e : x = s
  · subst e; rw [has_put_same hm hk]; simp
  · rw [has_put_other (by simp [e]), m.has]; simp [e]

/-- The first index below n at which p says yes. -/
def firstIdx (p : Nat → Bool) (n : Nat) : Option Nat := (List.range n).find? p
theorem first_none {p : Nat → Bool} {n : Nat} (h : ∀ j, j < n → p j = false) : firstIdx p n = none := by
  unfold firstIdx; rw [List.find?_eq_none]
  intro x hx; rw [List.mem_range] at hx; simp [h x hx]
theorem first_some {p : Nat → Bool} {n k : Nat} (hk : k < n) (hp : p k = true) (h : ∀ j, j < k → p j = false) : firstIdx p n = some k := by
  unfold firstIdx
  rw [List.find?_range_eq_some]
  exact ⟨hp, List.mem_range.2 hk, fun j hj => by simp [h j hj]⟩
theorem first_congr {p q : Nat → Bool} {n : Nat} (h : ∀ j, j < n → p j = q j) : firstIdx p n = firstIdx q n := by
  cases hp : firstIdx p n with
  | none =>
    symm; apply first_none; intro j hj
    unfold firstIdx at hp; rw [List.find?_eq_none] at hp
    have := hp j (List.mem_range.2 hj); rw [← h j hj]; simpa using this
  | some k =>
    unfold firstIdx at hp; rw [List.find?_range_eq_some] at hp
    obtain ⟨h1, h2, h3⟩ := hp
    have hk := List.mem_range.1 h2
    symm; apply first_some hk (by rw [← h k hk]; exact h1)
    intro j hj; rw [← h j (by omega)]; have := h3 j hj; simpa using this

/-- The bytes of each text. -/
def keysOf (ss : List ByteArray) : List (List UInt8) := ss.map (fun s => s.data.toList)
/-- Text i is no name, or one ahead of it is the same. -/
def badName (ss : List ByteArray) (i : Nat) : Bool :=
  match ss[i]? with
  | none => false
  | some s => !nameB s || (keysOf (ss.take i)).contains s.data.toList
theorem badName_at (ss : List ByteArray) (i : Nat) (h : i < ss.length) : badName ss i = (!nameB ss[i] || (keysOf (ss.take i)).contains ss[i].data.toList) := by
  unfold badName; rw [List.getElem?_eq_getElem h]
theorem keysOf_snoc (ss : List ByteArray) (k : Nat) (h : k < ss.length) : keysOf (ss.take (k + 1)) = keysOf (ss.take k) ++ [ss[k].data.toList] := by
  unfold keysOf; rw [take_snoc ss k h, List.map_append]; rfl

end Go.Proofs.YtjioingdpfgadaaDoor
