import Derived.WalkKit
import Derived.WalkSpells
import Derived.WalkLawsBesides
namespace Go.Proofs.YtjioingdpfgadabGreatDoor
open Go Go.RowKit

/-- A call, a trip, a book, as plain data. -/
structure CallD where
  st : Int
  co : Int
  go : Int
  tr : Int
structure TripD where
  name : ByteArray
  calls : List CallD
structure BookD where
  sts : List ByteArray
  trips : List TripD

/-- What is left of 'l' when 's' has been taken; -1 when there is not so much. -/
def rest (l s : Int) : Int := if s ≤ l then l - s else -1
theorem rest_rest {l s t : Int} (_ht : 0 ≤ t) (_h : s ≤ l) : rest (l - s) t = rest l (s + t) := by
  unfold rest; split <;> split <;> omega
theorem rest_no {l s : Int} (h : l < s) : rest l s = -1 := by unfold rest; rw [if_neg (by omega)]
theorem rest_yes {l s : Int} (h : s ≤ l) : rest l s = l - s := by unfold rest; rw [if_pos h]

def sumSizes : List ByteArray → Nat
  | [] => 0
  | s :: r => s.size + sumSizes r
def strsSize (ss : List ByteArray) : Nat := ss.length + sumSizes ss
theorem sumSizes_snoc (l : List ByteArray) (s : ByteArray) : sumSizes (l ++ [s]) = sumSizes l + s.size := by
  induction l with
  | nil => simp [sumSizes]
  | cons a l ih => simp [sumSizes, ih]; omega
theorem sumSizes_append (l m : List ByteArray) : sumSizes (l ++ m) = sumSizes l + sumSizes m := by
  induction l with
  | nil => simp [sumSizes]
  | cons a l ih => simp [sumSizes, ih]; omega
theorem take_snoc {α : Type} (l : List α) (k : Nat) (h : k < l.length) : l.take (k + 1) = l.take k ++ [l[k]] :=
  List.take_succ_eq_append_getElem h
theorem sumSizes_take (l : List ByteArray) (k : Nat) (h : k < l.length) : sumSizes (l.take (k + 1)) = sumSizes (l.take k) + l[k].size := by
  rw [take_snoc l k h, sumSizes_snoc]
theorem sumSizes_take_le (l : List ByteArray) (k : Nat) : sumSizes (l.take k) ≤ sumSizes l := by
  have h := sumSizes_append (l.take k) (l.drop k)
  rw [List.take_append_drop] at h; omega

def tripSize (t : TripD) : Nat := t.name.size + t.calls.length
def sumTrips : List TripD → Nat
  | [] => 0
  | t :: r => tripSize t + sumTrips r
def tripsSize (ts : List TripD) : Nat := ts.length + sumTrips ts
theorem sumTrips_snoc (l : List TripD) (s : TripD) : sumTrips (l ++ [s]) = sumTrips l + tripSize s := by
  induction l with
  | nil => simp [sumTrips]
  | cons a l ih => simp [sumTrips, ih]; omega
theorem sumTrips_append (l m : List TripD) : sumTrips (l ++ m) = sumTrips l + sumTrips m := by
  induction l with
  | nil => simp [sumTrips]
  | cons a l ih => simp [sumTrips, ih]; omega
theorem sumTrips_take (l : List TripD) (k : Nat) (h : k < l.length) : sumTrips (l.take (k + 1)) = sumTrips (l.take k) + tripSize l[k] := by
  rw [take_snoc l k h, sumTrips_snoc]
theorem sumTrips_take_le (l : List TripD) (k : Nat) : sumTrips (l.take k) ≤ sumTrips l := by
  have h := sumTrips_append (l.take k) (l.drop k)
  rw [List.take_append_drop] at h; omega
theorem sumTrips_get (l : List TripD) (i : Nat) (h : i < l.length) : tripSize l[i] ≤ sumTrips l := by
  have h1 := sumTrips_take l i h
  have h2 := sumTrips_take_le l (i + 1)
  omega
theorem sumSizes_get (l : List ByteArray) (i : Nat) (h : i < l.length) : l[i].size ≤ sumSizes l := by
  have h1 := sumSizes_take l i h
  have h2 := sumSizes_take_le l (i + 1)
  omega
def bookSize (b : BookD) : Nat := strsSize b.sts + tripsSize b.trips

/-- The strings of a list lie behind a slice's address, one cell each. -/
def StrsAt (w : World) (a : Option Addr) (ss : List ByteArray) : Prop :=
  ∀ i (h : i < ss.length), ∃ b o, a = some ⟨b, o, none⟩ ∧ w.cell? ⟨b, o + i, none⟩ = some (.string ss[i])
/-- Calls, four cells each. -/
def CallsAt (w : World) (a : Option Addr) (cs : List CallD) : Prop :=
  ∀ i (h : i < cs.length), ∃ b o, a = some ⟨b, o, none⟩ ∧ w.cell? ⟨b, o + i * 4, none⟩ = some (.int .i64 cs[i].st) ∧ w.cell? ⟨b, o + i * 4 + 1, none⟩ = some (.int .i64 cs[i].co) ∧ w.cell? ⟨b, o + i * 4 + 2, none⟩ = some (.int .i64 cs[i].go) ∧ w.cell? ⟨b, o + i * 4 + 3, none⟩ = some (.int .i64 cs[i].tr)
/-- Trips, two cells each: the name, and the slice of the calls. -/
def TripsAt (w : World) (a : Option Addr) (ts : List TripD) : Prop :=
  ∀ i (h : i < ts.length), ∃ b o ca cc, a = some ⟨b, o, none⟩ ∧ w.cell? ⟨b, o + i * 2, none⟩ = some (.string ts[i].name) ∧ w.cell? ⟨b, o + i * 2 + 1, none⟩ = some (.slice ca ts[i].calls.length cc) ∧ CallsAt w ca ts[i].calls

theorem cell_lt {w : World} {b o : Nat} {v : Value} (h : w.cell? ⟨b, o, none⟩ = some v) : b < w.heap.size := by
  apply Classical.byContradiction; intro hn
  have : w.heap[b]? = none := by simp; omega
  simp [World.cell?, this] at h
theorem cell_keep {w w' : World} {b o : Nat} {v : Value} (hb : Below w.heap.size w w') (h : w.cell? ⟨b, o, none⟩ = some v) : w'.cell? ⟨b, o, none⟩ = some v := by
  rw [hb.cell (p := ⟨b, o, none⟩) (cell_lt h)]; exact h
theorem StrsAt.keep {w w' : World} {a : Option Addr} {ss : List ByteArray} (h : StrsAt w a ss) (hb : Below w.heap.size w w') : StrsAt w' a ss := by
  intro i hi; obtain ⟨b, o, e, c⟩ := h i hi; exact ⟨b, o, e, cell_keep hb c⟩
theorem CallsAt.keep {w w' : World} {a : Option Addr} {cs : List CallD} (h : CallsAt w a cs) (hb : Below w.heap.size w w') : CallsAt w' a cs := by
  intro i hi; obtain ⟨b, o, e, c0, c1, c2, c3⟩ := h i hi; exact ⟨b, o, e, cell_keep hb c0, cell_keep hb c1, cell_keep hb c2, cell_keep hb c3⟩
theorem TripsAt.keep {w w' : World} {a : Option Addr} {ts : List TripD} (h : TripsAt w a ts) (hb : Below w.heap.size w w') : TripsAt w' a ts := by
  intro i hi; obtain ⟨b, o, ca, cc, e, c0, c1, c2⟩ := h i hi; exact ⟨b, o, ca, cc, e, cell_keep hb c0, cell_keep hb c1, c2.keep hb⟩

theorem cell_other {w : World} {b o : Nat} {p : Addr} {u : Value} (h : b ≠ p.block) : (w.setCell p u).cell? ⟨b, o, none⟩ = w.cell? ⟨b, o, none⟩ :=
  World.cell?_of_block (w := w) (Below.heap_setCell w p u b h)
/-- Calls in one block stay where a store goes into another. -/
theorem CallsAt.setOther {w : World} {b0 o0 : Nat} {cs : List CallD} {p : Addr} {u : Value} (h : CallsAt w (some ⟨b0, o0, none⟩) cs) (hp : b0 ≠ p.block) : CallsAt (w.setCell p u) (some ⟨b0, o0, none⟩) cs := by
  intro i hi; obtain ⟨b, o, e, c0, c1, c2, c3⟩ := h i hi
  simp only [Option.some.injEq, Addr.mk.injEq] at e
  obtain ⟨rfl, rfl, _⟩ := e
  exact ⟨_, _, rfl, by rw [cell_other hp]; exact c0, by rw [cell_other hp]; exact c1, by rw [cell_other hp]; exact c2, by rw [cell_other hp]; exact c3⟩

theorem StrsAt.setOther {w : World} {b0 o0 : Nat} {ss : List ByteArray} {p : Addr} {u : Value} (h : StrsAt w (some ⟨b0, o0, none⟩) ss) (hp : b0 ≠ p.block) : StrsAt (w.setCell p u) (some ⟨b0, o0, none⟩) ss := by
  intro i hi; obtain ⟨b, o, e, c⟩ := h i hi
  simp only [Option.some.injEq, Addr.mk.injEq] at e
  obtain ⟨rfl, rfl, _⟩ := e
  exact ⟨_, _, rfl, by rw [cell_other hp]; exact c⟩

/-- Trips that lie, with all their calls, in blocks from B on. -/
def TripsFrom (B : Nat) (w : World) (a : Option Addr) (ts : List TripD) : Prop :=
  ∀ i (h : i < ts.length), ∃ b o b' cc, B ≤ b ∧ B ≤ b' ∧ a = some ⟨b, o, none⟩ ∧ w.cell? ⟨b, o + i * 2, none⟩ = some (.string ts[i].name) ∧ w.cell? ⟨b, o + i * 2 + 1, none⟩ = some (.slice (some ⟨b', 0, none⟩) ts[i].calls.length cc) ∧ CallsAt w (some ⟨b', 0, none⟩) ts[i].calls
theorem TripsFrom.at {B : Nat} {w : World} {a : Option Addr} {ts : List TripD} (h : TripsFrom B w a ts) : TripsAt w a ts := by
  intro i hi; obtain ⟨b, o, b', cc, _, _, e, c0, c1, c2⟩ := h i hi; exact ⟨b, o, _, cc, e, c0, c1, c2⟩
theorem TripsFrom.setBelow {B : Nat} {w : World} {a : Option Addr} {ts : List TripD} {p : Addr} {u : Value} (h : TripsFrom B w a ts) (hp : p.block < B) : TripsFrom B (w.setCell p u) a ts := by
  intro i hi; obtain ⟨b, o, b', cc, l1, l2, e, c0, c1, c2⟩ := h i hi
  exact ⟨b, o, b', cc, l1, l2, e, by rw [cell_other (by omega)]; exact c0, by rw [cell_other (by omega)]; exact c1, c2.setOther (by omega)⟩

theorem ret_int {k : IntKind} {a b : Int} (h : a = b) : Ending.returned (.int k a) = .returned (.int k b) := by rw [h]
theorem ret_bool {a b : Bool} (h : a = b) : Ending.returned (.bool a) = .returned (.bool b) := by rw [h]
theorem bcell {W w1 : World} (hb : Below W.heap.size W w1) : (∀ b o, b < W.heap.size → w1.cell? ⟨b, o, none⟩ = W.cell? ⟨b, o, none⟩) ∧ (∀ b o, b < W.heap.size → w1.frozen? ⟨b, o, none⟩ = W.frozen? ⟨b, o, none⟩) :=
  ⟨fun b o h => hb.cell (p := ⟨b, o, none⟩) h, fun b o h => hb.frozen (p := ⟨b, o, none⟩) h⟩

end Go.Proofs.YtjioingdpfgadabGreatDoor
