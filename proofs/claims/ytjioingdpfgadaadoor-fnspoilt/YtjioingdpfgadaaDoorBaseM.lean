import Derived.WalkKit
import Derived.WalkSpells
import Derived.WalkLawsBesides
import Derived.Maps.Own
import Derived.Maps.OwnSet
import Derived.Maps.Views
namespace Go.Proofs.YtjioingdpfgadaaDoor
open Go Go.RowKit

/-- A call, a trip, a book, as plain data. -/
structure CallD where
  st : Int
  co : Int
  go : Int
  tr : Int
structure TripD where
  name : ByteArray
  calls : List CallD
structure BookD where
  sts : List ByteArray
  trips : List TripD

/-- What is left of 'l' when 's' has been taken; -1 when there is not so much. -/
def rest (l s : Int) : Int := if s ≤ l then l - s else -1
theorem rest_rest {l s t : Int} (_ht : 0 ≤ t) (_h : s ≤ l) : rest (l - s) t = rest l (s + t) := by
  unfold rest; split <;> split <;> omega
theorem rest_no {l s : Int} (h : l < s) : rest l s = -1 := by unfold rest; rw [if_neg (by omega)]
theorem rest_yes {l s : Int} (h : s ≤ l) : rest l s = l - s := by unfold rest; rw [if_pos h]

def sumSizes : List ByteArray → Nat
  | [] => 0
  | s :: r => s.size + sumSizes r
def strsSize (ss : List ByteArray) : Nat := ss.length + sumSizes ss
theorem sumSizes_snoc (l : List ByteArray) (s : ByteArray) : sumSizes (l ++ [s]) = sumSizes l + s.size := by
  induction l with
  | nil => simp [sumSizes]
  | cons a l ih => simp [sumSizes, ih]; omega
theorem sumSizes_append (l m : List ByteArray) : sumSizes (l ++ m) = sumSizes l + sumSizes m := by
  induction l with
  | nil => simp [sumSizes]
  | cons a l ih => simp [sumSizes, ih]; omega
theorem take_snoc {α : Type} (l : List α) (k : Nat) (h : k < l.length) : l.take (k + 1) = l.take k ++ [l[k]] :=
  List.take_succ_eq_append_getElem h
theorem sumSizes_take (l : List ByteArray) (k : Nat) (h : k < l.length) : sumSizes (l.take (k + 1)) = sumSizes (l.take k) + l[k].size := by
  rw [take_snoc l k h, sumSizes_snoc]
theorem sumSizes_take_le (l : List ByteArray) (k : Nat) : sumSizes (l.take k) ≤ sumSizes l := by
  have h := sumSizes_append (l.take k) (l.drop k)
  rw [List.take_append_drop] at h; omega

def tripSize (t : TripD) : Nat := t.name.size + t.calls.length
def sumTrips : List TripD → Nat
  | [] => 0
  | t :: r => tripSize t + sumTrips r
def tripsSize (ts : List TripD) : Nat := ts.length + sumTrips ts
theorem sumTrips_snoc (l : List TripD) (s : TripD) : sumTrips (l ++ [s]) = sumTrips l + tripSize s := by
  induction l with
  | nil => simp [sumTrips]
  | cons a l ih => simp [sumTrips, ih]; omega
theorem sumTrips_append (l m : List TripD) : sumTrips (l ++ m) = sumTrips l + sumTrips m := by
  induction l with
  | nil => simp [sumTrips]
  | cons a l ih => simp [sumTrips, ih]; omega
theorem sumTrips_take (l : List TripD) (k : Nat) (h : k < l.length) : sumTrips (l.take (k + 1)) = sumTrips (l.take k) + tripSize l[k] := by
  rw [take_snoc l k h, sumTrips_snoc]
theorem sumTrips_take_le (l : List TripD) (k : Nat) : sumTrips (l.take k) ≤ sumTrips l := by
  have h := sumTrips_append (l.take k) (l.drop k)
  rw [List.take_append_drop] at h; omega
theorem sumTrips_get (l : List TripD) (i : Nat) (h : i < l.length) : tripSize l[i] ≤ sumTrips l := by
  have h1 := sumTrips_take l i h
  have h2 := sumTrips_take_le l (i + 1)
  omega
theorem sumSizes_get (l : List ByteArray) (i : Nat) (h : i < l.length) : l[i].size ≤ sumSizes l := by
  have h1 := sumSizes_take l i h
  have h2 := sumSizes_take_le l (i + 1)
  omega
def bookSize (b : BookD) : Nat := strsSize b.sts + tripsSize b.trips

/-- The strings of a list lie behind a slice's address, one cell each. -/
def StrsAt (w : World) (a : Option Addr) (ss : List ByteArray) : Prop :=
  ∀ i (h : i < ss.length), ∃ b o, a = some ⟨b, o, none⟩ ∧ w.cell? ⟨b, o + i, none⟩ = some (.string ss[i])
/-- Calls, four cells each. -/
def CallsAt (w : World) (a : Option Addr) (cs : List CallD) : Prop :=
  ∀ i (h : i < cs.length), ∃ b o, a = some ⟨b, o, none⟩ ∧ w.cell? ⟨b, o + i * 4, none⟩ = some (.int .i64 cs[i].st) ∧ w.cell? ⟨b, o + i * 4 + 1, none⟩ = some (.int .i64 cs[i].co) ∧ w.cell? ⟨b, o + i * 4 + 2, none⟩ = some (.int .i64 cs[i].go) ∧ w.cell? ⟨b, o + i * 4 + 3, none⟩ = some (.int .i64 cs[i].tr)
/-- Trips, two cells each: the name, and the slice of the calls. -/
def TripsAt (w : World) (a : Option Addr) (ts : List TripD) : Prop :=
  ∀ i (h : i < ts.length), ∃ b o ca cc, a = some ⟨b, o, none⟩ ∧ w.cell? ⟨b, o + i * 2, none⟩ = some (.string ts[i].name) ∧ w.cell? ⟨b, o + i * 2 + 1, none⟩ = some (.slice ca ts[i].calls.length cc) ∧ CallsAt w ca ts[i].calls

theorem cell_lt {w : World} {b o : Nat} {v : Value} (h : w.cell? ⟨b, o, none⟩ = some v) : b < w.heap.size := by
  apply Classical.byContradiction; intro hn
  have : w.heap[b]? = none := by simp; omega
  simp [World.cell?, this] at h
theorem cell_keep {w w' : World} {b o : Nat} {v : Value} (hb : Below w.heap.size w w') (h : w.cell? ⟨b, o, none⟩ = some v) : w'.cell? ⟨b, o, none⟩ = some v := by
  rw [hb.cell (p := ⟨b, o, none⟩) (cell_lt h)]; exact h
theorem StrsAt.keep {w w' : World} {a : Option Addr} {ss : List ByteArray} (h : StrsAt w a ss) (hb : Below w.heap.size w w') : StrsAt w' a ss := by
  intro i hi; obtain ⟨b, o, e, c⟩ := h i hi; exact ⟨b, o, e, cell_keep hb c⟩
theorem CallsAt.keep {w w' : World} {a : Option Addr} {cs : List CallD} (h : CallsAt w a cs) (hb : Below w.heap.size w w') : CallsAt w' a cs := by
  intro i hi; obtain ⟨b, o, e, c0, c1, c2, c3⟩ := h i hi; exact ⟨b, o, e, cell_keep hb c0, cell_keep hb c1, cell_keep hb c2, cell_keep hb c3⟩
theorem TripsAt.keep {w w' : World} {a : Option Addr} {ts : List TripD} (h : TripsAt w a ts) (hb : Below w.heap.size w w') : TripsAt w' a ts := by
  intro i hi; obtain ⟨b, o, ca, cc, e, c0, c1, c2⟩ := h i hi; exact ⟨b, o, ca, cc, e, cell_keep hb c0, cell_keep hb c1, c2.keep hb⟩

theorem cell_other {w : World} {b o : Nat} {p : Addr} {u : Value} (h : b ≠ p.block) : (w.setCell p u).cell? ⟨b, o, none⟩ = w.cell? ⟨b, o, none⟩ :=
  World.cell?_of_block (w := w) (Below.heap_setCell w p u b h)
/-- Calls in one block stay where a store goes into another. -/
theorem CallsAt.setOther {w : World} {b0 o0 : Nat} {cs : List CallD} {p : Addr} {u : Value} (h : CallsAt w (some ⟨b0, o0, none⟩) cs) (hp : b0 ≠ p.block) : CallsAt (w.setCell p u) (some ⟨b0, o0, none⟩) cs := by
  intro i hi; obtain ⟨b, o, e, c0, c1, c2, c3⟩ := h i hi
  simp only [Option.some.injEq, Addr.mk.injEq] at e
  obtain ⟨rfl, rfl, _⟩ := e
  exact ⟨_, _, rfl, by rw [cell_other hp]; exact c0, by rw [cell_other hp]; exact c1, by rw [cell_other hp]; exact c2, by rw [cell_other hp]; exact c3⟩

theorem StrsAt.setOther {w : World} {b0 o0 : Nat} {ss : List ByteArray} {p : Addr} {u : Value} (h : StrsAt w (some ⟨b0, o0, none⟩) ss) (hp : b0 ≠ p.block) : StrsAt (w.setCell p u) (some ⟨b0, o0, none⟩) ss := by
  intro i hi; obtain ⟨b, o, e, c⟩ := h i hi
  simp only [Option.some.injEq, Addr.mk.injEq] at e
  obtain ⟨rfl, rfl, _⟩ := e
  exact ⟨_, _, rfl, by rw [cell_other hp]; exact c⟩

/-- Trips that lie, with all their calls, in blocks from B on. -/
def TripsFrom (B : Nat) (w : World) (a : Option Addr) (ts : List TripD) : Prop :=
  ∀ i (h : i < ts.length), ∃ b o b' cc, B ≤ b ∧ B ≤ b' ∧ a = some ⟨b, o, none⟩ ∧ w.cell? ⟨b, o + i * 2, none⟩ = some (.string ts[i].name) ∧ w.cell? ⟨b, o + i * 2 + 1, none⟩ = some (.slice (some ⟨b', 0, none⟩) ts[i].calls.length cc) ∧ CallsAt w (some ⟨b', 0, none⟩) ts[i].calls
theorem TripsFrom.at {B : Nat} {w : World} {a : Option Addr} {ts : List TripD} (h : TripsFrom B w a ts) : TripsAt w a ts := by
  intro i hi; obtain ⟨b, o, b', cc, _, _, e, c0, c1, c2⟩ := h i hi; exact ⟨b, o, _, cc, e, c0, c1, c2⟩
theorem TripsFrom.setBelow {B : Nat} {w : World} {a : Option Addr} {ts : List TripD} {p : Addr} {u : Value} (h : TripsFrom B w a ts) (hp : p.block < B) : TripsFrom B (w.setCell p u) a ts := by
  intro i hi; obtain ⟨b, o, b', cc, l1, l2, e, c0, c1, c2⟩ := h i hi
  exact ⟨b, o, b', cc, l1, l2, e, by rw [cell_other (by omega)]; exact c0, by rw [cell_other (by omega)]; exact c1, c2.setOther (by omega)⟩

theorem ret_int {k : IntKind} {a b : Int} (h : a = b) : Ending.returned (.int k a) = .returned (.int k b) := by rw [h]
theorem ret_bool {a b : Bool} (h : a = b) : Ending.returned (.bool a) = .returned (.bool b) := by rw [h]
theorem bcell {W w1 : World} (hb : Below W.heap.size W w1) : (∀ b o, b < W.heap.size → w1.cell? ⟨b, o, none⟩ = W.cell? ⟨b, o, none⟩) ∧ (∀ b o, b < W.heap.size → w1.frozen? ⟨b, o, none⟩ = W.frozen? ⟨b, o, none⟩) :=
  ⟨fun b o h => hb.cell (p := ⟨b, o, none⟩) h, fun b o h => hb.frozen (p := ⟨b, o, none⟩) h⟩

end Go.Proofs.YtjioingdpfgadaaDoor
namespace Go.Proofs.YtjioingdpfgadaaDoor
open Go Go.RowKit

/-- A letter or a digit. -/
def ldB (c : Int) : Bool := decide (97 ≤ c ∧ c ≤ 122 ∨ 65 ≤ c ∧ c ≤ 90 ∨ 48 ≤ c ∧ c ≤ 57)
theorem ldB_yes {c : Int} (h : 97 ≤ c ∧ c ≤ 122 ∨ 65 ≤ c ∧ c ≤ 90 ∨ 48 ≤ c ∧ c ≤ 57) : ldB c = true := decide_eq_true h
theorem ldB_no {c : Int} (h : ¬ (97 ≤ c ∧ c ≤ 122 ∨ 65 ≤ c ∧ c ≤ 90 ∨ 48 ≤ c ∧ c ≤ 57)) : ldB c = false := decide_eq_false h
/-- One sign of a name: 'b' says whether a blank (or the beginning) stands ahead. -/
def stepB (c : Int) (b : Bool) : Option Bool := if c = 32 then (if b then none else some true) else if ldB c then some false else none
def scanB (l : List UInt8) : Option Bool := l.foldl (fun o c => o.bind (stepB c.toNat)) (some true)
theorem scanB_snoc (l : List UInt8) (c : UInt8) : scanB (l ++ [c]) = (scanB l).bind (stepB c.toNat) := by simp [scanB]
theorem foldl_none (l : List UInt8) : l.foldl (fun (o : Option Bool) c => o.bind (stepB c.toNat)) none = none := by
  induction l with
  | nil => rfl
  | cons a l ih => simpa using ih
theorem scanB_dead (l m : List UInt8) (h : scanB l = none) : scanB (l ++ m) = none := by
  unfold scanB at *; rw [List.foldl_append, h, foldl_none]
def nameB (s : ByteArray) : Bool := decide (s.size ≤ 20) && (scanB s.data.toList == some false)
theorem btake_snoc (s : ByteArray) (k : Nat) (h : k < s.size) : s.data.toList.take (k + 1) = s.data.toList.take k ++ [s[k]] := by
  rw [List.take_succ_eq_append_getElem (by simpa using h)]; rfl
theorem scanB_step (s : ByteArray) (k : Nat) (h : k < s.size) {b : Bool} (hb : scanB (s.data.toList.take k) = some b) : scanB (s.data.toList.take (k + 1)) = stepB s[k].toNat b := by
  rw [btake_snoc s k h, scanB_snoc, hb]; rfl
theorem nameB_dead (s : ByteArray) (k : Nat) (h : scanB (s.data.toList.take k) = none) : nameB s = false := by
  have e := scanB_dead (s.data.toList.take k) (s.data.toList.drop k) h
  rw [List.take_append_drop] at e
  unfold nameB; rw [e]; simp
theorem nameB_end (s : ByteArray) (k : Nat) (hk : s.size ≤ k) {b : Bool} (h : scanB (s.data.toList.take k) = some b) : nameB s = (decide (s.size ≤ 20) && !b) := by
  rw [List.take_of_length_le (by simpa using hk)] at h
  unfold nameB; rw [h]; cases b <;> rfl
theorem step_blank_bad {c : Int} (h : c = 32) : stepB c true = none := by unfold stepB; simp [h]
theorem step_blank {c : Int} (h : c = 32) : stepB c false = some true := by unfold stepB; simp [h]
theorem step_ld {c : Int} {b : Bool} (h : c ≠ 32) (hl : ldB c = true) : stepB c b = some false := by unfold stepB; simp [h, hl]
theorem step_bad {c : Int} {b : Bool} (h : c ≠ 32) (hl : ldB c = false) : stepB c b = none := by unfold stepB; simp [h, hl]
theorem byte_lt (c : UInt8) : (0 : Int) ≤ (c.toNat : Int) ∧ (c.toNat : Int) < 256 := by
  have := c.toNat_lt; omega
theorem nameB_long {s : ByteArray} (h : ¬ s.size ≤ 20) : nameB s = false := by unfold nameB; simp [h]
theorem nameB_empty {s : ByteArray} (h : s.size = 0) : nameB s = false := by
  have e : s.data.toList = [] := List.eq_nil_of_length_eq_zero (by simpa using h)
  unfold nameB scanB; rw [e]; simp

end Go.Proofs.YtjioingdpfgadaaDoor
namespace Go.Proofs.YtjioingdpfgadaaDoor
open Go Go.RowKit Go.WideMaps Go.Maps

/-- A map of numbers that was filled from a list: each number at its (last) place. -/
structure IntsMap (l : List Int) (D : DataW Unit) : Prop where
  has : ∀ s : Int, Maps.has D (.int .i64 s) = l.contains s
  size : Maps.size D ≤ l.length
  full : Maps.size D = l.length ↔ l.Nodup
  atKey : l.Nodup → ∀ j (h : j < l.length), D.atKey (.int .i64 l[j]) (.lit (.int .i64 0)) = .lit (.int .i64 j)
theorem intsMap_nil : IntsMap [] (.map []) :=
  ⟨fun s => rfl, Nat.le_refl _, ⟨fun _ => List.nodup_nil, fun _ => rfl⟩, fun _ j h => by simp at h⟩
theorem intsMap_snoc {l : List Int} {D : DataW Unit} (m : IntsMap l D) (hm : IsMap D) (ht : Tidy D) (s : Int) (hk : WideAt.IsKeyLit (.int .i64 s)) : IntsMap (l ++ [s]) (D.put (.int .i64 s) (.lit (.int .i64 l.length))) := by
  have hs : Maps.size (D.put (.int .i64 s) (.lit (.int .i64 l.length))) = if Maps.has D (.int .i64 s) = true then Maps.size D else Maps.size D + 1 := size_put ht _
  rw [m.has] at hs
  have hnd : (l ++ [s]).Nodup ↔ l.Nodup ∧ l.contains s = false := by
    rw [List.nodup_append]; simp
    intro _
    exact ⟨fun b h => b s h rfl, fun b x hx e => b (e ▸ hx)⟩
  refine ⟨fun x => ?_, ?_, ?_, ?_⟩
  · by_cases e : x = s
    · subst e; rw [has_put_same hm hk]; simp
    · rw [has_put_other (by simp [e]), m.has]; simp [e]
  · rw [hs]; have := m.size; split <;> simp <;> omega
  · rw [hs, hnd]; have := m.size; have := m.full
    cases hc : l.contains s
    · simp; omega
    · simp; intro; omega
  · intro hn j hj
    obtain ⟨h1, h2⟩ := hnd.1 hn
    by_cases e : j < l.length
    · have hne : l[j] ≠ s := fun h => by
        have : s ∈ l := h ▸ List.getElem_mem e
        simp at h2; exact h2 this
      rw [List.getElem_append_left e, atKey_put_other (by simp [hne])]
      exact m.atKey h1 j e
    · have : j = l.length := by simp at hj; omega
      subst this
      rw [List.getElem_append_right (Nat.le_refl _)]
      simp only [Nat.sub_self, List.getElem_cons_zero]
      rw [atKey_put_same hm hk]

/-- A map of texts that was filled from a list. -/
structure StrsMap (l : List (List UInt8)) (D : DataW Unit) : Prop where
  has : ∀ s : List UInt8, Maps.has D (.string s) = l.contains s
theorem strsMap_nil : StrsMap [] (.map []) := ⟨fun _ => rfl⟩
theorem strsMap_snoc {l : List (List UInt8)} {D : DataW Unit} (m : StrsMap l D) (hm : IsMap D) (s : List UInt8) (hk : WideAt.IsKeyLit (.string s)) (d : DataW Unit) : StrsMap (l ++ [s]) (D.put (.string s) d) := by
  refine ⟨fun x => ?_⟩
  by_cases e : x = s
  · subst e; rw [has_put_same hm hk]; simp
  · rw [has_put_other (by simp [e]), m.has]; simp [e]

/-- The first index below n at which p says yes. -/
def firstIdx (p : Nat → Bool) (n : Nat) : Option Nat := (List.range n).find? p
theorem first_none {p : Nat → Bool} {n : Nat} (h : ∀ j, j < n → p j = false) : firstIdx p n = none := by
  unfold firstIdx; rw [List.find?_eq_none]
  intro x hx; rw [List.mem_range] at hx; simp [h x hx]
theorem first_some {p : Nat → Bool} {n k : Nat} (hk : k < n) (hp : p k = true) (h : ∀ j, j < k → p j = false) : firstIdx p n = some k := by
  unfold firstIdx
  rw [List.find?_range_eq_some]
  exact ⟨hp, List.mem_range.2 hk, fun j hj => by simp [h j hj]⟩
theorem first_congr {p q : Nat → Bool} {n : Nat} (h : ∀ j, j < n → p j = q j) : firstIdx p n = firstIdx q n := by
  cases hp : firstIdx p n with
  | none =>
    symm; apply first_none; intro j hj
    unfold firstIdx at hp; rw [List.find?_eq_none] at hp
    have := hp j (List.mem_range.2 hj); rw [← h j hj]; simpa using this
  | some k =>
    unfold firstIdx at hp; rw [List.find?_range_eq_some] at hp
    obtain ⟨h1, h2, h3⟩ := hp
    have hk := List.mem_range.1 h2
    symm; apply first_some hk (by rw [← h k hk]; exact h1)
    intro j hj; rw [← h j (by omega)]; have := h3 j hj; simpa using this

/-- The bytes of each text. -/
def keysOf (ss : List ByteArray) : List (List UInt8) := ss.map (fun s => s.data.toList)
/-- Text i is no name, or one ahead of it is the same. -/
def badName (ss : List ByteArray) (i : Nat) : Bool :=
  match ss[i]? with
  | none => false
  | some s => !nameB s || (keysOf (ss.take i)).contains s.data.toList
theorem badName_at (ss : List ByteArray) (i : Nat) (h : i < ss.length) : badName ss i = (!nameB ss[i] || (keysOf (ss.take i)).contains ss[i].data.toList) := by
  unfold badName; rw [List.getElem?_eq_getElem h]
theorem keysOf_snoc (ss : List ByteArray) (k : Nat) (h : k < ss.length) : keysOf (ss.take (k + 1)) = keysOf (ss.take k) ++ [ss[k].data.toList] := by
  unfold keysOf; rw [take_snoc ss k h, List.map_append]; rfl

end Go.Proofs.YtjioingdpfgadaaDoor
namespace Go.Proofs.YtjioingdpfgadaaDoor
open Go Go.RowKit

/-- A call is right: its station, its times against when the one before goes, its track. -/
def callB (n gone : Int) (c : CallD) : Bool := decide (0 ≤ c.st ∧ c.st < n ∧ gone ≤ c.co ∧ c.co ≤ c.go ∧ c.go ≤ 1000000 ∧ 1 ≤ c.tr ∧ c.tr ≤ 20)
theorem callB_yes {n gone : Int} {c : CallD} (h : callB n gone c = true) : 0 ≤ c.st ∧ c.st < n ∧ gone ≤ c.co ∧ c.co ≤ c.go ∧ c.go ≤ 1000000 ∧ 1 ≤ c.tr ∧ c.tr ≤ 20 := of_decide_eq_true h
theorem callB_no {n gone : Int} {c : CallD} (h : callB n gone c = false) : ¬ (0 ≤ c.st ∧ c.st < n ∧ gone ≤ c.co ∧ c.co ≤ c.go ∧ c.go ≤ 1000000 ∧ 1 ≤ c.tr ∧ c.tr ≤ 20) := of_decide_eq_false h
/-- When call k's predecessor goes; 0 ahead of the first. -/
def prevGo (cs : List CallD) : Nat → Int
  | 0 => 0
  | k + 1 => (cs[k]?.map (·.go)).getD 0
theorem prevGo_succ (cs : List CallD) (k : Nat) (h : k < cs.length) : prevGo cs (k + 1) = cs[k].go := by
  simp [prevGo, List.getElem?_eq_getElem h]
def callAtB (n : Int) (cs : List CallD) (k : Nat) : Bool :=
  match cs[k]? with
  | none => true
  | some c => callB n (prevGo cs k) c
theorem callAtB_at (n : Int) (cs : List CallD) (k : Nat) (h : k < cs.length) : callAtB n cs k = callB n (prevGo cs k) cs[k] := by
  unfold callAtB; rw [List.getElem?_eq_getElem h]
def callsB (n : Int) (cs : List CallD) : Bool := (List.range cs.length).all (callAtB n cs)
theorem callsB_yes {n : Int} {cs : List CallD} (h : ∀ k, k < cs.length → callAtB n cs k = true) : callsB n cs = true := by
  unfold callsB; rw [List.all_eq_true]; intro k hk; exact h k (List.mem_range.1 hk)
theorem callsB_no {n : Int} {cs : List CallD} {k : Nat} (hk : k < cs.length) (h : callAtB n cs k = false) : callsB n cs = false := by
  unfold callsB; rw [List.all_eq_false]; exact ⟨k, List.mem_range.2 hk, by simp [h]⟩
def stationsOf (cs : List CallD) : List Int := cs.map (·.st)
def dupB (cs : List CallD) : Bool := !decide ((stationsOf cs).Nodup)
def tripB (n : Int) (t : TripD) : Bool := nameB t.name && decide (2 ≤ t.calls.length ∧ t.calls.length ≤ 20) && callsB n t.calls && !dupB t.calls
theorem tripB_name {n : Int} {t : TripD} (h : nameB t.name = false) : tripB n t = false := by simp [tripB, h]
theorem tripB_count {n : Int} {t : TripD} (h : ¬ (2 ≤ t.calls.length ∧ t.calls.length ≤ 20)) : tripB n t = false := by simp only [tripB, decide_eq_false h, Bool.and_false, Bool.false_and]
theorem tripB_call {n : Int} {t : TripD} (h : callsB n t.calls = false) : tripB n t = false := by simp [tripB, h]
theorem tripB_dup {n : Int} {t : TripD} (h : dupB t.calls = true) : tripB n t = false := by simp [tripB, h]
theorem tripB_yes {n : Int} {t : TripD} (h1 : nameB t.name = true) (h2 : 2 ≤ t.calls.length ∧ t.calls.length ≤ 20) (h3 : callsB n t.calls = true) (h4 : dupB t.calls = false) : tripB n t = true := by
  simp only [tripB, h1, decide_eq_true h2, h3, h4]; rfl
theorem nodup_of_pairs {cs : List CallD} (h : ∀ i k (hi : i < cs.length) (hk : k < i), cs[k].st ≠ cs[i].st) : dupB cs = false := by
  have : (stationsOf cs).Nodup := by
    unfold stationsOf
    rw [List.nodup_iff_pairwise_ne, List.pairwise_iff_getElem]
    intro i j hi hj hij
    simp at hi hj ⊢
    exact h j i hj hij
  simp [dupB, this]
theorem dup_of_pair {cs : List CallD} {i k : Nat} (hi : i < cs.length) (hk : k < i) (h : cs[k].st = cs[i].st) : dupB cs = true := by
  have : ¬ (stationsOf cs).Nodup := by
    unfold stationsOf
    rw [List.nodup_iff_pairwise_ne, List.pairwise_iff_getElem]
    intro hp
    exact hp k i (by simp; omega) (by simpa using hi) hk (by simpa using h)
  simp [dupB, this]
def badTrip (n : Int) (ts : List TripD) (i : Nat) : Bool :=
  match ts[i]? with
  | none => false
  | some t => !tripB n t
theorem badTrip_at (n : Int) (ts : List TripD) (i : Nat) (h : i < ts.length) : badTrip n ts i = !tripB n ts[i] := by
  unfold badTrip; rw [List.getElem?_eq_getElem h]
def namesOf (ts : List TripD) : List ByteArray := ts.map (·.name)
/-- What is wrong with a book: a code and a place; 0, 0 when nothing is. -/
def fault4 (b : BookD) : Int × Int :=
  match firstIdx (badName (namesOf b.trips)) b.trips.length with
  | some i => (4, i)
  | none => (0, 0)
def fault3 (b : BookD) : Int × Int :=
  match firstIdx (badTrip b.sts.length b.trips) b.trips.length with
  | some i => (3, i)
  | none => fault4 b
def fault2 (b : BookD) : Int × Int :=
  match firstIdx (badName b.sts) b.sts.length with
  | some i => (2, i)
  | none => fault3 b
def faultD (b : BookD) : Int × Int := if 30 < b.sts.length ∨ 40 < b.trips.length then (1, 0) else fault2 b
theorem faultD_1 {b : BookD} (h : 30 < b.sts.length ∨ 40 < b.trips.length) : faultD b = (1, 0) := by unfold faultD; rw [if_pos h]
theorem faultD_2 {b : BookD} (h : ¬ (30 < b.sts.length ∨ 40 < b.trips.length)) : faultD b = fault2 b := by unfold faultD; rw [if_neg h]
theorem fault2_some {b : BookD} {i : Nat} (h : firstIdx (badName b.sts) b.sts.length = some i) : fault2 b = (2, (i : Int)) := by unfold fault2; rw [h]
theorem fault2_none {b : BookD} (h : firstIdx (badName b.sts) b.sts.length = none) : fault2 b = fault3 b := by unfold fault2; rw [h]
theorem fault3_some {b : BookD} {i : Nat} (h : firstIdx (badTrip b.sts.length b.trips) b.trips.length = some i) : fault3 b = (3, (i : Int)) := by unfold fault3; rw [h]
theorem fault3_none {b : BookD} (h : firstIdx (badTrip b.sts.length b.trips) b.trips.length = none) : fault3 b = fault4 b := by unfold fault3; rw [h]
theorem fault4_some {b : BookD} {i : Nat} (h : firstIdx (badName (namesOf b.trips)) b.trips.length = some i) : fault4 b = (4, (i : Int)) := by unfold fault4; rw [h]
theorem fault4_none {b : BookD} (h : firstIdx (badName (namesOf b.trips)) b.trips.length = none) : fault4 b = (0, 0) := by unfold fault4; rw [h]
theorem keys_contains {ss : List ByteArray} {i : Nat} (x : List UInt8) : (keysOf (ss.take i)).contains x = true ↔ ∃ m, ∃ (h : m < ss.length), m < i ∧ ss[m].data.toList = x := by
  unfold keysOf
  simp only [List.contains_iff_mem, List.mem_map]
  constructor
  · rintro ⟨s, hs, rfl⟩
    obtain ⟨m, hm, rfl⟩ := List.getElem_of_mem hs
    rw [List.length_take] at hm
    exact ⟨m, by omega, by omega, by rw [List.getElem_take]⟩
  · rintro ⟨m, h, hm, rfl⟩
    refine ⟨ss[m], ?_, rfl⟩
    have : (ss.take i)[m]'(by rw [List.length_take]; omega) = ss[m] := List.getElem_take
    rw [← this]; exact List.getElem_mem _
theorem badName_no {ss : List ByteArray} {i : Nat} (h : i < ss.length) (hn : nameB ss[i] = false) : badName ss i = true := by
  rw [badName_at ss i h, hn]; rfl
theorem badName_dup {ss : List ByteArray} {i m : Nat} (h : i < ss.length) (hm : m < i) (he : ss[m].data.toList = ss[i].data.toList) : badName ss i = true := by
  rw [badName_at ss i h, (keys_contains _).2 ⟨m, by omega, hm, he⟩]; simp
theorem badName_ok {ss : List ByteArray} {i : Nat} (h : i < ss.length) (hn : nameB ss[i] = true) (hd : ∀ m (hm : m < i), ss[m].data.toList ≠ ss[i].data.toList) : badName ss i = false := by
  rw [badName_at ss i h, hn]
  cases hc : (keysOf (ss.take i)).contains ss[i].data.toList
  · rfl
  · obtain ⟨m, hl, hm, he⟩ := (keys_contains _).1 hc
    exact absurd he (hd m hm)
theorem tripB_named {n : Int} {t : TripD} (h : tripB n t = true) : nameB t.name = true := by
  cases hn : nameB t.name
  · rw [tripB_name hn] at h; exact absurd h (by decide)
  · rfl

end Go.Proofs.YtjioingdpfgadaaDoor
namespace Go.Proofs.YtjioingdpfgadaaDoor
open Go Go.RowKit Go.WideMaps Go.Maps

theorem first_none_inv {p : Nat → Bool} {n : Nat} (h : firstIdx p n = none) : ∀ j, j < n → p j = false := by
  intro j hj
  unfold firstIdx at h; rw [List.find?_eq_none] at h
  simpa using h j (List.mem_range.2 hj)
theorem fault4_not3 (b : BookD) : (fault4 b).1 = 0 → fault4 b = (0, 0) := by
  unfold fault4; split
  · intro h; simp at h
  · intro _; rfl
theorem faultD_zero {b : BookD} (h : (faultD b).1 = 0) : faultD b = (0, 0) ∧ ∀ i (hi : i < b.trips.length), tripB b.sts.length b.trips[i] = true := by
  by_cases g : 30 < b.sts.length ∨ 40 < b.trips.length
  · rw [faultD_1 g] at h; simp at h
  · rw [faultD_2 g] at h ⊢
    cases h2 : firstIdx (badName b.sts) b.sts.length with
    | some i => rw [fault2_some h2] at h; simp at h
    | none =>
      rw [fault2_none h2] at h ⊢
      cases h3 : firstIdx (badTrip b.sts.length b.trips) b.trips.length with
      | some i => rw [fault3_some h3] at h; simp at h
      | none =>
        rw [fault3_none h3] at h ⊢
        refine ⟨fault4_not3 b h, fun i hi => ?_⟩
        have := first_none_inv h3 i hi
        rw [badTrip_at _ _ i hi] at this
        simpa using this
theorem faultD_pos {b : BookD} (h : (faultD b).1 ≠ 0) : faultD b ≠ (0, 0) := fun e => h (by rw [e])
theorem tripB_nodup {n : Int} {t : TripD} (h : tripB n t = true) : (stationsOf t.calls).Nodup := by
  cases hd : dupB t.calls
  · unfold dupB at hd; simpa using hd
  · rw [tripB_dup hd] at h; exact absurd h (by decide)
/-- Call i is at station s. -/
def atStation (cs : List CallD) (s : Int) (i : Nat) : Bool :=
  match cs[i]? with
  | none => false
  | some c => c.st == s
theorem atStation_at (cs : List CallD) (s : Int) (i : Nat) (h : i < cs.length) : atStation cs s i = (cs[i].st == s) := by
  unfold atStation; rw [List.getElem?_eq_getElem h]
/-- The call at a station; -1 when there is none. -/
def callAtC (cs : List CallD) (s : Int) : Int :=
  match firstIdx (atStation cs s) cs.length with
  | some i => i
  | none => -1
theorem callAtC_some {cs : List CallD} {s : Int} {i : Nat} (h : firstIdx (atStation cs s) cs.length = some i) : callAtC cs s = i := by unfold callAtC; rw [h]
theorem callAtC_none {cs : List CallD} {s : Int} (h : firstIdx (atStation cs s) cs.length = none) : callAtC cs s = -1 := by unfold callAtC; rw [h]
/-- In a trip that comes to no station twice the map tells the call. -/
theorem callAtC_of_map {cs : List CallD} {s : Int} {D : DataW Unit} (m : IntsMap (cs.map (·.st)) D) (hn : (stationsOf cs).Nodup) {c : Int} (hc : D.atKey (.int .i64 s) (.lit (.int .i64 0)) = .lit (.int .i64 c)) (hh : Maps.has D (.int .i64 s) = true) : callAtC cs s = c := by
  rw [m.has] at hh
  have hmem : s ∈ cs.map (·.st) := by simpa using hh
  obtain ⟨j, hj, hjs⟩ := List.getElem_of_mem hmem
  have hjl : j < cs.length := by simpa using hj
  have hget : (cs.map (·.st))[j] = cs[j].st := by simp
  have ha := m.atKey hn j hj
  rw [hjs, hc] at ha
  have hcj : c = j := by simpa using ha
  rw [hget] at hjs
  subst hcj
  refine callAtC_some (first_some hjl (by rw [atStation_at _ _ _ hjl]; simpa using hjs) (fun i hi => ?_))
  rw [atStation_at _ _ i (by omega)]
  have hp : (cs.map (·.st)).Pairwise (· ≠ ·) := List.nodup_iff_pairwise_ne.1 hn
  rw [List.pairwise_iff_getElem] at hp
  have := hp i j (by simp; omega) hj hi
  simp at this
  simp; rw [← hjs]; exact this
theorem callAtC_absent {cs : List CallD} {s : Int} {D : DataW Unit} (m : IntsMap (cs.map (·.st)) D) (hh : Maps.has D (.int .i64 s) = false) : callAtC cs s = -1 := by
  rw [m.has] at hh
  refine callAtC_none (first_none (fun j hj => ?_))
  rw [atStation_at _ _ j hj]
  simp at hh
  simpa using hh cs[j] (List.getElem_mem hj)
/-- What CallAt answers. -/
def callAtD (b : BookD) (trip s : Int) : Int :=
  if (faultD b).1 = 0 ∧ 0 ≤ trip ∧ trip < b.trips.length then callAtC (b.trips.getD trip.toNat ⟨ByteArray.empty, []⟩).calls s else -1
theorem callAtD_no {b : BookD} {trip s : Int} (h : ¬ ((faultD b).1 = 0 ∧ 0 ≤ trip ∧ trip < b.trips.length)) : callAtD b trip s = -1 := by unfold callAtD; rw [if_neg h]
theorem callAtD_yes {b : BookD} {k : Nat} {s : Int} (h : (faultD b).1 = 0) (hk : k < b.trips.length) : callAtD b k s = callAtC b.trips[k].calls s := by
  unfold callAtD; rw [if_pos ⟨h, by omega, by omega⟩]
  simp [List.getD, List.getElem?_eq_getElem hk]

end Go.Proofs.YtjioingdpfgadaaDoor
