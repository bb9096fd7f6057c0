import Derived.Test.YtjioingdpfgadabGreatDoorPlainM
import Derived.Test.YtjioingdpfgadabGreatDoorSz
namespace Go.Proofs.YtjioingdpfgadabGreatDoor
open Go Go.RowKit

/-- A report, and what is known of a call, as plain data. -/
structure RepD where
  tick : Int
  op : Int
  trip : Int
  call : Int
  n : Int
structure NewsD where
  late : Int
  track : Int
  off : Bool
  here : Bool
  gone : Bool

/-- A report's value. -/
def repV (r : RepD) : Value := .agg #[.int .i64 r.tick, .int .i64 r.op, .int .i64 r.trip, .int .i64 r.call, .int .i64 r.n]
/-- Reports, five cells each. -/
def RepsAt (w : World) (a : Option Addr) (rs : List RepD) : Prop :=
  ∀ i (h : i < rs.length), ∃ b o, a = some ⟨b, o, none⟩ ∧ w.cell? ⟨b, o + i * 5, none⟩ = some (.int .i64 rs[i].tick) ∧ w.cell? ⟨b, o + i * 5 + 1, none⟩ = some (.int .i64 rs[i].op) ∧ w.cell? ⟨b, o + i * 5 + 2, none⟩ = some (.int .i64 rs[i].trip) ∧ w.cell? ⟨b, o + i * 5 + 3, none⟩ = some (.int .i64 rs[i].call) ∧ w.cell? ⟨b, o + i * 5 + 4, none⟩ = some (.int .i64 rs[i].n)
/-- News of a trip's calls, five cells each. -/
def NewsAt (w : World) (a : Option Addr) (ns : List NewsD) : Prop :=
  ∀ i (h : i < ns.length), ∃ b o, a = some ⟨b, o, none⟩ ∧ w.cell? ⟨b, o + i * 5, none⟩ = some (.int .i64 ns[i].late) ∧ w.cell? ⟨b, o + i * 5 + 1, none⟩ = some (.int .i64 ns[i].track) ∧ w.cell? ⟨b, o + i * 5 + 2, none⟩ = some (.bool ns[i].off) ∧ w.cell? ⟨b, o + i * 5 + 3, none⟩ = some (.bool ns[i].here) ∧ w.cell? ⟨b, o + i * 5 + 4, none⟩ = some (.bool ns[i].gone)
/-- News of all trips: a slice a trip. -/
def NewsSSAt (w : World) (a : Option Addr) (nss : List (List NewsD)) : Prop :=
  ∀ i (h : i < nss.length), ∃ b o ca cc, a = some ⟨b, o, none⟩ ∧ w.cell? ⟨b, o + i, none⟩ = some (.slice ca nss[i].length cc) ∧ NewsAt w ca nss[i]
theorem RepsAt.keep {w w' : World} {a : Option Addr} {rs : List RepD} (h : RepsAt w a rs) (hb : Below w.heap.size w w') : RepsAt w' a rs := by
  intro i hi; obtain ⟨b, o, e, c0, c1, c2, c3, c4⟩ := h i hi; exact ⟨b, o, e, cell_keep hb c0, cell_keep hb c1, cell_keep hb c2, cell_keep hb c3, cell_keep hb c4⟩
theorem NewsAt.keep {w w' : World} {a : Option Addr} {ns : List NewsD} (h : NewsAt w a ns) (hb : Below w.heap.size w w') : NewsAt w' a ns := by
  intro i hi; obtain ⟨b, o, e, c0, c1, c2, c3, c4⟩ := h i hi; exact ⟨b, o, e, cell_keep hb c0, cell_keep hb c1, cell_keep hb c2, cell_keep hb c3, cell_keep hb c4⟩
theorem NewsSSAt.keep {w w' : World} {a : Option Addr} {nss : List (List NewsD)} (h : NewsSSAt w a nss) (hb : Below w.heap.size w w') : NewsSSAt w' a nss := by
  intro i hi; obtain ⟨b, o, ca, cc, e, c0, c1⟩ := h i hi; exact ⟨b, o, ca, cc, e, cell_keep hb c0, c1.keep hb⟩

/-- The calls of a trip. -/
def callsOf (bk : BookD) (i : Int) : List CallD := (bk.trips.getD i.toNat ⟨ByteArray.empty, []⟩).calls
theorem callsOf_at (bk : BookD) (k : Nat) (h : k < bk.trips.length) : callsOf bk k = bk.trips[k].calls := by
  simp [callsOf, List.getD, List.getElem?_eq_getElem h]
/-- The number of a report is as its op asks. -/
def numB (r : RepD) : Bool := if r.op = 1 then decide (0 ≤ r.n ∧ r.n ≤ 100000) else if r.op = 2 then decide (1 ≤ r.n ∧ r.n ≤ 20) else r.n == 0
def reportB (bk : BookD) (r : RepD) : Bool :=
  decide ((faultD bk).1 = 0 ∧ (0 ≤ r.tick ∧ r.tick ≤ 1000000) ∧ (1 ≤ r.op ∧ r.op ≤ 5) ∧ (0 ≤ r.trip ∧ r.trip < bk.trips.length) ∧ (0 ≤ r.call ∧ r.call < (callsOf bk r.trip).length)) && numB r
theorem reportB_no {bk : BookD} {r : RepD} (h : ¬ ((faultD bk).1 = 0 ∧ (0 ≤ r.tick ∧ r.tick ≤ 1000000) ∧ (1 ≤ r.op ∧ r.op ≤ 5) ∧ (0 ≤ r.trip ∧ r.trip < bk.trips.length) ∧ (0 ≤ r.call ∧ r.call < (callsOf bk r.trip).length))) : reportB bk r = false := by
  unfold reportB; rw [decide_eq_false h]; rfl
theorem reportB_yes {bk : BookD} {r : RepD} (h : (faultD bk).1 = 0 ∧ (0 ≤ r.tick ∧ r.tick ≤ 1000000) ∧ (1 ≤ r.op ∧ r.op ≤ 5) ∧ (0 ≤ r.trip ∧ r.trip < bk.trips.length) ∧ (0 ≤ r.call ∧ r.call < (callsOf bk r.trip).length)) : reportB bk r = numB r := by
  unfold reportB; rw [decide_eq_true h]; rfl
theorem reportB_head {bk : BookD} {r : RepD} (h : reportB bk r = true) : (faultD bk).1 = 0 ∧ (0 ≤ r.tick ∧ r.tick ≤ 1000000) ∧ (1 ≤ r.op ∧ r.op ≤ 5) ∧ (0 ≤ r.trip ∧ r.trip < bk.trips.length) ∧ (0 ≤ r.call ∧ r.call < (callsOf bk r.trip).length) := by
  unfold reportB at h; simp only [Bool.and_eq_true] at h; exact of_decide_eq_true h.1
theorem numB_1 {r : RepD} (h : r.op = 1) : numB r = decide (0 ≤ r.n ∧ r.n ≤ 100000) := by unfold numB; rw [if_pos h]
theorem numB_2 {r : RepD} (h : r.op = 2) : numB r = decide (1 ≤ r.n ∧ r.n ≤ 20) := by unfold numB; rw [if_neg (by omega), if_pos h]
theorem numB_3 {r : RepD} (h1 : r.op ≠ 1) (h2 : r.op ≠ 2) : numB r = (r.n == 0) := by unfold numB; rw [if_neg h1, if_neg h2]

/-- News of a call, as a value. -/
def newsV (n : NewsD) : Value := .agg #[.int .i64 n.late, .int .i64 n.track, .bool n.off, .bool n.here, .bool n.gone]
def sumLens : List (List NewsD) → Nat
  | [] => 0
  | l :: r => l.length + sumLens r
def newsSize (nss : List (List NewsD)) : Nat := nss.length + sumLens nss
theorem sumLens_append (l m : List (List NewsD)) : sumLens (l ++ m) = sumLens l + sumLens m := by
  induction l with
  | nil => simp [sumLens]
  | cons a l ih => simp [sumLens, ih]; omega
theorem sumLens_take (l : List (List NewsD)) (k : Nat) (h : k < l.length) : sumLens (l.take (k + 1)) = sumLens (l.take k) + l[k].length := by
  rw [take_snoc l k h, sumLens_append]; simp [sumLens]
theorem sumLens_take_le (l : List (List NewsD)) (k : Nat) : sumLens (l.take k) ≤ sumLens l := by
  have h := sumLens_append (l.take k) (l.drop k)
  rw [List.take_append_drop] at h; omega
theorem sumLens_get (l : List (List NewsD)) (i : Nat) (h : i < l.length) : l[i].length ≤ sumLens l := by
  have h1 := sumLens_take l i h
  have h2 := sumLens_take_le l (i + 1)
  omega
theorem NewsAt.setOther {w : World} {b0 o0 : Nat} {ns : List NewsD} {p : Addr} {u : Value} (h : NewsAt w (some ⟨b0, o0, none⟩) ns) (hp : b0 ≠ p.block) : NewsAt (w.setCell p u) (some ⟨b0, o0, none⟩) ns := by
  intro i hi; obtain ⟨b, o, e, c0, c1, c2, c3, c4⟩ := h i hi
  simp only [Option.some.injEq, Addr.mk.injEq] at e
  obtain ⟨rfl, rfl, _⟩ := e
  exact ⟨_, _, rfl, by rw [cell_other hp]; exact c0, by rw [cell_other hp]; exact c1, by rw [cell_other hp]; exact c2, by rw [cell_other hp]; exact c3, by rw [cell_other hp]; exact c4⟩

end Go.Proofs.YtjioingdpfgadabGreatDoor
