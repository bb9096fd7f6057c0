import Derived.Test.YtjioingdpfgadaaDoorProg
import Derived.Test.YtjioingdpfgadaaDoorBaseM
import Derived.Maps.AppendAt
import Derived.OwnWalk
import Derived.Deep.OwnRows
namespace Go.Proofs.YtjioingdpfgadaaDoor
open Go Go.RowKit

set_option maxHeartbeats 400000 in
theorem szCallS_any (a : Option Addr) (n c : Nat) (left : Int) (w : World) (h0 : 0 ≤ left) (h1 : left ≤ 1048576) (hn : n ≤ maxLen) :
    Calls Tryd.prog 124 #[.slice a n c, .int .i64 left] w fun e w' => e = .returned (.int .i64 (rest left n)) ∧ w' = w := by
  unfold maxLen at hn
  by_cases h : left - n < 0
  · go_enter Tryd.func124, Tryd.ntmps124
    go_wp2
    go_ret
    exact ⟨ret_int (rest_no (by omega)).symm, rfl⟩
  · go_enter Tryd.func124, Tryd.ntmps124
    go_wp2
    go_ret
    exact ⟨ret_int (rest_yes (by omega)).symm, rfl⟩

set_option maxHeartbeats 400000 in
theorem szStringS_any (a : Option Addr) (ss : List ByteArray) (c : Nat) (left : Int) (w : World) (h0 : 0 ≤ left) (h1 : left ≤ 1048576) (hn : ss.length ≤ maxLen) (hs : ∀ i (h : i < ss.length), ss[i].size ≤ maxLen) (hat : StrsAt w a ss) :
    Calls Tryd.prog 70 #[.slice a ss.length c, .int .i64 left] w fun e w' => e = .returned (.int .i64 (rest left (strsSize ss))) ∧ w' = w := by
  unfold maxLen at hn hs
  by_cases h : left - ss.length < 0
  · go_enter Tryd.func70, Tryd.ntmps70
    go_wp2
    go_ret
    exact ⟨ret_int (rest_no (by unfold strsSize; omega)).symm, rfl⟩
  · go_enter Tryd.func70, Tryd.ntmps70
    go_wp2
    go_loop [1, 5] (fun l i => ∃ k : Nat, k ≤ ss.length ∧ i = .int .i64 k ∧ 0 ≤ left - ss.length - sumSizes (ss.take k) ∧ l = .int .i64 (left - ss.length - sumSizes (ss.take k))) (fun _ i => ss.length - (intOf i).toNat)
    case atStart => exact ⟨0, Nat.zero_le _, rfl, by simp [sumSizes]; omega, by simp [sumSizes]⟩
    case round =>
      obtain ⟨k, hk, rfl, hl, rfl⟩ := hrel
      by_cases hlt : k < ss.length
      · obtain ⟨b, o, rfl, hc⟩ := hat k hlt
        have hsz := hs k hlt
        have HT : Hid (sumSizes (ss.take (k + 1)) = sumSizes (ss.take k) + ss[k].size) := sumSizes_take ss k hlt
        have HL : Hid (sumSizes (ss.take (k + 1)) ≤ sumSizes ss) := sumSizes_take_le ss (k + 1)
        generalize ss[k] = s at *
        generalize sumSizes (ss.take k) = m at *
        clear hat hs
        go_wp2
        · go_ret
          have := HT.out
          have := HL.out
          exact ⟨ret_int (rest_no (by unfold strsSize; omega)).symm, rfl⟩
        · go_round
          case rel =>
            have := HT.out
            exact ⟨k + 1, by omega, by go_num, by omega, by rw [HT.out]; go_num⟩
          case measure => simp [intOf]; omega
      · go_wp2
        go_ret
        have e : ss.take k = ss := List.take_of_length_le (by omega)
        rw [e] at hl ⊢
        exact ⟨ret_int (by rw [rest_yes (by unfold strsSize; omega)]; unfold strsSize; omega), rfl⟩

set_option maxHeartbeats 400000 in
theorem szTrip_any (nm : ByteArray) (ca : Option Addr) (n cc : Nat) (left : Int) (w : World) (h0 : 0 ≤ left) (h1 : left ≤ 1048576) (hn : n ≤ maxLen) (hs : nm.size ≤ maxLen) :
    Calls Tryd.prog 107 #[.agg #[.string nm, .slice ca n cc], .int .i64 left] w fun e w' => e = .returned (.int .i64 (rest left ((nm.size : Int) + n))) ∧ Below w.heap.size w w' := by
  have hn' := hn
  unfold maxLen at hn hs
  by_cases h : left - nm.size < 0
  · go_enter Tryd.func107, Tryd.ntmps107
    go_wp2_with fail
    go_ret
    exact ⟨ret_int (rest_no (by omega)).symm, (Below.refl _ _).alloc (Nat.le_refl _) _⟩
  · by_cases h2 : (n : Int) ≤ left - nm.size
    all_goals
      go_enter Tryd.func107, Tryd.ntmps107
      go_wp2_with fail
      refine (szCallS_any _ _ _ _ _ (by omega) (by omega) hn').mono ?_
      rintro e w' ⟨rfl, rfl⟩
    · rw [rest_yes h2]
      go_wp2_with fail
      go_ret
      exact ⟨ret_int (by rw [rest_yes (by omega)]; omega), (Below.refl _ _).alloc (Nat.le_refl _) _⟩
    · rw [rest_no (by omega)]
      go_wp2_with fail
      go_ret
      exact ⟨ret_int (by rw [rest_no (by omega)]), (Below.refl _ _).alloc (Nat.le_refl _) _⟩

set_option maxHeartbeats 400000 in
theorem szTripS_any (a : Option Addr) (ts : List TripD) (c : Nat) (left : Int) (w : World) (h0 : 0 ≤ left) (h1 : left ≤ 1048576) (hn : ts.length ≤ maxLen) (hs : ∀ i (h : i < ts.length), ts[i].name.size ≤ maxLen ∧ ts[i].calls.length ≤ maxLen) (hat : TripsAt w a ts) :
    Calls Tryd.prog 71 #[.slice a ts.length c, .int .i64 left] w fun e w' => e = .returned (.int .i64 (rest left (tripsSize ts))) ∧ Below w.heap.size w w' := by
  unfold maxLen at hn
  by_cases h : left - ts.length < 0
  · go_enter Tryd.func71, Tryd.ntmps71
    go_wp2
    go_ret
    exact ⟨ret_int (rest_no (by unfold tripsSize; omega)).symm, Below.refl _ _⟩
  · go_enter Tryd.func71, Tryd.ntmps71
    go_wp2
    go_loopw [1, 5] (fun l i wr => ∃ k : Nat, k ≤ ts.length ∧ i = .int .i64 k ∧ 0 ≤ left - ts.length - sumTrips (ts.take k) ∧ l = .int .i64 (left - ts.length - sumTrips (ts.take k)) ∧ Below w.heap.size w wr) (fun _ i _ => ts.length - (intOf i).toNat)
    case atStart => exact ⟨0, Nat.zero_le _, rfl, by simp [sumTrips]; omega, by simp [sumTrips], Below.refl _ _⟩
    case round =>
      obtain ⟨k, hk, rfl, hl, rfl, hbel⟩ := hrel
      by_cases hlt : k < ts.length
      · obtain ⟨b, o, ca, cc, rfl, hc0, hc1, _⟩ := hat.keep hbel k hlt
        obtain ⟨hs1, hs2⟩ := hs k hlt
        have HT : Hid (sumTrips (ts.take (k + 1)) = sumTrips (ts.take k) + (ts[k].name.size + ts[k].calls.length)) := sumTrips_take ts k hlt
        have HL : Hid (sumTrips (ts.take (k + 1)) ≤ sumTrips ts) := sumTrips_take_le ts (k + 1)
        generalize ts[k].name = nm at *
        generalize ts[k].calls.length = n at *
        generalize sumTrips (ts.take k) = m at *
        clear hat hs
        by_cases hfit : (nm.size : Int) + n ≤ left - ts.length - m
        all_goals
          go_wp2_with fail
          refine (szTrip_any _ _ _ _ _ _ (by omega) (by omega) hs2 hs1).mono ?_
          rintro e w1 ⟨rfl, hb1⟩
        · rw [rest_yes hfit]
          go_wp2_with fail
          go_roundw
          case rel =>
            have := HT.out
            exact ⟨k + 1, by omega, by go_num, by omega, by rw [HT.out]; go_num, hbel.trans (hb1.mono hbel.size)⟩
          case measure => simp [intOf]; omega
        · rw [rest_no (by omega)]
          go_wp2_with fail
          go_ret
          have := HT.out
          have := HL.out
          exact ⟨ret_int (rest_no (by unfold tripsSize; omega)).symm, hbel.trans (hb1.mono hbel.size)⟩
      · go_wp2
        go_ret
        have e : ts.take k = ts := List.take_of_length_le (by omega)
        rw [e] at hl ⊢
        exact ⟨ret_int (by rw [rest_yes (by unfold tripsSize; omega)]; unfold tripsSize; omega), hbel⟩

/-- A book's value: two slices, and what lies behind them. -/
def BookAt (w : World) (v : Value) (b : BookD) : Prop :=
  ∃ sa sc ta tc, v = .agg #[.slice sa b.sts.length sc, .slice ta b.trips.length tc] ∧ StrsAt w sa b.sts ∧ TripsAt w ta b.trips
theorem BookAt.keep {w w' : World} {v : Value} {b : BookD} (h : BookAt w v b) (hb : Below w.heap.size w w') : BookAt w' v b := by
  obtain ⟨sa, sc, ta, tc, e, h1, h2⟩ := h; exact ⟨sa, sc, ta, tc, e, h1.keep hb, h2.keep hb⟩
/-- Each list and each text of a book is of a length that Go's own can have. -/
def BookLens (b : BookD) : Prop :=
  b.sts.length ≤ maxLen ∧ (∀ i (h : i < b.sts.length), b.sts[i].size ≤ maxLen) ∧ b.trips.length ≤ maxLen ∧ (∀ i (h : i < b.trips.length), b.trips[i].name.size ≤ maxLen ∧ b.trips[i].calls.length ≤ maxLen)

set_option maxHeartbeats 400000 in
theorem szBook_any (v : Value) (b : BookD) (left : Int) (w : World) (h0 : 0 ≤ left) (h1 : left ≤ 1048576) (hl : BookLens b) (hat : BookAt w v b) :
    Calls Tryd.prog 30 #[v, .int .i64 left] w fun e w' => e = .returned (.int .i64 (rest left (bookSize b))) ∧ Below w.heap.size w w' := by
  obtain ⟨sa, sc, ta, tc, rfl, hsa, hta⟩ := hat
  obtain ⟨l1, l2, l3, l4⟩ := hl
  have hb0 : Below w.heap.size w (w.alloc (.cells #[.slice sa b.sts.length sc, .slice ta b.trips.length tc] 65)) := (Below.refl _ _).alloc (Nat.le_refl _) _
  by_cases h : (strsSize b.sts : Int) ≤ left
  · by_cases h2 : (tripsSize b.trips : Int) ≤ left - strsSize b.sts
    all_goals
      go_enter Tryd.func30, Tryd.ntmps30
      go_wp2_with fail
      refine (szStringS_any _ _ _ _ _ (by omega) (by omega) l1 l2 (by exact hsa.keep hb0)).mono ?_
      rintro e w' ⟨rfl, rfl⟩
      rw [rest_yes h]
      go_wp2_with fail
      refine (szTripS_any _ _ _ _ _ (by omega) (by omega) l3 l4 (by exact hta.keep hb0)).mono ?_
      rintro e w1 ⟨rfl, hb1⟩
    · rw [rest_yes h2]
      go_wp2_with fail
      go_ret
      exact ⟨ret_int (by rw [rest_yes (by unfold bookSize; omega)]; unfold bookSize; omega), hb0.trans (hb1.mono (by simp))⟩
    · rw [rest_no (by omega)]
      go_wp2_with fail
      go_ret
      exact ⟨ret_int (by rw [rest_no (by unfold bookSize; omega)]), hb0.trans (hb1.mono (by simp))⟩
  · go_enter Tryd.func30, Tryd.ntmps30
    go_wp2_with fail
    refine (szStringS_any _ _ _ _ _ (by omega) (by omega) l1 l2 (by exact hsa.keep hb0)).mono ?_
    rintro e w' ⟨rfl, rfl⟩
    rw [rest_no (by omega)]
    go_wp2_with fail
    go_ret
    exact ⟨ret_int (by rw [rest_no (by unfold bookSize; omega)]), hb0⟩

end Go.Proofs.YtjioingdpfgadaaDoor
namespace Go.Proofs.YtjioingdpfgadaaDoor
open Go Go.RowKit

/-- A report, and what is known of a call, as plain data. -/
structure RepD where
  tick : Int
  op : Int
  trip : Int
  call : Int
  n : Int
structure NewsD where
  late : Int
  track : Int
  off : Bool
  here : Bool
  gone : Bool

/-- A report's value. -/
def repV (r : RepD) : Value := .agg #[.int .i64 r.tick, .int .i64 r.op, .int .i64 r.trip, .int .i64 r.call, .int .i64 r.n]
/-- Reports, five cells each. -/
def RepsAt (w : World) (a : Option Addr) (rs : List RepD) : Prop :=
  ∀ i (h : i < rs.length), ∃ b o, a = some ⟨b, o, none⟩ ∧ w.cell? ⟨b, o + i * 5, none⟩ = some (.int .i64 rs[i].tick) ∧ w.cell? ⟨b, o + i * 5 + 1, none⟩ = some (.int .i64 rs[i].op) ∧ w.cell? ⟨b, o + i * 5 + 2, none⟩ = some (.int .i64 rs[i].trip) ∧ w.cell? ⟨b, o + i * 5 + 3, none⟩ = some (.int .i64 rs[i].call) ∧ w.cell? ⟨b, o + i * 5 + 4, none⟩ = some (.int .i64 rs[i].n)
/-- News of a trip's calls, five cells each. -/
def NewsAt (w : World) (a : Option Addr) (ns : List NewsD) : Prop :=
  ∀ i (h : i < ns.length), ∃ b o, a = some ⟨b, o, none⟩ ∧ w.cell? ⟨b, o + i * 5, none⟩ = some (.int .i64 ns[i].late) ∧ w.cell? ⟨b, o + i * 5 + 1, none⟩ = some (.int .i64 ns[i].track) ∧ w.cell? ⟨b, o + i * 5 + 2, none⟩ = some (.bool ns[i].off) ∧ w.cell? ⟨b, o + i * 5 + 3, none⟩ = some (.bool ns[i].here) ∧ w.cell? ⟨b, o + i * 5 + 4, none⟩ = some (.bool ns[i].gone)
/-- News of all trips: a slice a trip. -/
def NewsSSAt (w : World) (a : Option Addr) (nss : List (List NewsD)) : Prop :=
  ∀ i (h : i < nss.length), ∃ b o ca cc, a = some ⟨b, o, none⟩ ∧ w.cell? ⟨b, o + i, none⟩ = some (.slice ca nss[i].length cc) ∧ NewsAt w ca nss[i]
theorem RepsAt.keep {w w' : World} {a : Option Addr} {rs : List RepD} (h : RepsAt w a rs) (hb : Below w.heap.size w w') : RepsAt w' a rs := by
  intro i hi; obtain ⟨b, o, e, c0, c1, c2, c3, c4⟩ := h i hi; exact ⟨b, o, e, cell_keep hb c0, cell_keep hb c1, cell_keep hb c2, cell_keep hb c3, cell_keep hb c4⟩
theorem NewsAt.keep {w w' : World} {a : Option Addr} {ns : List NewsD} (h : NewsAt w a ns) (hb : Below w.heap.size w w') : NewsAt w' a ns := by
  intro i hi; obtain ⟨b, o, e, c0, c1, c2, c3, c4⟩ := h i hi; exact ⟨b, o, e, cell_keep hb c0, cell_keep hb c1, cell_keep hb c2, cell_keep hb c3, cell_keep hb c4⟩
theorem NewsSSAt.keep {w w' : World} {a : Option Addr} {nss : List (List NewsD)} (h : NewsSSAt w a nss) (hb : Below w.heap.size w w') : NewsSSAt w' a nss := by
  intro i hi; obtain ⟨b, o, ca, cc, e, c0, c1⟩ := h i hi; exact ⟨b, o, ca, cc, e, cell_keep hb c0, c1.keep hb⟩

/-- The calls of a trip. -/
def callsOf (bk : BookD) (i : Int) : List CallD := (bk.trips.getD i.toNat ⟨ByteArray.empty, []⟩).calls
theorem callsOf_at (bk : BookD) (k : Nat) (h : k < bk.trips.length) : callsOf bk k = bk.trips[k].calls := by
  simp [callsOf, List.getD, List.getElem?_eq_getElem h]
/-- The number of a report is as its op asks. -/
def numB (r : RepD) : Bool := if r.op = 1 then decide (0 ≤ r.n ∧ r.n ≤ 100000) else if r.op = 2 then decide (1 ≤ r.n ∧ r.n ≤ 20) else r.n == 0
def reportB (bk : BookD) (r : RepD) : Bool :=
  decide ((faultD bk).1 = 0 ∧ (0 ≤ r.tick ∧ r.tick ≤ 1000000) ∧ (1 ≤ r.op ∧ r.op ≤ 5) ∧ (0 ≤ r.trip ∧ r.trip < bk.trips.length) ∧ (0 ≤ r.call ∧ r.call < (callsOf bk r.trip).length)) && numB r
theorem reportB_no {bk : BookD} {r : RepD} (h : ¬ ((faultD bk).1 = 0 ∧ (0 ≤ r.tick ∧ r.tick ≤ 1000000) ∧ (1 ≤ r.op ∧ r.op ≤ 5) ∧ (0 ≤ r.trip ∧ r.trip < bk.trips.length) ∧ (0 ≤ r.call ∧ r.call < (callsOf bk r.trip).length))) : reportB bk r = false := by
  unfold reportB; rw [decide_eq_false h]; rfl
theorem reportB_yes {bk : BookD} {r : RepD} (h : (faultD bk).1 = 0 ∧ (0 ≤ r.tick ∧ r.tick ≤ 1000000) ∧ (1 ≤ r.op ∧ r.op ≤ 5) ∧ (0 ≤ r.trip ∧ r.trip < bk.trips.length) ∧ (0 ≤ r.call ∧ r.call < (callsOf bk r.trip).length)) : reportB bk r = numB r := by
  unfold reportB; rw [decide_eq_true h]; rfl
theorem reportB_head {bk : BookD} {r : RepD} (h : reportB bk r = true) : (faultD bk).1 = 0 ∧ (0 ≤ r.tick ∧ r.tick ≤ 1000000) ∧ (1 ≤ r.op ∧ r.op ≤ 5) ∧ (0 ≤ r.trip ∧ r.trip < bk.trips.length) ∧ (0 ≤ r.call ∧ r.call < (callsOf bk r.trip).length) := by
  unfold reportB at h; simp only [Bool.and_eq_true] at h; exact of_decide_eq_true h.1
theorem numB_1 {r : RepD} (h : r.op = 1) : numB r = decide (0 ≤ r.n ∧ r.n ≤ 100000) := by unfold numB; rw [if_pos h]
theorem numB_2 {r : RepD} (h : r.op = 2) : numB r = decide (1 ≤ r.n ∧ r.n ≤ 20) := by unfold numB; rw [if_neg (by omega), if_pos h]
theorem numB_3 {r : RepD} (h1 : r.op ≠ 1) (h2 : r.op ≠ 2) : numB r = (r.n == 0) := by unfold numB; rw [if_neg h1, if_neg h2]

/-- News of a call, as a value. -/
def newsV (n : NewsD) : Value := .agg #[.int .i64 n.late, .int .i64 n.track, .bool n.off, .bool n.here, .bool n.gone]
def sumLens : List (List NewsD) → Nat
  | [] => 0
  | l :: r => l.length + sumLens r
def newsSize (nss : List (List NewsD)) : Nat := nss.length + sumLens nss
theorem sumLens_append (l m : List (List NewsD)) : sumLens (l ++ m) = sumLens l + sumLens m := by
  induction l with
  | nil => simp [sumLens]
  | cons a l ih => simp [sumLens, ih]; omega
theorem sumLens_take (l : List (List NewsD)) (k : Nat) (h : k < l.length) : sumLens (l.take (k + 1)) = sumLens (l.take k) + l[k].length := by
  rw [take_snoc l k h, sumLens_append]; simp [sumLens]
theorem sumLens_take_le (l : List (List NewsD)) (k : Nat) : sumLens (l.take k) ≤ sumLens l := by
  have h := sumLens_append (l.take k) (l.drop k)
  rw [List.take_append_drop] at h; omega
theorem sumLens_get (l : List (List NewsD)) (i : Nat) (h : i < l.length) : l[i].length ≤ sumLens l := by
  have h1 := sumLens_take l i h
  have h2 := sumLens_take_le l (i + 1)
  omega
theorem NewsAt.setOther {w : World} {b0 o0 : Nat} {ns : List NewsD} {p : Addr} {u : Value} (h : NewsAt w (some ⟨b0, o0, none⟩) ns) (hp : b0 ≠ p.block) : NewsAt (w.setCell p u) (some ⟨b0, o0, none⟩) ns := by
  intro i hi; obtain ⟨b, o, e, c0, c1, c2, c3, c4⟩ := h i hi
  simp only [Option.some.injEq, Addr.mk.injEq] at e
  obtain ⟨rfl, rfl, _⟩ := e
  exact ⟨_, _, rfl, by rw [cell_other hp]; exact c0, by rw [cell_other hp]; exact c1, by rw [cell_other hp]; exact c2, by rw [cell_other hp]; exact c3, by rw [cell_other hp]; exact c4⟩

end Go.Proofs.YtjioingdpfgadaaDoor
namespace Go.Proofs.YtjioingdpfgadaaDoor
open Go Go.RowKit Go.Deep

theorem uNw : Tryd.prog.underlying 42 = some (.slice 41) := by kernel_rfl
theorem uNwS : Tryd.prog.underlying 33 = some (.slice 42) := by kernel_rfl
theorem infNw : (Tryd.prog.info? 41).map (fun i => (i.zero, i.size, i.bytes)) = some (some (.agg #[.int .i64 0, .int .i64 0, .bool false, .bool false, .bool false]), 5, 24) := by kernel_rfl
theorem infNwS : (Tryd.prog.info? 42).map (fun i => (i.zero, i.size, i.bytes)) = some (some (.slice none 0 0), 1, 24) := by kernel_rfl

/-- The five cells of the news of a call. -/
def newsCells (x : NewsD) : List Value := [.int .i64 x.late, .int .i64 x.track, .bool x.off, .bool x.here, .bool x.gone]
def rowCells (ns : List NewsD) : List Value := ns.flatMap newsCells
theorem rowCells_snoc (ns : List NewsD) (x : NewsD) : rowCells (ns ++ [x]) = rowCells ns ++ newsCells x := by simp [rowCells]
theorem rowCells_length (ns : List NewsD) : (rowCells ns).length = ns.length * 5 := by
  induction ns with
  | nil => rfl
  | cons a l ih => simp only [rowCells, List.flatMap_cons, List.length_append, List.length_cons] at ih ⊢; rw [show (l.flatMap newsCells).length = l.length * 5 from ih]; simp [newsCells]; omega
theorem rowCells_get (ns : List NewsD) (i c : Nat) (h : i < ns.length) (hc : c < 5) : (rowCells ns)[i * 5 + c]? = (newsCells ns[i])[c]? := by
  induction ns generalizing i with
  | nil => simp at h
  | cons a l ih =>
    have e : rowCells (a :: l) = newsCells a ++ rowCells l := by simp [rowCells]
    rw [e]
    cases i with
    | zero =>
      rw [List.getElem?_append_left (by simp [newsCells]; omega)]
      simp
    | succ i =>
      rw [List.getElem?_append_right (by simp [newsCells]; omega)]
      have : (i + 1) * 5 + c - (newsCells a).length = i * 5 + c := by simp [newsCells]; omega
      rw [this, ih i (by simpa using h)]
      rfl

/-- Two rows in one block are of one type. -/
theorem owns_types {w : World} {B B' : Nat} {e e' : TypeId} {s s' n n' g : Nat} {v v' : Value} {xs xs' : List Value} (h : w.ownsRow B e s v n xs) (h' : w.ownsRow B' e' s' v' n' xs') (hg : v.ownBlock = some g) (hg' : v'.ownBlock = some g) : e = e' := by
  rcases h.2 with ⟨rfl, _⟩ | ⟨g1, c1, cur1, rfl, _, hh, _⟩
  · simp [Value.ownBlock] at hg
  rcases h'.2 with ⟨rfl, _⟩ | ⟨g2, c2, cur2, rfl, _, hh', _⟩
  · simp [Value.ownBlock] at hg'
  simp [Value.ownBlock] at hg hg'
  subst hg; subst hg'
  rw [hh] at hh'
  simp at hh'
  exact hh'.2

/-- News of all trips in rows of the call's own, no two in one block. -/
structure NewsOwnAt (B : Nat) (w : World) (v : Value) (nss : List (List NewsD)) (vs : List Value) : Prop where
  outer : w.ownsRow B 42 1 v nss.length vs
  len : vs.length = nss.length
  rows : ∀ i (h : i < nss.length) (h' : i < vs.length), w.ownsRow B 41 5 vs[i] nss[i].length (rowCells nss[i])
  apart : ∀ i j (hi : i < vs.length) (hj : j < vs.length), i < j → vs[i].ownBlock = none ∨ vs[i].ownBlock ≠ vs[j].ownBlock
def NewsOwn (B : Nat) (w : World) (v : Value) (nss : List (List NewsD)) : Prop := ∃ vs, NewsOwnAt B w v nss vs

theorem owns_below {w w' : World} {B B' : Nat} {e : TypeId} {s n : Nat} {v : Value} {xs : List Value} (h : w.ownsRow B e s v n xs) (hb : Below B' w w') (hB : ∀ g, v.ownBlock = some g → g < B') : w'.ownsRow B e s v n xs := by
  refine ⟨h.1, ?_⟩
  rcases h.2 with h0 | ⟨g, cap, cur, rfl, h1, hh, r⟩
  · exact Or.inl h0
  · exact Or.inr ⟨g, cap, cur, rfl, h1, by rw [hb.block g (hB g rfl)]; exact hh, r⟩
theorem owns_lt {w : World} {B : Nat} {e : TypeId} {s n : Nat} {v : Value} {xs : List Value} (h : w.ownsRow B e s v n xs) : ∀ g, v.ownBlock = some g → g < w.heap.size := fun g hg => (h.lt g hg).2
theorem NewsOwnAt.below {B : Nat} {w w' : World} {v : Value} {nss : List (List NewsD)} {vs : List Value} (h : NewsOwnAt B w v nss vs) (hb : Below w.heap.size w w') : NewsOwnAt B w' v nss vs :=
  ⟨owns_below h.outer hb (owns_lt h.outer), h.len, fun i h1 h2 => owns_below (h.rows i h1 h2) hb (owns_lt (h.rows i h1 h2)), h.apart⟩

/-- News in rows of the call's own can be read. -/
theorem NewsOwnAt.at {B : Nat} {w : World} {v : Value} {nss : List (List NewsD)} {vs : List Value} (h : NewsOwnAt B w v nss vs) : ∃ na nc, v = .slice na nss.length nc ∧ NewsSSAt w na nss := by
  have hrow : ∀ i (h1 : i < nss.length), ∃ ca cc, vs[i]'(by rw [h.len]; exact h1) = .slice ca nss[i].length cc ∧ NewsAt w ca nss[i] := fun i h1 => by
    have hr := h.rows i h1 (by rw [h.len]; exact h1)
    rcases hr.2 with ⟨e, e0⟩ | ⟨g, cap, cur, e, _⟩
    · refine ⟨none, 0, by rw [e, e0], fun j hj => by omega⟩
    · refine ⟨some ⟨g, 0, none⟩, cap, e, fun j hj => ?_⟩
      rw [e] at hr
      have hc : ∀ c, c < 5 → w.cell? ⟨g, j * 5 + c, none⟩ = (newsCells nss[i][j])[c]? := fun c hc => by
        rw [hr.cellAt _ (by omega), rowCells_get _ j c hj hc]
      refine ⟨g, 0, rfl, ?_, ?_, ?_, ?_, ?_⟩
      · simpa [newsCells] using hc 0 (by omega)
      · simpa [newsCells] using hc 1 (by omega)
      · simpa [newsCells] using hc 2 (by omega)
      · simpa [newsCells] using hc 3 (by omega)
      · simpa [newsCells] using hc 4 (by omega)
  have ho := h.outer
  rcases ho.2 with ⟨e, e0⟩ | ⟨g, cap, cur, e, _⟩
  · exact ⟨none, 0, by rw [e, e0], fun j hj => by omega⟩
  · refine ⟨some ⟨g, 0, none⟩, cap, e, fun i hi => ?_⟩
    obtain ⟨ca, cc, e1, hn⟩ := hrow i hi
    rw [e] at ho
    refine ⟨g, 0, ca, cc, rfl, ?_, hn⟩
    rw [Nat.zero_add, ho.cellAt i (by omega), List.getElem?_eq_getElem (by rw [h.len]; exact hi), e1]

end Go.Proofs.YtjioingdpfgadaaDoor
