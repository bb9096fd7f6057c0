import Derived.Test.YtjioingdpfgadabGreatDoorProg
import Derived.Test.YtjioingdpfgadabGreatDoorNewsOM
import Derived.Deep.AppendLies
import Derived.Test.YtjioingdpfgadabGreatDoorSpecRM
namespace Go.Proofs.YtjioingdpfgadabGreatDoor
open Go Go.RowKit Go.Deep

theorem doNews_1 (r : RepD) (k : Nat) (x : NewsD) (ho : r.op = 1) (h : r.call ≤ k) : newsCells (doNews r k x) = (newsCells x).set 0 (.int .i64 r.n) := by unfold doNews; rw [if_pos ho, if_pos h]; rfl
theorem doNews_2 (r : RepD) (k : Nat) (x : NewsD) (ho : r.op = 2) (h : r.call = k) : newsCells (doNews r k x) = (newsCells x).set 1 (.int .i64 r.n) := by unfold doNews; rw [if_neg (by omega), if_pos ho, if_pos h]; rfl
theorem doNews_3 (r : RepD) (k : Nat) (x : NewsD) (ho : r.op = 3) (h : r.call ≤ k) : newsCells (doNews r k x) = (newsCells x).set 2 (.bool true) := by unfold doNews; rw [if_neg (by omega), if_neg (by omega), if_pos ho, if_pos h]; rfl
theorem doNews_4 (r : RepD) (k : Nat) (x : NewsD) (ho : r.op = 4) (h : r.call = k) : newsCells (doNews r k x) = (newsCells x).set 3 (.bool true) := by unfold doNews; rw [if_neg (by omega), if_neg (by omega), if_neg (by omega), if_pos ho, if_pos h]; rfl
theorem doNews_5 (r : RepD) (k : Nat) (x : NewsD) (ho : r.op = 5) (h : r.call = k) : newsCells (doNews r k x) = (newsCells { x with here := false }).set 4 (.bool true) := by unfold doNews; rw [if_neg (by omega), if_neg (by omega), if_neg (by omega), if_neg (by omega), if_pos ho, if_pos h]; rfl

/-- A cell of a row. -/
theorem row_cell {w : World} {B g cap : Nat} {ns : List NewsD} (hr : w.ownsRow B 115 5 (.slice (some ⟨g, 0, none⟩) ns.length cap) ns.length (rowCells ns)) (m c : Nat) (hm : m < ns.length) (hc : c < 5) : w.cell? ⟨g, m * 5 + c, none⟩ = (newsCells ns[m])[c]? := by
  rw [hr.cellAt _ (by omega), rowCells_get _ m c hm hc]

set_option maxRecDepth 100000 in
set_option maxHeartbeats 2000000 in
theorem l2do_1 (B gv cv g cap : Nat) (nl : Nat) (ns : List NewsD) (r : RepD) (j k : Nat) (w : World) (hj : j < nl) (hjk : r.trip = (j : Int)) (hk : k < ns.length) (hkk : r.call = (k : Int)) (hm2 : ns.length ≤ 1048576) (hop : r.op = 1)
    (hv : w.cell? ⟨gv, j, none⟩ = some (.slice (some ⟨g, 0, none⟩) ns.length cap)) (hr : w.ownsRow B 115 5 (.slice (some ⟨g, 0, none⟩) ns.length cap) ns.length (rowCells ns)) :
    Calls Tryz.prog 54 #[.slice (some ⟨gv, 0, none⟩) nl cv, repV r] w fun e w' => e = .returned (.tuple #[]) ∧ w'.ownsRow B 115 5 (.slice (some ⟨g, 0, none⟩) ns.length cap) ns.length (rowCells (doRow r ns)) ∧ w.grownBy w' (some g) := by
  have hj1 : (j : Int) < (nl : Int) := by omega
  have l0 := cell_lt hv
  have l1 := (hr.lt g rfl).2
  have hr0 := hr.alloc (.cells #[.int .i64 r.tick, .int .i64 1, .int .i64 j, .int .i64 k, .int .i64 r.n] 64)
  have hg0 := World.grownBy_alloc w (.cells #[.int .i64 r.tick, .int .i64 1, .int .i64 j, .int .i64 k, .int .i64 r.n] 64) (some g)
  have HS := upTo_start r k ns hkk (Or.inl hop)
  have HE := upTo_end r ns
  have HN : Hid (∀ m (h : m < ns.length), k ≤ m → upTo r (m + 1) ns = (upTo r m ns).set m (doNews r m ns[m]) ∧ newsCells (doNews r m ns[m]) = (newsCells ((upTo r m ns)[m]'(by rw [upTo_length]; exact h))).set 0 (.int .i64 r.n)) := fun m h hkm => ⟨upTo_succ r m ns h, by rw [upTo_get r m ns m h, if_neg (by omega)]; exact doNews_1 r m ns[m] hop (by omega)⟩
  unfold repV
  rw [hjk, hkk, hop]
  clear hr
  go_enter Tryz.func54, Tryz.ntmps54
  go_wp2
  go_loopw [5] (fun i wr => ∃ m : Nat, k ≤ m ∧ m ≤ ns.length ∧ i = .int .i64 m ∧ wr.ownsRow B 115 5 (.slice (some ⟨g, 0, none⟩) ns.length cap) ns.length (rowCells (upTo r m ns)) ∧ w.grownBy wr (some g) ∧ wr.heap[w.heap.size]? = some (.cells #[.int .i64 r.tick, .int .i64 1, .int .i64 j, .int .i64 k, .int .i64 r.n] 64)) (fun i _ => ns.length - (intOf i).toNat)
  case atStart => exact ⟨k, Nat.le_refl _, by omega, rfl, by rw [HS]; exact hr0, hg0, heap_alloc_new _ _⟩
  case round =>
    obtain ⟨m, hkm, hm, rfl, hrow, hgr, hbox⟩ := hrel
    clear hr0 hg0 hv
    by_cases hlt : m < ns.length
    · have hlt1 : (m : Int) < (ns.length : Int) := by omega
      have q4 : wr.cell? ⟨w.heap.size, 4, none⟩ = some (.int .i64 r.n) := by simp [World.cell?, hbox]
      obtain ⟨e1, e2⟩ := HN.out m hlt hkm
      have hlu := upTo_length r m ns
      have hrow' := hrow
      rw [← hlu] at hrow'
      have hst := rowCells_set' m 0 (.int .i64 r.n) (doNews r m ns[m]) (by rw [hlu]; exact hlt) (by omega) e2 hrow'
      rw [← e1, hlu] at hst
      have HST : Hid _ := hst
      obtain ⟨u0, d0⟩ : ∃ u, wr.cell? ⟨g, m * 5, none⟩ = some u := ⟨_, row_cell hrow' m 0 (by rw [hlu]; exact hlt) (by omega)⟩
      have hne : g ≠ w.heap.size := by omega
      have hfr := hrow.frozenAt
      clear hst hrow' e1 e2 hrow hlu HS HE
      go_wp2
      go_roundw
      case rel =>
        exact ⟨m + 1, by omega, by omega, by go_num, HST.out.1, hgr.trans HST.out.2, by rw [Below.heap_setCell _ _ _ _ (fun e => hne e.symm)]; exact hbox⟩
      case measure => simp [intOf]; omega
    · have : m = ns.length := by omega
      subst this
      rw [HE] at hrow
      go_wp2
      go_end0
      exact ⟨rfl, hrow, hgr⟩

set_option maxRecDepth 100000 in
set_option maxHeartbeats 2000000 in
theorem l2do_3 (B gv cv g cap : Nat) (nl : Nat) (ns : List NewsD) (r : RepD) (j k : Nat) (w : World) (hj : j < nl) (hjk : r.trip = (j : Int)) (hk : k < ns.length) (hkk : r.call = (k : Int)) (hm2 : ns.length ≤ 1048576) (hop : r.op = 3)
    (hv : w.cell? ⟨gv, j, none⟩ = some (.slice (some ⟨g, 0, none⟩) ns.length cap)) (hr : w.ownsRow B 115 5 (.slice (some ⟨g, 0, none⟩) ns.length cap) ns.length (rowCells ns)) :
    Calls Tryz.prog 54 #[.slice (some ⟨gv, 0, none⟩) nl cv, repV r] w fun e w' => e = .returned (.tuple #[]) ∧ w'.ownsRow B 115 5 (.slice (some ⟨g, 0, none⟩) ns.length cap) ns.length (rowCells (doRow r ns)) ∧ w.grownBy w' (some g) := by
  have hj1 : (j : Int) < (nl : Int) := by omega
  have l0 := cell_lt hv
  have l1 := (hr.lt g rfl).2
  have hr0 := hr.alloc (.cells #[.int .i64 r.tick, .int .i64 3, .int .i64 j, .int .i64 k, .int .i64 r.n] 64)
  have hg0 := World.grownBy_alloc w (.cells #[.int .i64 r.tick, .int .i64 3, .int .i64 j, .int .i64 k, .int .i64 r.n] 64) (some g)
  have HS := upTo_start r k ns hkk (Or.inr hop)
  have HE := upTo_end r ns
  have HN : Hid (∀ m (h : m < ns.length), k ≤ m → upTo r (m + 1) ns = (upTo r m ns).set m (doNews r m ns[m]) ∧ newsCells (doNews r m ns[m]) = (newsCells ((upTo r m ns)[m]'(by rw [upTo_length]; exact h))).set 2 (.bool true)) := fun m h hkm => ⟨upTo_succ r m ns h, by rw [upTo_get r m ns m h, if_neg (by omega)]; exact doNews_3 r m ns[m] hop (by omega)⟩
  unfold repV
  rw [hjk, hkk, hop]
  clear hr
  go_enter Tryz.func54, Tryz.ntmps54
  go_wp2
  go_loopw [6] (fun i wr => ∃ m : Nat, k ≤ m ∧ m ≤ ns.length ∧ i = .int .i64 m ∧ wr.ownsRow B 115 5 (.slice (some ⟨g, 0, none⟩) ns.length cap) ns.length (rowCells (upTo r m ns)) ∧ w.grownBy wr (some g) ∧ wr.heap[w.heap.size]? = some (.cells #[.int .i64 r.tick, .int .i64 3, .int .i64 j, .int .i64 k, .int .i64 r.n] 64)) (fun i _ => ns.length - (intOf i).toNat)
  case atStart => exact ⟨k, Nat.le_refl _, by omega, rfl, by rw [HS]; exact hr0, hg0, heap_alloc_new _ _⟩
  case round =>
    obtain ⟨m, hkm, hm, rfl, hrow, hgr, hbox⟩ := hrel
    clear hr0 hg0 hv
    by_cases hlt : m < ns.length
    · have hlt1 : (m : Int) < (ns.length : Int) := by omega
      have q4 : wr.cell? ⟨w.heap.size, 4, none⟩ = some (.int .i64 r.n) := by simp [World.cell?, hbox]
      obtain ⟨e1, e2⟩ := HN.out m hlt hkm
      have hlu := upTo_length r m ns
      have hrow' := hrow
      rw [← hlu] at hrow'
      have hst := rowCells_set' m 2 (.bool true) (doNews r m ns[m]) (by rw [hlu]; exact hlt) (by omega) e2 hrow'
      rw [← e1, hlu] at hst
      have HST : Hid _ := hst
      obtain ⟨u0, d0⟩ : ∃ u, wr.cell? ⟨g, m * 5 + 2, none⟩ = some u := ⟨_, row_cell hrow' m 2 (by rw [hlu]; exact hlt) (by omega)⟩
      have hne : g ≠ w.heap.size := by omega
      have hfr := hrow.frozenAt
      clear hst hrow' e1 e2 hrow hlu HS HE
      go_wp2
      go_roundw
      case rel =>
        exact ⟨m + 1, by omega, by omega, by go_num, HST.out.1, hgr.trans HST.out.2, by rw [Below.heap_setCell _ _ _ _ (fun e => hne e.symm)]; exact hbox⟩
      case measure => simp [intOf]; omega
    · have : m = ns.length := by omega
      subst this
      rw [HE] at hrow
      go_wp2
      go_end0
      exact ⟨rfl, hrow, hgr⟩

set_option maxRecDepth 100000 in
set_option maxHeartbeats 2000000 in
theorem l2do_2 (B gv cv g cap : Nat) (nl : Nat) (ns : List NewsD) (r : RepD) (j k : Nat) (w : World) (hj : j < nl) (hjk : r.trip = (j : Int)) (hk : k < ns.length) (hkk : r.call = (k : Int)) (hop : r.op = 2)
    (hv : w.cell? ⟨gv, j, none⟩ = some (.slice (some ⟨g, 0, none⟩) ns.length cap)) (hr : w.ownsRow B 115 5 (.slice (some ⟨g, 0, none⟩) ns.length cap) ns.length (rowCells ns)) :
    Calls Tryz.prog 54 #[.slice (some ⟨gv, 0, none⟩) nl cv, repV r] w fun e w' => e = .returned (.tuple #[]) ∧ w'.ownsRow B 115 5 (.slice (some ⟨g, 0, none⟩) ns.length cap) ns.length (rowCells (doRow r ns)) ∧ w.grownBy w' (some g) := by
  have hj1 : (j : Int) < (nl : Int) := by omega
  have hk1 : (k : Int) < (ns.length : Int) := by omega
  have l0 := cell_lt hv
  have l1 := (hr.lt g rfl).2
  have HD := doRow_one r k ns hkk hk (by omega) (by omega)
  have hst := rowCells_set' k 1 (.int .i64 r.n) (doNews r k ns[k]) hk (by omega) (doNews_2 r k ns[k] hop hkk) hr
  rw [← HD] at hst
  have HST : Hid _ := hst
  have hfr := hr.frozenAt
  obtain ⟨u0, d0⟩ : ∃ u, w.cell? ⟨g, k * 5 + 1, none⟩ = some u := ⟨_, row_cell hr k 1 hk (by omega)⟩
  unfold repV
  rw [hjk, hkk, hop]
  clear hr HD hst
  go_enter Tryz.func54, Tryz.ntmps54
  go_wp2
  go_end0
  exact ⟨rfl, HST.out.1.alloc _, HST.out.2.trans (World.grownBy_alloc _ _ _)⟩

set_option maxRecDepth 100000 in
set_option maxHeartbeats 2000000 in
theorem l2do_4 (B gv cv g cap : Nat) (nl : Nat) (ns : List NewsD) (r : RepD) (j k : Nat) (w : World) (hj : j < nl) (hjk : r.trip = (j : Int)) (hk : k < ns.length) (hkk : r.call = (k : Int)) (hop : r.op = 4)
    (hv : w.cell? ⟨gv, j, none⟩ = some (.slice (some ⟨g, 0, none⟩) ns.length cap)) (hr : w.ownsRow B 115 5 (.slice (some ⟨g, 0, none⟩) ns.length cap) ns.length (rowCells ns)) :
    Calls Tryz.prog 54 #[.slice (some ⟨gv, 0, none⟩) nl cv, repV r] w fun e w' => e = .returned (.tuple #[]) ∧ w'.ownsRow B 115 5 (.slice (some ⟨g, 0, none⟩) ns.length cap) ns.length (rowCells (doRow r ns)) ∧ w.grownBy w' (some g) := by
  have hj1 : (j : Int) < (nl : Int) := by omega
  have hk1 : (k : Int) < (ns.length : Int) := by omega
  have l0 := cell_lt hv
  have l1 := (hr.lt g rfl).2
  have HD := doRow_one r k ns hkk hk (by omega) (by omega)
  have hst := rowCells_set' k 3 (.bool true) (doNews r k ns[k]) hk (by omega) (doNews_4 r k ns[k] hop hkk) hr
  rw [← HD] at hst
  have HST : Hid _ := hst
  have hfr := hr.frozenAt
  obtain ⟨u0, d0⟩ : ∃ u, w.cell? ⟨g, k * 5 + 3, none⟩ = some u := ⟨_, row_cell hr k 3 hk (by omega)⟩
  unfold repV
  rw [hjk, hkk, hop]
  clear hr HD hst
  go_enter Tryz.func54, Tryz.ntmps54
  go_wp2
  go_end0
  exact ⟨rfl, HST.out.1.alloc _, HST.out.2.trans (World.grownBy_alloc _ _ _)⟩

set_option maxRecDepth 100000 in
set_option maxHeartbeats 2000000 in
theorem l2do_5 (B gv cv g cap : Nat) (nl : Nat) (ns : List NewsD) (r : RepD) (j k : Nat) (w : World) (hj : j < nl) (hjk : r.trip = (j : Int)) (hk : k < ns.length) (hkk : r.call = (k : Int)) (hop : r.op = 5)
    (hv : w.cell? ⟨gv, j, none⟩ = some (.slice (some ⟨g, 0, none⟩) ns.length cap)) (hr : w.ownsRow B 115 5 (.slice (some ⟨g, 0, none⟩) ns.length cap) ns.length (rowCells ns)) :
    Calls Tryz.prog 54 #[.slice (some ⟨gv, 0, none⟩) nl cv, repV r] w fun e w' => e = .returned (.tuple #[]) ∧ w'.ownsRow B 115 5 (.slice (some ⟨g, 0, none⟩) ns.length cap) ns.length (rowCells (doRow r ns)) ∧ w.grownBy w' (some g) := by
  have hj1 : (j : Int) < (nl : Int) := by omega
  have hk1 : (k : Int) < (ns.length : Int) := by omega
  have l0 := cell_lt hv
  have l1 := (hr.lt g rfl).2
  have HD := doRow_one r k ns hkk hk (by omega) (by omega)
  have hst1 := rowCells_set' k 3 (.bool false) { ns[k] with here := false } hk (by omega) rfl hr
  have hl1 : (ns.set k { ns[k] with here := false }).length = ns.length := List.length_set
  have hr1 := hst1.1
  rw [← hl1] at hr1
  have hst2 := rowCells_set' k 4 (.bool true) (doNews r k ns[k]) (by rw [hl1]; exact hk) (by omega) (by rw [List.getElem_set_self]; exact doNews_5 r k ns[k] hop hkk) hr1
  rw [List.set_set, ← HD, hl1] at hst2
  have HST1 : Hid _ := hst1
  have HST2 : Hid _ := hst2
  have hfr := hr.frozenAt
  obtain ⟨u0, d0⟩ : ∃ u, w.cell? ⟨g, k * 5 + 3, none⟩ = some u := ⟨_, row_cell hr k 3 hk (by omega)⟩
  obtain ⟨u1, d1⟩ : ∃ u, w.cell? ⟨g, k * 5 + 4, none⟩ = some u := ⟨_, row_cell hr k 4 hk (by omega)⟩
  unfold repV
  rw [hjk, hkk, hop]
  clear hr HD hst1 hst2 hr1 hl1
  go_enter Tryz.func54, Tryz.ntmps54
  go_wp2
  go_end0
  exact ⟨rfl, HST2.out.1.alloc _, (HST1.out.2.trans HST2.out.2).trans (World.grownBy_alloc _ _ _)⟩

theorem l2do_any (B : Nat) (v : Value) (nss : List (List NewsD)) (vs : List Value) (r : RepD) (j k : Nat) (w : World) (hj : j < nss.length) (hjk : r.trip = (j : Int)) (hk : k < nss[j].length) (hkk : r.call = (k : Int)) (hm2 : nss[j].length ≤ 1048576) (hop : 1 ≤ r.op ∧ r.op ≤ 5) (hB : B ≤ w.heap.size) (hat : NewsOwnAt B w v nss vs) :
    Calls Tryz.prog 54 #[v, repV r] w fun e w' => e = .returned (.tuple #[]) ∧ NewsOwnAt B w' v (nss.set j (doRow r nss[j])) vs ∧ Below B w w' := by
  have hj' : j < vs.length := by rw [hat.len]; exact hj
  have hr := hat.rows j hj hj'
  obtain ⟨gv, cv, rfl, _, _⟩ := hat.outer.form (by omega)
  obtain ⟨g, cap, e, hg1, _⟩ := hr.form (by omega)
  have hv : w.cell? ⟨gv, j, none⟩ = some vs[j] := by rw [hat.outer.cellAt j (by omega), List.getElem?_eq_getElem hj']
  have fin : ∀ w', w'.ownsRow B 115 5 (.slice (some ⟨g, 0, none⟩) nss[j].length cap) nss[j].length (rowCells (doRow r nss[j])) → w.grownBy w' (some g) → NewsOwnAt B w' (.slice (some ⟨gv, 0, none⟩) nss.length cv) (nss.set j (doRow r nss[j])) vs ∧ Below B w w' := fun w' h1 h2 => by
    refine ⟨hat.stored j hj hj' (by rw [e, doRow_length]; exact h1) (by rw [e]; exact h2), Below.grown (Below.refl _ _) h2 hB fun x hx => ?_⟩
    cases hx
    exact hg1
  rw [e] at hv hr
  rcases (by omega : r.op = 1 ∨ r.op = 2 ∨ r.op = 3 ∨ r.op = 4 ∨ r.op = 5) with h | h | h | h | h
  · exact (l2do_1 B gv cv g cap _ _ r j k w hj hjk hk hkk hm2 h hv hr).mono fun _ w' ⟨e, h1, h2⟩ => ⟨e, fin w' h1 h2⟩
  · exact (l2do_2 B gv cv g cap _ _ r j k w hj hjk hk hkk h hv hr).mono fun _ w' ⟨e, h1, h2⟩ => ⟨e, fin w' h1 h2⟩
  · exact (l2do_3 B gv cv g cap _ _ r j k w hj hjk hk hkk hm2 h hv hr).mono fun _ w' ⟨e, h1, h2⟩ => ⟨e, fin w' h1 h2⟩
  · exact (l2do_4 B gv cv g cap _ _ r j k w hj hjk hk hkk h hv hr).mono fun _ w' ⟨e, h1, h2⟩ => ⟨e, fin w' h1 h2⟩
  · exact (l2do_5 B gv cv g cap _ _ r j k w hj hjk hk hkk h hv hr).mono fun _ w' ⟨e, h1, h2⟩ => ⟨e, fin w' h1 h2⟩

end Go.Proofs.YtjioingdpfgadabGreatDoor
namespace Go.Proofs.YtjioingdpfgadabGreatDoor
open Go Go.RowKit Go.Deep

/-- A report says something that can still be. -/
def countsN (nss : List (List NewsD)) (r : RepD) : Bool :=
  match nss[r.trip.toNat]? with
  | none => false
  | some ns =>
    match ns[r.call.toNat]? with
    | none => false
    | some x => countsX ns r.call.toNat x r
theorem countsN_at (nss : List (List NewsD)) (r : RepD) (j k : Nat) (hj : j < nss.length) (hjk : r.trip = (j : Int)) (hk : k < nss[j].length) (hkk : r.call = (k : Int)) : countsN nss r = countsX nss[j] k nss[j][k] r := by
  unfold countsN; simp [hjk, hkk, List.getElem?_eq_getElem hj, List.getElem?_eq_getElem hk]
/-- What is known behind a report. -/
def stepNews (tick : Int) (nss : List (List NewsD)) (r : RepD) : List (List NewsD) :=
  if r.tick ≤ tick ∧ countsN nss r = true then nss.modify r.trip.toNat (doRow r) else nss
theorem stepNews_yes (tick : Int) (nss : List (List NewsD)) (r : RepD) (j : Nat) (hj : j < nss.length) (hjk : r.trip = (j : Int)) (h1 : r.tick ≤ tick) (h2 : countsN nss r = true) : stepNews tick nss r = nss.set j (doRow r nss[j]) := by
  unfold stepNews; rw [if_pos ⟨h1, h2⟩, hjk]
  simp [List.modify_eq_set, List.getElem?_eq_getElem hj]
theorem stepNews_no (tick : Int) (nss : List (List NewsD)) (r : RepD) (h : ¬ (r.tick ≤ tick ∧ countsN nss r = true)) : stepNews tick nss r = nss := by unfold stepNews; rw [if_neg h]
def newsTo (bk : BookD) (tick : Int) (rs : List RepD) : List (List NewsD) := rs.foldl (stepNews tick) (startNews bk)
theorem newsTo_take (bk : BookD) (tick : Int) (rs : List RepD) (k : Nat) (h : k < rs.length) : newsTo bk tick (rs.take (k + 1)) = stepNews tick (newsTo bk tick (rs.take k)) rs[k] := by
  unfold newsTo; rw [take_snoc rs k h, List.foldl_append]; rfl
/-- Known's answer. -/
def knownD (bk : BookD) (rs : List RepD) (tick : Int) : List (List NewsD) := if reportsB bk rs then newsTo bk tick rs else []
/-- A row for each trip, a place for each call. -/
def ShapeOf (bk : BookD) (nss : List (List NewsD)) : Prop := nss.map (·.length) = bk.trips.map (fun t => t.calls.length)
theorem ShapeOf.length {bk : BookD} {nss : List (List NewsD)} (h : ShapeOf bk nss) : nss.length = bk.trips.length := by
  have := congrArg List.length h; simpa using this
theorem ShapeOf.at {bk : BookD} {nss : List (List NewsD)} (h : ShapeOf bk nss) (j : Nat) (hj : j < nss.length) : nss[j].length = (callsOf bk j).length := by
  have h2 : j < bk.trips.length := by rw [← h.length]; exact hj
  have e : (nss.map (·.length))[j]? = (bk.trips.map (fun t => t.calls.length))[j]? := by rw [h]
  rw [callsOf_at bk j h2]
  simpa [List.getElem?_eq_getElem hj, List.getElem?_eq_getElem h2] using e
theorem shape_start (bk : BookD) : ShapeOf bk (startNews bk) := by simp [ShapeOf, startNews, startRow, Function.comp_def]
theorem shape_step {bk : BookD} {nss : List (List NewsD)} (h : ShapeOf bk nss) (tick : Int) (r : RepD) : ShapeOf bk (stepNews tick nss r) := by
  unfold stepNews
  split
  · unfold ShapeOf at h ⊢
    rw [← h]
    apply List.ext_getElem?
    intro i
    simp only [List.getElem?_map, List.getElem?_modify]
    cases nss[i]? with
    | none => simp
    | some x => by_cases e : r.trip.toNat = i <;> simp [e, doRow_length]
  · exact h
theorem shape_to (bk : BookD) (tick : Int) (rs : List RepD) : ShapeOf bk (newsTo bk tick rs) := by
  unfold newsTo
  generalize hs : startNews bk = s
  have : ShapeOf bk s := by rw [← hs]; exact shape_start bk
  clear hs
  induction rs generalizing s with
  | nil => exact this
  | cons r rs ih => exact ih _ (shape_step this tick r)

set_option maxRecDepth 100000 in
set_option maxHeartbeats 2000000 in
theorem specKnown_any (v : Value) (bk : BookD) (ra : Option Addr) (rc : Nat) (rs : List RepD) (tick : Int) (w : World) (hn : bookSize bk ≤ 1048576) (hm : rs.length ≤ 1048576) (hat : BookAt w v bk) (hra : RepsAt w ra rs) :
    Calls Tryz.prog 30 #[v, .slice ra rs.length rc, .int .i64 tick] w fun e w' => ∃ v', e = .returned v' ∧ NewsOwn w.heap.size w' v' (knownD bk rs tick) ∧ Below w.heap.size w w' := by
  obtain ⟨sa, sc, ta, tc, rfl, hsa, hta⟩ := hat
  have HBK : Hid (BookAt w (.agg #[.slice sa bk.sts.length sc, .slice ta bk.trips.length tc]) bk) := ⟨sa, sc, ta, tc, rfl, hsa, hta⟩
  have hb0 := bx_below w (.cells #[.slice sa bk.sts.length sc, .slice ta bk.trips.length tc] 33)
  clear hsa hta
  cases hrep : reportsB bk rs
  · have HK : Hid (knownD bk rs tick = []) := by unfold Hid knownD; rw [hrep]; rfl
    go_enter Tryz.func30, Tryz.ntmps30
    go_wp2_with fail
    refine (l2reports_any _ bk _ _ rs _ hn hm (by exact HBK.out.keep hb0) (by exact hra.keep hb0)).mono ?_
    rintro e w1 ⟨rfl, hb1⟩
    rw [hrep]
    go_wp2_with fail
    go_ret
    refine ⟨_, rfl, ?_, hb0.trans (hb1.mono (by simp))⟩
    rw [HK.out]
    exact ⟨[], World.ownsRow_nil _ _ _ _, rfl, fun i h => by simp at h, fun i j hi => by simp at hi⟩
  · have HK : Hid (knownD bk rs tick = newsTo bk tick rs) := by unfold Hid knownD; rw [hrep]; rfl
    obtain ⟨_, _, hall⟩ := reportsB_inv hrep
    have HALL : Hid (∀ k (hk : k < rs.length), reportB bk rs[k] = true ∧ prevTick rs k ≤ rs[k].tick) := hall
    have HRA : Hid (RepsAt w ra rs) := hra
    have n3 : ∀ i (h : i < bk.trips.length), bk.trips[i].calls.length ≤ 1048576 := by
      intro i h
      have := sumTrips_get bk.trips i h
      unfold bookSize tripsSize at hn; unfold tripSize at this; omega
    have HN3 : Hid (∀ i (h : i < bk.trips.length), bk.trips[i].calls.length ≤ 1048576) := n3
    clear hall n3
    go_enter Tryz.func30, Tryz.ntmps30
    go_wp2_with fail
    refine (l2reports_any _ bk _ _ rs _ hn hm (by exact HBK.out.keep hb0) (by exact hra.keep hb0)).mono ?_
    rintro e w1 ⟨rfl, hb1⟩
    rw [hrep]
    have hB1 : Below w.heap.size w w1 := hb0.trans (hb1.mono (by simp))
    have z1 := hb1.size
    simp at z1
    have q0 : w1.cell? ⟨w.heap.size, 0, none⟩ = some (.slice sa bk.sts.length sc) := cell_keep hb1 (by simp [go_sem])
    have q1 : w1.cell? ⟨w.heap.size, 1, none⟩ = some (.slice ta bk.trips.length tc) := cell_keep hb1 (by simp [go_sem])
    clear hra hrep
    go_wp2_with fail
    refine (l2news_any _ bk _ hn (by exact HBK.out.keep hB1)).mono ?_
    rintro e w2 ⟨nv, rfl, ⟨vs, hvs⟩, hb2⟩
    have hB2 : Below w.heap.size w w2 := hB1.trans (hb2.mono (by omega))
    have z2 := hb2.size
    have HV : Hid (NewsOwnAt w1.heap.size w2 nv (startNews bk) vs) := hvs
    clear hvs q0 q1 hb1 hb2 hB1
    go_wp2_with fail
    have hz0 : w.heap.size ≤ w1.heap.size := by omega
    go_loopw [18] (fun i wr => ∃ k : Nat, k ≤ rs.length ∧ i = .int .i64 k ∧ Hid (NewsOwnAt w1.heap.size wr nv (newsTo bk tick (rs.take k)) vs) ∧ Below w.heap.size w wr ∧ w1.heap.size ≤ wr.heap.size) (fun i _ => rs.length - (intOf i).toNat)
    case atStart => exact ⟨0, Nat.zero_le _, rfl, HV, hB2, z2⟩
    case round =>
      obtain ⟨k, hk, rfl, HNk, hB, hz⟩ := hrel
      clear HV hB2 z2 z1 hb0
      by_cases hlt : k < rs.length
      · obtain ⟨b, o, rfl, c0, c1, c2, c3, c4⟩ := HRA.out.keep hB k hlt
        have hrp := (HALL.out k hlt).1
        have HT := newsTo_take bk tick rs k hlt
        have hsh := shape_to bk tick (rs.take k)
        generalize rs[k] = r at *
        generalize newsTo bk tick (rs.take k) = nss at *
        obtain ⟨_, _, hop, ⟨ht0, ht1⟩, hc0, hc1⟩ := reportB_head hrp
        obtain ⟨j, hj⟩ := Int.eq_ofNat_of_zero_le ht0
        obtain ⟨m, hmm⟩ := Int.eq_ofNat_of_zero_le hc0
        have hjl : j < nss.length := by rw [hsh.length]; omega
        have hml : m < nss[j].length := by rw [hsh.at j hjl, ← hj]; omega
        have hm2 : nss[j].length ≤ 1048576 := by
          have hj2 : j < bk.trips.length := by omega
          rw [hsh.at j hjl, callsOf_at bk j hj2]; exact HN3.out j hj2
        have hY := stepNews_yes tick nss r j hjl hj
        have hN := stepNews_no tick nss r
        have hC := countsN_at nss r j m hjl hj hml hmm
        have H1 : Hid (repV r = .agg #[.int .i64 r.tick, .int .i64 r.op, .int .i64 r.trip, .int .i64 r.call, .int .i64 r.n]) := rfl
        obtain ⟨na, nc, rfl, hss⟩ := HNk.out.at
        have HSS : Hid (NewsSSAt wr na nss) := hss
        have hba : Below wr.heap.size wr (wr.alloc (.cells #[.int .i64 r.tick, .int .i64 r.op, .int .i64 r.trip, .int .i64 r.call, .int .i64 r.n] 64)) := (Below.refl _ _).alloc (Nat.le_refl _) _
        have HZ : Hid _ := hsh
        have HOP : Hid (1 ≤ r.op ∧ r.op ≤ 5) := hop
        have HJ : Hid (r.trip = (j : Int)) := hj
        have HM : Hid (r.call = (m : Int)) := hmm
        clear hss hsh hrp ht0 ht1 hc0 hc1 hop hj hmm
        by_cases htk : r.tick ≤ tick
        · cases hcn : countsN nss r
          · have HE : Hid (newsTo bk tick (rs.take (k + 1)) = nss) := by unfold Hid; rw [HT, hN (by rw [hcn]; simp)]
            rw [hcn] at hC
            have HC : Hid (false = countsX nss[j] m nss[j][m] r) := hC
            clear HT hY hN hC hcn
            go_wp2_with fail
            rw [← H1.out]
            refine (l2counts_any _ _ nss r j m _ hjl HJ.out hml HM.out hm2 (by exact HSS.out.keep hba)).mono ?_
            rintro e w3 ⟨rfl, hb3⟩
            rw [← HC.out]
            have hb3' := hba.trans (hb3.mono (by simp))
            go_wp2_with fail
            go_roundw
            case rel => exact ⟨k + 1, by omega, by go_num, by rw [HE.out]; exact HNk.out.below hb3', hB.trans (hb3'.mono hB.size), by have := hb3'.size; omega⟩
            case measure => simp [intOf]; omega
          · have HE : Hid (newsTo bk tick (rs.take (k + 1)) = nss.set j (doRow r nss[j])) := by unfold Hid; rw [HT, hY htk hcn]
            rw [hcn] at hC
            have HC : Hid (true = countsX nss[j] m nss[j][m] r) := hC
            clear HT hY hN hC hcn
            go_wp2_with fail
            rw [← H1.out]
            refine (l2counts_any _ _ nss r j m _ hjl HJ.out hml HM.out hm2 (by exact HSS.out.keep hba)).mono ?_
            rintro e w3 ⟨rfl, hb3⟩
            rw [← HC.out]
            have x0 : w3.cell? ⟨wr.heap.size, 0, none⟩ = some (.int .i64 r.tick) := cell_keep hb3 (by simp [go_sem])
            have x1 : w3.cell? ⟨wr.heap.size, 1, none⟩ = some (.int .i64 r.op) := cell_keep hb3 (by simp [go_sem])
            have x2 : w3.cell? ⟨wr.heap.size, 2, none⟩ = some (.int .i64 r.trip) := cell_keep hb3 (by simp [go_sem])
            have x3 : w3.cell? ⟨wr.heap.size, 3, none⟩ = some (.int .i64 r.call) := cell_keep hb3 (by simp [go_sem])
            have x4 : w3.cell? ⟨wr.heap.size, 4, none⟩ = some (.int .i64 r.n) := cell_keep hb3 (by simp [go_sem])
            have hb3' := hba.trans (hb3.mono (by simp))
            have z3 := hb3'.size
            have HN3' : Hid (NewsOwnAt w1.heap.size w3 (.slice na nss.length nc) nss vs) := HNk.out.below hb3'
            clear hb3
            go_wp2_with fail
            rw [← H1.out]
            refine (l2do_any w1.heap.size _ nss vs r j m _ hjl HJ.out hml HM.out hm2 HOP.out (by omega) HN3'.out).mono ?_
            rintro e w4 ⟨rfl, hown4, hb4⟩
            have HN4 : Hid (NewsOwnAt w1.heap.size w4 (.slice na nss.length nc) (nss.set j (doRow r nss[j])) vs) := hown4
            clear hown4
            go_wp2_with fail
            go_roundw
            case rel => exact ⟨k + 1, by omega, by go_num, by rw [HE.out]; exact HN4, (hB.trans (hb3'.mono hB.size)).trans (hb4.mono hz0), by have := hb4.size; omega⟩
            case measure => simp [intOf]; omega
        · have HE : Hid (newsTo bk tick (rs.take (k + 1)) = nss) := by unfold Hid; rw [HT, hN (by simp [htk])]
          clear HT hY hN hC
          go_wp2_with fail
          go_roundw
          case rel => exact ⟨k + 1, by omega, by go_num, by rw [HE.out]; exact HNk.out.below hba, hB.alloc hB.size _, by simp; omega⟩
          case measure => simp [intOf]; omega
      · have hk' : k = rs.length := by omega
        subst hk'
        rw [List.take_length] at HNk
        have HF : Hid (NewsOwn w.heap.size wr nv (knownD bk rs tick)) := by
          unfold Hid
          rw [HK.out]
          exact ⟨vs, owns_mono HNk.out.outer hz0, HNk.out.len, fun i h1 h2 => owns_mono (HNk.out.rows i h1 h2) hz0, HNk.out.apart⟩
        go_wp2_with fail
        go_ret
        exact ⟨_, rfl, HF.out, hB⟩

end Go.Proofs.YtjioingdpfgadabGreatDoor
