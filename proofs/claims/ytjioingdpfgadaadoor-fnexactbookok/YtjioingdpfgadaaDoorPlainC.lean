import Derived.Test.YtjioingdpfgadaaDoorPlainB
namespace Go.Proofs.YtjioingdpfgadaaDoor
open Go Go.RowKit

/-- A call is right: its station, its times against when the one before goes, its track. -/
def callB (n gone : Int) (c : CallD) : Bool := decide (0 ≤ c.st ∧ c.st < n ∧ gone ≤ c.co ∧ c.co ≤ c.go ∧ c.go ≤ 1000000 ∧ 1 ≤ c.tr ∧ c.tr ≤ 20)
theorem callB_yes {n gone : Int} {c : CallD} (h : callB n gone c = true) : 0 ≤ c.st ∧ c.st < n ∧ gone ≤ c.co ∧ c.co ≤ c.go ∧ c.go ≤ 1000000 ∧ 1 ≤ c.tr ∧ c.tr ≤ 20 := of_decide_eq_true h
theorem callB_no {n gone : Int} {c : CallD} (h : callB n gone c = false) : ¬ (0 ≤ c.st ∧ c.st < n ∧ gone ≤ c.co ∧ c.co ≤ c.go ∧ c.go ≤ 1000000 ∧ 1 ≤ c.tr ∧ c.tr ≤ 20) := of_decide_eq_false h
/-- When call k's predecessor goes; 0 ahead of the first. -/
def prevGo (cs : List CallD) : Nat → Int
  | 0 => 0
  | k + 1 => (cs[k]?.map (·.go)).getD 0
theorem prevGo_succ (cs : List CallD) (k : Nat) (h : k < cs.length) : prevGo cs (k + 1) = cs[k].go := by
  simp [prevGo, List.getElem?_eq_getElem h]
def callAtB (n : Int) (cs : List CallD) (k : Nat) : Bool :=
  match cs[k]? with
  | none => true
  | some c => callB n (prevGo cs k) c
theorem callAtB_at (n : Int) (cs : List CallD) (k : Nat) (h : k < cs.length) : callAtB n cs k = callB n (prevGo cs k) cs[k] := by
  unfold callAtB; rw [List.getElem?_eq_getElem h]
def callsB (n : Int) (cs : List CallD) : Bool := (List.range cs.length).all (callAtB n cs)
theorem callsB_yes {n : Int} {cs : List CallD} (h : ∀ k, k < cs.length → callAtB n cs k = true) : callsB n cs = true := by
  unfold callsB; rw [List.all_eq_true]; intro k hk; exact h k (List.mem_range.1 hk)
theorem callsB_no {n : Int} {cs : List CallD} {k : Nat} (hk : k < cs.length) (h : callAtB n cs k = false) : callsB n cs = false := by
  unfold callsB; rw [List.all_eq_false]; exact ⟨k, List.mem_range.2 hk, by simp [h]⟩
def stationsOf (cs : List CallD) : List Int := cs.map (·.st)
def dupB (cs : List CallD) : Bool := !decide ((stationsOf cs).Nodup)
def tripB (n : Int) (t : TripD) : Bool := nameB t.name && decide (2 ≤ t.calls.length ∧ t.calls.length ≤ 20) && callsB n t.calls && !dupB t.calls
theorem tripB_name {n : Int} {t : TripD} (h : nameB t.name = false) : tripB n t = false := by simp [tripB, h]
theorem tripB_count {n : Int} {t : TripD} (h : ¬ (2 ≤ t.calls.length ∧ t.calls.length ≤ 20)) : tripB n t = false := by simp only [tripB, decide_eq_false h, Bool.and_false, Bool.false_and]
theorem tripB_call {n : Int} {t : TripD} (h : callsB n t.calls = false) : tripB n t = false := by simp [tripB, h]
theorem tripB_dup {n : Int} {t : TripD} (h : dupB t.calls = true) : tripB n t = false := by simp [tripB, h]
theorem tripB_yes {n : Int} {t : TripD} (h1 : nameB t.name = true) (h2 : 2 ≤ t.calls.length ∧ t.calls.length ≤ 20) (h3 : callsB n t.calls = true) (h4 : dupB t.calls = false) : tripB n t = true := by
  simp only [tripB, h1, decide_eq_true h2, h3, h4]; rfl
theorem nodup_of_pairs {cs : List CallD} (h : ∀ i k (hi : i < cs.length) (hk : k < i), cs[k].st ≠ cs[i].st) : dupB cs = false := by
  have : (stationsOf cs).Nodup := by
    unfold stationsOf
    rw [List.nodup_iff_pairwise_ne, List.pairwise_iff_getElem]
    intro i j hi hj hij
    simp at hi hj ⊢
    exact h j i hj hij
  simp [dupB, this]
theorem dup_of_pair {cs : List CallD} {i k : Nat} (hi : i < cs.length) (hk : k < i) (h : cs[k].st = cs[i].st) : dupB cs = true := by
  have : ¬ (stationsOf cs).Nodup := by
    unfold stationsOf
    rw [List.nodup_iff_pairwise_ne, List.pairwise_iff_getElem]
    intro hp
    exact hp k i (by simp; omega) (by simpa using hi) hk (by simpa using h)
  simp [dupB, this]
def badTrip (n : Int) (ts : List TripD) (i : Nat) : Bool :=
  match ts[i]? with
  | none => false
  | some t => !tripB n t
theorem badTrip_at (n : Int) (ts : List TripD) (i : Nat) (h : i < ts.length) : badTrip n ts i = !tripB n ts[i] := by
  unfold badTrip; rw [List.getElem?_eq_getElem h]
def namesOf (ts : List TripD) : List ByteArray := ts.map (·.name)
/-- What is wrong with a book: a code and a place; 0, 0 when nothing is. -/
def fault4 (b : BookD) : Int × Int :=
  match firstIdx (badName (namesOf b.trips)) b.trips.length with
  | some i => (4, i)
  | none => (0, 0)
def fault3 (b : BookD) : Int × Int :=
  match firstIdx (badTrip b.sts.length b.trips) b.trips.length with
  | some i => (3, i)
  | none => fault4 b
def fault2 (b : BookD) : Int × Int :=
  match firstIdx (badName b.sts) b.sts.length with
  | some i => (2, i)
  | none => fault3 b
def faultD (b : BookD) : Int × Int := if 30 < b.sts.length ∨ 40 < b.trips.length then (1, 0) else fault2 b
theorem faultD_1 {b : BookD} (h : 30 < b.sts.length ∨ 40 < b.trips.length) : faultD b = (1, 0) := by unfold faultD; rw [if_pos h]
theorem faultD_2 {b : BookD} (h : ¬ (30 < b.sts.length ∨ 40 < b.trips.length)) : faultD b = fault2 b := by unfold faultD; rw [if_neg h]
theorem fault2_some {b : BookD} {i : Nat} (h : firstIdx (badName b.sts) b.sts.length = some i) : fault2 b = (2, (i : Int)) := by unfold fault2; rw [h]
theorem fault2_none {b : BookD} (h : firstIdx (badName b.sts) b.sts.length = none) : fault2 b = fault3 b := by unfold fault2; rw [h]
theorem fault3_some {b : BookD} {i : Nat} (h : firstIdx (badTrip b.sts.length b.trips) b.trips.length = some i) : fault3 b = (3, (i : Int)) := by unfold fault3; rw [h]
theorem fault3_none {b : BookD} (h : firstIdx (badTrip b.sts.length b.trips) b.trips.length = none) : fault3 b = fault4 b := by unfold fault3; rw [h]
theorem fault4_some {b : BookD} {i : Nat} (h : firstIdx (badName (namesOf b.trips)) b.trips.length = some i) : fault4 b = (4, (i : Int)) := by unfold fault4; rw [h]
theorem fault4_none {b : BookD} (h : firstIdx (badName (namesOf b.trips)) b.trips.length = none) : fault4 b = (0, 0) := by unfold fault4; rw [h]
theorem keys_contains {ss : List ByteArray} {i : Nat} (x : List UInt8) : (keysOf (ss.take i)).contains x = true ↔ ∃ m, ∃ (h : m < ss.length), m < i ∧ ss[m].data.toList = x := by
  unfold keysOf
  simp only [List.contains_iff_mem, List.mem_map]
  constructor
  · rintro ⟨s, hs, rfl⟩
    obtain ⟨m, hm, rfl⟩ := List.getElem_of_mem hs
    rw [List.length_take] at hm
    exact ⟨m, by omega, by omega, by rw [List.getElem_take]⟩
  · rintro ⟨m, h, hm, rfl⟩
    refine ⟨ss[m], ?_, rfl⟩
    have : (ss.take i)[m]'(by rw [List.length_take]; omega) = ss[m] := List.getElem_take
    rw [← this]; exact List.getElem_mem _
theorem badName_no {ss : List ByteArray} {i : Nat} (h : i < ss.length) (hn : nameB ss[i] = false) : badName ss i = true := by
  rw [badName_at ss i h, hn]; rfl
theorem badName_dup {ss : List ByteArray} {i m : Nat} (h : i < ss.length) (hm : m < i) (he : ss[m].data.toList = ss[i].data.toList) : badName ss i = true := by
  rw [badName_at ss i h, (keys_contains _).2 ⟨m, by omega, hm, he⟩]; simp
theorem badName_ok {ss : List ByteArray} {i : Nat} (h : i < ss.length) (hn : nameB ss[i] = true) (hd : ∀ m (hm : m < i), ss[m].data.toList ≠ ss[i].data.toList) : badName ss i = false := by
  rw [badName_at ss i h, hn]
  cases hc : (keysOf (ss.take i)).contains ss[i].data.toList
  · rfl
  · obtain ⟨m, hl, hm, he⟩ := (keys_contains _).1 hc
    exact absurd he (hd m hm)
theorem tripB_named {n : Int} {t : TripD} (h : tripB n t = true) : nameB t.name = true := by
  cases hn : nameB t.name
  · rw [tripB_name hn] at h; exact absurd h (by decide)
  · rfl

end Go.Proofs.YtjioingdpfgadaaDoor
