import Derived.Test.YtjioingdpfgadaaDoorDrwNM
import Derived.Laws.OwnMore
namespace Go.Proofs.YtjioingdpfgadaaDoor
open Go Go.RowKit Go.Deep

/-- A call's numbers are ones that a word holds. -/
def CallWf (c : CallD) : Prop := (Lit.int .i64 c.st).wf = true ∧ (Lit.int .i64 c.co).wf = true ∧ (Lit.int .i64 c.go).wf = true ∧ (Lit.int .i64 c.tr).wf = true
/-- What is so of a drawn book that may have been spoilt. -/
structure SpOk (bk : BookD) : Prop where
  sts2 : 2 ≤ bk.sts.length
  sts31 : bk.sts.length ≤ 31
  names : ∀ s ∈ bk.sts, s.size ≤ 1000
  trips5 : bk.trips.length ≤ 5
  each : ∀ t ∈ bk.trips, t.name.size ≤ 1000 ∧ t.calls.length ≤ 8 ∧ ∀ c ∈ t.calls, CallWf c
theorem SpOk.small {bk : BookD} (h : SpOk bk) : bookSize bk ≤ 1048576 := by
  have h1 := sumSizes_le bk.sts 1000 h.names
  have h2 := sumTrips_le bk.trips 1008 (fun t ht => by have := h.each t ht; unfold tripSize; omega)
  have h3 := h.sts31
  have h4 := h.trips5
  have h5 : sumSizes bk.sts ≤ 40000 := Nat.le_trans h1 (Nat.le_trans (Nat.mul_le_mul_right 1000 h3) (by decide))
  have h6 : sumTrips bk.trips ≤ 10000 := Nat.le_trans h2 (Nat.le_trans (Nat.mul_le_mul_right 1008 h4) (by decide))
  clear h1 h2
  unfold bookSize strsSize tripsSize
  omega
theorem SpOk.wf {bk : BookD} (h : SpOk bk) : ∀ t ∈ bk.trips, ∀ i (h : i < t.calls.length), (Lit.int .i64 t.calls[i].st).wf = true := fun t ht _ hi => ((h.each t ht).2.2 _ (List.getElem_mem hi)).1
theorem size_le_sum : ∀ (l : List ByteArray), ∀ x ∈ l, x.size ≤ sumSizes l
  | a :: l, x, h => by
    rcases List.mem_cons.1 h with rfl | h
    · simp only [sumSizes]; omega
    · have := size_le_sum l x h; simp only [sumSizes]; omega
theorem trip_le_sum : ∀ (l : List TripD), ∀ x ∈ l, tripSize x ≤ sumTrips l
  | a :: l, x, h => by
    rcases List.mem_cons.1 h with rfl | h
    · simp only [sumTrips]; omega
    · have := trip_le_sum l x h; simp only [sumTrips]; omega
theorem BookDrawn.spok {bk : BookD} (h : BookDrawn bk) : SpOk bk := by
  have hs := h.small
  have h6 := h.sts6
  unfold bookSize strsSize tripsSize at hs
  refine ⟨h.sts2, by omega, fun s hs' => ?_, h.trips5, fun t ht => ?_⟩
  · have := size_le_sum _ s hs'; omega
  · have h1 := trip_le_sum _ t ht
    obtain ⟨k, hk, rfl⟩ := List.getElem_of_mem ht
    have h2 := h.calls k hk
    refine ⟨by unfold tripSize at h1; omega, h2.len, fun c hc => ?_⟩
    obtain ⟨i, hi, rfl⟩ := List.getElem_of_mem hc
    have h3 := h2.calls i hi
    have hp : 0 ≤ prevGo bk.trips[k].calls i := by
      cases i with
      | zero => simp [prevGo]
      | succ j =>
        have h4 : j < bk.trips[k].calls.length := by omega
        have : ∀ j (hj : j < bk.trips[k].calls.length), 0 ≤ bk.trips[k].calls[j].go := fun j hj => (tripB_go ((faultD_zero h.fault).2 k hk) j hj).1
        have := this j h4
        simp only [prevGo, List.getElem?_eq_getElem h4, Option.map_some, Option.getD_some]
        exact this
    exact ⟨wf_small (by omega) (by omega), wf_small (by omega) (by omega), wf_small (by omega) (by omega), wf_small (by omega) (by omega)⟩

/-! Stores into the rows of a book of one's own. -/
/-- One cell of a row of calls is written. -/
def setAt : List CallD → Nat → Int → List CallD
  | [], _, _ => []
  | a :: l, 0, z => { a with st := z } :: l
  | a :: l, 1, z => { a with co := z } :: l
  | a :: l, 2, z => { a with go := z } :: l
  | a :: l, 3, z => { a with tr := z } :: l
  | a :: l, n + 4, z => a :: setAt l n z
theorem setAt_length : ∀ (cs : List CallD) (n : Nat) (z : Int), (setAt cs n z).length = cs.length
  | [], _, _ => rfl
  | a :: l, 0, z => rfl
  | a :: l, 1, z => rfl
  | a :: l, 2, z => rfl
  | a :: l, 3, z => rfl
  | a :: l, n + 4, z => by simp only [setAt, List.length_cons]; rw [setAt_length l n z]
theorem fours_set : ∀ (cs : List CallD) (n : Nat) (z : Int), (fours cs).set n (.int .i64 z) = fours (setAt cs n z)
  | [], _, _ => rfl
  | a :: l, 0, z => rfl
  | a :: l, 1, z => rfl
  | a :: l, 2, z => rfl
  | a :: l, 3, z => rfl
  | a :: l, n + 4, z => by
    have e : fours (a :: l) = .int .i64 a.st :: .int .i64 a.co :: .int .i64 a.go :: .int .i64 a.tr :: fours l := rfl
    have e2 : fours (a :: setAt l n z) = .int .i64 a.st :: .int .i64 a.co :: .int .i64 a.go :: .int .i64 a.tr :: fours (setAt l n z) := rfl
    rw [setAt, e, e2]
    simp only [List.set_cons_succ]
    rw [fours_set l n z]
theorem setAt_wf : ∀ (cs : List CallD) (n : Nat) (z : Int), (Lit.int .i64 z).wf = true → (∀ c ∈ cs, CallWf c) → ∀ c ∈ setAt cs n z, CallWf c
  | [], _, _, _, _ => fun c hc => by simp [setAt] at hc
  | a :: l, 0, z, hz, h => fun c hc => by
    rcases List.mem_cons.1 hc with rfl | hc
    · have := h a (by simp); exact ⟨hz, this.2.1, this.2.2.1, this.2.2.2⟩
    · exact h c (by simp [hc])
  | a :: l, 1, z, hz, h => fun c hc => by
    rcases List.mem_cons.1 hc with rfl | hc
    · have := h a (by simp); exact ⟨this.1, hz, this.2.2.1, this.2.2.2⟩
    · exact h c (by simp [hc])
  | a :: l, 2, z, hz, h => fun c hc => by
    rcases List.mem_cons.1 hc with rfl | hc
    · have := h a (by simp); exact ⟨this.1, this.2.1, hz, this.2.2.2⟩
    · exact h c (by simp [hc])
  | a :: l, 3, z, hz, h => fun c hc => by
    rcases List.mem_cons.1 hc with rfl | hc
    · have := h a (by simp); exact ⟨this.1, this.2.1, this.2.2.1, hz⟩
    · exact h c (by simp [hc])
  | a :: l, n + 4, z, hz, h => fun c hc => by
    rcases List.mem_cons.1 hc with rfl | hc
    · exact h _ (by simp)
    · exact setAt_wf l n z hz (fun c hc => h c (by simp [hc])) c hc
/-- All trips whose calls lie at block g, one cell of it written. -/
def tripsSet (g idx : Nat) (z : Int) : List TripD → List Value → List TripD
  | t :: ts, v :: vs => (if v.ownBlock = some g then { t with calls := setAt t.calls idx z } else t) :: tripsSet g idx z ts vs
  | ts, _ => ts
theorem tripsSet_length (g idx : Nat) (z : Int) : ∀ (ts : List TripD) (vs : List Value), (tripsSet g idx z ts vs).length = ts.length
  | [], _ => by simp [tripsSet]
  | t :: ts, [] => rfl
  | t :: ts, v :: vs => by simp only [tripsSet, List.length_cons]; rw [tripsSet_length g idx z ts vs]
theorem tripsSet_cells (g idx : Nat) (z : Int) : ∀ (ts : List TripD) (vs : List Value), tripCells (tripsSet g idx z ts vs) vs = tripCells ts vs
  | [], _ => by simp [tripsSet]
  | t :: ts, [] => rfl
  | t :: ts, v :: vs => by
    simp only [tripsSet, tripCells]
    rw [tripsSet_cells g idx z ts vs]
    split <;> rfl
theorem tripsSet_get (g idx : Nat) (z : Int) : ∀ (ts : List TripD) (vs : List Value) (i : Nat) (h : i < (tripsSet g idx z ts vs).length) (h1 : i < ts.length) (h2 : i < vs.length), (tripsSet g idx z ts vs)[i] = if vs[i].ownBlock = some g then { ts[i] with calls := setAt ts[i].calls idx z } else ts[i]
  | t :: ts, v :: vs, 0, _, _, _ => rfl
  | t :: ts, v :: vs, i + 1, h, h1, h2 => by
    simp only [tripsSet, List.getElem_cons_succ]
    exact tripsSet_get g idx z ts vs i _ (by simpa using h1) (by simpa using h2)
theorem tripsSet_each (g idx : Nat) (z : Int) (hz : (Lit.int .i64 z).wf = true) : ∀ (ts : List TripD) (vs : List Value), (∀ t ∈ ts, t.name.size ≤ 1000 ∧ t.calls.length ≤ 8 ∧ ∀ c ∈ t.calls, CallWf c) → ∀ t ∈ tripsSet g idx z ts vs, t.name.size ≤ 1000 ∧ t.calls.length ≤ 8 ∧ ∀ c ∈ t.calls, CallWf c
  | [], _, _ => fun t ht => by simp [tripsSet] at ht
  | t :: ts, [], h => h
  | t :: ts, v :: vs, h => fun x hx => by
    rcases List.mem_cons.1 hx with rfl | hx
    · have h0 := h t (by simp)
      split
      · exact ⟨h0.1, by simp only; rw [setAt_length]; exact h0.2.1, setAt_wf _ _ _ hz h0.2.2⟩
      · exact h0
    · exact tripsSet_each g idx z hz ts vs (fun t ht => h t (by simp [ht])) x hx
/-- A row's first part. -/
theorem owns_cut {w : World} {B s n m cap g : Nat} {e : TypeId} {xs : List Value} (h : w.ownsRow B e s (.slice (some ⟨g, 0, none⟩) n cap) n xs) (hm : m ≤ n) : w.ownsRow B e s (.slice (some ⟨g, 0, none⟩) m cap) m (xs.take (m * s)) := by
  have hms : m * s ≤ n * s := Nat.mul_le_mul_right s hm
  rcases h.2 with ⟨e, _⟩ | ⟨g', cap', cur, e, h1, h2, h3, h4, h5, h6⟩
  · simp at e
  · simp only [Value.slice.injEq, Option.some.injEq, Addr.mk.injEq] at e
    obtain ⟨⟨rfl, _⟩, _, rfl⟩ := e
    refine ⟨by rw [List.length_take, h.1]; omega, Or.inr ⟨g, cap, cur, rfl, h1, h2, by omega, h4, h5, ?_⟩⟩
    rw [← h6, List.take_take]
    congr 1; omega
theorem fours_take (cs : List CallD) (m : Nat) : (fours cs).take (m * 4) = fours (cs.take m) := by
  induction cs generalizing m with
  | nil => simp [fours]
  | cons a l ih =>
    cases m with
    | zero => simp [fours]
    | succ m =>
      have e : fours (a :: l) = .int .i64 a.st :: .int .i64 a.co :: .int .i64 a.go :: .int .i64 a.tr :: fours l := rfl
      have e2 : fours (a :: l.take m) = .int .i64 a.st :: .int .i64 a.co :: .int .i64 a.go :: .int .i64 a.tr :: fours (l.take m) := rfl
      have e3 : (m + 1) * 4 = m * 4 + 1 + 1 + 1 + 1 := by omega
      rw [List.take_succ_cons, e, e2, e3]
      simp only [List.take_succ_cons]
      rw [ih m]
theorem tripCells_name : ∀ (ts : List TripD) (vs : List Value) (i : Nat) (nm : ByteArray) (h : i < ts.length), (tripCells ts vs).set (i * 2) (.string nm) = tripCells (ts.set i { ts[i] with name := nm }) vs
  | [], _, _, _, h => by simp at h
  | t :: ts, [], 0, nm, _ => rfl
  | t :: ts, [], i + 1, nm, _ => rfl
  | t :: ts, v :: vs, 0, nm, _ => rfl
  | t :: ts, v :: vs, i + 1, nm, h => by
    have e : (i + 1) * 2 = i * 2 + 1 + 1 := by omega
    simp only [tripCells, e, List.set_cons_succ, List.getElem_cons_succ]
    rw [tripCells_name ts vs i nm (by simpa using h)]
theorem tripCells_calls : ∀ (ts : List TripD) (vs : List Value) (i : Nat) (v : Value) (cs : List CallD) (h : i < ts.length), vs.length = ts.length → (tripCells ts vs).set (i * 2 + 1) v = tripCells (ts.set i { ts[i] with calls := cs }) (vs.set i v)
  | [], _, _, _, _, h, _ => by simp at h
  | t :: ts, [], _, _, _, _, hl => by simp at hl
  | t :: ts, u :: vs, 0, v, cs, _, _ => rfl
  | t :: ts, u :: vs, i + 1, v, cs, h, hl => by
    have e : (i + 1) * 2 + 1 = i * 2 + 1 + 1 + 1 := by omega
    simp only [tripCells, e, List.set_cons_succ, List.getElem_cons_succ]
    rw [tripCells_calls ts vs i v cs (by simpa using h) (by simpa using hl)]
/-- A row of another type stays while block g is written. -/
theorem owns_other {w w' : World} {B B' : Nat} {e e' : TypeId} {s s' n n' g cap : Nat} {u : Value} {xs ys : List Value} (hr : w.ownsRow B' e s (.slice (some ⟨g, 0, none⟩) n cap) n xs) (hg : w.grownBy w' (some g)) (hne : e ≠ e') (hu : w.ownsRow B e' s' u n' ys) : w'.ownsRow B e' s' u n' ys := by
  refine hu.kept hg ?_
  cases hb : u.ownBlock with
  | none => exact Or.inl rfl
  | some q => exact Or.inr fun e2 => hne (owns_types hr hu rfl (by rw [hb]; exact e2))
/-- A book in rows of one's own whose rows are at hand. -/
structure BookRows (B : Nat) (w : World) (sv tv : Value) (vs : List Value) (bk : BookD) : Prop where
  strs : w.ownsRow B 9 1 sv bk.sts.length (bk.sts.map Value.string)
  trips : TripsOwn B w tv bk.trips vs
theorem BookRows.at {B : Nat} {w : World} {sv tv : Value} {vs : List Value} {bk : BookD} (h : BookRows B w sv tv vs bk) : BookAt w (.agg #[sv, tv]) bk := BookOwn.at ⟨sv, tv, vs, rfl, h.strs, h.trips⟩
theorem BookRows.keepC {B C : Nat} {w w' : World} {sv tv : Value} {vs : List Value} {bk : BookD} (h : BookRows B w sv tv vs bk) (hk : KeepC C w.heap.size w w') (hC : C < B) : BookRows B w' sv tv vs bk := ⟨owns_keepC h.strs hk hC, h.trips.keepC hk hC⟩
theorem BookRows.below {B : Nat} {w w' : World} {sv tv : Value} {vs : List Value} {bk : BookD} (h : BookRows B w sv tv vs bk) (hb : Below w.heap.size w w') : BookRows B w' sv tv vs bk := ⟨owns_below h.strs hb (owns_lt h.strs), h.trips.below hb⟩
/-- A station's name is written over. -/
theorem BookRows.station {B g cap i : Nat} {w : World} {tv : Value} {vs : List Value} {bk : BookD} {nm : ByteArray} (h : BookRows B w (.slice (some ⟨g, 0, none⟩) bk.sts.length cap) tv vs bk) (hok : SpOk bk) (hn : nm.size ≤ 1000) :
    ∃ bk', SpOk bk' ∧ bk'.sts.length = bk.sts.length ∧ bk'.trips.length = bk.trips.length ∧ BookRows B (w.setCell ⟨g, i, none⟩ (.string nm)) (.slice (some ⟨g, 0, none⟩) bk.sts.length cap) tv vs bk' := by
  have h1 := h.strs.stored i (.string nm)
  refine ⟨⟨bk.sts.set i nm, bk.trips⟩, ⟨by simpa using hok.sts2, by simpa using hok.sts31, fun s hs => ?_, hok.trips5, hok.each⟩, by simp, rfl, ?_, ?_⟩
  · rcases List.mem_or_eq_of_mem_set hs with hs | rfl
    · exact hok.names s hs
    · exact hn
  · have := h1.1
    rw [← List.map_set] at this
    simpa using this
  · exact ⟨owns_other h.strs h1.2 (by decide) h.trips.outer, h.trips.len, fun j a b => owns_other h.strs h1.2 (by decide) (h.trips.rows j a b)⟩
/-- A trip's name is written over. -/
theorem BookRows.tripName {B g cap i : Nat} {w : World} {sv : Value} {vs : List Value} {bk : BookD} {nm : ByteArray} (h : BookRows B w sv (.slice (some ⟨g, 0, none⟩) bk.trips.length cap) vs bk) (hok : SpOk bk) (hi : i < bk.trips.length) (hn : nm.size ≤ 1000) :
    ∃ bk', SpOk bk' ∧ bk'.sts.length = bk.sts.length ∧ bk'.trips.length = bk.trips.length ∧ BookRows B (w.setCell ⟨g, i * 2, none⟩ (.string nm)) sv (.slice (some ⟨g, 0, none⟩) bk.trips.length cap) vs bk' := by
  have h1 := h.trips.outer.stored (i * 2) (.string nm)
  refine ⟨⟨bk.sts, bk.trips.set i { bk.trips[i] with name := nm }⟩, ⟨hok.sts2, hok.sts31, hok.names, by simpa using hok.trips5, fun t ht => ?_⟩, rfl, by simp, owns_other h.trips.outer h1.2 (by decide) h.strs, ?_, by simpa using h.trips.len, fun j a b => ?_⟩
  · rcases List.mem_or_eq_of_mem_set ht with ht | rfl
    · exact hok.each t ht
    · have := hok.each _ (List.getElem_mem hi)
      exact ⟨hn, this.2⟩
  · have := h1.1
    rw [tripCells_name bk.trips vs i nm hi] at this
    simpa using this
  · have hj : j < bk.trips.length := by simpa using a
    have := owns_other h.trips.outer h1.2 (by decide) (h.trips.rows j hj b)
    have e : ((bk.trips.set i { bk.trips[i] with name := nm })[j]'(by simpa using hj)).calls = bk.trips[j].calls := by
      rw [List.getElem_set]
      split
      · rename_i e; subst e; rfl
      · rfl
    rw [e]; exact this
/-- A trip's calls are cut. -/
theorem BookRows.tripCut {B g cap i g' cap' : Nat} {w : World} {sv : Value} {vs : List Value} {bk : BookD} (h : BookRows B w sv (.slice (some ⟨g, 0, none⟩) bk.trips.length cap) vs bk) (hok : SpOk bk) (hi : i < bk.trips.length) (hi' : i < vs.length) (hv : vs[i] = .slice (some ⟨g', 0, none⟩) bk.trips[i].calls.length cap') (h1c : 1 ≤ bk.trips[i].calls.length) :
    ∃ bk' vs', SpOk bk' ∧ bk'.sts.length = bk.sts.length ∧ bk'.trips.length = bk.trips.length ∧ BookRows B (w.setCell ⟨g, i * 2 + 1, none⟩ (.slice (some ⟨g', 0, none⟩) 1 cap')) sv (.slice (some ⟨g, 0, none⟩) bk.trips.length cap) vs' bk' := by
  have h1 := h.trips.outer.stored (i * 2 + 1) (.slice (some ⟨g', 0, none⟩) 1 cap')
  have hri := h.trips.rows i hi hi'
  refine ⟨⟨bk.sts, bk.trips.set i { bk.trips[i] with calls := bk.trips[i].calls.take 1 }⟩, vs.set i (.slice (some ⟨g', 0, none⟩) 1 cap'), ⟨hok.sts2, hok.sts31, hok.names, by simpa using hok.trips5, fun t ht => ?_⟩, rfl, by simp, owns_other h.trips.outer h1.2 (by decide) h.strs, ?_, by simpa using h.trips.len, fun j a b => ?_⟩
  · rcases List.mem_or_eq_of_mem_set ht with ht | rfl
    · exact hok.each t ht
    · have := hok.each _ (List.getElem_mem hi)
      exact ⟨this.1, by simp only [List.length_take]; omega, fun c hc => this.2.2 c (List.mem_of_mem_take hc)⟩
  · have := h1.1
    rw [tripCells_calls bk.trips vs i _ (bk.trips[i].calls.take 1) hi h.trips.len] at this
    simpa using this
  · have hj : j < bk.trips.length := by simpa using a
    have hj' : j < vs.length := by simpa using b
    by_cases e : i = j
    · subst e
      simp only [List.getElem_set_self]
      have hl : (bk.trips[i].calls.take 1).length = 1 := by rw [List.length_take]; omega
      rw [hv] at hri
      have h2 := owns_cut (m := 1) hri h1c
      rw [fours_take] at h2
      rw [hl]
      exact owns_other h.trips.outer h1.2 (by decide) h2
    · simp only [List.getElem_set_ne e]
      exact owns_other h.trips.outer h1.2 (by decide) (h.trips.rows j hj hj')
/-- A number of a call is written over. -/
theorem BookRows.call {B g' n' cap' idx : Nat} {w : World} {sv tv : Value} {vs : List Value} {bk : BookD} {z : Int} {xs : List Value} (h : BookRows B w sv tv vs bk) (hok : SpOk bk) (hrow : w.ownsRow B 56 4 (.slice (some ⟨g', 0, none⟩) n' cap') n' xs) (hz : (Lit.int .i64 z).wf = true) :
    ∃ bk', SpOk bk' ∧ bk'.sts.length = bk.sts.length ∧ bk'.trips.length = bk.trips.length ∧ BookRows B (w.setCell ⟨g', idx, none⟩ (.int .i64 z)) sv tv vs bk' := by
  have h1 := hrow.stored idx (.int .i64 z)
  refine ⟨⟨bk.sts, tripsSet g' idx z bk.trips vs⟩, ⟨hok.sts2, hok.sts31, hok.names, by simp only [tripsSet_length]; exact hok.trips5, tripsSet_each g' idx z hz _ _ hok.each⟩, rfl, by simp only [tripsSet_length], owns_other hrow h1.2 (by decide) h.strs, ?_, by simp only [tripsSet_length]; exact h.trips.len, fun j a b => ?_⟩
  · have := owns_other hrow h1.2 (by decide) h.trips.outer
    simp only [tripsSet_length, tripsSet_cells]
    exact this
  · have hj : j < bk.trips.length := by simpa only [tripsSet_length] using a
    have hr := h.trips.rows j hj b
    simp only at a ⊢
    rw [tripsSet_get g' idx z bk.trips vs j a hj b]
    by_cases e : vs[j].ownBlock = some g'
    · rw [if_pos e]
      simp only
      rw [setAt_length, ← fours_set]
      rcases hr.2 with ⟨e2, _⟩ | ⟨g2, cap2, cur2, e2, _⟩
      · rw [e2] at e; simp [Value.ownBlock] at e
      · rw [e2] at e hr ⊢
        simp only [Value.ownBlock, Option.some.injEq] at e
        subst e
        exact (hr.stored idx (.int .i64 z)).1
    · rw [if_neg e]
      exact hr.kept h1.2 (Or.inr e)

end Go.Proofs.YtjioingdpfgadaaDoor
namespace Go.Proofs.YtjioingdpfgadaaDoor
open Go Go.RowKit Go.Deep

theorem owns_ne_box {w : World} {B s n cap g X : Nat} {e T : TypeId} {xs : List Value} {cs : Array Value} {fr : Nat × Nat} (h : w.ownsRow B e s (.slice (some ⟨g, 0, none⟩) n cap) n xs) (hb : w.heap[X]? = some (.cells cs T fr)) (hne : e ≠ T) : g ≠ X := by
  rcases h.2 with ⟨e1, _⟩ | ⟨g', cap', cur, e1, _, hh, _⟩
  · simp at e1
  · simp only [Value.slice.injEq, Option.some.injEq, Addr.mk.injEq] at e1
    obtain ⟨⟨rfl, _⟩, _⟩ := e1
    intro e
    subst e
    rw [hh] at hb
    simp at hb
    exact hne hb.2.1
theorem owns_setBox {w : World} {B s n Y i : Nat} {e T : TypeId} {xs : List Value} {v u : Value} {cs : Array Value} {fr : Nat × Nat} (h : w.ownsRow B e s v n xs) (hb : w.heap[Y]? = some (.cells cs T fr)) (hne : e ≠ T) : (w.setCell ⟨Y, i, none⟩ u).ownsRow B e s v n xs := by
  refine h.kept (set_grown w Y i u) ?_
  rcases h.2 with ⟨rfl, _⟩ | ⟨g', cap', cur, rfl, _⟩
  · exact Or.inl rfl
  · exact Or.inr (fun e2 => owns_ne_box h hb hne (by simpa [Value.ownBlock] using e2))
/-- A book that is being spoilt: its rows, its box, the result's box. -/
structure SpSt (B C X Y Z : Nat) (zc : Array Value) (w : World) (sv tv : Value) (vs : List Value) (bk : BookD) : Prop where
  rows : BookRows B w sv tv vs bk
  ok : SpOk bk
  box : w.heap[X]? = some (.cells #[sv, tv] 26 (0, 0))
  res : w.heap[Y]? = some (.cells #[.slice none 0 0, .slice none 0 0] 26 (0, 0))
  ne : X ≠ Y ∧ C < B ∧ B ≤ X ∧ B ≤ Y
  out : w.heap[Z]? = some (.cells zc 26 (0, 0))
  zne : Z ≠ C ∧ Z ≠ X ∧ Z ≠ Y
theorem SpSt.keepC {B C X Y Z : Nat} {zc : Array Value} {w w' : World} {sv tv : Value} {vs : List Value} {bk : BookD} (h : SpSt B C X Y Z zc w sv tv vs bk) (hk : KeepC C w.heap.size w w') : SpSt B C X Y Z zc w' sv tv vs bk := by
  obtain ⟨n1, n2, n3, n4⟩ := h.ne
  exact ⟨h.rows.keepC hk n2, h.ok, (hk.block X (Array.getElem?_eq_some_iff.1 h.box).1 (by omega)).trans h.box, (hk.block Y (Array.getElem?_eq_some_iff.1 h.res).1 (by omega)).trans h.res, h.ne, (hk.block Z (Array.getElem?_eq_some_iff.1 h.out).1 h.zne.1).trans h.out, h.zne⟩
theorem SpSt.below {B C X Y Z : Nat} {zc : Array Value} {w w' : World} {sv tv : Value} {vs : List Value} {bk : BookD} (h : SpSt B C X Y Z zc w sv tv vs bk) (hb : Below w.heap.size w w') : SpSt B C X Y Z zc w' sv tv vs bk := h.keepC (KeepC.below hb)
theorem SpSt.stored {B C X Y Z g idx s n cap : Nat} {zc : Array Value} {w : World} {sv tv u : Value} {vs vs' xs : List Value} {bk bk' : BookD} {e : TypeId} (h : SpSt B C X Y Z zc w sv tv vs bk) (hr : w.ownsRow B e s (.slice (some ⟨g, 0, none⟩) n cap) n xs) (hne : e ≠ 26) (hok : SpOk bk') (hrows : BookRows B (w.setCell ⟨g, idx, none⟩ u) sv tv vs' bk') : SpSt B C X Y Z zc (w.setCell ⟨g, idx, none⟩ u) sv tv vs' bk' :=
  ⟨hrows, hok, (Below.heap_setCell _ _ _ _ (fun e => owns_ne_box hr h.box hne e.symm)).trans h.box, (Below.heap_setCell _ _ _ _ (fun e => owns_ne_box hr h.res hne e.symm)).trans h.res, h.ne, (Below.heap_setCell _ _ _ _ (fun e => owns_ne_box hr h.out hne e.symm)).trans h.out, h.zne⟩
theorem spoil_fin {B C X Y Z cap m : Nat} {zc : Array Value} {w : World} {sv tv : Value} {vs : List Value} {bk : BookD} {ca : Option Addr} {bs : List Int} {s : Rd} (h : SpSt B C X Y Z zc w sv tv vs bk) (hc : CurAt w C ca bs cap s m) (hcode : ∀ b o, ca = some ⟨b, o, none⟩ → b < B) :
    ((w.setCell ⟨Y, 0, none⟩ sv).setCell ⟨Y, 1, none⟩ tv).heap[Y]? = some (.cells #[sv, tv] 26 (0, 0)) ∧ BookRows B ((w.setCell ⟨Y, 0, none⟩ sv).setCell ⟨Y, 1, none⟩ tv) sv tv vs bk ∧ CurAt ((w.setCell ⟨Y, 0, none⟩ sv).setCell ⟨Y, 1, none⟩ tv) C ca bs cap s m ∧ KeepC C B w ((w.setCell ⟨Y, 0, none⟩ sv).setCell ⟨Y, 1, none⟩ tv) ∧ ((w.setCell ⟨Y, 0, none⟩ sv).setCell ⟨Y, 1, none⟩ tv).heap[Z]? = some (.cells zc 26 (0, 0)) := by
  obtain ⟨n1, n2, n3, n4⟩ := h.ne
  have hb2 : (w.setCell ⟨Y, 0, none⟩ sv).heap[Y]? = some (.cells #[sv, .slice none 0 0] 26 (0, 0)) := by simp [World.setCell, Array.getElem?_modify, h.res]
  have go : ∀ {v : Value} {e : TypeId} {s n : Nat} {xs : List Value}, e ≠ 26 → w.ownsRow B e s v n xs → ((w.setCell ⟨Y, 0, none⟩ sv).setCell ⟨Y, 1, none⟩ tv).ownsRow B e s v n xs := fun hne hr => owns_setBox (owns_setBox hr h.res hne) hb2 hne
  refine ⟨by simp [World.setCell, Array.getElem?_modify, h.res], ⟨go (by decide) h.rows.strs, go (by decide) h.rows.trips.outer, h.rows.trips.len, fun i a b => go (by decide) (h.rows.trips.rows i a b)⟩, ?_, KeepC.set2 w Y _ _ n4, by rw [Below.heap_setCell _ _ _ _ h.zne.2.2, Below.heap_setCell _ _ _ _ h.zne.2.2]; exact h.out⟩
  exact (hc.other (set_grown w Y 0 _) (by omega) (fun b o e => by have := hcode b o e; omega)).other (set_grown _ Y 1 _) (by omega) (fun b o e => by have := hcode b o e; omega)
/-- What a store into a row of the book does to the reader and to what lies below. -/
theorem store_rest {B C g idx s n cap cap' m : Nat} {w : World} {u : Value} {xs : List Value} {e : TypeId} {ca : Option Addr} {bs : List Int} {s' : Rd} (hr : w.ownsRow B e s (.slice (some ⟨g, 0, none⟩) n cap) n xs) (hC : C < B) (hcode : ∀ b o, ca = some ⟨b, o, none⟩ → b < B) (hc : CurAt w C ca bs cap' s' m) : CurAt (w.setCell ⟨g, idx, none⟩ u) C ca bs cap' s' m ∧ KeepC C B w (w.setCell ⟨g, idx, none⟩ u) := by
  have hg := (hr.lt g rfl).1
  exact ⟨hc.other (set_grown w g idx u) (by omega) (fun b o e => by have := hcode b o e; omega), KeepC.set w ⟨g, idx, none⟩ u hg⟩
def SpTo (B C Z : Nat) (zc : Array Value) (ca : Option Addr) (bs : List Int) (cap m : Nat) (w : World) (e : Ending) (w' : World) : Prop := ∃ bk' s' sv' tv' vs', e = .returned (.agg #[sv', tv']) ∧ SpOk bk' ∧ BookRows B w' sv' tv' vs' bk' ∧ CurAt w' C ca bs cap s' (m + 1000) ∧ KeepC C B w w' ∧ w'.heap[Z]? = some (.cells zc 26 (0, 0))
theorem own_at {w : World} {B s n : Nat} {e : TypeId} {a : Option Addr} {c : Nat} {xs : List Value} (h : w.ownsRow B e s (.slice a n c) n xs) (h0 : 0 < n) : ∃ g, a = some ⟨g, 0, none⟩ ∧ B ≤ g ∧ g < w.heap.size := by
  rcases h.2 with ⟨e1, e0⟩ | ⟨g, cap, cur, e1, hB, hh, _⟩
  · omega
  · simp only [Value.slice.injEq] at e1
    exact ⟨g, e1.1, hB, (Array.getElem?_eq_some_iff.1 hh).1⟩
theorem own_cap {w : World} {B s n c : Nat} {e : TypeId} {a : Option Addr} {xs : List Value} (h : w.ownsRow B e s (.slice a n c) n xs) : n ≤ c := by
  rcases h.2 with ⟨e, e0⟩ | ⟨g, cap, cur, e, _, _, hc, _⟩
  · omega
  · simp only [Value.slice.injEq] at e
    obtain ⟨-, -, rfl⟩ := e
    exact hc
theorem SpSt.cells {B C X Y Z : Nat} {zc : Array Value} {w : World} {sv tv : Value} {vs : List Value} {bk : BookD} (h : SpSt B C X Y Z zc w sv tv vs bk) : (w.cell? ⟨X, 0, none⟩ = some sv ∧ w.cell? ⟨X, 1, none⟩ = some tv) ∧ (w.cell? ⟨Y, 0, none⟩ = some (.slice none 0 0) ∧ w.cell? ⟨Y, 1, none⟩ = some (.slice none 0 0)) ∧ w.frozen? ⟨Y, 0, none⟩ = false ∧ w.frozen? ⟨Y, 1, none⟩ = false ∧ X ≠ Y ∧ Y ≠ X ∧ X < w.heap.size ∧ Y < w.heap.size :=
  ⟨(two_cells h.box).1, (two_cells h.res).1, (two_cells h.res).2 0, (two_cells h.res).2 1, h.ne.1, fun e => h.ne.1 e.symm, (Array.getElem?_eq_some_iff.1 h.box).1, (Array.getElem?_eq_some_iff.1 h.res).1⟩
theorem lit_int {w : World} {g : Nat} {l : List Int} {T : TypeId} (h : w.heap[g]? = some (.cells (l.map (Value.int .i64)).toArray T (0, 0))) {j : Nat} (hj : j < l.length) (hall : ∀ x ∈ l, (Lit.int .i64 x).wf = true) : ∃ z, (Lit.int .i64 z).wf = true ∧ w.cell? ⟨g, j, none⟩ = some (.int .i64 z) :=
  ⟨l[j], hall _ (List.getElem_mem hj), by simp [World.cell?, h, List.getElem?_eq_getElem hj]⟩
theorem lit_str {w : World} {g : Nat} {l : List ByteArray} {T : TypeId} (h : w.heap[g]? = some (.cells (l.map Value.string).toArray T (0, 0))) {j : Nat} (hj : j < l.length) (hall : ∀ x ∈ l, x.size ≤ 1000) : ∃ z : ByteArray, z.size ≤ 1000 ∧ w.cell? ⟨g, j, none⟩ = some (.string z) :=
  ⟨l[j], hall _ (List.getElem_mem hj), by simp [World.cell?, h, List.getElem?_eq_getElem hj]⟩
theorem lit_at {w : World} {g : Nat} {l : List Int} {T : TypeId} {j : Nat} {z : Int} (h : w.heap[g]? = some (.cells (l.map (Value.int .i64)).toArray T (0, 0))) (hj : l[j]? = some z) : w.cell? ⟨g, j, none⟩ = some (.int .i64 z) := by
  simp [World.cell?, h, hj]
theorem lit_new (w : World) (T : TypeId) {l : List Int} {j : Nat} {z : Int} (hj : l[j]? = some z) : (w.alloc (.cells (l.map (Value.int .i64)).toArray T)).cell? ⟨w.heap.size, j, none⟩ = some (.int .i64 z) := lit_at (heap_alloc_last w _) hj
theorem wf_small2 {n : Int} (h0 : -10000000 ≤ n) (h1 : n ≤ 10000000) : (Lit.int .i64 n).wf = true := by
  rw [Lit.wf_int_iff]
  simp only [IntKind.min, IntKind.max, IntKind.signed, IntKind.bits, if_true]
  constructor <;> omega
theorem spoil_finA {B C X Y Z cap m : Nat} {zc : Array Value} {w : World} {sv tv : Value} {vs : List Value} {bk : BookD} {ca : Option Addr} {bs : List Int} {s : Rd} (o : Obj) (h : SpSt B C X Y Z zc w sv tv vs bk) (hc : CurAt w C ca bs cap s m) (hcode : ∀ b o, ca = some ⟨b, o, none⟩ → b < B) :
    (((w.setCell ⟨Y, 0, none⟩ sv).setCell ⟨Y, 1, none⟩ tv).alloc o).heap[Y]? = some (.cells #[sv, tv] 26 (0, 0)) ∧ BookRows B (((w.setCell ⟨Y, 0, none⟩ sv).setCell ⟨Y, 1, none⟩ tv).alloc o) sv tv vs bk ∧ CurAt (((w.setCell ⟨Y, 0, none⟩ sv).setCell ⟨Y, 1, none⟩ tv).alloc o) C ca bs cap s m ∧ KeepC C B w (((w.setCell ⟨Y, 0, none⟩ sv).setCell ⟨Y, 1, none⟩ tv).alloc o) ∧ (((w.setCell ⟨Y, 0, none⟩ sv).setCell ⟨Y, 1, none⟩ tv).alloc o).heap[Z]? = some (.cells zc 26 (0, 0)) := by
  obtain ⟨f1, f2, f3, f4, f5⟩ := spoil_fin h hc hcode
  have hb : Below ((w.setCell ⟨Y, 0, none⟩ sv).setCell ⟨Y, 1, none⟩ tv).heap.size ((w.setCell ⟨Y, 0, none⟩ sv).setCell ⟨Y, 1, none⟩ tv) (((w.setCell ⟨Y, 0, none⟩ sv).setCell ⟨Y, 1, none⟩ tv).alloc o) := (Below.refl _ _).alloc (Nat.le_refl _) o
  have hY := (Array.getElem?_eq_some_iff.1 f1).1
  have hB : B ≤ ((w.setCell ⟨Y, 0, none⟩ sv).setCell ⟨Y, 1, none⟩ tv).heap.size := by have := h.ne; omega
  exact ⟨(hb.block Y hY).trans f1, f2.below hb, f3.keep hb, f4.trans (KeepC.below (hb.mono hB)), (hb.block Z (Array.getElem?_eq_some_iff.1 f5).1).trans f5⟩
theorem wf_wrap (z : Int) : (Lit.int .i64 (IntKind.i64.wrap z)).wf = true := by
  rw [Lit.wf_int_iff]
  simp only [IntKind.min, IntKind.max, IntKind.signed, IntKind.bits, if_true, IntKind.wrap_i64]
  constructor <;> omega
theorem lit_atS {w : World} {g : Nat} {l : List ByteArray} {T : TypeId} {j : Nat} {z : ByteArray} (h : w.heap[g]? = some (.cells (l.map Value.string).toArray T (0, 0))) (hj : l[j]? = some z) : w.cell? ⟨g, j, none⟩ = some (.string z) := by
  simp [World.cell?, h, hj]
theorem lit_newS (w : World) (T : TypeId) {l : List ByteArray} {j : Nat} {z : ByteArray} (hj : l[j]? = some z) : (w.alloc (.cells (l.map Value.string).toArray T)).cell? ⟨w.heap.size, j, none⟩ = some (.string z) := lit_atS (heap_alloc_last w _) hj
/-- A station more. -/
theorem SpSt.grow {B C X Y Z n sc cap m : Nat} {zc : Array Value} {sa : Option Addr} {w w7 : World} {tv v' : Value} {vs : List Value} {ss : List ByteArray} {ts : List TripD} {nm : ByteArray} {o : Obj} {ca : Option Addr} {bs : List Int} {s : Rd} (h : SpSt B C X Y Z zc w (.slice sa n sc) tv vs ⟨ss, ts⟩) (hown : w7.ownsRow B 9 1 v' (ss.length + 1) (ss.map Value.string ++ [.string nm])) (hg : (w.alloc o).grownBy w7 (Value.slice sa n sc).ownBlock) (hnm : nm.size ≤ 1000) (hl : ss.length + 1 ≤ 31) (hc : CurAt w C ca bs cap s m) (hcode : ∀ b o, ca = some ⟨b, o, none⟩ → b < B) (hB : B ≤ w.heap.size) :
    w7.heap[X]? = some (.cells #[.slice sa n sc, tv] 26 (0, 0)) ∧ SpSt B C X Y Z zc (w7.setCell ⟨X, 0, none⟩ v') v' tv vs ⟨ss ++ [nm], ts⟩ ∧ CurAt (w7.setCell ⟨X, 0, none⟩ v') C ca bs cap s m ∧ KeepC C B w (w7.setCell ⟨X, 0, none⟩ v') := by
  obtain ⟨n1, n2, n3, n4⟩ := h.ne
  have hA : Below w.heap.size w (w.alloc o) := (Below.refl _ _).alloc (Nat.le_refl _) _
  have hD := h.below hA
  have ne : ∀ k cs, (w.alloc o).heap[k]? = some (.cells cs 26 (0, 0)) → some k ≠ (Value.slice sa n sc).ownBlock := fun k cs hk e => by
    rcases hD.rows.strs.2 with ⟨e1, _⟩ | ⟨g', cap', cur, e1, _⟩
    · rw [e1] at e; simp [Value.ownBlock] at e
    · have hr := hD.rows.strs
      rw [e1] at e hr
      simp only [Value.ownBlock, Option.some.injEq] at e
      exact owns_ne_box hr hk (by decide) e.symm
  have hX7 : w7.heap[X]? = some (.cells #[.slice sa n sc, tv] 26 (0, 0)) := (hg.block X (Array.getElem?_eq_some_iff.1 hD.box).1 (ne X _ hD.box)).trans hD.box
  have hY7 : w7.heap[Y]? = some (.cells #[.slice none 0 0, .slice none 0 0] 26 (0, 0)) := (hg.block Y (Array.getElem?_eq_some_iff.1 hD.res).1 (ne Y _ hD.res)).trans hD.res
  have hT7 := hD.rows.trips.apart hD.rows.strs hg (by decide) (by decide)
  have h1 : w7.ownsRow B 9 1 v' (ss ++ [nm]).length ((ss ++ [nm]).map Value.string) := by simpa using hown
  refine ⟨hX7, ⟨⟨owns_setBox h1 hX7 (by decide), owns_setBox hT7.outer hX7 (by decide), hT7.len, fun i a b => owns_setBox (hT7.rows i a b) hX7 (by decide)⟩, ⟨by have := h.ok.sts2; simp at this ⊢; omega, by simpa using hl, fun x hx => ?_, h.ok.trips5, h.ok.each⟩, ?_, ?_, h.ne, ?_, h.zne⟩, ?_, ?_⟩
  · rcases List.mem_append.1 hx with hx | hx
    · exact h.ok.names x hx
    · simp only [List.mem_singleton] at hx; subst hx; exact hnm
  · simp [World.setCell, Array.getElem?_modify, hX7]
  · exact (Below.heap_setCell _ _ _ _ (fun e => n1 e.symm)).trans hY7
  · exact (Below.heap_setCell _ _ _ _ h.zne.2.1).trans ((hg.block Z (Array.getElem?_eq_some_iff.1 hD.out).1 (ne Z _ hD.out)).trans hD.out)
  · exact ((hc.keep hA).grown hg hD.rows.strs n2 hcode).other (set_grown w7 X 0 _) (by omega) (fun b o e => by have := hcode b o e; omega)
  · exact ((KeepC.below (hA.mono hB)).trans (KeepC.own hD.rows.strs hg (Nat.le_refl _) (by simp; omega))).trans (KeepC.set _ _ _ n3)
/-- How many stations there may still be. -/
def stLeft (X : Nat) (w : World) : Nat := match w.cell? ⟨X, 0, none⟩ with
  | some (.slice _ n _) => 31 - n
  | _ => 0
theorem stLeft_eq {X n c : Nat} {w : World} {a : Option Addr} (h : w.cell? ⟨X, 0, none⟩ = some (.slice a n c)) : stLeft X w = 31 - n := by unfold stLeft; rw [h]
/-- A row's cell that is to be written. -/
theorem own_cell {w : World} {B s n cap g j : Nat} {e : TypeId} {xs : List Value} (h : w.ownsRow B e s (.slice (some ⟨g, 0, none⟩) n cap) n xs) (hj : j < n * s) : (∃ u, w.cell? ⟨g, j, none⟩ = some u) ∧ w.frozen? ⟨g, j, none⟩ = false :=
  ⟨⟨xs[j]'(by rw [h.1]; exact hj), by rw [h.cellAt j hj]; exact List.getElem?_eq_getElem _⟩, h.frozenAt j⟩

end Go.Proofs.YtjioingdpfgadaaDoor
