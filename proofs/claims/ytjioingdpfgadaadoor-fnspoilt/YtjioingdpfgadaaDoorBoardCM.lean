import Derived.Test.YtjioingdpfgadaaDoorBoardBM
import Derived.Test.YtjioingdpfgadaaDoorProg
import Derived.Laws.OwnMore
import Derived.Deep.AppendLies
import Derived.Test.YtjioingdpfgadaaDoorArrM
import Derived.Laws.IdiomCopy
import Derived.Test.YtjioingdpfgadaaDoorSpecBM
import Derived.Deep.RegionLaw
namespace Go.Proofs.YtjioingdpfgadaaDoor
open Go Go.RowKit Go.Deep

/-- The six cells of a row. -/
def sixOf (r : RowD) : List Value := [.int .i64 r.trip, .int .i64 r.to, .int .i64 r.due, .int .i64 r.expect, .int .i64 r.track, .int .i64 r.state]
def sixes (rs : List RowD) : List Value := rs.flatMap sixOf
theorem sixes_snoc (rs : List RowD) (r : RowD) : sixes (rs ++ [r]) = sixes rs ++ sixOf r := by simp [sixes]
theorem sixes_append (a b : List RowD) : sixes (a ++ b) = sixes a ++ sixes b := by simp [sixes]
theorem sixes_length (rs : List RowD) : (sixes rs).length = rs.length * 6 := by
  induction rs with
  | nil => rfl
  | cons a l ih => simp only [sixes, List.flatMap_cons, List.length_append, List.length_cons] at ih ⊢; rw [show (l.flatMap sixOf).length = l.length * 6 from ih]; simp [sixOf]; omega
theorem sixes_get (rs : List RowD) (i c : Nat) (h : i < rs.length) (hc : c < 6) : (sixes rs)[i * 6 + c]? = (sixOf rs[i])[c]? := by
  induction rs generalizing i with
  | nil => simp at h
  | cons a l ih =>
    have e : sixes (a :: l) = sixOf a ++ sixes l := by simp [sixes]
    rw [e]
    cases i with
    | zero => rw [List.getElem?_append_left (by simp [sixOf]; omega)]; simp
    | succ i =>
      rw [List.getElem?_append_right (by simp [sixOf]; omega)]
      have : (i + 1) * 6 + c - (sixOf a).length = i * 6 + c := by simp [sixOf]; omega
      rw [this, ih i (by simpa using h)]
      rfl
theorem sixes_one (rs : List RowD) : ∀ u ∈ sixes rs, u.oneCell' = true := by
  intro v hv
  obtain ⟨x, _, hx⟩ := List.mem_flatMap.1 hv
  simp only [sixOf, List.mem_cons, List.not_mem_nil, or_false] at hx
  rcases hx with rfl | rfl | rfl | rfl | rfl | rfl <;> rfl

/-- The first least of the first k rows. -/
def bestTo (all : List RowD) : Nat → Nat
  | 0 => 0
  | k + 1 => match all[k]?, all[bestTo all k]? with
    | some a, some b => if lessD a b then k else bestTo all k
    | _, _ => bestTo all k
theorem bestTo_lt (all : List RowD) (k : Nat) (h : 0 < all.length) (hk : k ≤ all.length) : bestTo all k < all.length := by
  induction k with
  | zero => exact h
  | succ k ih =>
    have := ih (by omega)
    unfold bestTo
    split
    · split <;> omega
    · omega
theorem bestTo_succ (all : List RowD) (k : Nat) (h : k < all.length) (hb : bestTo all k < all.length) : bestTo all (k + 1) = if lessD all[k] all[bestTo all k] then k else bestTo all k := by
  rw [bestTo, List.getElem?_eq_getElem h, List.getElem?_eq_getElem hb]
def bestOf (all : List RowD) : Nat := bestTo all all.length
/-- At most n rows, the least first. -/
def pick : Nat → List RowD → List RowD
  | 0, _ => []
  | n + 1, all => match all[bestOf all]? with
    | none => []
    | some r => r :: pick n (all.eraseIdx (bestOf all))
theorem pick_nil (n : Nat) : pick n [] = [] := by cases n <;> simp [pick]
theorem pick_cons (n : Nat) (all : List RowD) (h : bestOf all < all.length) : pick (n + 1) all = all[bestOf all] :: pick n (all.eraseIdx (bestOf all)) := by
  rw [pick, List.getElem?_eq_getElem h]
theorem pick_length (n : Nat) (all : List RowD) : (pick n all).length ≤ n := by
  induction n generalizing all with
  | zero => simp [pick]
  | succ n ih =>
    unfold pick
    split
    · simp
    · have := ih (all.eraseIdx (bestOf all)); simp; omega

/-- The row of trip i at a station, if it stands there. -/
def rowOfTrip (bk : BookD) (nss : List (List NewsD)) (s tick : Int) (i : Nat) : Option RowD :=
  match bk.trips[i]?, nss[i]? with
  | some t, some ns =>
    match firstIdx (atStation t.calls s) t.calls.length with
    | none => none
    | some k =>
      match t.calls[k]?, ns[k]? with
      | some c, some x => if (rowAt t.calls ns i k c x tick).2 then some (rowAt t.calls ns i k c x tick).1 else none
      | _, _ => none
  | _, _ => none
/-- The rows of the first n trips. -/
def collect (bk : BookD) (nss : List (List NewsD)) (s tick : Int) : Nat → List RowD
  | 0 => []
  | n + 1 => collect bk nss s tick n ++ (rowOfTrip bk nss s tick n).toList
theorem collect_length (bk : BookD) (nss : List (List NewsD)) (s tick : Int) (n : Nat) : (collect bk nss s tick n).length ≤ n := by
  induction n with
  | zero => simp [collect]
  | succ n ih =>
    unfold collect
    rw [List.length_append]
    have : ((rowOfTrip bk nss s tick n).toList).length ≤ 1 := by cases rowOfTrip bk nss s tick n <;> simp
    omega
/-- Board's answer. -/
def boardD (bk : BookD) (rs : List RepD) (s tick rows : Int) : List RowD :=
  if reportsB bk rs = true ∧ (0 ≤ s ∧ s < bk.sts.length) ∧ (0 ≤ tick ∧ tick ≤ 1000000) ∧ (0 ≤ rows ∧ rows ≤ 40) then pick rows.toNat (collect bk (newsTo bk tick rs) s tick bk.trips.length) else []

/-- How late a call is is what a report may say. -/
def LateOk (nss : List (List NewsD)) : Prop := ∀ ns ∈ nss, ∀ x ∈ ns, 0 ≤ x.late ∧ x.late ≤ 100000
theorem late_start (bk : BookD) : LateOk (startNews bk) := by
  intro ns hn x hx
  obtain ⟨t, _, rfl⟩ := List.mem_map.1 hn
  obtain ⟨c, _, rfl⟩ := List.mem_map.1 hx
  simp [startOf]
theorem late_do {r : RepD} (hr : r.op = 1 → 0 ≤ r.n ∧ r.n ≤ 100000) (i : Nat) (x : NewsD) (hx : 0 ≤ x.late ∧ x.late ≤ 100000) : 0 ≤ (doNews r i x).late ∧ (doNews r i x).late ≤ 100000 := by
  unfold doNews
  split
  · rename_i h
    split
    · exact hr h
    · exact hx
  · repeat' split
    all_goals exact hx
theorem late_step {bk : BookD} {nss : List (List NewsD)} (h : LateOk nss) (tick : Int) (r : RepD) (hr : reportB bk r = true) : LateOk (stepNews tick nss r) := by
  have hn : r.op = 1 → 0 ≤ r.n ∧ r.n ≤ 100000 := fun ho => by
    rw [reportB_yes (reportB_head hr), numB_1 ho] at hr
    exact of_decide_eq_true hr
  unfold stepNews
  split
  · intro ns hns x hx
    obtain ⟨i, hi, rfl⟩ := List.getElem_of_mem hns
    rw [List.length_modify] at hi
    rw [List.getElem_modify] at hx
    split at hx
    · unfold doRow at hx
      obtain ⟨m, hm, rfl⟩ := List.getElem_of_mem hx
      rw [List.length_mapIdx] at hm
      rw [List.getElem_mapIdx]
      exact late_do hn m _ (h _ (List.getElem_mem hi) _ (List.getElem_mem hm))
    · exact h _ (List.getElem_mem hi) x hx
  · exact h
theorem late_to (bk : BookD) (tick : Int) (rs : List RepD) (hrs : ∀ r ∈ rs, reportB bk r = true) : LateOk (newsTo bk tick rs) := by
  unfold newsTo
  generalize hs : startNews bk = s
  have h0 : LateOk s := by rw [← hs]; exact late_start bk
  clear hs
  induction rs generalizing s with
  | nil => exact h0
  | cons r rs ih => exact ih (fun x hx => hrs x (by simp [hx])) _ (late_step h0 tick r (hrs r (by simp)))

end Go.Proofs.YtjioingdpfgadaaDoor
namespace Go.Proofs.YtjioingdpfgadaaDoor
open Go Go.RowKit Go.Deep

/-- Rows of a board, six cells each. -/
def RowsAt (w : World) (a : Option Addr) (rs : List RowD) : Prop :=
  ∀ i (h : i < rs.length), ∃ b o, a = some ⟨b, o, none⟩ ∧ w.cell? ⟨b, o + i * 6, none⟩ = some (.int .i64 rs[i].trip) ∧ w.cell? ⟨b, o + i * 6 + 1, none⟩ = some (.int .i64 rs[i].to) ∧ w.cell? ⟨b, o + i * 6 + 2, none⟩ = some (.int .i64 rs[i].due) ∧ w.cell? ⟨b, o + i * 6 + 3, none⟩ = some (.int .i64 rs[i].expect) ∧ w.cell? ⟨b, o + i * 6 + 4, none⟩ = some (.int .i64 rs[i].track) ∧ w.cell? ⟨b, o + i * 6 + 5, none⟩ = some (.int .i64 rs[i].state)
theorem RowsAt.keep {w w' : World} {a : Option Addr} {rs : List RowD} (h : RowsAt w a rs) (hb : Below w.heap.size w w') : RowsAt w' a rs := by
  intro i hi; obtain ⟨b, o, e, c0, c1, c2, c3, c4, c5⟩ := h i hi; exact ⟨b, o, e, cell_keep hb c0, cell_keep hb c1, cell_keep hb c2, cell_keep hb c3, cell_keep hb c4, cell_keep hb c5⟩
/-- Rows in memory of the call's own can be read. -/
theorem rows_at {B : Nat} {w : World} {v : Value} {rs : List RowD} (h : w.ownsRow B 38 6 v rs.length (sixes rs)) : ∃ a c, v = .slice a rs.length c ∧ RowsAt w a rs := by
  rcases h.2 with ⟨e, e0⟩ | ⟨g, cap, cur, e, _⟩
  · exact ⟨none, 0, by rw [e, e0], fun j hj => by omega⟩
  · refine ⟨some ⟨g, 0, none⟩, cap, e, fun j hj => ?_⟩
    rw [e] at h
    have hc : ∀ c, c < 6 → w.cell? ⟨g, j * 6 + c, none⟩ = (sixOf rs[j])[c]? := fun c hc => by
      rw [h.cellAt _ (by omega), sixes_get _ j c hj hc]
    refine ⟨g, 0, rfl, ?_, ?_, ?_, ?_, ?_, ?_⟩
    · simpa [sixOf] using hc 0 (by omega)
    · simpa [sixOf] using hc 1 (by omega)
    · simpa [sixOf] using hc 2 (by omega)
    · simpa [sixOf] using hc 3 (by omega)
    · simpa [sixOf] using hc 4 (by omega)
    · simpa [sixOf] using hc 5 (by omega)

/-- The mark on place i of rows whose marks begin at k. -/
def markR (k i : Nat) : RowD := ⟨((k + i * 6 : Nat) : Int), ((k + i * 6 + 1 : Nat) : Int), ((k + i * 6 + 2 : Nat) : Int), ((k + i * 6 + 3 : Nat) : Int), ((k + i * 6 + 4 : Nat) : Int), ((k + i * 6 + 5 : Nat) : Int)⟩
def markRs (k n : Nat) : List RowD := (List.range n).map (markR k)
def mixRs (k m : Nat) (rs : List RowD) : List RowD := rs.mapIdx fun i x => if i < m then markR k i else x
theorem markRs_length (k n : Nat) : (markRs k n).length = n := by simp [markRs]
theorem markRs_get (k n i : Nat) (h : i < n) : (markRs k n)[i]'(by rw [markRs_length]; exact h) = markR k i := by simp [markRs]
theorem mixRs_length (k m : Nat) (rs : List RowD) : (mixRs k m rs).length = rs.length := by simp [mixRs]
theorem mixRs_start (k : Nat) (rs : List RowD) : mixRs k 0 rs = rs := by
  apply List.ext_getElem (mixRs_length k 0 rs)
  intro i h1 h2
  simp [mixRs]
theorem mixRs_end (k : Nat) (rs : List RowD) : mixRs k rs.length rs = markRs k rs.length := by
  apply List.ext_getElem (by rw [mixRs_length, markRs_length])
  intro i h1 h2
  rw [markRs_length] at h2
  rw [markRs_get k _ i h2]
  simp [mixRs, h2]
theorem mixRs_succ (k m : Nat) (rs : List RowD) : mixRs k (m + 1) rs = (mixRs k m rs).set m (markR k m) := by
  apply List.ext_getElem (by rw [List.length_set, mixRs_length, mixRs_length])
  intro i h1 h2
  rw [List.getElem_set]
  by_cases e : m = i
  · subst e; simp [mixRs]
  · rw [if_neg e]
    simp only [mixRs, List.getElem_mapIdx]
    by_cases h' : i < m
    · rw [if_pos (by omega), if_pos h']
    · rw [if_neg (by omega), if_neg h']
theorem sixes_set (rs : List RowD) (m c : Nat) (u : Value) (x : RowD) (h : m < rs.length) (hc : c < 6) (hx : sixOf x = (sixOf rs[m]).set c u) : (sixes rs).set (m * 6 + c) u = sixes (rs.set m x) := by
  induction rs generalizing m with
  | nil => simp at h
  | cons a l ih =>
    have e : ∀ b, sixes (b :: l) = sixOf b ++ sixes l := fun b => by simp [sixes]
    have la : ∀ b, (sixOf b).length = 6 := fun b => rfl
    cases m with
    | zero =>
      rw [List.set_cons_zero, e, e, List.set_append_left _ _ (by rw [la]; omega)]
      simp at hx
      rw [hx, Nat.zero_mul, Nat.zero_add]
    | succ m =>
      rw [List.set_cons_succ, e, List.set_append_right _ _ (by rw [la]; omega), la]
      have e2 : sixes (a :: l.set m x) = sixOf a ++ sixes (l.set m x) := by simp [sixes]
      rw [e2, ← ih m (by simpa using h) (by simpa using hx)]
      have : (m + 1) * 6 + c - 6 = m * 6 + c := by omega
      rw [this]
theorem sixes_set' {w : World} {B g cap : Nat} {rs : List RowD} (m c : Nat) (u : Value) (x : RowD) (h : m < rs.length) (hc : c < 6) (hx : sixOf x = (sixOf rs[m]).set c u)
    (hr : w.ownsRow B 38 6 (.slice (some ⟨g, 0, none⟩) rs.length cap) rs.length (sixes rs)) :
    (w.setCell ⟨g, m * 6 + c, none⟩ u).ownsRow B 38 6 (.slice (some ⟨g, 0, none⟩) rs.length cap) rs.length (sixes (rs.set m x)) ∧ w.grownBy (w.setCell ⟨g, m * 6 + c, none⟩ u) (some g) := by
  have := hr.stored (m * 6 + c) u
  rw [sixes_set rs m c u x h hc hx] at this
  exact this
/-- All six cells of a place are written. -/
theorem sixes_six {w : World} {B g cap : Nat} {rs : List RowD} (m : Nat) (x : RowD) (h : m < rs.length)
    (hr : w.ownsRow B 38 6 (.slice (some ⟨g, 0, none⟩) rs.length cap) rs.length (sixes rs)) :
    ((((((w.setCell ⟨g, m * 6, none⟩ (.int .i64 x.trip)).setCell ⟨g, m * 6 + 1, none⟩ (.int .i64 x.to)).setCell ⟨g, m * 6 + 2, none⟩ (.int .i64 x.due)).setCell ⟨g, m * 6 + 3, none⟩ (.int .i64 x.expect)).setCell ⟨g, m * 6 + 4, none⟩ (.int .i64 x.track)).setCell ⟨g, m * 6 + 5, none⟩ (.int .i64 x.state)).ownsRow B 38 6 (.slice (some ⟨g, 0, none⟩) rs.length cap) rs.length (sixes (rs.set m x)) ∧
    w.grownBy ((((((w.setCell ⟨g, m * 6, none⟩ (.int .i64 x.trip)).setCell ⟨g, m * 6 + 1, none⟩ (.int .i64 x.to)).setCell ⟨g, m * 6 + 2, none⟩ (.int .i64 x.due)).setCell ⟨g, m * 6 + 3, none⟩ (.int .i64 x.expect)).setCell ⟨g, m * 6 + 4, none⟩ (.int .i64 x.track)).setCell ⟨g, m * 6 + 5, none⟩ (.int .i64 x.state)) (some g) := by
  have step : ∀ (w1 : World) (y z : RowD) (c : Nat) (u : Value), c < 6 → sixOf z = (sixOf y).set c u → w1.ownsRow B 38 6 (.slice (some ⟨g, 0, none⟩) rs.length cap) rs.length (sixes (rs.set m y)) → w.grownBy w1 (some g) →
      (w1.setCell ⟨g, m * 6 + c, none⟩ u).ownsRow B 38 6 (.slice (some ⟨g, 0, none⟩) rs.length cap) rs.length (sixes (rs.set m z)) ∧ w.grownBy (w1.setCell ⟨g, m * 6 + c, none⟩ u) (some g) := fun w1 y z c u hc hz h1 h2 => by
    have hl : (rs.set m y).length = rs.length := List.length_set
    rw [← hl] at h1
    have := sixes_set' m c u z (by rw [hl]; exact h) hc (by rw [List.getElem_set_self]; exact hz) h1
    rw [List.set_set, hl] at this
    exact ⟨this.1, h2.trans this.2⟩
  have s0 := step w rs[m] (⟨x.trip, rs[m].to, rs[m].due, rs[m].expect, rs[m].track, rs[m].state⟩ : RowD) 0 (.int .i64 x.trip) (by omega) rfl (by rw [List.set_getElem_self]; exact hr) (World.grownBy.refl _ _)
  have s1 := step _ (⟨x.trip, rs[m].to, rs[m].due, rs[m].expect, rs[m].track, rs[m].state⟩ : RowD) (⟨x.trip, x.to, rs[m].due, rs[m].expect, rs[m].track, rs[m].state⟩ : RowD) 1 (.int .i64 x.to) (by omega) rfl s0.1 s0.2
  have s2 := step _ (⟨x.trip, x.to, rs[m].due, rs[m].expect, rs[m].track, rs[m].state⟩ : RowD) (⟨x.trip, x.to, x.due, rs[m].expect, rs[m].track, rs[m].state⟩ : RowD) 2 (.int .i64 x.due) (by omega) rfl s1.1 s1.2
  have s3 := step _ (⟨x.trip, x.to, x.due, rs[m].expect, rs[m].track, rs[m].state⟩ : RowD) (⟨x.trip, x.to, x.due, x.expect, rs[m].track, rs[m].state⟩ : RowD) 3 (.int .i64 x.expect) (by omega) rfl s2.1 s2.2
  have s4 := step _ (⟨x.trip, x.to, x.due, x.expect, rs[m].track, rs[m].state⟩ : RowD) (⟨x.trip, x.to, x.due, x.expect, x.track, rs[m].state⟩ : RowD) 4 (.int .i64 x.track) (by omega) rfl s3.1 s3.2
  exact step _ (⟨x.trip, x.to, x.due, x.expect, x.track, rs[m].state⟩ : RowD) x 5 (.int .i64 x.state) (by omega) rfl s4.1 s4.2
theorem row_cell6 {w : World} {B g cap : Nat} {rs : List RowD} (hr : w.ownsRow B 38 6 (.slice (some ⟨g, 0, none⟩) rs.length cap) rs.length (sixes rs)) (m c : Nat) (hm : m < rs.length) (hc : c < 6) : ∃ u, w.cell? ⟨g, m * 6 + c, none⟩ = some u := by
  rw [hr.cellAt _ (by omega), sixes_get _ m c hm hc]
  exact ⟨_, List.getElem?_eq_getElem (by simp [sixOf]; omega)⟩

end Go.Proofs.YtjioingdpfgadaaDoor
namespace Go.Proofs.YtjioingdpfgadaaDoor
open Go Go.RowKit Go.Deep

theorem setCells_heap (g : Nat) (T : TypeId) : ∀ (vs : List Value) (o : Nat) (cur : Array Value) (w : World), w.heap[g]? = some (.cells cur T (0, 0)) → (w.setCells g o vs).heap[g]? = some (.cells (putAt cur o vs) T (0, 0))
  | [], o, cur, w, h => by simpa [World.setCells, putAt] using h
  | v :: r, o, cur, w, h => by
    rw [World.setCells, putAt]
    refine setCells_heap g T r (o + 1) (cur.setIfInBounds o v) _ ?_
    rw [setCell_eq_setRow _ _ _ _ _ _ _ h, setRow_heap _ _ _ _ _ _ h]
theorem setCells_other (g : Nat) : ∀ (vs : List Value) (o k : Nat) (w : World), k ≠ g → (w.setCells g o vs).heap[k]? = w.heap[k]?
  | [], o, k, w, _ => rfl
  | v :: r, o, k, w, h => by rw [World.setCells, setCells_other g r (o + 1) k _ h, heap_setCell_other _ _ _ _ h]
theorem setCells_size (g : Nat) : ∀ (vs : List Value) (o : Nat) (w : World), (w.setCells g o vs).heap.size = w.heap.size
  | [], o, w => rfl
  | v :: r, o, w => by rw [World.setCells, setCells_size g r]; simp [World.setCell]
theorem setCells_below {B : Nat} {w0 : World} (g : Nat) (hg : B ≤ g) : ∀ (vs : List Value) (o : Nat) (w : World), Below B w0 w → Below B w0 (w.setCells g o vs)
  | [], _, _, h => h
  | v :: r, o, _, h => setCells_below g hg r (o + 1) _ (h.setCell hg v)
theorem erase_split (all : List RowD) (i : Nat) : all.eraseIdx i = all.take i ++ all.drop (i + 1) := List.eraseIdx_eq_take_drop_succ all i
/-- A row is cut out: those behind it are moved one to the left. -/
theorem owns_erase {w : World} {B g cap : Nat} {all : List RowD} (hr : w.ownsRow B 38 6 (.slice (some ⟨g, 0, none⟩) all.length cap) all.length (sixes all)) (i : Nat) (hi : i < all.length) :
    (w.setCells g (i * 6) (sixes (all.drop (i + 1)))).ownsRow B 38 6 (.slice (some ⟨g, 0, none⟩) (all.eraseIdx i).length cap) (all.eraseIdx i).length (sixes (all.eraseIdx i)) := by
  have hle : (all.eraseIdx i).length = all.length - 1 := by rw [List.length_eraseIdx, if_pos hi]
  refine ⟨sixes_length _, Or.inr ?_⟩
  rcases hr.2 with ⟨e, _⟩ | ⟨g', cap', cur, e, hb, hh, hn, hm, hs, ht⟩
  · cases e
  · simp only [Value.slice.injEq, Option.some.injEq, Addr.mk.injEq, and_true] at e
    obtain ⟨rfl, _, rfl⟩ := e
    have hlen : (sixes all).length = all.length * 6 := sixes_length all
    have hld : (sixes (all.drop (i + 1))).length = (all.length - (i + 1)) * 6 := by rw [sixes_length, List.length_drop]
    have hfit : i * 6 + (sixes (all.drop (i + 1))).length ≤ cur.size := by rw [hld, hs]; omega
    refine ⟨g, cap, _, rfl, hb, setCells_heap g _ _ _ cur w hh, by omega, hm, by rw [putAt_size]; exact hs, ?_⟩
    apply List.ext_getElem?
    intro j
    rw [List.getElem?_take]
    have hsa : sixes all = sixes (all.take i) ++ sixes (all.drop i) := by rw [← sixes_append, List.take_append_drop]
    have hlt : (sixes (all.take i)).length = i * 6 := by rw [sixes_length, List.length_take]; congr 1; omega
    rw [erase_split all i, sixes_append]
    have hle' : (all.take i ++ all.drop (i + 1)).length * 6 = i * 6 + (all.length - (i + 1)) * 6 := by rw [List.length_append, List.length_take, List.length_drop]; omega
    by_cases hj : j < (all.take i ++ all.drop (i + 1)).length * 6
    · rw [if_pos hj]
      have hp := putAt_get (sixes (all.drop (i + 1))) cur (i * 6) j hfit
      rw [Array.getElem?_toList, hp]
      by_cases hji : i * 6 ≤ j
      · rw [if_pos ⟨hji, by omega⟩, List.getElem?_append_right (by omega), hlt]
      · rw [if_neg (by omega), List.getElem?_append_left (by omega)]
        have h1 : cur.toList[j]? = (sixes all)[j]? := by
          rw [← ht, List.getElem?_take, if_pos (by omega)]
        rw [← Array.getElem?_toList, h1, hsa, List.getElem?_append_left (by omega)]
    · rw [if_neg hj, List.getElem?_eq_none (by rw [List.length_append, hlt, hld]; omega)]

end Go.Proofs.YtjioingdpfgadaaDoor
namespace Go.Proofs.YtjioingdpfgadaaDoor
open Go Go.RowKit Go.Deep

theorem uRows : Tryd.prog.underlying 31 = some (.slice 38) := by kernel_rfl
theorem infRows : (Tryd.prog.info? 38).map (fun i => (i.zero, i.size, i.bytes)) = some (some (.agg #[.int .i64 0, .int .i64 0, .int .i64 0, .int .i64 0, .int .i64 0, .int .i64 0]), 6, 48) := by kernel_rfl
theorem tripB_len' {n : Int} {t : TripD} (h : tripB n t = true) : 2 ≤ t.calls.length ∧ t.calls.length ≤ 20 := by
  apply Classical.byContradiction
  intro hn
  rw [tripB_count hn] at h
  exact absurd h (by decide)
theorem tripB_go {n : Int} {t : TripD} (h : tripB n t = true) : ∀ k (hk : k < t.calls.length), 0 ≤ t.calls[k].go ∧ t.calls[k].go ≤ 1000000 := by
  have hc : callsB n t.calls = true := by
    cases hc : callsB n t.calls
    · rw [tripB_call hc] at h; exact h
    · rfl
  have hat : ∀ k (hk : k < t.calls.length), callB n (prevGo t.calls k) t.calls[k] = true := fun k hk => by
    unfold callsB at hc
    rw [List.all_eq_true] at hc
    have := hc k (List.mem_range.2 hk)
    simpa [callAtB, List.getElem?_eq_getElem hk] using this
  intro k
  induction k with
  | zero =>
    intro hk
    have := callB_yes (hat 0 hk)
    simp only [prevGo] at this
    omega
  | succ k ih =>
    intro hk
    have h1 := callB_yes (hat (k + 1) hk)
    have h2 := ih (by omega)
    have e : prevGo t.calls (k + 1) = t.calls[k].go := by simp [prevGo, List.getElem?_eq_getElem (show k < t.calls.length by omega)]
    rw [e] at h1
    omega
theorem right_trips' {bk : BookD} (h : (faultD bk).1 = 0) : bk.trips.length ≤ 40 := by
  apply Classical.byContradiction
  intro hn
  rw [faultD_1 (Or.inr (by omega))] at h
  simp at h
theorem firstIdx_lt {p : Nat → Bool} {n k : Nat} (h : firstIdx p n = some k) : k < n := by
  unfold firstIdx at h
  exact List.mem_range.1 (List.mem_of_find?_eq_some h)
def sliceLen : Value → Nat
  | .slice _ n _ => n
  | _ => 0
theorem boardD_no {bk : BookD} {rs : List RepD} {s tick rows : Int} (h : ¬ (reportsB bk rs = true ∧ (0 ≤ s ∧ s < bk.sts.length) ∧ (0 ≤ tick ∧ tick ≤ 1000000) ∧ (0 ≤ rows ∧ rows ≤ 40))) : boardD bk rs s tick rows = [] := by unfold boardD; rw [if_neg h]
theorem cells_six_at (w : World) (r : RowD) (t : TypeId) : ∀ j u, (sixOf r)[j]? = some u → (w.alloc (.cells #[.int .i64 r.trip, .int .i64 r.to, .int .i64 r.due, .int .i64 r.expect, .int .i64 r.track, .int .i64 r.state] t)).cell? ((⟨w.heap.size, 0, none⟩ : Addr).add j) = some u := by
  intro j u hj
  have hadd : (⟨w.heap.size, 0, none⟩ : Addr).add j = ⟨w.heap.size, j, none⟩ := by unfold Addr.add; split <;> simp_all
  rw [hadd, cell_of_row _ _ _ _ _ _ (heap_alloc_last w _)]
  simpa [sixOf] using hj

end Go.Proofs.YtjioingdpfgadaaDoor
