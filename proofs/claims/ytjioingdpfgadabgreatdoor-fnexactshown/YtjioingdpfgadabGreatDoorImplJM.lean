import Derived.Test.YtjioingdpfgadabGreatDoorImplYM
import Derived.Test.YtjioingdpfgadabGreatDoorImplW
import Derived.Test.YtjioingdpfgadabGreatDoorSpecMM
import Derived.Test.YtjioingdpfgadabGreatDoorProg
namespace Go.Proofs.YtjioingdpfgadabGreatDoor
open Go Go.RowKit Go.Deep

theorem cutRows_set {ts : List TripD} {G : List (List NewsD)} (j : Nat) (h1 : j < ts.length) (row : List NewsD) : cutRows ts (G.set j row) = (cutRows ts G).set j (row.take ts[j].calls.length) := by
  apply List.ext_getElem?
  intro i
  rw [List.getElem?_set]
  unfold cutRows
  by_cases e : j = i
  · subst e
    rw [if_pos rfl]
    by_cases hG : j < G.length
    · rw [if_pos (by simp; omega), List.getElem?_zipWith, List.getElem?_eq_getElem h1, List.getElem?_set_self (by exact hG)]
    · rw [if_neg (by simp; omega), List.getElem?_eq_none (by simp; omega)]
  · rw [if_neg e, List.getElem?_zipWith, List.getElem?_zipWith, List.getElem?_set_ne e]
theorem cutRows_at {ts : List TripD} {G : List (List NewsD)} (j : Nat) (h1 : j < ts.length) (h2 : j < G.length) (h : j < (cutRows ts G).length) : (cutRows ts G)[j] = G[j].take ts[j].calls.length := by simp [cutRows]
theorem doRow_take (r : RepD) (ns : List NewsD) (n : Nat) : (doRow r ns).take n = doRow r (ns.take n) := by
  apply List.ext_getElem?
  intro i
  unfold doRow
  rw [List.getElem?_take, List.getElem?_mapIdx, List.getElem?_mapIdx, List.getElem?_take]
  split <;> simp
theorem cut_plan (bk : BookD) : cutRows bk.trips (planGrid bk) = startNews bk := by
  apply List.ext_getElem?
  intro i
  unfold cutRows startNews planGrid planTo
  rw [List.getElem?_zipWith, List.take_length, List.getElem?_map]
  by_cases hi : i < bk.trips.length
  · rw [List.getElem?_append_left (by simpa using hi), List.getElem?_map, List.getElem?_eq_getElem hi]
    simp [padRow, startRow]
  · rw [List.getElem?_eq_none (by omega : bk.trips.length ≤ i)]
    rfl

/-- What the program makes of a trip's row behind a message is what the document asks. -/
theorem cut_step {bk : BookD} {G N : List (List NewsD)} {r : RepD} {tick : Int} {j c : Nat} (hG : Grid G) (h40 : bk.trips.length ≤ 40) (h20 : ∀ i (h : i < bk.trips.length), 2 ≤ bk.trips[i].calls.length ∧ bk.trips[i].calls.length ≤ 20) (hN : cutRows bk.trips G = N)
    (hr : reportB bk r = true) (ht : r.tick ≤ tick) (hj : r.trip = (j : Int)) (hjl : j < bk.trips.length) (hc : r.call = (c : Int)) (hjG : j < G.length) (hcG : c < G[j].length) :
    cutRows bk.trips (G.set j (if allowsX G[j] c (lastB bk r) G[j][c] r then doRow r G[j] else G[j])) = stepNews tick N r := by
  obtain ⟨_, _, ho, _, _, i4⟩ := reportB_head hr
  have hcl : callsOf bk r.trip = bk.trips[j].calls := by rw [hj]; exact callsOf_at bk j hjl
  have hcn : c < bk.trips[j].calls.length := by rw [hcl, hc] at i4; omega
  have hNl : N.length = bk.trips.length := by rw [← hN]; exact cutRows_length (by rw [hG.len]; exact h40)
  have hjN : j < N.length := by omega
  have hNj : N[j] = G[j].take bk.trips[j].calls.length := by subst hN; exact cutRows_at j hjl hjG hjN
  have hNl2 : N[j].length = bk.trips[j].calls.length := by rw [hNj, List.length_take, hG.at j hjG]; have := h20 j hjl; omega
  have hcN : c < N[j].length := by omega
  have hfull : ∀ i (h : i < N[j].length), G[j][i]? = some N[j][i] := fun i h => by
    have : N[j][i]? = some N[j][i] := List.getElem?_eq_getElem h
    rw [← this, hNj, List.getElem?_take, if_pos (by omega)]
  have hcnt : allowsX G[j] c (lastB bk r) G[j][c] r = countsN N r := by
    rw [countsN_at N r j c hjN hj hcN hc]
    refine allowsX_counts ho hcN hcG hfull ?_
    unfold lastB
    rw [hc, hcl, hNl2]
    by_cases h : c + 1 < bk.trips[j].calls.length
    · rw [decide_eq_true h]; simp; omega
    · rw [decide_eq_false h]; simp; omega
  rw [cutRows_set j hjl, hN, hcnt]
  cases hcc : countsN N r
  · rw [stepNews_no tick N r (fun h => by rw [hcc] at h; exact absurd h.2 (by decide))]
    simp only [Bool.false_eq_true, ↓reduceIte]
    rw [← hNj]
    exact set_same N j _ (List.getElem?_eq_getElem hjN)
  · rw [stepNews_yes tick N r j hjN hj ht hcc]
    simp only [↓reduceIte]
    rw [doRow_take, ← hNj]

/-- Behind a report past the tick nothing counts any more. -/
theorem newsTo_break {bk : BookD} {tick : Int} {rs : List RepD} {k : Nat} (hk : k < rs.length) (ht : tick < rs[k].tick) (hp : ∀ i (h : i < rs.length), prevTick rs i ≤ rs[i].tick) : newsTo bk tick rs = newsTo bk tick (rs.take k) := by
  have hmono : ∀ i (h : i < rs.length), k ≤ i → tick < rs[i].tick := by
    intro i
    induction i with
    | zero => intro h hki; have : k = 0 := by omega
              subst this; exact ht
    | succ i ih =>
      intro h hki
      by_cases e : k = i + 1
      · subst e; exact ht
      · have h1 := ih (by omega) (by omega)
        have h2 := hp (i + 1) h
        rw [prevTick_succ rs i (by omega)] at h2
        omega
  have hno : ∀ (l : List RepD) (N : List (List NewsD)), (∀ r ∈ l, tick < r.tick) → l.foldl (stepNews tick) N = N := by
    intro l
    induction l with
    | nil => intro N _; rfl
    | cons r l ih =>
      intro N h
      rw [List.foldl_cons, stepNews_no tick N r (fun g => by have := h r (by simp); omega)]
      exact ih N (fun x hx => h x (by simp [hx]))
  unfold newsTo
  have e : rs = rs.take k ++ rs.drop k := (List.take_append_drop k rs).symm
  have e2 : rs.foldl (stepNews tick) (startNews bk) = (rs.take k ++ rs.drop k).foldl (stepNews tick) (startNews bk) := by rw [← e]
  rw [e2, List.foldl_append, hno]
  intro r hr
  obtain ⟨i, hi, rfl⟩ := List.getElem_of_mem hr
  rw [List.length_drop] at hi
  rw [List.getElem_drop]
  exact hmono (k + i) (by omega) (by omega)

end Go.Proofs.YtjioingdpfgadabGreatDoor
namespace Go.Proofs.YtjioingdpfgadabGreatDoor
open Go Go.RowKit Go.Deep

/-- A message's place, asked through the interface. -/
theorem msgV_where (r : RepD) (l : Bool) : ∃ t m, msgV r l = .iface t m ∧ (∀ w, (Go.method 362 t m "loop.example/tannoy/impl.where").run Tryz.prog w = .ok (157, .agg #[.int .i64 r.trip, .int .i64 r.call, .bool l]) w) ∧ (∀ w, (Go.nilAhead 362 t m "loop.example/tannoy/impl.where").run Tryz.prog w = .ok (some false) w) := by
  unfold msgV
  split
  · exact ⟨_, _, rfl, fun w => mLate _ _ _ _ w, fun w => nLate _ _ _ _ w⟩
  · split
    · exact ⟨_, _, rfl, fun w => mTrack _ _ _ _ w, fun w => nTrack _ _ _ _ w⟩
    · split
      · exact ⟨_, _, rfl, fun w => mStop _ _ _ w, fun w => nStop _ _ _ w⟩
      · split
        · exact ⟨_, _, rfl, fun w => mHere _ _ _ w, fun w => nHere _ _ _ w⟩
        · exact ⟨_, _, rfl, fun w => mGone _ _ _ w, fun w => nGone _ _ _ w⟩
theorem tripB_len {n : Int} {t : TripD} (h : tripB n t = true) : 2 ≤ t.calls.length ∧ t.calls.length ≤ 20 := by
  apply Classical.byContradiction
  intro hn
  rw [tripB_count hn] at h
  exact absurd h (by decide)
theorem right_trips {bk : BookD} (h : (faultD bk).1 = 0) : bk.trips.length ≤ 40 := by
  apply Classical.byContradiction
  intro hn
  rw [faultD_1 (Or.inr (by omega))] at h
  simp at h
theorem lastB_at {bk : BookD} {r : RepD} {k n : Nat} (hk : r.call = (k : Int)) (hn : (callsOf bk r.trip).length = n) (hkn : k < n) : lastB bk r = !decide (k + 1 < n) := by
  unfold lastB
  rw [hk, hn]
  by_cases h : k + 1 < n
  · rw [decide_eq_true h]; simp; omega
  · rw [decide_eq_false h]; simp; omega

end Go.Proofs.YtjioingdpfgadabGreatDoor
