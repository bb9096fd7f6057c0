import Derived.Test.YtjioingdpfgadaaDoorDrwGM
import Derived.Test.YtjioingdpfgadaaDoorDrwIM
namespace Go.Proofs.YtjioingdpfgadaaDoor
open Go Go.RowKit Go.Deep

theorem tripName_eq (k : Nat) : tripName k = ⟨(84 :: decL k).toArray⟩ := str_cons _ _
theorem tripName_ok (k : Nat) (h1 : 1 ≤ k) (h5 : k ≤ 5) : nameB (tripName k) = true ∧ (tripName k).size = 2 := by
  rw [tripName_eq]
  rcases (by omega : k = 1 ∨ k = 2 ∨ k = 3 ∨ k = 4 ∨ k = 5) with rfl | rfl | rfl | rfl | rfl <;> exact ⟨by decide, by decide⟩
theorem tripName_inj {i k : Nat} (hi : 1 ≤ i ∧ i ≤ 5) (hk : 1 ≤ k ∧ k ≤ 5) (h : (tripName i).data.toList = (tripName k).data.toList) : i = k := by
  rw [tripName_eq, tripName_eq] at h
  have h' : decL i = decL k := by simpa using h
  rcases (by omega : i = 1 ∨ i = 2 ∨ i = 3 ∨ i = 4 ∨ i = 5) with rfl | rfl | rfl | rfl | rfl <;> rcases (by omega : k = 1 ∨ k = 2 ∨ k = 3 ∨ k = 4 ∨ k = 5) with rfl | rfl | rfl | rfl | rfl <;> first | rfl | exact absurd h' (by decide)
theorem stations_ok (n : Nat) (h : n ≤ 6) : ∀ i, i < (stationsF n).length → badName (stationsF n) i = false := by
  rw [stationsF_length]
  rcases (by omega : n = 0 ∨ n = 1 ∨ n = 2 ∨ n = 3 ∨ n = 4 ∨ n = 5 ∨ n = 6) with rfl | rfl | rfl | rfl | rfl | rfl | rfl <;> decide
/-- A drawn trip's calls. -/
structure CallsDrawn (n : Nat) (cs : List CallD) : Prop where
  calls : ∀ k (h : k < cs.length), 0 ≤ cs[k].st ∧ cs[k].st < n ∧ prevGo cs k ≤ cs[k].co ∧ cs[k].co ≤ cs[k].go ∧ cs[k].go ≤ 300 ∧ 1 ≤ cs[k].tr ∧ cs[k].tr ≤ 4
  apart : ∀ i k (hi : i < cs.length) (hk : k < i), cs[k].st ≠ cs[i].st
  len : cs.length ≤ 8
theorem tripF_drawn (bs : List Int) (n : Nat) (s : Rd) (h2 : 2 ≤ n) (h6 : n ≤ 6) : CallsDrawn n (tripF bs n s).1 := by
  rcases h1 : pickF bs 60 s with ⟨a, s1⟩
  rcases hb : pickF bs n s1 with ⟨b, s2⟩
  rcases hc : pickF bs (n - 1) s2 with ⟨c, s3⟩
  rcases hd : pickF bs (n - 1) s3 with ⟨d, s4⟩
  have l1 := pickF_lt bs 60 s
  have l2 := pickF_lt bs n s1
  have l4 := pickF_lt bs (n - 1) s3
  rw [h1] at l1; rw [hb] at l2; rw [hd] at l4
  simp only at l1 l2 l4
  rw [tripF_eq bs n s s1 s2 s3 s4 a b c d h1 hb hc hd]
  obtain ⟨tm', ht, hr, hl⟩ := callsF_right bs n (1 + c) (by omega) (2 + d) a b s4 [] (by omega) (callsRight_nil n a)
  simp only [List.length_nil] at hl
  refine ⟨fun k hk => ?_, hr.apart, by omega⟩
  have := hr.calls k hk
  omega
theorem CallsDrawn.trip {n : Nat} {cs : List CallD} (h : CallsDrawn n cs) (k : Nat) (h1 : 1 ≤ k) (h5 : k ≤ 5) (h2 : 2 ≤ cs.length) : tripB n ⟨tripName k, cs⟩ = true := by
  refine tripB_yes (tripName_ok k h1 h5).1 ⟨h2, by have := h.len; simp only; omega⟩ (callsB_yes fun i hi => ?_) (nodup_of_pairs h.apart)
  rw [callAtB_at _ _ i hi]
  have := h.calls i hi
  exact decide_eq_true (by simp only at this ⊢; omega)
/-- Drawn trips, k rounds to go. -/
structure TripsDrawn (n k : Nat) (ts : List TripD) : Prop where
  each : ∀ i (h : i < ts.length), ∃ j, k < j ∧ j ≤ 5 ∧ ts[i].name = tripName j ∧ 2 ≤ ts[i].calls.length ∧ CallsDrawn n ts[i].calls
  apart : ∀ i m (hi : i < ts.length) (hm : m < i), ts[m].name.data.toList ≠ ts[i].name.data.toList
  len : ts.length + k ≤ 5
theorem TripsDrawn.snoc {n k : Nat} {ts : List TripD} {cs : List CallD} (h : TripsDrawn n (k + 1) ts) (hc : CallsDrawn n cs) (h2 : 2 ≤ cs.length) : TripsDrawn n k (ts ++ [⟨tripName (k + 1), cs⟩]) := by
  have hl := h.len
  refine ⟨fun i hi => ?_, fun i m hi hm => ?_, by simp; omega⟩
  · by_cases hlt : i < ts.length
    · rw [List.getElem_append_left hlt]
      obtain ⟨j, h1, r⟩ := h.each i hlt
      exact ⟨j, by omega, r⟩
    · have e : i = ts.length := by simp at hi; omega
      subst e
      rw [List.getElem_append_right (Nat.le_refl _)]
      simp only [Nat.sub_self, List.getElem_cons_zero]
      exact ⟨k + 1, by omega, by omega, rfl, h2, hc⟩
  · by_cases hlt : i < ts.length
    · rw [List.getElem_append_left hlt, List.getElem_append_left (by omega)]
      exact h.apart i m hlt hm
    · have e : i = ts.length := by simp at hi; omega
      subst e
      rw [List.getElem_append_left hm, List.getElem_append_right (Nat.le_refl _)]
      simp only [Nat.sub_self, List.getElem_cons_zero]
      obtain ⟨j, h1, h5, he, _⟩ := h.each m hm
      rw [he]
      intro e
      have := tripName_inj (by omega) (by omega) e
      omega
theorem TripsDrawn.less {n k : Nat} {ts : List TripD} (h : TripsDrawn n (k + 1) ts) : TripsDrawn n k ts :=
  ⟨fun i hi => by obtain ⟨j, h1, r⟩ := h.each i hi; exact ⟨j, by omega, r⟩, h.apart, by have := h.len; omega⟩
theorem tripsF_drawn (bs : List Int) (n : Nat) (h2 : 2 ≤ n) (h6 : n ≤ 6) : ∀ (k : Nat) (s : Rd) (ts : List TripD), TripsDrawn n k ts → TripsDrawn n 0 (tripsF bs n k s ts).1 := by
  intro k
  induction k with
  | zero => intro s ts h; exact h
  | succ k ih =>
    intro s ts h
    rw [tripsF]
    apply ih
    split
    · rename_i hl
      exact h.snoc (tripF_drawn bs n s h2 h6) hl
    · exact h.less
theorem sumSizes_le (l : List ByteArray) (m : Nat) (h : ∀ x ∈ l, x.size ≤ m) : sumSizes l ≤ l.length * m := by
  induction l with
  | nil => simp [sumSizes]
  | cons a l ih =>
    have h1 := h a (by simp)
    have h2 := ih (fun x hx => h x (by simp [hx]))
    simp only [sumSizes, List.length_cons, Nat.add_mul, Nat.one_mul]; omega
theorem sumTrips_le (l : List TripD) (m : Nat) (h : ∀ x ∈ l, tripSize x ≤ m) : sumTrips l ≤ l.length * m := by
  induction l with
  | nil => simp [sumTrips]
  | cons a l ih =>
    have h1 := h a (by simp)
    have h2 := ih (fun x hx => h x (by simp [hx]))
    simp only [sumTrips, List.length_cons, Nat.add_mul, Nat.one_mul]; omega
theorem nameF_size (i : Nat) : (nameF i).size ≤ 20 := by
  unfold nameF
  split <;> decide
/-- What is so of each drawn book. -/
structure BookDrawn (bk : BookD) : Prop where
  fault : (faultD bk).1 = 0
  small : bookSize bk ≤ 1000
  sts2 : 2 ≤ bk.sts.length
  sts6 : bk.sts.length ≤ 6
  trips5 : bk.trips.length ≤ 5
  calls : ∀ i (h : i < bk.trips.length), CallsDrawn bk.sts.length bk.trips[i].calls
theorem bookF_drawn (bs : List Int) (s s' : Rd) (bk : BookD) (h : bookF bs s = (bk, s')) : BookDrawn bk := by
  rcases h1 : pickF bs 5 s with ⟨a, s1⟩
  rcases h2 : pickF bs 6 s1 with ⟨b, s2⟩
  rcases h3 : tripsF bs (2 + a) b s2 [] with ⟨ts, s3⟩
  rw [bookF_eq bs s s1 s2 s3 a b ts h1 h2 h3] at h
  have l1 := pickF_lt bs 5 s
  have l2 := pickF_lt bs 6 s1
  rw [h1] at l1; rw [h2] at l2
  simp only at l1 l2
  have hd := tripsF_drawn bs (2 + a) (by omega) (by omega) b s2 [] ⟨fun i h => by simp at h, fun i m hi => by simp at hi, by simp; omega⟩
  rw [h3] at hd
  simp only at hd
  have e : bk = ⟨stationsF (2 + a), ts⟩ := (congrArg Prod.fst h).symm
  subst e
  have hl : (stationsF (2 + a)).length = 2 + a := stationsF_length _
  have hlen := hd.len
  have hcalls : ∀ i (h : i < ts.length), CallsDrawn (stationsF (2 + a)).length ts[i].calls := fun i hi => by rw [hl]; exact (hd.each i hi).choose_spec.2.2.2.2
  refine ⟨?_, ?_, by simp only; omega, by simp only; omega, by simp only; omega, hcalls⟩
  · have hf : faultD ⟨stationsF (2 + a), ts⟩ = (0, 0) := by
      rw [faultD_2 (by simp only; omega), fault2_none (first_none (stations_ok (2 + a) (by omega))), fault3_none (first_none fun i hi => ?_), fault4_none (first_none fun i hi => ?_)]
      · have hi' : i < (namesOf ts).length := by simpa [namesOf] using hi
        refine badName_ok hi' ?_ (fun m hm => ?_)
        · obtain ⟨j, j1, j5, hn, _⟩ := hd.each i hi
          simp only [namesOf, List.getElem_map]
          rw [hn]; exact (tripName_ok j (by omega) j5).1
        · simp only [namesOf, List.getElem_map]
          exact hd.apart i m hi hm
      · rw [badTrip_at _ _ i hi]
        obtain ⟨j, j1, j5, hn, c2, cd⟩ := hd.each i hi
        have ht : tripB (((⟨stationsF (2 + a), ts⟩ : BookD).sts.length : Nat) : Int) ts[i] = true := by
          have := (hcalls i hi).trip j (by omega) j5 c2
          rw [← hn] at this
          exact this
        rw [ht]; rfl
    rw [hf]
  · have g1 := sumSizes_le (stationsF (2 + a)) 20 (fun x hx => by
      obtain ⟨i, _, rfl⟩ := List.mem_map.1 hx
      exact nameF_size i)
    have g2 := sumTrips_le ts 10 (fun x hx => by
      obtain ⟨i, hi, rfl⟩ := List.getElem_of_mem hx
      obtain ⟨j, j1, j5, hn, _, cd⟩ := hd.each i hi
      have := (tripName_ok j (by omega) j5).2
      have := cd.len
      unfold tripSize; rw [hn]; omega)
    unfold bookSize strsSize tripsSize
    simp only
    omega

/-! Drawn reports are right. -/
structure RepsRight (bk : BookD) (tm : Nat) (rs : List RepD) : Prop where
  each : ∀ k (h : k < rs.length), reportB bk rs[k] = true ∧ prevTick rs k ≤ rs[k].tick ∧ rs[k].tick ≤ tm
theorem prevTick_append (rs : List RepD) (r : RepD) (k : Nat) (h : k ≤ rs.length) : prevTick (rs ++ [r]) k = prevTick rs k := by
  cases k with
  | zero => rfl
  | succ k => simp only [prevTick]; rw [List.getElem?_append_left (by omega)]
theorem RepsRight.snoc {bk : BookD} {tm : Nat} {rs : List RepD} (h : RepsRight bk tm rs) (r : RepD) (hr : reportB bk r = true) (ht : r.tick = (tm : Int)) (d : Nat) : RepsRight bk (tm + d) (rs ++ [r]) := by
  refine ⟨fun k hk => ?_⟩
  rw [prevTick_append _ _ k (by simp at hk; omega)]
  by_cases hl : k < rs.length
  · rw [List.getElem_append_left hl]
    have := h.each k hl
    exact ⟨this.1, this.2.1, by omega⟩
  · have e : k = rs.length := by simp at hk; omega
    subst e
    rw [List.getElem_append_right (Nat.le_refl _)]
    simp only [Nat.sub_self, List.getElem_cons_zero]
    refine ⟨hr, ?_, by omega⟩
    cases hc : rs.length with
    | zero => simp only [prevTick]; omega
    | succ j =>
      have := (h.each j (by omega)).2.2
      rw [prevTick_succ rs j (by omega)]; omega
theorem openF_range {ns : List NewsD} {d : Nat × Nat} (hd : 1 ≤ d.1 ∧ d.1 ≤ 5 ∧ d.2 < ns.length) : 1 ≤ (openF ns d).1 ∧ (openF ns d).1 ≤ 5 ∧ (openF ns d).2 < ns.length := by
  unfold openF
  split
  · rename_i k hk
    rw [List.findIdx?_eq_some_iff_getElem] at hk
    obtain ⟨hk, _⟩ := hk
    refine ⟨?_, ?_, hk⟩ <;> simp only <;> split <;> omega
  · exact hd
theorem repF_right {bk : BookD} (hb : BookDrawn bk) (hp : 0 < bk.trips.length) (bs : List Int) (tm : Nat) (htm : tm ≤ 1000000) (nss : List (List NewsD)) (hs : ShapeOf bk nss) (s : Rd) : reportB bk (repF bs bk tm nss s).1 = true ∧ (repF bs bk tm nss s).1.tick = (tm : Int) := by
  rcases h1 : pickF bs bk.trips.length s with ⟨i, s1⟩
  rcases h2 : pickF bs 5 s1 with ⟨o, s2⟩
  rcases h3 : pickF bs (callsOf bk i).length s2 with ⟨c, s3⟩
  rcases h4 : pickF bs 2 s3 with ⟨z, s4⟩
  rcases h5 : (if z = 0 then openF (nss.getD i []) (1 + o, c) else (1 + o, c)) with ⟨op, k⟩
  rcases h6 : numF bs op s4 with ⟨n, s5⟩
  have l1 := pickF_lt bs bk.trips.length s
  have l2 := pickF_lt bs 5 s1
  have l3 := pickF_lt bs (callsOf bk i).length s2
  rw [h1] at l1; rw [h2] at l2; rw [h3] at l3
  simp only at l1 l2 l3
  have hi : i < bk.trips.length := by omega
  have hin : i < nss.length := by rw [hs.length]; exact hi
  have hcl := (tripB_len' ((faultD_zero hb.fault).2 i hi)).1
  have hnl : (nss.getD i []).length = (callsOf bk i).length := by rw [← hs.at i hin]; simp [List.getD, List.getElem?_eq_getElem hin]
  have hco : (callsOf bk i).length = bk.trips[i].calls.length := by rw [callsOf_at bk i hi]
  have hok : 1 ≤ op ∧ op ≤ 5 ∧ k < (callsOf bk i).length := by
    by_cases hz : z = 0
    · rw [if_pos hz] at h5
      have := openF_range (ns := nss.getD i []) (d := (1 + o, c)) ⟨by simp only; omega, by simp only; omega, by simp only; omega⟩
      rw [h5, hnl] at this
      exact this
    · rw [if_neg hz] at h5
      simp only [Prod.mk.injEq] at h5
      omega
  rw [repF_eq bs bk tm nss s s1 s2 s3 s4 s5 i o c z op k n h1 h2 h3 h4 h5 h6]
  refine ⟨?_, rfl⟩
  rw [reportB_yes ⟨hb.fault, by simp only; omega, by simp only; omega, by simp only; omega, by simp only; omega⟩]
  by_cases o1 : op = 1
  · rw [numB_1 (by simp only; omega)]
    subst o1
    rcases g1 : pickF bs 30 s4 with ⟨x, t1⟩
    rcases g2 : pickF bs 2 t1 with ⟨y, t2⟩
    have m1 := pickF_lt bs 30 s4
    have m2 := pickF_lt bs 2 t1
    rw [g1] at m1; rw [g2] at m2
    simp only at m1 m2
    rw [numF_1 bs s4 t1 t2 x y g1 g2] at h6
    simp only [Prod.mk.injEq] at h6
    have : x * y ≤ 30 * 2 := Nat.mul_le_mul (by omega) (by omega)
    exact decide_eq_true (by simp only; omega)
  · by_cases o2 : op = 2
    · rw [numB_2 (by simp only; omega)]
      subst o2
      rcases g1 : pickF bs 4 s4 with ⟨x, t1⟩
      have m1 := pickF_lt bs 4 s4
      rw [g1] at m1
      simp only at m1
      rw [numF_2 bs s4 t1 x g1] at h6
      simp only [Prod.mk.injEq] at h6
      exact decide_eq_true (by simp only; omega)
    · rw [numB_3 (by simp only; omega) (by simp only; omega)]
      rw [numF_0 bs op s4 o1 o2] at h6
      simp only [Prod.mk.injEq] at h6
      simp [← h6.1]
theorem repsF_right {bk : BookD} (hb : BookDrawn bk) (hp : 0 < bk.trips.length) (bs : List Int) : ∀ (r tm : Nat) (nss : List (List NewsD)) (s : Rd) (out : List RepD), tm + r * 9 ≤ 1000000 → ShapeOf bk nss → RepsRight bk tm out → ∃ tm', RepsRight bk tm' (repsF bs bk r tm nss s out).1 ∧ (repsF bs bk r tm nss s out).1.length ≤ out.length + r := by
  intro r
  induction r with
  | zero => intro tm nss s out _ _ h; exact ⟨tm, h, by simp [repsF]⟩
  | succ r ih =>
    intro tm nss s out ht hs h
    obtain ⟨hr, htk⟩ := repF_right hb hp bs tm (by omega) nss hs s
    rcases h1 : repF bs bk tm nss s with ⟨x, s1⟩
    rw [h1] at hr htk
    simp only at hr htk
    cases hc : countsN nss x
    · rcases h2 : pickF bs 3 s1 with ⟨q, s2⟩
      by_cases hq : 0 < q
      · rw [repsF_skip bs bk r tm nss s s1 s2 out x q h1 hc h2 hq]
        obtain ⟨tm', a, b⟩ := ih tm nss s2 out (by omega) hs h
        exact ⟨tm', a, by omega⟩
      · rcases h3 : pickF bs 9 s2 with ⟨d, s3⟩
        have l3 := pickF_lt bs 9 s2
        rw [h3] at l3
        simp only at l3
        rw [repsF_odd bs bk r tm nss s s1 s2 s3 out x q d h1 hc h2 hq h3]
        obtain ⟨tm', a, b⟩ := ih (tm + d) nss s3 (out ++ [x]) (by omega) hs (h.snoc x hr htk d)
        exact ⟨tm', a, by simp at b; omega⟩
    · rcases h3 : pickF bs 9 s1 with ⟨d, s3⟩
      have l3 := pickF_lt bs 9 s1
      rw [h3] at l3
      simp only at l3
      rw [repsF_yes bs bk r tm nss s s1 s3 out x d h1 hc h3]
      have hsh : ShapeOf bk (nss.modify x.trip.toNat (doRow x)) := by
        have := shape_step hs x.tick x
        unfold stepNews at this
        rwa [if_pos ⟨Int.le_refl _, hc⟩] at this
      obtain ⟨tm', a, b⟩ := ih (tm + d) _ s3 (out ++ [x]) (by omega) hsh (h.snoc x hr htk d)
      exact ⟨tm', a, by simp at b; omega⟩
theorem RepsRight.reportsB {bk : BookD} {tm : Nat} {rs : List RepD} (h : RepsRight bk tm rs) (hf : (faultD bk).1 = 0) (hl : rs.length ≤ 500) : reportsB bk rs = true := by
  rw [reportsB_all (fun k hk => by rw [repAtB_at bk rs k hk, (h.each k hk).1, decide_eq_true (h.each k hk).2.1]; rfl), hf, decide_eq_true hl]; rfl
theorem reportsF_right {bk : BookD} (hb : BookDrawn bk) (bs : List Int) (s : Rd) : reportsB bk (reportsF bs bk s).1 = true ∧ (reportsF bs bk s).1.length ≤ 20 := by
  by_cases hp : 0 < bk.trips.length
  · rcases h1 : pickF bs 20 s with ⟨a, s1⟩
    rcases h2 : pickF bs 20 s1 with ⟨n, s2⟩
    have l1 := pickF_lt bs 20 s
    have l2 := pickF_lt bs 20 s1
    rw [h1] at l1; rw [h2] at l2
    simp only at l1 l2
    rw [reportsF_yes bs bk s s1 s2 a n hb.fault hp h1 h2]
    obtain ⟨tm', g1, g2⟩ := repsF_right hb hp bs n a (startNews bk) s2 [] (by omega) (shape_start bk) ⟨fun k h => by simp at h⟩
    simp only [List.length_nil] at g2
    exact ⟨g1.reportsB hb.fault (by omega), by omega⟩
  · rw [reportsF_no bs bk s (Or.inr (by omega))]
    exact ⟨RepsRight.reportsB (tm := 0) ⟨fun k h => by simp at h⟩ hb.fault (by simp), by simp⟩
/-- A drawn book and its reports. -/
def drawnF (bs : List Int) : BookD × List RepD := ((bookF bs ⟨0, 0⟩).1, (reportsF bs (bookF bs ⟨0, 0⟩).1 (bookF bs ⟨0, 0⟩).2).1)
theorem drawnF_book (bs : List Int) : BookDrawn (drawnF bs).1 := bookF_drawn bs ⟨0, 0⟩ (bookF bs ⟨0, 0⟩).2 _ rfl
theorem drawnF_reports (bs : List Int) : reportsB (drawnF bs).1 (drawnF bs).2 = true ∧ (drawnF bs).2.length ≤ 20 := reportsF_right (drawnF_book bs) bs _

end Go.Proofs.YtjioingdpfgadaaDoor
namespace Go.Proofs.YtjioingdpfgadaaDoor
open Go Go.RowKit Go.Deep

theorem reports_any (C : Nat) (ca : Option Addr) (bs : List Int) (cap m B : Nat) (s0 : Rd) (v : Value) (bk : BookD) (w : World) (hm : m ≤ 1000000) (hn : bookSize bk ≤ 1000) (hown : BookOwn B w v bk) (hC : C < B) (hB : B ≤ w.heap.size) (hcode : ∀ b o, ca = some ⟨b, o, none⟩ → b < w.heap.size) (h : CurAt w C ca bs cap s0 m) :
    Calls Tryd.prog 42 #[.pointer (some ⟨C, 0, none⟩), v] w fun e w' => RepsDrawn C ca bs cap m bk s0 w e w' := by
  by_cases hf : (faultD bk).1 = 0
  · by_cases hp : 0 < bk.trips.length
    · obtain ⟨sv, tv, vs, rfl, h1, h2⟩ := hown
      exact reports_yes C ca bs cap m B s0 sv tv bk w hm hn ⟨sv, tv, vs, rfl, h1, h2⟩ hC hB hcode h hf hp
    · exact reports_no C ca bs cap m s0 v bk w (by omega) hown.at h (Or.inr (by omega))
  · exact reports_no C ca bs cap m s0 v bk w (by omega) hown.at h (Or.inl hf)
theorem KeepC.toBelow {C n0 : Nat} {w w' : World} (h : KeepC C n0 w w') (hC : n0 ≤ C) : Below n0 w w' := ⟨h.os, h.tape, h.output, h.size, fun k hk => h.block k hk (by omega)⟩
theorem BookOwn.grown {B g : Nat} {w w' : World} {v : Value} {bk : BookD} (h : BookOwn B w v bk) (hg : w.grownBy w' (some g)) (hB : g < B) : BookOwn B w' v bk := by
  obtain ⟨sv, tv, vs, rfl, h1, h2⟩ := h
  exact ⟨sv, tv, vs, rfl, h1.kept hg (Or.inr (fun e => by have := (h1.lt _ e).1; omega)), h2.other hg hB⟩
/-- What Drawn leaves. -/
def DrawnOf (bs : List Int) (w : World) (e : Ending) (w' : World) : Prop := ∃ v rv, e = .returned (.tuple #[v, rv]) ∧ BookOwn w.heap.size w' v (drawnF bs).1 ∧ w'.ownsRow w.heap.size 45 5 rv (drawnF bs).2.length (fives (drawnF bs).2) ∧ Below w.heap.size w w'

set_option maxRecDepth 100000 in
set_option maxHeartbeats 4000000 in
theorem drawn_any (ca : Option Addr) (bs : List Int) (cap : Nat) (w : World) (hcode : BytesAt w ca bs) (hlow : ∀ b o, ca = some ⟨b, o, none⟩ → b < w.heap.size) :
    Calls Tryd.prog 12 #[.slice ca bs.length cap] w fun e w' => DrawnOf bs w e w' := by
  obtain ⟨W1, hW1⟩ : ∃ W1, (w.alloc (.cells #[.slice none 0 0, .slice none 0 0] 26)).alloc (.cells #[.slice ca bs.length cap, .int .i64 0, .int .u64 0] 83) = W1 := ⟨_, rfl⟩
  have hs1 : W1.heap.size = w.heap.size + 1 + 1 := by subst hW1; simp
  have hb1 : Below w.heap.size w W1 := by subst hW1; exact ((Below.refl _ _).alloc (Nat.le_refl _) _).alloc (by simp) _
  have HR1 : Hid (W1.heap[w.heap.size]? = some (.cells #[.slice none 0 0, .slice none 0 0] 26 (0, 0))) := by
    subst hW1
    unfold Hid
    rw [Below.heap_alloc _ _ _ (by simp)]
    exact heap_alloc_last w _
  have HC1 : Hid (CurAt W1 (w.heap.size + 1) ca bs cap ⟨0, 0⟩ 0) := by
    refine ⟨Nat.le_refl _, by simp, by simp, ?_, hcode.keep hb1, fun b o e => by have := hlow b o e; omega⟩
    subst hW1
    have := heap_alloc_last (w.alloc (.cells #[.slice none 0 0, .slice none 0 0] 26)) (.cells #[.slice ca bs.length cap, .int .i64 0, .int .u64 0] 83)
    rw [World.size_alloc] at this
    exact this
  have HLO : Hid (∀ b o, ca = some ⟨b, o, none⟩ → b < w.heap.size) := hlow
  clear hlow hcode
  go_enter Tryd.func12, Tryd.ntmps12
  go_wp2_with fail
  refine (book_any (w.heap.size + 1) ca bs cap 0 ⟨0, 0⟩ _ (by omega) (by omega) (fun b o e => by have := HLO.out b o e; omega) HC1.out).mono ?_
  rintro e w2 ⟨bk, s2, sv, tv, vs, hbf, rfl, hsv, htv, hc2, hk2⟩
  have HBF : Hid (bookF bs ⟨0, 0⟩ = (bk, s2)) := hbf
  have HBK : Hid (BookOwn W1.heap.size w2 (.agg #[sv, tv]) bk) := ⟨sv, tv, vs, rfl, hsv, htv⟩
  obtain ⟨sa, sc, rfl⟩ := owns_slice hsv
  obtain ⟨ta, tc, rfl⟩ := owns_slice htv.outer
  have hz2 := hk2.size
  have HR2 : Hid (w2.heap[w.heap.size]? = some (.cells #[.slice none 0 0, .slice none 0 0] 26 (0, 0))) := by unfold Hid; rw [hk2.block _ (by omega) (by omega)]; exact HR1.out
  have HC2 : Hid (CurAt w2 (w.heap.size + 1) ca bs cap s2 10000) := hc2.more (by omega)
  have HK2 : Hid (KeepC (w.heap.size + 1) W1.heap.size W1 w2) := hk2
  have hdr := bookF_drawn bs ⟨0, 0⟩ s2 bk hbf
  have hsml := hdr.small
  clear hbf hsv htv hc2 hk2 hdr HC1 hW1
  go_wp2_with fail
  obtain ⟨w3, hw3⟩ : ∃ w3, w2.alloc (.cells #[.slice sa bk.sts.length sc, .slice ta bk.trips.length tc] 26) = w3 := ⟨_, rfl⟩
  obtain ⟨X, hX⟩ : ∃ X, w2.heap.size = X := ⟨_, rfl⟩
  have hb3 : Below w2.heap.size w2 w3 := by subst hw3; exact (Below.refl _ _).alloc (Nat.le_refl _) _
  have hz3 : w3.heap.size = X + 1 := by subst hw3; subst hX; simp
  have HX3 : Hid (w3.heap[X]? = some (.cells #[.slice sa bk.sts.length sc, .slice ta bk.trips.length tc] 26 (0, 0))) := by subst hw3; subst hX; exact heap_alloc_last w2 _
  have HBK3 : Hid (BookOwn W1.heap.size w3 (.agg #[.slice sa bk.sts.length sc, .slice ta bk.trips.length tc]) bk) := HBK.out.below hb3
  have HC3 : Hid (CurAt w3 (w.heap.size + 1) ca bs cap s2 10000) := HC2.out.keep hb3
  have HR3 : Hid (w3.heap[w.heap.size]? = some (.cells #[.slice none 0 0, .slice none 0 0] 26 (0, 0))) := (hb3.block _ (by omega)).trans HR2.out
  have HK3 : Hid (KeepC (w.heap.size + 1) W1.heap.size W1 w3) := HK2.out.trans (KeepC.below (hb3.mono (by omega)))
  obtain ⟨⟨c0, c1⟩, _⟩ := two_cells HX3.out
  rw [hw3, hX]
  have hXg : w.heap.size + 1 < X := by omega
  have hCX : X ≠ w.heap.size + 1 := by omega
  have hXw : X ≠ w.heap.size := by omega
  have HCALL : Hid (Calls Tryd.prog 42 #[.pointer (some ⟨w.heap.size + 1, 0, none⟩), .agg #[.slice sa bk.sts.length sc, .slice ta bk.trips.length tc]] w3.drew fun e w' => RepsDrawn (w.heap.size + 1) ca bs cap 10000 bk s2 w3.drew e w') :=
    reports_any (w.heap.size + 1) ca bs cap 10000 W1.heap.size s2 _ bk w3.drew (by omega) hsml (HBK3.out.below (Below.refl _ _).drew) (by omega) (by show _ ≤ w3.heap.size; omega) (fun b o e => by have := HLO.out b o e; show b < w3.heap.size; omega) (HC3.out.keep (Below.refl _ _).drew)
  clear hw3 hX hb3 HR2 HC2 HK2 HBK
  go_region_held3 (fun w' => w'.cell? ⟨X, 0, none⟩ = some (.slice sa bk.sts.length sc) ∧ w'.cell? ⟨X, 1, none⟩ = some (.slice ta bk.trips.length tc))
    (first | go_keep | (refine ⟨?_, ?_⟩ <;> (rw [cell_other (by simp; omega), cell_other (by simp; omega)]; assumption)))
    (first
      | (go_at_call 42; refine HCALL.out.mono ?_; rintro e w4 ⟨rs, s4, rv, hrf, rfl, hown4, hc4, hk4⟩; have K4 : KeepC (w.heap.size + 1) w3.heap.size w3 w4 := (KeepC.below (Below.refl _ _).drew).trans hk4; have g0 := K4.cell c0 (by omega) hCX; have g1 := K4.cell c1 (by omega) hCX; have HR4 : Hid (w4.heap[w.heap.size]? = some (.cells #[.slice none 0 0, .slice none 0 0] 26 (0, 0))) := (K4.block _ (by omega) (by omega)).trans HR3.out; obtain ⟨⟨z0, z1⟩, zf⟩ := two_cells HR4.out; have zf0 := zf 0; have zf1 := zf 1; clear zf))
  have HEQ : Hid (drawnF bs = (bk, rs)) := by unfold Hid drawnF; rw [HBF.out, hrf]
  have HKE : Hid (KeepC (w.heap.size + 1) w.heap.size w ((w4.setCell ⟨w.heap.size, 0, none⟩ (.slice sa bk.sts.length sc)).setCell ⟨w.heap.size, 1, none⟩ (.slice ta bk.trips.length tc))) :=
    (((KeepC.below hb1).trans (HK3.out.mono (by omega))).trans (K4.mono (by omega))).trans (KeepC.set2 w4 w.heap.size _ _ (Nat.le_refl _))
  have HBE : Hid (BookOwn w.heap.size ((w4.setCell ⟨w.heap.size, 0, none⟩ (.slice sa bk.sts.length sc)).setCell ⟨w.heap.size, 1, none⟩ (.slice ta bk.trips.length tc)) (.agg #[.slice sa bk.sts.length sc, .slice ta bk.trips.length tc]) bk) :=
    (((HBK3.out.keepC K4 (by omega)).grown (set_grown w4 w.heap.size 0 _) (by omega)).grown (set_grown _ w.heap.size 1 _) (by omega)).mono (by omega)
  have hlow4 : X + 1 ≤ w3.drew.heap.size := by show X + 1 ≤ w3.heap.size; omega
  have HOE : Hid (((w4.setCell ⟨w.heap.size, 0, none⟩ (.slice sa bk.sts.length sc)).setCell ⟨w.heap.size, 1, none⟩ (.slice ta bk.trips.length tc)).ownsRow w.heap.size 45 5 rv rs.length (fives rs)) := by
    have h1 := hown4.kept (set_grown w4 w.heap.size 0 (.slice sa bk.sts.length sc)) (Or.inr (fun e => by have := (hown4.lt _ e).1; omega))
    have h2 := h1.kept (set_grown _ w.heap.size 1 (.slice ta bk.trips.length tc)) (Or.inr (fun e => by have := (h1.lt _ e).1; omega))
    exact owns_mono h2 (by omega)
  have HRE : Hid (((w4.setCell ⟨w.heap.size, 0, none⟩ (.slice sa bk.sts.length sc)).setCell ⟨w.heap.size, 1, none⟩ (.slice ta bk.trips.length tc)).heap[w.heap.size]? = some (.cells #[.slice sa bk.sts.length sc, .slice ta bk.trips.length tc] 26 (0, 0))) := by
    unfold Hid; simp [World.setCell, Array.getElem?_modify, HR4.out]
  clear hrf hown4 hc4 hk4 K4 g0 g1 z0 z1 zf0 zf1 c0 c1 HCALL
  go_wp2_with fail
  refine bodyPost_ret (v := .tuple #[.agg #[.slice sa bk.sts.length sc, .slice ta bk.trips.length tc], rv]) ?_ rfl ⟨_, rv, rfl, ?_, ?_, HKE.out.toBelow (by omega)⟩
  · exact results_row_tmp Tryd.results12 _ _ w.heap.size 26 _ (0, 0) _ rfl HRE.out Tryd.underlying26 rfl infBook
  · rw [HEQ.out]; exact HBE.out
  · rw [HEQ.out]; exact HOE.out

end Go.Proofs.YtjioingdpfgadaaDoor
