import Derived.Test.YtjioingdpfgadaaDoorProg
import Derived.Test.YtjioingdpfgadaaDoorHeapM
import Derived.Test.YtjioingdpfgadaaDoorSpecOM
namespace Go.Proofs.YtjioingdpfgadaaDoor
open Go Go.RowKit Go.Deep

/-- Calls of a trip as they are drawn: r rounds more. -/
def callsF (bs : List Int) (n step : Nat) : Nat → Nat → Nat → Rd → List CallD → List CallD × Rd
  | 0, _, _, s, cs => (cs, s)
  | r + 1, tm, st, s, cs =>
    if cs.any (fun c => c.st == (st : Int)) then callsF bs n step r tm ((st + step) % n) s cs
    else callsF bs n step r (tm + (pickF bs 6 s).1 + 1 + (pickF bs 20 (pickF bs 4 (pickF bs 6 s).2).2).1) ((st + step) % n) (pickF bs 20 (pickF bs 4 (pickF bs 6 s).2).2).2
      (cs ++ [⟨st, tm, ((tm + (pickF bs 6 s).1 : Nat) : Int), ((1 + (pickF bs 4 (pickF bs 6 s).2).1 : Nat) : Int)⟩])
theorem callsF_met (bs : List Int) (n step r tm st : Nat) (s : Rd) (cs : List CallD) (h : cs.any (fun c => c.st == (st : Int)) = true) : callsF bs n step (r + 1) tm st s cs = callsF bs n step r tm ((st + step) % n) s cs := by
  rw [callsF, if_pos h]
theorem callsF_new (bs : List Int) (n step r tm st : Nat) (s s1 s2 s3 : Rd) (x y z : Nat) (cs : List CallD) (h : cs.any (fun c => c.st == (st : Int)) = false) (h1 : pickF bs 6 s = (x, s1)) (h2 : pickF bs 4 s1 = (y, s2)) (h3 : pickF bs 20 s2 = (z, s3)) : callsF bs n step (r + 1) tm st s cs = callsF bs n step r (tm + x + 1 + z) ((st + step) % n) s3 (cs ++ [⟨st, tm, ((tm + x : Nat) : Int), ((1 + y : Nat) : Int)⟩]) := by
  rw [callsF, if_neg (by rw [h]; simp), h1, h2, h3]
/-- One trip's calls. -/
def tripF (bs : List Int) (n : Nat) (s : Rd) : List CallD × Rd :=
  callsF bs n (1 + (pickF bs (n - 1) (pickF bs n (pickF bs 60 s).2).2).1) (2 + (pickF bs (n - 1) (pickF bs (n - 1) (pickF bs n (pickF bs 60 s).2).2).2).1) (pickF bs 60 s).1 (pickF bs n (pickF bs 60 s).2).1 (pickF bs (n - 1) (pickF bs (n - 1) (pickF bs n (pickF bs 60 s).2).2).2).2 []
theorem tripF_eq (bs : List Int) (n : Nat) (s s1 s2 s3 s4 : Rd) (a b c d : Nat) (h1 : pickF bs 60 s = (a, s1)) (h2 : pickF bs n s1 = (b, s2)) (h3 : pickF bs (n - 1) s2 = (c, s3)) (h4 : pickF bs (n - 1) s3 = (d, s4)) : tripF bs n s = callsF bs n (1 + c) (2 + d) a b s4 [] := by
  unfold tripF; rw [h1, h2, h3, h4]
theorem decF_le (f k : Nat) : (decF f k).length ≤ f := by
  induction f generalizing k with
  | zero => simp [decF]
  | succ f ih =>
    unfold decF
    split
    · simp
    · have := ih (k / 10); simp; omega
theorem decL_le (k : Nat) : (⟨(decL k).toArray⟩ : ByteArray).size ≤ 20 := by
  have : (decL k).length ≤ 20 := by
    unfold decL
    split
    · simp
    · exact decF_le 20 k
  simpa [ByteArray.size] using this
def tripName (k : Nat) : ByteArray := ⟨#[84]⟩ ++ ⟨(decL k).toArray⟩
/-- Trips as they are drawn: k rounds more. -/
def tripsF (bs : List Int) (n : Nat) : Nat → Rd → List TripD → List TripD × Rd
  | 0, s, ts => (ts, s)
  | k + 1, s, ts => tripsF bs n k (tripF bs n s).2 (if 2 ≤ (tripF bs n s).1.length then ts ++ [⟨tripName (k + 1), (tripF bs n s).1⟩] else ts)
theorem tripsF_yes (bs : List Int) (n k : Nat) (s s' : Rd) (ts : List TripD) (cs : List CallD) (h : tripF bs n s = (cs, s')) (hl : 2 ≤ cs.length) : tripsF bs n (k + 1) s ts = tripsF bs n k s' (ts ++ [⟨tripName (k + 1), cs⟩]) := by
  rw [tripsF, h, if_pos hl]
theorem tripsF_no (bs : List Int) (n k : Nat) (s s' : Rd) (ts : List TripD) (cs : List CallD) (h : tripF bs n s = (cs, s')) (hl : ¬ 2 ≤ cs.length) : tripsF bs n (k + 1) s ts = tripsF bs n k s' ts := by
  rw [tripsF, h, if_neg hl]
def stationsF (n : Nat) : List ByteArray := (List.range n).map nameF
theorem stationsF_succ (n : Nat) : stationsF (n + 1) = stationsF n ++ [nameF n] := by simp [stationsF, List.range_succ]
theorem stationsF_length (n : Nat) : (stationsF n).length = n := by simp [stationsF]
/-- A book as it is drawn. -/
def bookF (bs : List Int) (s : Rd) : BookD × Rd :=
  (⟨stationsF (2 + (pickF bs 5 s).1), (tripsF bs (2 + (pickF bs 5 s).1) (pickF bs 6 (pickF bs 5 s).2).1 (pickF bs 6 (pickF bs 5 s).2).2 []).1⟩, (tripsF bs (2 + (pickF bs 5 s).1) (pickF bs 6 (pickF bs 5 s).2).1 (pickF bs 6 (pickF bs 5 s).2).2 []).2)
theorem bookF_eq (bs : List Int) (s s1 s2 s3 : Rd) (a b : Nat) (ts : List TripD) (h1 : pickF bs 5 s = (a, s1)) (h2 : pickF bs 6 s1 = (b, s2)) (h3 : tripsF bs (2 + a) b s2 [] = (ts, s3)) : bookF bs s = (⟨stationsF (2 + a), ts⟩, s3) := by
  unfold bookF; rw [h1, h2, h3]

/-! What is drawn is right. -/
/-- Calls in the making, the next one at tm or behind. -/
structure CallsRight (n tm : Nat) (cs : List CallD) : Prop where
  calls : ∀ k (h : k < cs.length), 0 ≤ cs[k].st ∧ cs[k].st < n ∧ prevGo cs k ≤ cs[k].co ∧ cs[k].co ≤ cs[k].go ∧ cs[k].go ≤ tm ∧ 1 ≤ cs[k].tr ∧ cs[k].tr ≤ 4
  apart : ∀ i k (hi : i < cs.length) (hk : k < i), cs[k].st ≠ cs[i].st
theorem callsRight_nil (n tm : Nat) : CallsRight n tm [] := ⟨fun k h => by simp at h, fun i k hi => by simp at hi⟩
theorem prevGo_append (cs : List CallD) (c : CallD) (k : Nat) (h : k ≤ cs.length) : prevGo (cs ++ [c]) k = prevGo cs k := by
  cases k with
  | zero => rfl
  | succ k => simp only [prevGo]; rw [List.getElem?_append_left (by omega)]
theorem CallsRight.snoc {n tm : Nat} {cs : List CallD} (h : CallsRight n tm cs) (st x y z : Nat) (hs : st < n) (hany : cs.any (fun c => c.st == (st : Int)) = false) (hy : y ≤ 3) : CallsRight n (tm + x + 1 + z) (cs ++ [⟨st, tm, ((tm + x : Nat) : Int), ((1 + y : Nat) : Int)⟩]) := by
  refine ⟨fun k hk => ?_, fun i k hi hk => ?_⟩
  · rw [prevGo_append _ _ k (by simp at hk; omega)]
    by_cases hl : k < cs.length
    · rw [List.getElem_append_left hl]
      have := h.calls k hl
      omega
    · have e : k = cs.length := by simp at hk; omega
      subst e
      rw [List.getElem_append_right (Nat.le_refl _)]
      simp only [Nat.sub_self, List.getElem_cons_zero]
      refine ⟨by omega, by omega, ?_, by omega, by omega, by omega, by omega⟩
      cases hc : cs.length with
      | zero => simp [prevGo]
      | succ j =>
        have := (h.calls j (by omega)).2.2.2.2.1
        rw [prevGo_succ cs j (by omega)]
        omega
  · by_cases hl : i < cs.length
    · rw [List.getElem_append_left hl, List.getElem_append_left (by omega)]
      exact h.apart i k hl hk
    · have e : i = cs.length := by simp at hi; omega
      subst e
      rw [List.getElem_append_left hk, List.getElem_append_right (Nat.le_refl _)]
      simp only [Nat.sub_self, List.getElem_cons_zero]
      rw [List.any_eq_false] at hany
      have := hany cs[k] (List.getElem_mem hk)
      simpa using this
theorem callsF_right (bs : List Int) (n step : Nat) (hn : 0 < n) : ∀ (r tm st : Nat) (s : Rd) (cs : List CallD), st < n → CallsRight n tm cs → ∃ tm', tm' ≤ tm + r * 25 ∧ CallsRight n tm' (callsF bs n step r tm st s cs).1 ∧ (callsF bs n step r tm st s cs).1.length ≤ cs.length + r := by
  intro r
  induction r with
  | zero => intro tm st s cs _ h; exact ⟨tm, by omega, h, by simp [callsF]⟩
  | succ r ih =>
    intro tm st s cs hst h
    have hst' : (st + step) % n < n := Nat.mod_lt _ hn
    cases hany : cs.any (fun c => c.st == (st : Int))
    · rcases h1 : pickF bs 6 s with ⟨x, s1⟩
      rcases h2 : pickF bs 4 s1 with ⟨y, s2⟩
      rcases h3 : pickF bs 20 s2 with ⟨z, s3⟩
      have l1 := pickF_lt bs 6 s
      have l2 := pickF_lt bs 4 s1
      have l3 := pickF_lt bs 20 s2
      rw [h1] at l1; rw [h2] at l2; rw [h3] at l3
      simp only at l1 l2 l3
      rw [callsF_new bs n step r tm st s s1 s2 s3 x y z cs hany h1 h2 h3]
      obtain ⟨tm', a, b, c⟩ := ih (tm + x + 1 + z) _ s3 _ hst' (h.snoc st x y z hst hany (by omega))
      refine ⟨tm', by omega, b, ?_⟩
      simp only [List.length_append, List.length_cons, List.length_nil] at c
      omega
    · rw [callsF_met bs n step r tm st s cs hany]
      obtain ⟨tm', a, b, c⟩ := ih tm _ s cs hst' h
      exact ⟨tm', by omega, b, by omega⟩

end Go.Proofs.YtjioingdpfgadaaDoor
