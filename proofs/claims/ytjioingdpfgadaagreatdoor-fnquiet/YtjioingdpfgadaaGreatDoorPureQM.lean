import Derived.Test.YtjioingdpfgadaaGreatDoorSpecDM
namespace Go.Proofs.YtjioingdpfgadaaGreatDoor
open Go Go.RowKit Go.Deep

/-- A trip's row as it is planned. -/
def planRow (cs : List CallD) (i : Nat) (c : CallD) : RowD := ⟨i, (cs[cs.length - 1]?.map (·.st)).getD 0, c.go, c.go, c.tr, 0⟩
theorem endD_start (cs : List CallD) (h : 0 < cs.length) : endD cs (startRow cs) = (cs[cs.length - 1]?.map (·.st)).getD 0 := by
  obtain ⟨n, hn⟩ : ∃ n, cs.length = n + 1 := ⟨cs.length - 1, by omega⟩
  have hl : n < cs.length := by omega
  unfold endD
  rw [hn, endTo_succ cs (startRow cs) n hl (by simp [startRow]; omega)]
  simp [startRow, startOf, List.getElem?_eq_getElem hl]
theorem firstIdx_of_call {cs : List CallD} {s : Int} {k : Nat} (h : callAtC cs s = (k : Int)) : firstIdx (atStation cs s) cs.length = some k := by
  cases e : firstIdx (atStation cs s) cs.length with
  | none => rw [callAtC_none e] at h; omega
  | some j => rw [callAtC_some e] at h; congr 1; omega
theorem row_start {bk : BookD} {s tick : Int} (hf : (faultD bk).1 = 0) {i k : Nat} (hi : i < bk.trips.length) (hk : k < bk.trips[i].calls.length) (hc : callAtC bk.trips[i].calls s = (k : Int)) (hl : k + 1 ≠ bk.trips[i].calls.length) :
    rowOfTrip bk (startNews bk) s tick i = some (planRow bk.trips[i].calls i bk.trips[i].calls[k]) := by
  have hfi := firstIdx_of_call hc
  have hnd := tripB_nodup ((faultD_zero hf).2 i hi)
  have hin : i < (startNews bk).length := by simpa [startNews] using hi
  have e1 : (startNews bk)[i] = startRow bk.trips[i].calls := by simp [startNews]
  have hkn : k < (startRow bk.trips[i].calls).length := by simpa [startRow] using hk
  have e2 : (startRow bk.trips[i].calls)[k] = startOf bk.trips[i].calls[k] := by simp [startRow]
  unfold rowOfTrip
  rw [List.getElem?_eq_getElem hi, List.getElem?_eq_getElem hin]
  simp only [hfi]
  rw [List.getElem?_eq_getElem hk, e1, List.getElem?_eq_getElem hkn, e2]
  simp only
  have hne : endD bk.trips[i].calls (startRow bk.trips[i].calls) ≠ bk.trips[i].calls[k].st := by
    have hll : bk.trips[i].calls.length - 1 < bk.trips[i].calls.length := by omega
    rw [endD_start _ (by omega), List.getElem?_eq_getElem hll]
    simp only [Option.map_some, Option.getD_some]
    unfold stationsOf at hnd
    rw [List.nodup_iff_pairwise_ne, List.pairwise_iff_getElem] at hnd
    have := hnd k (bk.trips[i].calls.length - 1) (by simpa using hk) (by simpa using hll) (by omega)
    simp at this
    exact fun e => this e.symm
  have hrow : rowAt bk.trips[i].calls (startRow bk.trips[i].calls) i k bk.trips[i].calls[k] (startOf bk.trips[i].calls[k]) tick = (planRow bk.trips[i].calls i bk.trips[i].calls[k], true) := by
    unfold rowAt
    rw [if_neg (by simp [startOf, hl]), if_neg (by simp [startOf]), if_neg (by simp [startOf]), if_neg (by simp [startOf]), bne_iff_ne.2 hne, endD_start _ (by omega)]
    simp [planRow, startOf]
  rw [hrow]
  simp
theorem row_none {bk : BookD} {nss : List (List NewsD)} {s tick : Int} {i : Nat} (hi : i < bk.trips.length) (hc : callAtC bk.trips[i].calls s < 0 ∨ callAtC bk.trips[i].calls s + 1 = bk.trips[i].calls.length) : rowOfTrip bk nss s tick i = none := by
  unfold rowOfTrip
  rw [List.getElem?_eq_getElem hi]
  split
  · rename_i t ns ht hn
    simp only [Option.some.injEq] at ht
    subst ht
    split
    · rfl
    · rename_i k hk
      have hck := callAtC_some hk
      split
      · have hk1 : k + 1 = bk.trips[i].calls.length := by omega
        unfold rowAt
        rw [if_pos (Or.inl hk1)]
        simp
      · rfl
  · rfl
/-- The trips that a quiet board shows. -/
def goesB (bk : BookD) (s : Int) (i : Nat) : Bool := match bk.trips[i]? with
  | some t => decide (0 ≤ callAtC t.calls s ∧ callAtC t.calls s + 1 ≠ t.calls.length)
  | none => false
def quietTo (bk : BookD) (s : Int) : Nat → Nat
  | 0 => 0
  | n + 1 => quietTo bk s n + (if goesB bk s n then 1 else 0)
theorem goesB_at (bk : BookD) (s : Int) (i : Nat) (h : i < bk.trips.length) : goesB bk s i = decide (0 ≤ callAtC bk.trips[i].calls s ∧ callAtC bk.trips[i].calls s + 1 ≠ bk.trips[i].calls.length) := by
  unfold goesB; rw [List.getElem?_eq_getElem h]
theorem quietTo_le (bk : BookD) (s : Int) (n : Nat) : quietTo bk s n ≤ n := by
  induction n with
  | zero => simp [quietTo]
  | succ n ih => unfold quietTo; split <;> omega
theorem callAt_nat {cs : List CallD} {s : Int} (h : 0 ≤ callAtC cs s) : ∃ k : Nat, k < cs.length ∧ callAtC cs s = (k : Int) := by
  cases e : firstIdx (atStation cs s) cs.length with
  | none => rw [callAtC_none e] at h; omega
  | some j => exact ⟨j, firstIdx_lt e, callAtC_some e⟩
theorem collect_quiet {bk : BookD} {s tick : Int} (hf : (faultD bk).1 = 0) (n : Nat) (hn : n ≤ bk.trips.length) : (collect bk (startNews bk) s tick n).length = quietTo bk s n ∧
    ∀ i k (hi : i < bk.trips.length) (hk : k < bk.trips[i].calls.length), i < n → callAtC bk.trips[i].calls s = (k : Int) → k + 1 ≠ bk.trips[i].calls.length → planRow bk.trips[i].calls i bk.trips[i].calls[k] ∈ collect bk (startNews bk) s tick n := by
  induction n with
  | zero => exact ⟨rfl, fun i k hi hk h0 => by omega⟩
  | succ n ih =>
    obtain ⟨h1, h2⟩ := ih (by omega)
    constructor
    · rw [collect, quietTo, List.length_append, h1, goesB_at bk s n (by omega)]
      by_cases hg : 0 ≤ callAtC bk.trips[n].calls s ∧ callAtC bk.trips[n].calls s + 1 ≠ bk.trips[n].calls.length
      · obtain ⟨k, hk, e⟩ := callAt_nat hg.1
        rw [row_start hf (by omega) hk e (by omega), if_pos (decide_eq_true hg)]; rfl
      · rw [row_none (by omega) (by omega), if_neg (by simp only [decide_eq_true_eq]; exact hg)]; rfl
    · intro i k hi hk hin hc hl
      rw [collect]
      by_cases e : i = n
      · subst e
        rw [row_start hf hi hk hc hl]
        exact List.mem_append.2 (Or.inr (by simp))
      · exact List.mem_append.2 (Or.inl (h2 i k hi hk (by omega) hc hl))
theorem pick_full (n : Nat) : ∀ (all : List RowD), all.length ≤ n → (pick n all).Perm all := by
  induction n with
  | zero => intro all h; have : all = [] := List.eq_nil_of_length_eq_zero (by omega); subst this; exact List.Perm.refl _
  | succ n ih =>
    intro all h
    by_cases h0 : 0 < all.length
    · rw [pick_cons n all (bestOf_lt all h0)]
      have hl : (all.eraseIdx (bestOf all)).length ≤ n := by rw [List.length_eraseIdx, if_pos (bestOf_lt all h0)]; omega
      exact ((ih _ hl).cons _).trans (bestOf_perm all h0).symm
    · have : all = [] := List.eq_nil_of_length_eq_zero (by omega)
      rw [this, pick_nil]
/-- A board of which nothing was told. -/
structure QuietOf (bk : BookD) (s : Int) (R : List RowD) : Prop where
  len : R.length = quietTo bk s bk.trips.length
  mem : ∀ i k (hi : i < bk.trips.length) (hk : k < bk.trips[i].calls.length), callAtC bk.trips[i].calls s = (k : Int) → k + 1 ≠ bk.trips[i].calls.length → planRow bk.trips[i].calls i bk.trips[i].calls[k] ∈ R
  srt : ∀ i (h : i + 1 < R.length), R[i].expect ≤ R[i + 1].expect
theorem reportsB_nil {bk : BookD} (hf : (faultD bk).1 = 0) : reportsB bk [] = true := by
  rw [reportsB_all (fun k hk => by simp at hk), hf]; rfl
theorem quiet_board {bk : BookD} {s tick : Int} (hf : (faultD bk).1 = 0) (h40 : bk.trips.length ≤ 40) (hs : 0 ≤ s ∧ s < bk.sts.length) (ht : 0 ≤ tick ∧ tick ≤ 1000000) : QuietOf bk s (boardD bk [] s tick 40) := by
  have e : boardD bk [] s tick 40 = pick 40 (collect bk (startNews bk) s tick bk.trips.length) := by
    unfold boardD; rw [if_pos ⟨reportsB_nil hf, hs, ht, by omega⟩]; rfl
  have hp := pick_full 40 (collect bk (startNews bk) s tick bk.trips.length) (Nat.le_trans (collect_length _ _ _ _ _) h40)
  obtain ⟨h1, h2⟩ := collect_quiet (s := s) (tick := tick) hf bk.trips.length (Nat.le_refl _)
  refine ⟨by rw [e, hp.length_eq, h1], fun i k hi hk hc hl => by rw [e]; exact hp.mem_iff.2 (h2 i k hi hk hi hc hl), fun i h => ?_⟩
  have hs' := pick_sorted 40 (collect bk (startNews bk) s tick bk.trips.length)
  rw [← e, List.pairwise_iff_getElem] at hs'
  have := hs' i (i + 1) (by omega) h (by omega)
  rw [leD_iff] at this
  omega
theorem known_nil {bk : BookD} (hf : (faultD bk).1 = 0) (t : Int) : knownD bk [] t = startNews bk := by
  unfold knownD; rw [reportsB_nil hf]; rfl

end Go.Proofs.YtjioingdpfgadaaGreatDoor
