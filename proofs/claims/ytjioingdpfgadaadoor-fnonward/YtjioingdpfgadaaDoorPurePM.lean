import Derived.Test.YtjioingdpfgadaaDoorSpecOM
import Derived.Test.YtjioingdpfgadaaDoorSayAM
import Derived.Test.YtjioingdpfgadaaDoorBoardCM
import Derived.Test.YtjioingdpfgadaaDoorSpecDM
import Derived.Test.YtjioingdpfgadaaDoorOnwAM
import Derived.Test.YtjioingdpfgadaaDoorDrwKM
namespace Go.Proofs.YtjioingdpfgadaaDoor
open Go Go.RowKit Go.Deep

/-- Reports by each and their order. -/
theorem reportsB_iff {bk : BookD} {rs : List RepD} : reportsB bk rs = true ↔ (faultD bk).1 = 0 ∧ rs.length ≤ 500 ∧ (∀ r ∈ rs, reportB bk r = true) ∧ rs.Pairwise (fun a b => a.tick ≤ b.tick) := by
  constructor
  · intro h
    obtain ⟨h1, h2, h3⟩ := reportsB_inv h
    refine ⟨h1, h2, fun r hr => ?_, ?_⟩
    · obtain ⟨i, hi, rfl⟩ := List.getElem_of_mem hr
      exact (h3 i hi).1
    · rw [List.pairwise_iff_getElem]
      intro i j hi hj hij
      have hstep : ∀ d (hd : i + d < rs.length), rs[i].tick ≤ rs[i + d].tick := by
        intro d
        induction d with
        | zero => intro _; exact Int.le_refl _
        | succ d ih =>
          intro hd
          have a1 := ih (by omega)
          have a2 := (h3 (i + d + 1) (by omega)).2
          rw [prevTick_succ rs (i + d) (by omega)] at a2
          have : i + (d + 1) = i + d + 1 := by omega
          simp only [this]
          omega
      have := hstep (j - i) (by omega)
      have e : i + (j - i) = j := by omega
      simp only [e] at this
      exact this
  · rintro ⟨h1, h2, h3, h4⟩
    rw [reportsB_all (fun k hk => ?_), h1, decide_eq_true h2]
    · rfl
    · rw [repAtB_at bk rs k hk, h3 _ (List.getElem_mem hk)]
      have : prevTick rs k ≤ rs[k].tick := by
        cases k with
        | zero => simp only [prevTick]; exact (reportB_head (h3 _ (List.getElem_mem hk))).2.1.1
        | succ j =>
          rw [prevTick_succ rs j (by omega)]
          rw [List.pairwise_iff_getElem] at h4
          exact h4 j (j + 1) (by omega) hk (by omega)
      rw [decide_eq_true this]; rfl
/-- What was told up to t. -/
def pastOf (t : Int) (rs : List RepD) : List RepD := rs.filter (fun r => decide (r.tick ≤ t))
theorem past_reports {bk : BookD} {rs : List RepD} (h : reportsB bk rs = true) (t : Int) : reportsB bk (pastOf t rs) = true := by
  obtain ⟨h1, h2, h3, h4⟩ := reportsB_iff.1 h
  refine reportsB_iff.2 ⟨h1, Nat.le_trans (List.length_filter_le _ _) h2, fun r hr => h3 r ((List.mem_filter.1 hr).1), h4.filter _⟩
theorem newsTo_past (bk : BookD) (t : Int) (rs : List RepD) : newsTo bk t (pastOf t rs) = newsTo bk t rs := by
  unfold newsTo pastOf
  rw [List.foldl_filter]
  congr 1
  funext nss r
  by_cases h : r.tick ≤ t
  · simp [h]
  · simp only [h, decide_false, Bool.false_eq_true, if_false]
    exact (stepNews_no t nss r (fun e => h e.1)).symm
theorem newsTo_late (bk : BookD) (t M : Int) (htM : t ≤ M) (rs : List RepD) : newsTo bk M (pastOf t rs) = newsTo bk t rs := by
  rw [← newsTo_past bk t rs]
  unfold newsTo
  have hall : ∀ r ∈ pastOf t rs, r.tick ≤ t := fun r hr => by simpa using (List.mem_filter.1 hr).2
  generalize pastOf t rs = l at *
  generalize startNews bk = s
  induction l generalizing s with
  | nil => rfl
  | cons r l ih =>
    simp only [List.foldl_cons]
    have h1 := hall r (by simp)
    have e : stepNews M s r = stepNews t s r := by
      unfold stepNews
      have : (r.tick ≤ M ∧ countsN s r = true) ↔ (r.tick ≤ t ∧ countsN s r = true) := by constructor <;> (rintro ⟨_, h⟩; exact ⟨by omega, h⟩)
      simp only [this]
    rw [e]
    exact ih (fun x hx => hall x (by simp [hx])) _
theorem board_past {bk : BookD} {rs : List RepD} (h : reportsB bk rs = true) (s t n : Int) : boardD bk (pastOf t rs) s t n = boardD bk rs s t n := by
  unfold boardD
  rw [past_reports h t, h, newsTo_past]
theorem known_past {bk : BookD} {rs : List RepD} (h : reportsB bk rs = true) (t : Int) : knownD bk (pastOf t rs) t = knownD bk rs t := by
  unfold knownD
  rw [past_reports h t, h, newsTo_past]
theorem known_late {bk : BookD} {rs : List RepD} (h : reportsB bk rs = true) (t M : Int) (htM : t ≤ M) : knownD bk (pastOf t rs) M = knownD bk rs t := by
  unfold knownD
  rw [past_reports h t, h, newsTo_late bk t M htM]
/-- With ticks in order the past is the first of the reports. -/
theorem past_take (t : Int) : ∀ (rs : List RepD), rs.Pairwise (fun a b => a.tick ≤ b.tick) → ∃ p, p ≤ rs.length ∧ pastOf t rs = rs.take p ∧ ∀ k (h : k < rs.length), p ≤ k → t < rs[k].tick := by
  intro rs
  induction rs with
  | nil => intro _; exact ⟨0, by simp, rfl, fun k h => by simp at h⟩
  | cons r l ih =>
    intro hp
    rw [List.pairwise_cons] at hp
    by_cases h : r.tick ≤ t
    · obtain ⟨p, h1, h2, h3⟩ := ih hp.2
      refine ⟨p + 1, by simp; omega, ?_, fun k hk hpk => ?_⟩
      · have e : pastOf t (r :: l) = r :: pastOf t l := by simp [pastOf, h]
        rw [e, h2]; simp
      · cases k with
        | zero => omega
        | succ k => exact h3 k (by simpa using hk) (by omega)
    · refine ⟨0, by simp, ?_, fun k hk _ => ?_⟩
      · have : ∀ x ∈ r :: l, ¬ x.tick ≤ t := fun x hx => by
          rcases List.mem_cons.1 hx with rfl | hx
          · exact h
          · have := hp.1 x hx; omega
        simp only [List.take_zero]
        exact List.filter_eq_nil_iff.2 (fun x hx => by simpa using this x hx)
      · cases k with
        | zero => simp; omega
        | succ k =>
          have hk' : k < l.length := by simpa using hk
          have := hp.1 l[k] (List.getElem_mem hk')
          simp; omega
theorem said_past {bk : BookD} {rs : List RepD} (s frm t : Int) (p : Nat) (hp : p ≤ rs.length) (hpast : ∀ k (h : k < rs.length), p ≤ k → t < rs[k].tick) : saidTo bk (rs.take p) s frm t (rs.take p).length = saidTo bk rs s frm t rs.length := by
  have hl : (rs.take p).length = p := by rw [List.length_take]; omega
  have h1 : ∀ k, k ≤ p → saidTo bk (rs.take p) s frm t k = saidTo bk rs s frm t k := by
    intro k
    induction k with
    | zero => intro _; rfl
    | succ k ih =>
      intro hk
      simp only [saidTo]
      rw [ih (by omega), saidAt_at _ _ _ _ _ _ (by omega : k < (rs.take p).length), saidAt_at _ _ _ _ _ _ (by omega : k < rs.length)]
      have e1 : (rs.take p).take k = rs.take k := by rw [List.take_take]; congr 1; omega
      have e2 : (rs.take p)[k]'(by omega) = rs[k]'(by omega) := List.getElem_take
      rw [e1, e2]
  have h2 : ∀ k, p ≤ k → k ≤ rs.length → saidTo bk rs s frm t k = saidTo bk rs s frm t p := by
    intro k
    induction k with
    | zero => intro h _; have : p = 0 := by omega
              rw [this]
    | succ k ih =>
      intro h1 h2
      by_cases e : p = k + 1
      · rw [e]
      · simp only [saidTo]
        rw [ih (by omega) (by omega), saidAt_at _ _ _ _ _ _ (by omega : k < rs.length), if_neg]
        · simp
        · rintro ⟨_, _, _, h4⟩
          have := hpast k (by omega) (by omega)
          omega
  rw [hl, h1 p (Nat.le_refl _), h2 rs.length hp (Nat.le_refl _)]
theorem say_past {bk : BookD} {rs : List RepD} (h : reportsB bk rs = true) (s frm t : Int) : sayD bk (pastOf t rs) s frm t = sayD bk rs s frm t := by
  obtain ⟨_, _, _, h4⟩ := reportsB_iff.1 h
  obtain ⟨p, hp, e, hlate⟩ := past_take t rs h4
  by_cases hs : 0 ≤ s ∧ s < bk.sts.length
  · rw [sayD_yes ⟨past_reports h t, hs⟩, sayD_yes ⟨h, hs⟩, e]
    exact said_past s frm t p hp hlate
  · rw [sayD_no (fun g => hs g.2), sayD_no (fun g => hs g.2)]

end Go.Proofs.YtjioingdpfgadaaDoor
namespace Go.Proofs.YtjioingdpfgadaaDoor
open Go Go.RowKit Go.Deep

/-- A trip's row as it is planned. -/
def planRow (cs : List CallD) (i : Nat) (c : CallD) : RowD := ⟨i, (cs[cs.length - 1]?.map (·.st)).getD 0, c.go, c.go, c.tr, 0⟩
theorem endD_start (cs : List CallD) (h : 0 < cs.length) : endD cs (startRow cs) = (cs[cs.length - 1]?.map (·.st)).getD 0 := by
  obtain ⟨n, hn⟩ : ∃ n, cs.length = n + 1 := ⟨cs.length - 1, by omega⟩
  have hl : n < cs.length := by omega
  unfold endD
  rw [hn, endTo_succ cs (startRow cs) n hl (by simp [startRow]; omega)]
  simp [startRow, startOf, List.getElem?_eq_getElem hl]
theorem firstIdx_of_call {cs : List CallD} {s : Int} {k : Nat} (h : callAtC cs s = (k : Int)) : firstIdx (atStation cs s) cs.length = some k := by
  cases e : firstIdx (atStation cs s) cs.length with
  | none => rw [callAtC_none e] at h; omega
  | some j => rw [callAtC_some e] at h; congr 1; omega
theorem row_start {bk : BookD} {s tick : Int} (hf : (faultD bk).1 = 0) {i k : Nat} (hi : i < bk.trips.length) (hk : k < bk.trips[i].calls.length) (hc : callAtC bk.trips[i].calls s = (k : Int)) (hl : k + 1 ≠ bk.trips[i].calls.length) :
    rowOfTrip bk (startNews bk) s tick i = some (planRow bk.trips[i].calls i bk.trips[i].calls[k]) := by
  have hfi := firstIdx_of_call hc
  have hnd := tripB_nodup ((faultD_zero hf).2 i hi)
  have hin : i < (startNews bk).length := by simpa [startNews] using hi
  have e1 : (startNews bk)[i] = startRow bk.trips[i].calls := by simp [startNews]
  have hkn : k < (startRow bk.trips[i].calls).length := by simpa [startRow] using hk
  have e2 : (startRow bk.trips[i].calls)[k] = startOf bk.trips[i].calls[k] := by simp [startRow]
  unfold rowOfTrip
  rw [List.getElem?_eq_getElem hi, List.getElem?_eq_getElem hin]
  simp only [hfi]
  rw [List.getElem?_eq_getElem hk, e1, List.getElem?_eq_getElem hkn, e2]
  simp only
  have hne : endD bk.trips[i].calls (startRow bk.trips[i].calls) ≠ bk.trips[i].calls[k].st := by
    have hll : bk.trips[i].calls.length - 1 < bk.trips[i].calls.length := by omega
    rw [endD_start _ (by omega), List.getElem?_eq_getElem hll]
    simp only [Option.map_some, Option.getD_some]
    unfold stationsOf at hnd
    rw [List.nodup_iff_pairwise_ne, List.pairwise_iff_getElem] at hnd
    have := hnd k (bk.trips[i].calls.length - 1) (by simpa using hk) (by simpa using hll) (by omega)
    simp at this
    exact fun e => this e.symm
  have hrow : rowAt bk.trips[i].calls (startRow bk.trips[i].calls) i k bk.trips[i].calls[k] (startOf bk.trips[i].calls[k]) tick = (planRow bk.trips[i].calls i bk.trips[i].calls[k], true) := by
    unfold rowAt
    rw [if_neg (by simp [startOf, hl]), if_neg (by simp [startOf]), if_neg (by simp [startOf]), if_neg (by simp [startOf]), bne_iff_ne.2 hne, endD_start _ (by omega)]
    simp [planRow, startOf]
  rw [hrow]
  simp
theorem row_none {bk : BookD} {nss : List (List NewsD)} {s tick : Int} {i : Nat} (hi : i < bk.trips.length) (hc : callAtC bk.trips[i].calls s < 0 ∨ callAtC bk.trips[i].calls s + 1 = bk.trips[i].calls.length) : rowOfTrip bk nss s tick i = none := by
  unfold rowOfTrip
  rw [List.getElem?_eq_getElem hi]
  split
  · rename_i t ns ht hn
    simp only [Option.some.injEq] at ht
    subst ht
    split
    · rfl
    · rename_i k hk
      have hck := callAtC_some hk
      split
      · have hk1 : k + 1 = bk.trips[i].calls.length := by omega
        unfold rowAt
        rw [if_pos (Or.inl hk1)]
        simp
      · rfl
  · rfl
/-- The trips that a quiet board shows. -/
def goesB (bk : BookD) (s : Int) (i : Nat) : Bool := match bk.trips[i]? with
  | some t => decide (0 ≤ callAtC t.calls s ∧ callAtC t.calls s + 1 ≠ t.calls.length)
  | none => false
def quietTo (bk : BookD) (s : Int) : Nat → Nat
  | 0 => 0
  | n + 1 => quietTo bk s n + (if goesB bk s n then 1 else 0)
theorem goesB_at (bk : BookD) (s : Int) (i : Nat) (h : i < bk.trips.length) : goesB bk s i = decide (0 ≤ callAtC bk.trips[i].calls s ∧ callAtC bk.trips[i].calls s + 1 ≠ bk.trips[i].calls.length) := by
  unfold goesB; rw [List.getElem?_eq_getElem h]
theorem quietTo_le (bk : BookD) (s : Int) (n : Nat) : quietTo bk s n ≤ n := by
  induction n with
  | zero => simp [quietTo]
  | succ n ih => unfold quietTo; split <;> omega
theorem callAt_nat {cs : List CallD} {s : Int} (h : 0 ≤ callAtC cs s) : ∃ k : Nat, k < cs.length ∧ callAtC cs s = (k : Int) := by
  cases e : firstIdx (atStation cs s) cs.length with
  | none => rw [callAtC_none e] at h; omega
  | some j => exact ⟨j, firstIdx_lt e, callAtC_some e⟩
theorem collect_quiet {bk : BookD} {s tick : Int} (hf : (faultD bk).1 = 0) (n : Nat) (hn : n ≤ bk.trips.length) : (collect bk (startNews bk) s tick n).length = quietTo bk s n ∧
    ∀ i k (hi : i < bk.trips.length) (hk : k < bk.trips[i].calls.length), i < n → callAtC bk.trips[i].calls s = (k : Int) → k + 1 ≠ bk.trips[i].calls.length → planRow bk.trips[i].calls i bk.trips[i].calls[k] ∈ collect bk (startNews bk) s tick n := by
  induction n with
  | zero => exact ⟨rfl, fun i k hi hk h0 => by omega⟩
  | succ n ih =>
    obtain ⟨h1, h2⟩ := ih (by omega)
    constructor
    · rw [collect, quietTo, List.length_append, h1, goesB_at bk s n (by omega)]
      by_cases hg : 0 ≤ callAtC bk.trips[n].calls s ∧ callAtC bk.trips[n].calls s + 1 ≠ bk.trips[n].calls.length
      · obtain ⟨k, hk, e⟩ := callAt_nat hg.1
        rw [row_start hf (by omega) hk e (by omega), if_pos (decide_eq_true hg)]; rfl
      · rw [row_none (by omega) (by omega), if_neg (by simp only [decide_eq_true_eq]; exact hg)]; rfl
    · intro i k hi hk hin hc hl
      rw [collect]
      by_cases e : i = n
      · subst e
        rw [row_start hf hi hk hc hl]
        exact List.mem_append.2 (Or.inr (by simp))
      · exact List.mem_append.2 (Or.inl (h2 i k hi hk (by omega) hc hl))
theorem pick_full (n : Nat) : ∀ (all : List RowD), all.length ≤ n → (pick n all).Perm all := by
  induction n with
  | zero => intro all h; have : all = [] := List.eq_nil_of_length_eq_zero (by omega); subst this; exact List.Perm.refl _
  | succ n ih =>
    intro all h
    by_cases h0 : 0 < all.length
    · rw [pick_cons n all (bestOf_lt all h0)]
      have hl : (all.eraseIdx (bestOf all)).length ≤ n := by rw [List.length_eraseIdx, if_pos (bestOf_lt all h0)]; omega
      exact ((ih _ hl).cons _).trans (bestOf_perm all h0).symm
    · have : all = [] := List.eq_nil_of_length_eq_zero (by omega)
      rw [this, pick_nil]
/-- A board of which nothing was told. -/
structure QuietOf (bk : BookD) (s : Int) (R : List RowD) : Prop where
  len : R.length = quietTo bk s bk.trips.length
  mem : ∀ i k (hi : i < bk.trips.length) (hk : k < bk.trips[i].calls.length), callAtC bk.trips[i].calls s = (k : Int) → k + 1 ≠ bk.trips[i].calls.length → planRow bk.trips[i].calls i bk.trips[i].calls[k] ∈ R
  srt : ∀ i (h : i + 1 < R.length), R[i].expect ≤ R[i + 1].expect
theorem reportsB_nil {bk : BookD} (hf : (faultD bk).1 = 0) : reportsB bk [] = true := by
  rw [reportsB_all (fun k hk => by simp at hk), hf]; rfl
theorem quiet_board {bk : BookD} {s tick : Int} (hf : (faultD bk).1 = 0) (h40 : bk.trips.length ≤ 40) (hs : 0 ≤ s ∧ s < bk.sts.length) (ht : 0 ≤ tick ∧ tick ≤ 1000000) : QuietOf bk s (boardD bk [] s tick 40) := by
  have e : boardD bk [] s tick 40 = pick 40 (collect bk (startNews bk) s tick bk.trips.length) := by
    unfold boardD; rw [if_pos ⟨reportsB_nil hf, hs, ht, by omega⟩]; rfl
  have hp := pick_full 40 (collect bk (startNews bk) s tick bk.trips.length) (Nat.le_trans (collect_length _ _ _ _ _) h40)
  obtain ⟨h1, h2⟩ := collect_quiet (s := s) (tick := tick) hf bk.trips.length (Nat.le_refl _)
  refine ⟨by rw [e, hp.length_eq, h1], fun i k hi hk hc hl => by rw [e]; exact hp.mem_iff.2 (h2 i k hi hk hi hc hl), fun i h => ?_⟩
  have hs' := pick_sorted 40 (collect bk (startNews bk) s tick bk.trips.length)
  rw [← e, List.pairwise_iff_getElem] at hs'
  have := hs' i (i + 1) (by omega) h (by omega)
  rw [leD_iff] at this
  omega
theorem known_nil {bk : BookD} (hf : (faultD bk).1 = 0) (t : Int) : knownD bk [] t = startNews bk := by
  unfold knownD; rw [reportsB_nil hf]; rfl

end Go.Proofs.YtjioingdpfgadaaDoor
namespace Go.Proofs.YtjioingdpfgadaaDoor
open Go Go.RowKit Go.Deep

/-- Trip i is called off from its beginning on. -/
def offRep (i : Nat) : RepD := ⟨0, 3, i, 0, 0⟩
theorem callsOf_nat (bk : BookD) (i : Nat) (h : i < bk.trips.length) : callsOf bk (i : Int) = bk.trips[i].calls := by
  unfold callsOf; simp [List.getElem?_eq_getElem h]
theorem off_reports {bk : BookD} (hf : (faultD bk).1 = 0) {i : Nat} (hi : i < bk.trips.length) : reportsB bk [offRep i] = true := by
  have h2 := tripB_len' ((faultD_zero hf).2 i hi)
  refine reportsB_iff.2 ⟨hf, by simp, fun r hr => ?_, by simp⟩
  simp only [List.mem_singleton] at hr
  subst hr
  rw [reportB_yes ⟨hf, by simp [offRep], by simp [offRep], ⟨by simp [offRep], by simpa [offRep] using hi⟩, by simp [offRep], by simp only [offRep]; rw [callsOf_nat bk i hi]; omega⟩]
  rfl
/-- What is known then. -/
theorem off_news {bk : BookD} (hf : (faultD bk).1 = 0) {i : Nat} (hi : i < bk.trips.length) {t : Int} (ht : 0 ≤ t) : newsTo bk t [offRep i] = (startNews bk).set i (bk.trips[i].calls.map fun c => ⟨0, c.tr, true, false, false⟩) := by
  have h2 := tripB_len' ((faultD_zero hf).2 i hi)
  have hin : i < (startNews bk).length := by simpa [startNews] using hi
  have e1 : (startNews bk)[i] = startRow bk.trips[i].calls := by simp [startNews]
  have hk : 0 < (startRow bk.trips[i].calls).length := by simp [startRow]; omega
  have hc : countsN (startNews bk) (offRep i) = true := by
    unfold countsN
    simp only [offRep, Int.toNat_natCast, Int.toNat_zero]
    rw [List.getElem?_eq_getElem hin]
    simp only [e1]
    rw [List.getElem?_eq_getElem hk]
    simp only
    rw [countsX_3 (by simp [startRow, startOf]) (by simp [startRow, startOf]) rfl]
    simp [startRow, startOf]
  show stepNews t (startNews bk) (offRep i) = _
  rw [stepNews_yes t (startNews bk) (offRep i) i hin rfl (by simpa [offRep] using ht) hc, e1]
  congr 1
  apply List.ext_getElem
  · simp [doRow, startRow]
  · intro k h3 h4
    simp [doRow, startRow, doNews, offRep, startOf]
theorem off_row {bk : BookD} (hf : (faultD bk).1 = 0) {i : Nat} (hi : i < bk.trips.length) (h0 : 0 < bk.trips[i].calls.length) {t : Int} (ht : 0 ≤ t) :
    ∃ r, r.trip = (i : Int) ∧ r.state = 3 ∧ rowOfTrip bk (newsTo bk t [offRep i]) bk.trips[i].calls[0].st t i = if t - 10 ≤ bk.trips[i].calls[0].go then some r else none := by
  have h2 := tripB_len' ((faultD_zero hf).2 i hi)
  have hfi : firstIdx (atStation bk.trips[i].calls bk.trips[i].calls[0].st) bk.trips[i].calls.length = some 0 := by
    unfold firstIdx
    rw [List.find?_range_eq_some]
    refine ⟨by rw [atStation_at _ _ _ h0]; simp, by simpa using h0, fun j hj => by omega⟩
  have hin : i < ((startNews bk).set i (bk.trips[i].calls.map fun c => (⟨0, c.tr, true, false, false⟩ : NewsD))).length := by simpa [startNews] using hi
  refine ⟨⟨i, (bk.trips[i].calls[bk.trips[i].calls.length - 1]?.map (·.st)).getD 0, bk.trips[i].calls[0].go, bk.trips[i].calls[0].go + 0, bk.trips[i].calls[0].tr, 3⟩, rfl, rfl, ?_⟩
  rw [off_news hf hi ht]
  unfold rowOfTrip
  rw [List.getElem?_eq_getElem hi, List.getElem?_eq_getElem hin]
  simp only [hfi]
  rw [List.getElem?_eq_getElem h0, List.getElem_set_self, List.getElem?_eq_getElem (by simpa using h0)]
  simp only [List.getElem_map]
  have hrow : rowAt bk.trips[i].calls (bk.trips[i].calls.map fun c => (⟨0, c.tr, true, false, false⟩ : NewsD)) i 0 bk.trips[i].calls[0] ⟨0, bk.trips[i].calls[0].tr, true, false, false⟩ t = (⟨i, (bk.trips[i].calls[bk.trips[i].calls.length - 1]?.map (·.st)).getD 0, bk.trips[i].calls[0].go, bk.trips[i].calls[0].go + 0, bk.trips[i].calls[0].tr, 3⟩, decide (t - 10 ≤ bk.trips[i].calls[0].go)) := by
    unfold rowAt
    have hn : ¬ (0 + 1 = bk.trips[i].calls.length ∨ false = true) := fun h => by
      rcases h with h | h
      · omega
      · exact absurd h (by decide)
    rw [if_neg hn, if_pos rfl]
    rfl
  rw [hrow]
  simp only [decide_eq_true_eq]
theorem off_board {bk : BookD} (hd : BookDrawn bk) {i : Nat} (hi : i < bk.trips.length) (h0 : 0 < bk.trips[i].calls.length) {t : Int} (ht : 0 ≤ t ∧ t ≤ 1000000) :
    (∃ r ∈ boardD bk [offRep i] bk.trips[i].calls[0].st t 40, r.trip = (i : Int) ∧ r.state = 3) ↔ t - 10 ≤ bk.trips[i].calls[0].go := by
  have hf := hd.fault
  have hst := (hd.calls i hi).calls 0 h0
  have h5 := hd.trips5
  obtain ⟨r0, hr1, hr2, hrow⟩ := off_row hf hi h0 ht.1
  have e : boardD bk [offRep i] bk.trips[i].calls[0].st t 40 = pick 40 (collect bk (newsTo bk t [offRep i]) bk.trips[i].calls[0].st t bk.trips.length) := by
    unfold boardD; rw [if_pos ⟨off_reports hf hi, by omega, ht, by omega⟩]; rfl
  have hp := pick_full 40 (collect bk (newsTo bk t [offRep i]) bk.trips[i].calls[0].st t bk.trips.length) (Nat.le_trans (collect_length _ _ _ _ _) (by omega))
  rw [e]
  constructor
  · rintro ⟨r, hm, ht1, _⟩
    obtain ⟨j, hj, hr⟩ := collect_mem _ _ (hp.mem_iff.1 hm)
    obtain ⟨k, x, hfit⟩ := rowOfTrip_fit hf hr
    have : j = i := by have := hfit.trip; omega
    subst this
    rw [hrow] at hr
    split at hr
    · assumption
    · simp at hr
  · intro hle
    rw [if_pos hle] at hrow
    have hin : ∀ n, i < n → r0 ∈ collect bk (newsTo bk t [offRep i]) bk.trips[i].calls[0].st t n := by
      intro n
      induction n with
      | zero => intro h; omega
      | succ n ih =>
        intro h
        rw [collect]
        by_cases e : i = n
        · subst e; rw [hrow]; exact List.mem_append.2 (Or.inr (by simp))
        · exact List.mem_append.2 (Or.inl (ih (by omega)))
    exact ⟨r0, hp.mem_iff.2 (hin _ hi), hr1, hr2⟩
theorem off_onward {bk : BookD} (hf : (faultD bk).1 = 0) {i : Nat} (hi : i < bk.trips.length) : onwardD bk [offRep i] i 0 = [] := by
  unfold onwardD
  split
  · rw [off_news hf hi (Int.le_refl 0), callsOf_nat bk i hi]
    have hin : i < (startNews bk).length := by simpa [startNews] using hi
    have e : ((startNews bk).set i (bk.trips[i].calls.map fun c => (⟨0, c.tr, true, false, false⟩ : NewsD))).getD (i : Int).toNat [] = bk.trips[i].calls.map fun c => (⟨0, c.tr, true, false, false⟩ : NewsD) := by
      simp [List.getD, hin]
    rw [e]
    generalize bk.trips[i].calls = cs
    have : ∀ k, k ≤ cs.length → onwardTo cs (cs.map fun c => (⟨0, c.tr, true, false, false⟩ : NewsD)) k = [] := by
      intro k
      induction k with
      | zero => intro _; rfl
      | succ k ih =>
        intro h
        rw [onwardTo, ih (by omega), onwardAt_at cs _ k (by omega) (by simp; omega)]
        simp
    exact this _ (Nat.le_refl _)
  · rfl
theorem onward_yes {bk : BookD} {rs : List RepD} (h : reportsB bk rs = true) {i : Nat} (hi : i < bk.trips.length) (t : Int) (hin : i < (newsTo bk t rs).length) : onwardD bk rs i t = onwardTo bk.trips[i].calls (newsTo bk t rs)[i] bk.trips[i].calls.length := by
  unfold onwardD
  rw [if_pos ⟨h, by omega, by omega⟩, callsOf_nat bk i hi]
  simp [List.getD, List.getElem?_eq_getElem hin]
/-- What comes of the first k calls stands first. -/
theorem onward_prefix (cs : List CallD) (ns : List NewsD) (n : Nat) : ∀ k, k ≤ n → ∃ l, onwardTo cs ns n = onwardTo cs ns k ++ l := by
  induction n with
  | zero => intro k hk; have : k = 0 := by omega
            subst this; exact ⟨[], rfl⟩
  | succ n ih =>
    intro k hk
    by_cases e : k = n + 1
    · subst e; exact ⟨[], by simp⟩
    · obtain ⟨l, hl⟩ := ih k (by omega)
      exact ⟨l ++ onwardAt cs ns n, by rw [onwardTo, hl]; simp⟩
theorem onward_next (cs : List CallD) (ns : List NewsD) (k : Nat) (h1 : k < cs.length) (h2 : k < ns.length) (hg : ns[k].gone = false) (ho : ns[k].off = false) :
    ∃ h : (onwardTo cs ns k).length < (onwardTo cs ns cs.length).length, (onwardTo cs ns cs.length)[(onwardTo cs ns k).length] = cs[k].st ∧ (onwardTo cs ns (k + 1)).length = (onwardTo cs ns k).length + 1 := by
  obtain ⟨l, hl⟩ := onward_prefix cs ns cs.length (k + 1) (by omega)
  have e : onwardTo cs ns (k + 1) = onwardTo cs ns k ++ [cs[k].st] := by
    rw [onwardTo, onwardAt_at cs ns k h1 h2, if_neg (by simp [hg, ho])]
  rw [e] at hl
  have hlen : (onwardTo cs ns cs.length).length = (onwardTo cs ns k).length + 1 + l.length := by rw [hl]; simp; omega
  refine ⟨by omega, ?_, by rw [e]; simp⟩
  have : (onwardTo cs ns cs.length)[(onwardTo cs ns k).length]? = some cs[k].st := by rw [hl]; simp
  exact (List.getElem?_eq_some_iff.1 this).2
theorem onward_skip (cs : List CallD) (ns : List NewsD) (k : Nat) (h1 : k < cs.length) (h2 : k < ns.length) (hg : ns[k].gone = true ∨ ns[k].off = true) : (onwardTo cs ns (k + 1)).length = (onwardTo cs ns k).length := by
  rw [onwardTo, onwardAt_at cs ns k h1 h2, if_pos hg]; simp

end Go.Proofs.YtjioingdpfgadaaDoor
