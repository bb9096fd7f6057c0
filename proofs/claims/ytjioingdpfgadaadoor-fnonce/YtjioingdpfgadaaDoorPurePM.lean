import Derived.Test.YtjioingdpfgadaaDoorSpecOM
import Derived.Test.YtjioingdpfgadaaDoorDrwLM
import Derived.Test.YtjioingdpfgadaaDoorBoardCM
namespace Go.Proofs.YtjioingdpfgadaaDoor
open Go Go.RowKit Go.Deep

/-- Reports by each and their order. -/
theorem reportsB_iff {bk : BookD} {rs : List RepD} : reportsB bk rs = true ↔ (faultD bk).1 = 0 ∧ rs.length ≤ 500 ∧ (∀ r ∈ rs, reportB bk r = true) ∧ rs.Pairwise (fun a b => a.tick ≤ b.tick) := by
  constructor
  · intro h
    obtain ⟨h1, h2, h3⟩ := reportsB_inv h
    refine ⟨h1, h2, fun r hr => ?_, ?_⟩
    · obtain ⟨i, hi, rfl⟩ := List.getElem_of_mem hr
      exact (h3 i hi).1
    · rw [List.pairwise_iff_getElem]
      intro i j hi hj hij
      have hstep : ∀ d (hd : i + d < rs.length), rs[i].tick ≤ rs[i + d].tick := by
        intro d
        induction d with
        | zero => intro _; exact Int.le_refl _
        | succ d ih =>
          intro hd
          have a1 := ih (by omega)
          have a2 := (h3 (i + d + 1) (by omega)).2
          rw [prevTick_succ rs (i + d) (by omega)] at a2
          have : i + (d + 1) = i + d + 1 := by omega
          simp only [this]
          omega
      have := hstep (j - i) (by omega)
      have e : i + (j - i) = j := by omega
      simp only [e] at this
      exact this
  · rintro ⟨h1, h2, h3, h4⟩
    rw [reportsB_all (fun k hk => ?_), h1, decide_eq_true h2]
    · rfl
    · rw [repAtB_at bk rs k hk, h3 _ (List.getElem_mem hk)]
      have : prevTick rs k ≤ rs[k].tick := by
        cases k with
        | zero => simp only [prevTick]; exact (reportB_head (h3 _ (List.getElem_mem hk))).2.1.1
        | succ j =>
          rw [prevTick_succ rs j (by omega)]
          rw [List.pairwise_iff_getElem] at h4
          exact h4 j (j + 1) (by omega) hk (by omega)
      rw [decide_eq_true this]; rfl
/-- What was told up to t. -/
def pastOf (t : Int) (rs : List RepD) : List RepD := rs.filter (fun r => decide (r.tick ≤ t))
theorem past_reports {bk : BookD} {rs : List RepD} (h : reportsB bk rs = true) (t : Int) : reportsB bk (pastOf t rs) = true := by
  obtain ⟨h1, h2, h3, h4⟩ := reportsB_iff.1 h
  refine reportsB_iff.2 ⟨h1, Nat.le_trans (List.length_filter_le _ _) h2, fun r hr => h3 r ((List.mem_filter.1 hr).1), h4.filter _⟩
theorem newsTo_past (bk : BookD) (t : Int) (rs : List RepD) : newsTo bk t (pastOf t rs) = newsTo bk t rs := by
  unfold newsTo pastOf
  rw [List.foldl_filter]
  congr 1
  funext nss r
  by_cases h : r.tick ≤ t
  · simp [h]
  · simp only [h, decide_false, Bool.false_eq_true, if_false]
    exact (stepNews_no t nss r (fun e => h e.1)).symm
theorem newsTo_late (bk : BookD) (t M : Int) (htM : t ≤ M) (rs : List RepD) : newsTo bk M (pastOf t rs) = newsTo bk t rs := by
  rw [← newsTo_past bk t rs]
  unfold newsTo
  have hall : ∀ r ∈ pastOf t rs, r.tick ≤ t := fun r hr => by simpa using (List.mem_filter.1 hr).2
  generalize pastOf t rs = l at *
  generalize startNews bk = s
  induction l generalizing s with
  | nil => rfl
  | cons r l ih =>
    simp only [List.foldl_cons]
    have h1 := hall r (by simp)
    have e : stepNews M s r = stepNews t s r := by
      unfold stepNews
      have : (r.tick ≤ M ∧ countsN s r = true) ↔ (r.tick ≤ t ∧ countsN s r = true) := by constructor <;> (rintro ⟨_, h⟩; exact ⟨by omega, h⟩)
      simp only [this]
    rw [e]
    exact ih (fun x hx => hall x (by simp [hx])) _
theorem board_past {bk : BookD} {rs : List RepD} (h : reportsB bk rs = true) (s t n : Int) : boardD bk (pastOf t rs) s t n = boardD bk rs s t n := by
  unfold boardD
  rw [past_reports h t, h, newsTo_past]
theorem known_past {bk : BookD} {rs : List RepD} (h : reportsB bk rs = true) (t : Int) : knownD bk (pastOf t rs) t = knownD bk rs t := by
  unfold knownD
  rw [past_reports h t, h, newsTo_past]
theorem known_late {bk : BookD} {rs : List RepD} (h : reportsB bk rs = true) (t M : Int) (htM : t ≤ M) : knownD bk (pastOf t rs) M = knownD bk rs t := by
  unfold knownD
  rw [past_reports h t, h, newsTo_late bk t M htM]
/-- With ticks in order the past is the first of the reports. -/
theorem past_take (t : Int) : ∀ (rs : List RepD), rs.Pairwise (fun a b => a.tick ≤ b.tick) → ∃ p, p ≤ rs.length ∧ pastOf t rs = rs.take p ∧ ∀ k (h : k < rs.length), p ≤ k → t < rs[k].tick := by
  intro rs
  induction rs with
  | nil => intro _; exact ⟨0, by simp, rfl, fun k h => by simp at h⟩
  | cons r l ih =>
    intro hp
    rw [List.pairwise_cons] at hp
    by_cases h : r.tick ≤ t
    · obtain ⟨p, h1, h2, h3⟩ := ih hp.2
      refine ⟨p + 1, by simp; omega, ?_, fun k hk hpk => ?_⟩
      · have e : pastOf t (r :: l) = r :: pastOf t l := by simp [pastOf, h]
        rw [e, h2]; simp
      · cases k with
        | zero => omega
        | succ k => exact h3 k (by simpa using hk) (by omega)
    · refine ⟨0, by simp, ?_, fun k hk _ => ?_⟩
      · have : ∀ x ∈ r :: l, ¬ x.tick ≤ t := fun x hx => by
          rcases List.mem_cons.1 hx with rfl | hx
          · exact h
          · have := hp.1 x hx; omega
        simp only [List.take_zero]
        exact List.filter_eq_nil_iff.2 (fun x hx => by simpa using this x hx)
      · cases k with
        | zero => simp; omega
        | succ k =>
          have hk' : k < l.length := by simpa using hk
          have := hp.1 l[k] (List.getElem_mem hk')
          simp; omega
theorem said_past {bk : BookD} {rs : List RepD} (s frm t : Int) (p : Nat) (hp : p ≤ rs.length) (hpast : ∀ k (h : k < rs.length), p ≤ k → t < rs[k].tick) : saidTo bk (rs.take p) s frm t (rs.take p).length = saidTo bk rs s frm t rs.length := by
  have hl : (rs.take p).length = p := by rw [List.length_take]; omega
  have h1 : ∀ k, k ≤ p → saidTo bk (rs.take p) s frm t k = saidTo bk rs s frm t k := by
    intro k
    induction k with
    | zero => intro _; rfl
    | succ k ih =>
      intro hk
      simp only [saidTo]
      rw [ih (by omega), saidAt_at _ _ _ _ _ _ (by omega : k < (rs.take p).length), saidAt_at _ _ _ _ _ _ (by omega : k < rs.length)]
      have e1 : (rs.take p).take k = rs.take k := by rw [List.take_take]; congr 1; omega
      have e2 : (rs.take p)[k]'(by omega) = rs[k]'(by omega) := List.getElem_take
      rw [e1, e2]
  have h2 : ∀ k, p ≤ k → k ≤ rs.length → saidTo bk rs s frm t k = saidTo bk rs s frm t p := by
    intro k
    induction k with
    | zero => intro h _; have : p = 0 := by omega
              rw [this]
    | succ k ih =>
      intro h1 h2
      by_cases e : p = k + 1
      · rw [e]
      · simp only [saidTo]
        rw [ih (by omega) (by omega), saidAt_at _ _ _ _ _ _ (by omega : k < rs.length), if_neg]
        · simp
        · rintro ⟨_, _, _, h4⟩
          have := hpast k (by omega) (by omega)
          omega
  rw [hl, h1 p (Nat.le_refl _), h2 rs.length hp (Nat.le_refl _)]
theorem say_past {bk : BookD} {rs : List RepD} (h : reportsB bk rs = true) (s frm t : Int) : sayD bk (pastOf t rs) s frm t = sayD bk rs s frm t := by
  obtain ⟨_, _, _, h4⟩ := reportsB_iff.1 h
  obtain ⟨p, hp, e, hlate⟩ := past_take t rs h4
  by_cases hs : 0 ≤ s ∧ s < bk.sts.length
  · rw [sayD_yes ⟨past_reports h t, hs⟩, sayD_yes ⟨h, hs⟩, e]
    exact said_past s frm t p hp hlate
  · rw [sayD_no (fun g => hs g.2), sayD_no (fun g => hs g.2)]

end Go.Proofs.YtjioingdpfgadaaDoor
