import Derived.Test.YtjioingdpfgadaaDoorPurePM
namespace Go.Proofs.YtjioingdpfgadaaDoor
open Go Go.RowKit Go.Deep

/-- Each report said again just behind itself. -/
def twiceOf : List RepD → List RepD
  | [] => []
  | r :: l => r :: r :: twiceOf l
theorem twice_snoc (l : List RepD) (r : RepD) : twiceOf (l ++ [r]) = twiceOf l ++ [r, r] := by
  induction l with
  | nil => rfl
  | cons a l ih => simp [twiceOf, ih]
theorem twice_length (l : List RepD) : (twiceOf l).length = l.length * 2 := by
  induction l with
  | nil => rfl
  | cons a l ih => simp [twiceOf, ih]; omega
theorem twice_mem (l : List RepD) (r : RepD) : r ∈ twiceOf l ↔ r ∈ l := by
  induction l with
  | nil => simp [twiceOf]
  | cons a l ih => simp [twiceOf, ih]
theorem twice_sorted (l : List RepD) (h : l.Pairwise (fun a b => a.tick ≤ b.tick)) : (twiceOf l).Pairwise (fun a b => a.tick ≤ b.tick) := by
  induction l with
  | nil => simp [twiceOf]
  | cons a l ih =>
    rw [List.pairwise_cons] at h
    simp only [twiceOf, List.pairwise_cons]
    refine ⟨fun x hx => ?_, fun x hx => h.1 x ((twice_mem l x).1 hx), ih h.2⟩
    rcases List.mem_cons.1 hx with rfl | hx
    · exact Int.le_refl _
    · exact h.1 x ((twice_mem l x).1 hx)
theorem twice_reports {bk : BookD} {rs : List RepD} (h : reportsB bk rs = true) (hl : rs.length ≤ 250) : reportsB bk (twiceOf rs) = true := by
  obtain ⟨h1, _, h3, h4⟩ := reportsB_iff.1 h
  exact reportsB_iff.2 ⟨h1, by rw [twice_length]; omega, fun r hr => h3 r ((twice_mem rs r).1 hr), twice_sorted rs h4⟩
/-- What has just counted does not count again. -/
theorem counts_again {ns : List NewsD} {r : RepD} {k : Nat} (hk : k < ns.length) (hkk : r.call = (k : Int)) (hop : 1 ≤ r.op ∧ r.op ≤ 5) (hc : countsX ns k ns[k] r = true) : countsX (doRow r ns) k ((doRow r ns)[k]'(by rw [doRow_length]; exact hk)) r = false := by
  have e : (doRow r ns)[k]'(by rw [doRow_length]; exact hk) = doNews r k ns[k] := by simp [doRow]
  rw [e]
  have hg : ns[k].gone = false := by
    cases h : ns[k].gone
    · rfl
    · rw [countsX_gone h] at hc; exact absurd hc (by decide)
  have ho : ns[k].off = false := by
    cases h : ns[k].off
    · rfl
    · rw [countsX_off h] at hc; exact absurd hc (by decide)
  have hle : r.call ≤ (k : Int) := by omega
  rcases (by omega : r.op = 1 ∨ r.op = 2 ∨ r.op = 3 ∨ r.op = 4 ∨ r.op = 5) with h | h | h | h | h
  · have e : doNews r k ns[k] = { ns[k] with late := r.n } := by unfold doNews; rw [if_pos h, if_pos hle]
    rw [e, countsX_1 (by exact hg) (by exact ho) (by omega) (by omega) (by omega) (by omega)]
    simp
  · have e : doNews r k ns[k] = { ns[k] with track := r.n } := by unfold doNews; rw [if_neg (by omega), if_pos h, if_pos hkk]
    rw [e, countsX_2 (by exact hg) (by exact ho) h]
    simp
  · have e : doNews r k ns[k] = { ns[k] with off := true } := by unfold doNews; rw [if_neg (by omega), if_neg (by omega), if_pos h, if_pos hle]
    rw [e]; exact countsX_off rfl
  · have e : doNews r k ns[k] = { ns[k] with here := true } := by unfold doNews; rw [if_neg (by omega), if_neg (by omega), if_neg (by omega), if_pos h, if_pos hkk]
    rw [e, countsX_4 (by exact hg) (by exact ho) h]
    simp
  · have e : doNews r k ns[k] = { ns[k] with here := false, gone := true } := by unfold doNews; rw [if_neg (by omega), if_neg (by omega), if_neg (by omega), if_neg (by omega), if_pos h, if_pos hkk]
    rw [e]; exact countsX_gone rfl
theorem counts_twice {bk : BookD} {nss : List (List NewsD)} (hs : ShapeOf bk nss) {r : RepD} (hr : reportB bk r = true) (hc : countsN nss r = true) : countsN (nss.modify r.trip.toNat (doRow r)) r = false := by
  obtain ⟨_, _, hop, ⟨ht0, ht1⟩, hc0, hc1⟩ := reportB_head hr
  obtain ⟨j, hj⟩ := Int.eq_ofNat_of_zero_le ht0
  obtain ⟨k, hk⟩ := Int.eq_ofNat_of_zero_le hc0
  have hjl : j < nss.length := by rw [hs.length]; omega
  have hkl : k < nss[j].length := by rw [hs.at j hjl, ← hj]; omega
  rw [countsN_at nss r j k hjl hj hkl hk] at hc
  have e : nss.modify r.trip.toNat (doRow r) = nss.set j (doRow r nss[j]) := by
    rw [hj]; simp [List.modify_eq_set, List.getElem?_eq_getElem hjl]
  rw [e]
  have hjl' : j < (nss.set j (doRow r nss[j])).length := by simpa using hjl
  have eg : (nss.set j (doRow r nss[j]))[j]'hjl' = doRow r nss[j] := by simp
  have hkl' : k < ((nss.set j (doRow r nss[j]))[j]'hjl').length := by rw [eg, doRow_length]; exact hkl
  rw [countsN_at _ r j k hjl' hj hkl' hk]
  simp only [eg]
  exact counts_again hkl hk hop hc
theorem step_twice {bk : BookD} {nss : List (List NewsD)} (hs : ShapeOf bk nss) {r : RepD} (hr : reportB bk r = true) (t : Int) : stepNews t (stepNews t nss r) r = stepNews t nss r := by
  by_cases h : r.tick ≤ t ∧ countsN nss r = true
  · have e : stepNews t nss r = nss.modify r.trip.toNat (doRow r) := by unfold stepNews; rw [if_pos h]
    rw [e]
    exact stepNews_no t _ r (fun g => by rw [counts_twice hs hr h.2] at g; exact absurd g.2 (by decide))
  · rw [stepNews_no t nss r h, stepNews_no t nss r h]
theorem news_twice {bk : BookD} (t : Int) : ∀ (rs : List RepD), (∀ r ∈ rs, reportB bk r = true) → newsTo bk t (twiceOf rs) = newsTo bk t rs := by
  intro rs h
  unfold newsTo
  have hs := shape_start bk
  generalize startNews bk = s at *
  induction rs generalizing s with
  | nil => rfl
  | cons r l ih =>
    simp only [twiceOf, List.foldl_cons]
    rw [step_twice hs (h r (by simp)) t]
    exact ih (fun x hx => h x (by simp [hx])) _ (shape_step hs t r)
theorem known_twice {bk : BookD} {rs : List RepD} (h : reportsB bk rs = true) (hl : rs.length ≤ 250) (t : Int) : knownD bk (twiceOf rs) t = knownD bk rs t := by
  unfold knownD
  rw [twice_reports h hl, h, news_twice t rs (reportsB_iff.1 h).2.2.1]
theorem twice_take (l : List RepD) (k : Nat) : (twiceOf l).take (k * 2) = twiceOf (l.take k) := by
  induction l generalizing k with
  | nil => simp [twiceOf]
  | cons a l ih =>
    cases k with
    | zero => simp [twiceOf]
    | succ k =>
      have : (k + 1) * 2 = k * 2 + 1 + 1 := by omega
      rw [this]
      simp [twiceOf, ih]
theorem twice_get (l : List RepD) (k : Nat) (h : k < l.length) : (twiceOf l)[k * 2]? = some l[k] ∧ (twiceOf l)[k * 2 + 1]? = some l[k] := by
  induction l generalizing k with
  | nil => simp at h
  | cons a l ih =>
    cases k with
    | zero => exact ⟨rfl, rfl⟩
    | succ k =>
      have e : (k + 1) * 2 = k * 2 + 1 + 1 := by omega
      rw [e]
      simpa [twiceOf] using ih k (by simpa using h)
theorem said_twice {bk : BookD} {rs : List RepD} (h : ∀ r ∈ rs, reportB bk r = true) (s frm till : Int) : ∀ k, k ≤ rs.length → saidTo bk (twiceOf rs) s frm till (k * 2) = saidTo bk rs s frm till k := by
  intro k
  induction k with
  | zero => intro _; rfl
  | succ k ih =>
    intro hk
    have hkl : k < rs.length := by omega
    have hl := twice_length rs
    obtain ⟨g1, g2⟩ := twice_get rs k hkl
    obtain ⟨b1, e1⟩ := List.getElem?_eq_some_iff.1 g1
    obtain ⟨b2, e2⟩ := List.getElem?_eq_some_iff.1 g2
    have e : (k + 1) * 2 = k * 2 + 1 + 1 := by omega
    rw [e]
    simp only [saidTo]
    have hn : newsTo bk lastTick ((twiceOf rs).take (k * 2)) = newsTo bk lastTick (rs.take k) := by
      rw [twice_take]; exact news_twice _ _ (fun r hr => h r (List.mem_of_mem_take hr))
    have hn2 : newsTo bk lastTick ((twiceOf rs).take (k * 2 + 1)) = stepNews lastTick (newsTo bk lastTick (rs.take k)) rs[k] := by
      rw [newsTo_take bk lastTick (twiceOf rs) (k * 2) b1, hn, e1]
    have hno : saidAt bk (twiceOf rs) s frm till (k * 2 + 1) = [] := by
      rw [saidAt_at _ _ _ _ _ _ b2, if_neg]
      rintro ⟨hc, _⟩
      rw [hn2, e2] at hc
      have hrk := h rs[k] (List.getElem_mem hkl)
      have hst := step_twice (shape_to bk lastTick (rs.take k)) hrk lastTick
      by_cases hcc : rs[k].tick ≤ lastTick ∧ countsN (newsTo bk lastTick (rs.take k)) rs[k] = true
      · have e3 : stepNews lastTick (newsTo bk lastTick (rs.take k)) rs[k] = (newsTo bk lastTick (rs.take k)).modify rs[k].trip.toNat (doRow rs[k]) := by unfold stepNews; rw [if_pos hcc]
        rw [e3, counts_twice (shape_to bk lastTick (rs.take k)) hrk hcc.2] at hc
        exact absurd hc (by decide)
      · rw [stepNews_no _ _ _ hcc] at hc
        exact hcc ⟨by have := (reportB_head hrk).2.1.2; unfold lastTick; exact this, hc⟩
    rw [hno, ih (by omega), saidAt_at _ _ _ _ _ _ b1, saidAt_at _ _ _ _ _ _ hkl, hn, e1]
    simp
theorem say_twice {bk : BookD} {rs : List RepD} (h : reportsB bk rs = true) (hl : rs.length ≤ 250) (s frm till : Int) : sayD bk (twiceOf rs) s frm till = sayD bk rs s frm till := by
  by_cases hs : 0 ≤ s ∧ s < bk.sts.length
  · rw [sayD_yes ⟨twice_reports h hl, hs⟩, sayD_yes ⟨h, hs⟩, twice_length]
    exact said_twice (reportsB_iff.1 h).2.2.1 s frm till rs.length (Nat.le_refl _)
  · rw [sayD_no (fun g => hs g.2), sayD_no (fun g => hs g.2)]

end Go.Proofs.YtjioingdpfgadaaDoor
