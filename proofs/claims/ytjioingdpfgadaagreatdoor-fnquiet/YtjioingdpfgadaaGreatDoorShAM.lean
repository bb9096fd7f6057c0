import Derived.Test.YtjioingdpfgadaaGreatDoorProg
import Derived.Test.YtjioingdpfgadaaGreatDoorBrdCM
import Derived.Test.YtjioingdpfgadaaGreatDoorBoardCM
import Derived.Test.YtjioingdpfgadaaGreatDoorDecM
import Derived.Test.YtjioingdpfgadaaGreatDoorDrwLM
import Derived.Test.YtjioingdpfgadaaGreatDoorBoardHM
import Derived.Deep.RegionHeld3
namespace Go.Proofs.YtjioingdpfgadaaGreatDoor
open Go Go.RowKit Go.Deep

/-- A number's text. -/
def decB (n : Int) : ByteArray := ⟨(decL n.toNat).toArray⟩
def nameOf (bk : BookD) (r : RowD) : ByteArray := (bk.trips[r.trip.toNat]?.map (·.name)).getD ⟨#[]⟩
def toOf (bk : BookD) (r : RowD) : ByteArray := (bk.sts[r.to.toNat]?).getD ⟨#[]⟩
def headS (bk : BookD) (r : RowD) : ByteArray := decB r.due ++ ⟨#[32]⟩ ++ nameOf bk r ++ ⟨#[32]⟩ ++ toOf bk r ++ ⟨#[32, 116, 114, 97, 99, 107, 32]⟩ ++ decB r.track
def tailS (r : RowD) : ByteArray := if r.state = 1 then ⟨#[32, 101, 120, 112, 101, 99, 116, 101, 100, 32]⟩ ++ decB r.expect else if r.state = 2 then ⟨#[32, 104, 101, 114, 101]⟩ else if r.state = 3 then ⟨#[32, 99, 97, 108, 108, 101, 100, 32, 111, 102, 102]⟩ else ⟨#[]⟩
/-- The line of a row. -/
def lineS (bk : BookD) (r : RowD) : ByteArray := headS bk r ++ tailS r ++ ⟨#[10]⟩
/-- The lines of rows. -/
def shownS (bk : BookD) (rows : List RowD) : ByteArray := rows.foldl (fun acc r => acc ++ lineS bk r) ⟨#[]⟩
theorem shownS_take (bk : BookD) (rows : List RowD) (k : Nat) (h : k < rows.length) : shownS bk (rows.take (k + 1)) = shownS bk (rows.take k) ++ lineS bk rows[k] := by
  rw [List.take_succ_eq_append_getElem h]; unfold shownS; rw [List.foldl_append]; rfl

/-- A row that can be told: its numbers are places of the book, and not below 0. -/
structure RowOk (bk : BookD) (r : RowD) : Prop where
  trip : 0 ≤ r.trip ∧ r.trip < bk.trips.length
  stn : 0 ≤ r.to ∧ r.to < bk.sts.length
  due : 0 ≤ r.due ∧ r.due ≤ 1000000
  expect : 0 ≤ r.expect ∧ r.expect ≤ 1100000
  track : 1 ≤ r.track ∧ r.track ≤ 20
  state : 0 ≤ r.state ∧ r.state ≤ 3
  nms : (nameOf bk r).size ≤ 20
  sts : (toOf bk r).size ≤ 20

theorem tripB_st {n : Int} {t : TripD} (h : tripB n t = true) : ∀ k (hk : k < t.calls.length), (0 ≤ t.calls[k].st ∧ t.calls[k].st < n) ∧ (1 ≤ t.calls[k].tr ∧ t.calls[k].tr ≤ 20) := by
  have hc : callsB n t.calls = true := by
    cases hc : callsB n t.calls
    · rw [tripB_call hc] at h; exact h
    · rfl
  intro k hk
  unfold callsB at hc
  rw [List.all_eq_true] at hc
  have h1 := hc k (List.mem_range.2 hk)
  have h2 : callB n (prevGo t.calls k) t.calls[k] = true := by simpa [callAtB, List.getElem?_eq_getElem hk] using h1
  obtain ⟨a, b, _, _, _, c, d⟩ := callB_yes h2
  exact ⟨⟨a, b⟩, c, d⟩

/-- A track is one that there is. -/
def TrackOk (nss : List (List NewsD)) : Prop := ∀ ns ∈ nss, ∀ x ∈ ns, 1 ≤ x.track ∧ x.track ≤ 20
theorem track_start {bk : BookD} (h : ∀ t ∈ bk.trips, ∀ k (hk : k < t.calls.length), 1 ≤ t.calls[k].tr ∧ t.calls[k].tr ≤ 20) : TrackOk (startNews bk) := by
  intro ns hn x hx
  obtain ⟨t, ht, rfl⟩ := List.mem_map.1 hn
  obtain ⟨c, hc, rfl⟩ := List.mem_map.1 hx
  obtain ⟨i, hi, rfl⟩ := List.getElem_of_mem hc
  exact h t ht i hi
theorem track_do {r : RepD} (hr : r.op = 2 → 1 ≤ r.n ∧ r.n ≤ 20) (i : Nat) (x : NewsD) (hx : 1 ≤ x.track ∧ x.track ≤ 20) : 1 ≤ (doNews r i x).track ∧ (doNews r i x).track ≤ 20 := by
  unfold doNews
  split
  · split
    · exact hx
    · exact hx
  · split
    · rename_i h
      split
      · exact hr h
      · exact hx
    · repeat' split
      all_goals exact hx
theorem track_step {bk : BookD} {nss : List (List NewsD)} (h : TrackOk nss) (tick : Int) (r : RepD) (hr : reportB bk r = true) : TrackOk (stepNews tick nss r) := by
  have hn : r.op = 2 → 1 ≤ r.n ∧ r.n ≤ 20 := fun ho => by
    rw [reportB_yes (reportB_head hr), numB_2 ho] at hr
    exact of_decide_eq_true hr
  unfold stepNews
  split
  · intro ns hns x hx
    obtain ⟨i, hi, rfl⟩ := List.getElem_of_mem hns
    rw [List.length_modify] at hi
    rw [List.getElem_modify] at hx
    split at hx
    · unfold doRow at hx
      obtain ⟨m, hm, rfl⟩ := List.getElem_of_mem hx
      rw [List.length_mapIdx] at hm
      rw [List.getElem_mapIdx]
      exact track_do hn m _ (h _ (List.getElem_mem hi) _ (List.getElem_mem hm))
    · exact h _ (List.getElem_mem hi) x hx
  · exact h
theorem track_to (bk : BookD) (tick : Int) (rs : List RepD) (hb : ∀ t ∈ bk.trips, ∀ k (hk : k < t.calls.length), 1 ≤ t.calls[k].tr ∧ t.calls[k].tr ≤ 20) (hrs : ∀ r ∈ rs, reportB bk r = true) : TrackOk (newsTo bk tick rs) := by
  unfold newsTo
  generalize hs : startNews bk = s
  have h0 : TrackOk s := by rw [← hs]; exact track_start hb
  clear hs
  induction rs generalizing s with
  | nil => exact h0
  | cons r rs ih => exact ih (fun x hx => hrs x (by simp [hx])) _ (track_step h0 tick r (hrs r (by simp)))

theorem collect_mem {bk : BookD} {nss : List (List NewsD)} {s tick : Int} {n : Nat} {r : RowD} (h : r ∈ collect bk nss s tick n) : ∃ k, k < n ∧ rowOfTrip bk nss s tick k = some r := by
  induction n with
  | zero => simp [collect] at h
  | succ n ih =>
    unfold collect at h
    rcases List.mem_append.1 h with h | h
    · obtain ⟨k, hk, e⟩ := ih h; exact ⟨k, by omega, e⟩
    · exact ⟨n, by omega, by cases hr : rowOfTrip bk nss s tick n <;> rw [hr] at h <;> simp at h; rw [h]⟩
theorem pick_mem {n : Nat} {L : List RowD} {r : RowD} (h : r ∈ pick n L) : r ∈ L := by
  induction n generalizing L with
  | zero => simp [pick] at h
  | succ n ih =>
    by_cases h0 : 0 < L.length
    · rw [pick_cons n L (bestOf_lt L h0)] at h
      rcases List.mem_cons.1 h with rfl | h
      · exact List.getElem_mem _
      · exact List.mem_of_mem_eraseIdx (ih h)
    · have : L = [] := List.length_eq_zero_iff.1 (by omega)
      rw [this, pick_nil] at h
      simp at h
theorem nameB_size {s : ByteArray} (h : nameB s = true) : s.size ≤ 20 := by
  apply Classical.byContradiction
  intro hn
  rw [nameB_long hn] at h
  exact absurd h (by decide)
theorem sts_named {bk : BookD} (h : (faultD bk).1 = 0) {i : Nat} {nm : ByteArray} (hi : bk.sts[i]? = some nm) : nameB nm = true := by
  by_cases g : 30 < bk.sts.length ∨ 40 < bk.trips.length
  · rw [faultD_1 g] at h; simp at h
  · rw [faultD_2 g] at h
    cases h2 : firstIdx (badName bk.sts) bk.sts.length with
    | some i => rw [fault2_some h2] at h; simp at h
    | none =>
      obtain ⟨hl, rfl⟩ := List.getElem?_eq_some_iff.1 hi
      have := first_none_inv h2 i hl
      rw [badName_at _ i hl] at this
      cases hb : nameB bk.sts[i]
      · rw [hb] at this; simp at this
      · rfl
theorem board_ok {bk : BookD} {rs : List RepD} {s tick rows : Int} : ∀ r ∈ boardD bk rs s tick rows, RowOk bk r := by
  intro r hr
  unfold boardD at hr
  split at hr
  · rename_i hy
    obtain ⟨hrep, hs, ht, _⟩ := hy
    obtain ⟨r0, _, rk⟩ := reportsB_inv hrep
    have htr := (faultD_zero r0).2
    have hsh := shape_to bk tick rs
    have hrs : ∀ r ∈ rs, reportB bk r = true := fun r hr => by obtain ⟨i, hi, rfl⟩ := List.getElem_of_mem hr; exact (rk i hi).1
    have hla := late_to bk tick rs hrs
    have htk := track_to bk tick rs (fun t ht k hk => by obtain ⟨i, hi, rfl⟩ := List.getElem_of_mem ht; exact (tripB_st (htr i hi) k hk).2) hrs
    obtain ⟨k, hk, he⟩ := collect_mem (pick_mem hr)
    have hkn : k < (newsTo bk tick rs).length := by rw [hsh.length]; exact hk
    have hl : (newsTo bk tick rs)[k].length = bk.trips[k].calls.length := by rw [hsh.at k hkn, callsOf_at bk k hk]
    cases hfi : firstIdx (atStation bk.trips[k].calls s) bk.trips[k].calls.length with
    | none =>
      unfold rowOfTrip at he
      rw [List.getElem?_eq_getElem hk, List.getElem?_eq_getElem hkn] at he
      simp only at he
      rw [hfi] at he
      cases he
    | some q =>
      have hq := firstIdx_lt hfi
      have hqn : q < (newsTo bk tick rs)[k].length := by omega
      unfold rowOfTrip at he
      rw [List.getElem?_eq_getElem hk, List.getElem?_eq_getElem hkn] at he
      simp only at he
      rw [hfi] at he
      simp only at he
      rw [List.getElem?_eq_getElem hq, List.getElem?_eq_getElem hqn] at he
      simp only at he
      obtain ⟨e1, e2⟩ := rowAt_shown bk.trips[k].calls (newsTo bk tick rs)[k] k q tick hl hq hqn (tripB_nodup (htr k hk))
      rw [e1] at he
      cases hsw : shownD (newsTo bk tick rs)[k] q bk.trips[k].calls[q] (newsTo bk tick rs)[k][q] tick
      · rw [hsw] at he; simp at he
      · rw [hsw, if_pos rfl, e2 hsw] at he
        obtain rfl := Option.some.inj he
        obtain ⟨b1, b2⟩ := boundD_range (newsTo bk tick rs)[k] q hqn
        have hbl : (boundD (newsTo bk tick rs)[k] (newsTo bk tick rs)[k][q]).toNat < bk.trips[k].calls.length := by omega
        have hgo := tripB_go (htr k hk) q hq
        have hlx := hla _ (List.getElem_mem hkn) _ (List.getElem_mem hqn)
        refine ⟨by show 0 ≤ (k : Int) ∧ (k : Int) < _; omega, ?_, hgo, by show 0 ≤ _ + _ ∧ _ + _ ≤ _; omega, htk _ (List.getElem_mem hkn) _ (List.getElem_mem hqn), ?_, ?_, ?_⟩
        · have e : (rowD bk.trips[k].calls (newsTo bk tick rs)[k] k bk.trips[k].calls[q] (newsTo bk tick rs)[k][q]).to = (bk.trips[k].calls[(boundD (newsTo bk tick rs)[k] (newsTo bk tick rs)[k][q]).toNat]'hbl).st := by
            show (Option.map _ _).getD 0 = _
            rw [List.getElem?_eq_getElem hbl]
            rfl
          rw [e]
          exact (tripB_st (htr k hk) _ hbl).1
        · show 0 ≤ stateD _ ∧ stateD _ ≤ 3
          unfold stateD
          repeat' split
          all_goals omega
        · have e : nameOf bk (rowD bk.trips[k].calls (newsTo bk tick rs)[k] k bk.trips[k].calls[q] (newsTo bk tick rs)[k][q]) = bk.trips[k].name := by
            show Option.getD (Option.map _ bk.trips[(k : Int).toNat]?) _ = _
            rw [Int.toNat_natCast, List.getElem?_eq_getElem hk]
            rfl
          rw [e]
          exact nameB_size (tripB_named (htr k hk))
        · unfold toOf
          cases hst : bk.sts[(rowD bk.trips[k].calls (newsTo bk tick rs)[k] k bk.trips[k].calls[q] (newsTo bk tick rs)[k][q]).to.toNat]? with
          | none => exact Nat.zero_le _
          | some nm => exact nameB_size (sts_named r0 hst)
  · simp at hr

end Go.Proofs.YtjioingdpfgadaaGreatDoor
namespace Go.Proofs.YtjioingdpfgadaaGreatDoor
open Go Go.RowKit Go.Deep

/-- A call that is not called off: the trip ends there or behind it, at a station that there is. -/
theorem end_facts {n : Int} {t : TripD} (ht : tripB n t = true) {ns : List NewsD} (hl : ns.length = t.calls.length) {k : Nat} (hk : k < t.calls.length) (ho : (ns[k]'(by omega)).off = false) :
    ∃ (e : Nat) (he : e < t.calls.length), endIdx ns ns.length = (e : Int) ∧ k ≤ e ∧ endD t.calls ns = t.calls[e].st ∧ (0 ≤ t.calls[e].st ∧ t.calls[e].st < n) ∧ (t.calls[e].st = t.calls[k].st ↔ e = k) := by
  have hge := endIdx_ge ns k ns.length (by omega) (Nat.le_refl _) ho
  have hlt := (endIdx_lt ns ns.length).2
  obtain ⟨e, he⟩ := Int.eq_ofNat_of_zero_le (show 0 ≤ endIdx ns ns.length by omega)
  have hel : e < t.calls.length := by omega
  refine ⟨e, hel, he, by omega, ?_, (tripB_st ht e hel).1, ?_⟩
  · unfold endD
    rw [endTo_idx t.calls ns t.calls.length (Nat.le_refl _) (by omega), ← hl, he, if_neg (by omega), Int.toNat_natCast, List.getElem?_eq_getElem hel]
    rfl
  · constructor
    · intro h
      have hn := tripB_nodup ht
      have hp : (t.calls.map (·.st)).Pairwise (· ≠ ·) := List.nodup_iff_pairwise_ne.1 hn
      rw [List.pairwise_iff_getElem] at hp
      rcases Nat.lt_trichotomy e k with h1 | h1 | h1
      · exact absurd (by rw [List.getElem_map, List.getElem_map]; exact h) (hp e k (by simpa using hel) (by simpa using hk) h1)
      · exact h1
      · exact absurd (by rw [List.getElem_map, List.getElem_map]; exact h.symm) (hp k e (by simpa using hk) (by simpa using hel) h1)
    · intro h; subst h; rfl
theorem callAtC_inv {cs : List CallD} {s : Int} : callAtC cs s = -1 ∨ ∃ (k : Nat) (hk : k < cs.length), callAtC cs s = (k : Int) ∧ cs[k].st = s := by
  cases h : firstIdx (atStation cs s) cs.length with
  | none => exact .inl (callAtC_none h)
  | some k =>
    right
    have hk : k < cs.length := by
      have := List.mem_of_find?_eq_some h
      simpa using this
    refine ⟨k, hk, callAtC_some h, ?_⟩
    have := List.find?_some h
    rw [atStation_at _ _ _ hk] at this
    simpa using this
theorem textT_none {bk : BookD} {t : TripD} {ns : List NewsD} {r : RepD} {s : Int} (h : callAtC t.calls s = -1) : textT bk t ns r s = ⟨#[]⟩ := by
  unfold textT
  split
  · rfl
  · rw [if_neg]
    intro hh
    have := hh.1
    unfold reachB at this
    rw [h] at this
    simp at this
theorem textT_at {bk : BookD} {t : TripD} {ns : List NewsD} {r : RepD} {s : Int} {k : Nat} (h : callAtC t.calls s = (k : Int)) (hk : k < ns.length) :
    textT bk t ns r s = if reachB r.op r.call k = true ∧ spokenB ns[k] r.op = true then sayX t.name (endS bk t.calls ns) (decide (endD t.calls ns = s)) ns[k] r.op r.n else ⟨#[]⟩ := by
  unfold textT
  rw [h, Int.toNat_natCast, List.getElem?_eq_getElem hk]
theorem numS_eq (n : Int) : numS n = decB n := rfl
theorem spokenB_off {x : NewsD} {op : Int} (h : spokenB x op = true) : x.gone = false ∧ x.off = false ∧ (x.here = true → op = 5 ∨ op = 1) := by
  unfold spokenB at h
  simp at h
  obtain ⟨⟨h1, h2⟩, h3⟩ := h
  refine ⟨h1, h2, fun hh => ?_⟩
  rcases h3 with h3 | h3
  · rw [hh] at h3; exact absurd h3 (by decide)
  · exact h3

end Go.Proofs.YtjioingdpfgadaaGreatDoor
namespace Go.Proofs.YtjioingdpfgadaaGreatDoor
open Go Go.RowKit Go.Deep

theorem decF_len (f k : Nat) : (decF f k).length ≤ f := by
  induction f generalizing k with
  | zero => simp [decF]
  | succ f ih =>
    unfold decF
    split
    · simp
    · have := ih (k / 10)
      rw [List.length_append]
      simp
      omega
theorem decL_len (k : Nat) : (decL k).length ≤ 20 := by
  unfold decL
  split
  · simp
  · exact decF_len 20 k
theorem lineS_size {bk : BookD} {r : RowD} (h : RowOk bk r) : (lineS bk r).size ≤ 200 := by
  have hd : ∀ n, (decB n).size ≤ 20 := fun n => by have := decL_len n.toNat; simpa [decB, ByteArray.size] using this
  have ht : (tailS r).size ≤ 40 := by
    unfold tailS
    repeat' split
    · have := hd r.expect; rw [ByteArray.size_append]; show 10 + _ ≤ 40; omega
    · show 5 ≤ 40; omega
    · show 11 ≤ 40; omega
    · show 0 ≤ 40; omega
  have h1 := hd r.due
  have h2 := hd r.track
  have h3 := h.nms
  have h4 := h.sts
  unfold lineS headS
  simp only [ByteArray.size_append]
  have e1 : (⟨#[32]⟩ : ByteArray).size = 1 := rfl
  have e2 : (⟨#[32, 116, 114, 97, 99, 107, 32]⟩ : ByteArray).size = 7 := rfl
  have e3 : (⟨#[10]⟩ : ByteArray).size = 1 := rfl
  omega
theorem shownS_size {bk : BookD} {rows : List RowD} (h : ∀ r ∈ rows, RowOk bk r) (k : Nat) (hk : k ≤ rows.length) : (shownS bk (rows.take k)).size ≤ k * 200 := by
  induction k with
  | zero => exact Nat.zero_le _
  | succ k ih =>
    rw [shownS_take bk rows k (by omega), ByteArray.size_append]
    have := ih (by omega)
    have := lineS_size (h _ (List.getElem_mem (by omega : k < rows.length)))
    omega

end Go.Proofs.YtjioingdpfgadaaGreatDoor
