import Derived.Test.YtjioingdpfgadaaDoorProg
import Derived.Test.YtjioingdpfgadaaDoorSzM
import Derived.Laws.OwnMore
namespace Go.Proofs.YtjioingdpfgadaaDoor
open Go Go.RowKit Go.Deep

/-- What is known of a trip's calls when nothing was told. -/
def startOf (c : CallD) : NewsD := ⟨0, c.tr, false, false, false⟩
def startRow (cs : List CallD) : List NewsD := cs.map startOf
def startNews (bk : BookD) : List (List NewsD) := bk.trips.map fun t => startRow t.calls
theorem startRow_take (cs : List CallD) (k : Nat) (h : k < cs.length) : startRow (cs.take (k + 1)) = startRow (cs.take k) ++ [startOf cs[k]] := by
  unfold startRow; rw [take_snoc cs k h, List.map_append]; rfl
theorem startNews_take (bk : BookD) (k : Nat) (h : k < bk.trips.length) : (startNews bk).take (k + 1) = (startNews bk).take k ++ [startRow bk.trips[k].calls] := by
  have h' : k < (startNews bk).length := by simpa [startNews] using h
  rw [take_snoc _ k h']; simp [startNews]

theorem owns_mono {w : World} {B B' : Nat} {e : TypeId} {s n : Nat} {v : Value} {xs : List Value} (h : w.ownsRow B e s v n xs) (hB : B' ≤ B) : w.ownsRow B' e s v n xs := by
  refine ⟨h.1, ?_⟩
  rcases h.2 with h0 | ⟨g, cap, cur, e, h1, r⟩
  · exact Or.inl h0
  · exact Or.inr ⟨g, cap, cur, e, Nat.le_trans hB h1, r⟩

theorem NewsOwnAt.snoc {B H : Nat} {w w' : World} {v v' rv : Value} {nss : List (List NewsD)} {ns : List NewsD} {vs : List Value} (h : NewsOwnAt B w v nss vs) (hr : w.ownsRow H 41 5 rv ns.length (rowCells ns)) (hB : B ≤ H) (hlow : ∀ i (hi : i < vs.length), ∀ g, vs[i].ownBlock = some g → g < H) (hg : w.grownBy w' v.ownBlock) (ho : w'.ownsRow B 42 1 v' (nss.length + 1) (vs ++ [rv])) : NewsOwnAt B w' v' (nss ++ [ns]) (vs ++ [rv]) := by
  have hne : ∀ {u : Value} {n B' : Nat} {xs : List Value}, w.ownsRow B' 41 5 u n xs → u.ownBlock = none ∨ u.ownBlock ≠ v.ownBlock := fun {u n B' xs} hu => by
    cases hb : u.ownBlock with
    | none => exact Or.inl rfl
    | some g =>
      refine Or.inr fun e => ?_
      have := owns_types hu h.outer hb e.symm
      exact absurd this (by decide)
  have hl := h.len
  refine ⟨by simpa using ho, by simp [hl], fun i h1 h2 => ?_, fun i j hi hj hij => ?_⟩
  · by_cases hi : i < nss.length
    · have hk := h.rows i hi (by rw [hl]; exact hi)
      rw [List.getElem_append_left hi, List.getElem_append_left (by rw [hl]; exact hi)]
      exact hk.kept hg (hne hk)
    · have e : i = nss.length := by simp at h1; omega
      subst e
      have e1 : (nss ++ [ns])[nss.length] = ns := by simp
      have e2 : (vs ++ [rv])[nss.length]'h2 = rv := by simp [← hl]
      rw [e1, e2]
      exact owns_mono (hr.kept hg (hne hr)) hB
  · by_cases hj' : j < vs.length
    · rw [List.getElem_append_left hj', List.getElem_append_left (by omega)]
      exact h.apart i j (by omega) hj' hij
    · have e : j = vs.length := by simp at hj; omega
      subst e
      rw [List.getElem_append_left hij]
      have e2 : (vs ++ [rv])[vs.length]'hj = rv := by simp
      rw [e2]
      cases hb : vs[i].ownBlock with
      | none => exact Or.inl rfl
      | some g =>
        refine Or.inr fun e => ?_
        have h1 := hlow i hij g hb
        have h2 := (hr.lt g e.symm).1
        omega

theorem owns_slice {w : World} {B : Nat} {e : TypeId} {s n : Nat} {v : Value} {xs : List Value} (h : w.ownsRow B e s v n xs) : ∃ a c, v = .slice a n c := by
  rcases h.2 with ⟨rfl, rfl⟩ | ⟨g, cap, cur, rfl, _⟩
  · exact ⟨_, _, rfl⟩
  · exact ⟨_, _, rfl⟩
theorem news_new (w : World) (x : NewsD) (t : TypeId) : ∀ j u, (newsCells x)[j]? = some u → (w.alloc (.cells #[.int .i64 x.late, .int .i64 x.track, .bool x.off, .bool x.here, .bool x.gone] t)).cell? ((⟨w.heap.size, 0, none⟩ : Addr).add j) = some u := by
  intro j u hj
  match j, hj with
  | 0, hj => simp [newsCells] at hj; subst hj; simp [Addr.add]
  | 1, hj => simp [newsCells] at hj; subst hj; simp [Addr.add]
  | 2, hj => simp [newsCells] at hj; subst hj; simp [Addr.add]
  | 3, hj => simp [newsCells] at hj; subst hj; simp [Addr.add]
  | 4, hj => simp [newsCells] at hj; subst hj; simp [Addr.add]
  | n + 5, hj => simp [newsCells] at hj
theorem news_one (x : NewsD) : ∀ u ∈ newsCells x, u.oneCell' = true := by
  intro u hu
  simp only [newsCells, List.mem_cons, List.not_mem_nil, or_false] at hu
  rcases hu with rfl | rfl | rfl | rfl | rfl <;> rfl

set_option maxRecDepth 100000 in
set_option maxHeartbeats 2000000 in
theorem l2news_any (v : Value) (bk : BookD) (w : World) (hn : bookSize bk ≤ 1048576) (hat : BookAt w v bk) :
    Calls Tryd.prog 47 #[v] w fun e w' => ∃ v', e = .returned v' ∧ NewsOwn w.heap.size w' v' (startNews bk) ∧ Below w.heap.size w w' := by
  obtain ⟨sa, sc, ta, tc, rfl, hsa, hta⟩ := hat
  have n2 : bk.trips.length ≤ 1048576 := by unfold bookSize tripsSize at hn; omega
  have n3 : ∀ i (h : i < bk.trips.length), bk.trips[i].calls.length ≤ 1048576 := by
    intro i h
    have := sumTrips_get bk.trips i h
    unfold bookSize tripsSize at hn; unfold tripSize at this; omega
  obtain ⟨i0, hi0, he0⟩ := Option.map_eq_some_iff.1 infNw
  obtain ⟨i1, hi1, he1⟩ := Option.map_eq_some_iff.1 infNwS
  simp only [Prod.mk.injEq] at he0 he1
  have HI0 : Hid (i0.zero = some (.agg #[.int .i64 0, .int .i64 0, .bool false, .bool false, .bool false]) ∧ i0.size = 5 ∧ i0.bytes = 24) := he0
  have HI1 : Hid (i1.zero = some (.slice none 0 0) ∧ i1.size = 1 ∧ i1.bytes = 24) := he1
  have HJ0 : Hid (Tryd.prog.info? 41 = some i0) := hi0
  have HJ1 : Hid (Tryd.prog.info? 42 = some i1) := hi1
  have HL : Hid ((startNews bk).length = bk.trips.length) := by unfold Hid; simp [startNews]
  have HTA : Hid (TripsAt w ta bk.trips) := hta
  have hb0 : Below w.heap.size w (w.alloc (.cells #[.slice sa bk.sts.length sc, .slice ta bk.trips.length tc] 26)) := (Below.refl _ _).alloc (Nat.le_refl _) _
  clear hsa hta hi0 hi1 he0 he1 hn
  go_enter Tryd.func47, Tryd.ntmps47
  go_wp2
  go_loopw [3, 12] (fun out i wr => ∃ k : Nat, k ≤ bk.trips.length ∧ i = .int .i64 k ∧ Hid (NewsOwn (w.heap.size + 1) wr out ((startNews bk).take k)) ∧ Below (w.heap.size + 1) (w.alloc (.cells #[.slice sa bk.sts.length sc, .slice ta bk.trips.length tc] 26)) wr) (fun _ i _ => bk.trips.length - (intOf i).toNat)
  case atStart => exact ⟨0, Nat.zero_le _, rfl, ⟨[], World.ownsRow_nil _ _ _ _, rfl, fun i h => by simp at h, fun i j hi => by simp at hi⟩, Below.refl _ _⟩
  case round =>
    obtain ⟨k, hk, rfl, hown, hbel⟩ := hrel
    have hB : Below w.heap.size w wr := hb0.trans (hbel.mono (by omega))
    have hz := hbel.size
    simp at hz
    by_cases hlt : k < bk.trips.length
    · obtain ⟨b, o, ca, cc, rfl, c0, c1, hca⟩ := HTA.out.keep hB k hlt
      have hnk := n3 k hlt
      have HT : Hid ((startNews bk).take (k + 1) = (startNews bk).take k ++ [startRow bk.trips[k].calls]) := startNews_take bk k hlt
      generalize bk.trips[k] = t at *
      have HCA : Hid (CallsAt wr ca t.calls) := hca
      clear hca n3
      rename World => W1
      have hbt : Below W1.heap.size W1 (W1.alloc (.cells #[.string t.name, .slice ca t.calls.length cc] 54)) := (Below.refl _ _).alloc (Nat.le_refl _) _
      go_wp2_with fail
      go_loopw [6, 19] (fun row j wi => ∃ m : Nat, m ≤ t.calls.length ∧ j = .int .i64 m ∧ wi.ownsRow (W1.heap.size + 1) 41 5 row m (rowCells (startRow (t.calls.take m))) ∧ Below (W1.heap.size + 1) (W1.alloc (.cells #[.string t.name, .slice ca t.calls.length cc] 54)) wi) (fun _ j _ => t.calls.length - (intOf j).toNat)
      case atStart => exact ⟨0, Nat.zero_le _, rfl, World.ownsRow_nil _ _ _ _, Below.refl _ _⟩
      case round =>
        obtain ⟨m, hm, rfl, hrow, hbi⟩ := hrel
        have hBi : Below W1.heap.size W1 wr := hbt.trans (hbi.mono (by omega))
        have hzi := hbi.size
        simp at hzi
        by_cases hlm : m < t.calls.length
        · obtain ⟨b', o', rfl, d0, d1, d2, d3⟩ := HCA.out.keep hBi m hlm
          have HR : Hid (startRow (t.calls.take (m + 1)) = startRow (t.calls.take m) ++ [startOf t.calls[m]]) := startRow_take t.calls m hlm
          generalize t.calls[m] = c at *
          go_wp2_with (first
            | (at_builtin; refine wpList_append_own_at _ rfl _ _ 42 rfl (W1.heap.size + 1) 41 i0 (.agg #[.int .i64 0, .int .i64 0, .bool false, .bool false, .bool false]) 5 24 uNw HJ0.out HI0.out.1 HI0.out.2.1 HI0.out.2.2 rfl (by decide) _ _ _ rfl ((hrow.alloc _).alloc _) ⟨wr.heap.size + 1, 0, none⟩ 1 1 (newsCells (startOf c)) rfl rfl ?c1 (news_one _) ?c3 ?c4 ?c5 ?_)
            | fail)
          case c1 =>
            have := news_new (wr.alloc (.cells #[.int .i64 c.st, .int .i64 c.co, .int .i64 c.go, .int .i64 c.tr] 56)) (startOf c) 41
            rw [nblk_alloc] at this
            exact this
          case c3 => unfold maxLen; omega
          case c4 => omega
          case c5 => simp; omega
          intro v' w3 hown' hgrow _ hloc
          have hrow3 : w3.ownsRow (W1.heap.size + 1) 41 5 v' (m + 1) (rowCells (startRow (t.calls.take (m + 1)))) := by
            rw [HR.out, rowCells_snoc]; exact hown'
          have hbi3 : Below (W1.heap.size + 1) (W1.alloc (.cells #[.string t.name, .slice (some ⟨b', o', none⟩) t.calls.length cc] 54)) w3 := by
            refine Below.grown ((hbi.alloc (by omega) _).alloc (by simp; omega) _) hgrow (by simp; omega) fun g hg => ?_
            exact (hrow.lt g hg).1
          clear hown' hgrow hloc hrow hbi
          go_wp2_with fail
          go_roundw
          case rel => exact ⟨m + 1, by omega, by go_num, hrow3, hbi3⟩
          case measure => simp [intOf]; omega
        · have hm' : m = t.calls.length := by omega
          subst hm'
          have hrow2 : wr.ownsRow (W1.heap.size + 1) 41 5 u6 (startRow t.calls).length (rowCells (startRow t.calls)) := by
            rw [List.take_length] at hrow; simpa [startRow] using hrow
          obtain ⟨vs, hvs⟩ := hown
          have HV : Hid (NewsOwnAt (w.heap.size + 1) wr u3 ((startNews bk).take k) vs) := hvs.below hBi
          have hk' : ((startNews bk).take k).length = k := by rw [List.length_take, HL.out]; omega
          have hout : wr.ownsRow (w.heap.size + 1) 42 1 u3 k vs := by have := HV.out.outer; rwa [hk'] at this
          have HLOW : Hid (∀ i (hi : i < vs.length), ∀ g, vs[i].ownBlock = some g → g < W1.heap.size) := fun i hi g hg => (hvs.rows i (by rw [← hvs.len]; exact hi) hi).lt g hg |>.2
          clear hrow hvs
          obtain ⟨ra, rc, rfl⟩ := owns_slice hrow2
          have HR2 : Hid (wr.ownsRow (W1.heap.size + 1) 41 5 (.slice ra (startRow t.calls).length rc) (startRow t.calls).length (rowCells (startRow t.calls))) := hrow2
          clear hrow2
          go_wp2_with (first
            | (at_builtin; refine wpList_append_own_at _ rfl _ _ 33 rfl (w.heap.size + 1) 42 i1 (.slice none 0 0) 1 24 uNwS HJ1.out HI1.out.1 HI1.out.2.1 HI1.out.2.2 rfl (by decide) _ _ _ rfl (hout.alloc _) ⟨wr.heap.size, 0, none⟩ 1 1 [.slice ra (startRow t.calls).length rc] rfl rfl (cell_one_new _ _ _) ?c2 ?c3 ?c4 ?c5 ?_)
            | fail)
          case c2 => intro u hu; simp at hu; subst hu; rfl
          case c3 => unfold maxLen; omega
          case c4 => omega
          case c5 => simp; omega
          intro v' w3 hown' hgrow _ hloc
          have HV3 : Hid (NewsOwn (w.heap.size + 1) w3 v' ((startNews bk).take (k + 1))) := by
            refine ⟨vs ++ [.slice ra (startRow t.calls).length rc], ?_⟩
            rw [HT.out]
            refine NewsOwnAt.snoc (H := W1.heap.size + 1) (HV.out.below ((Below.refl _ _).alloc (Nat.le_refl _) _)) (HR2.out.alloc _) (by omega) (fun i hi g hg => by have := HLOW.out i hi g hg; omega) hgrow (by rw [hk']; exact hown')
          have hbel3 : Below (w.heap.size + 1) (w.alloc (.cells #[.slice sa bk.sts.length sc, .slice (some ⟨b, o, none⟩) bk.trips.length tc] 26)) w3 := by
            refine Below.grown ((hbel.trans (hBi.mono (by omega))).alloc (by omega) _) hgrow (by simp; omega) fun g hg => ?_
            exact (hout.lt g hg).1
          clear hown' hgrow hloc hout HV HR2
          go_wp2_with fail
          go_roundw
          case rel => exact ⟨k + 1, by omega, by go_num, HV3, hbel3⟩
          case measure => simp [intOf]; omega
    · have hk' : k = bk.trips.length := by omega
      subst hk'
      have hfin : NewsOwn w.heap.size wr u3 (startNews bk) := by
        obtain ⟨vs, hvs⟩ := hown
        rw [← HL.out, List.take_length] at hvs
        exact ⟨vs, owns_mono hvs.outer (by omega), hvs.len, fun i h1 h2 => owns_mono (hvs.rows i h1 h2) (by omega), hvs.apart⟩
      have HF : Hid (NewsOwn w.heap.size wr u3 (startNews bk)) := hfin
      clear hown hfin
      go_wp2_with fail
      go_ret
      exact ⟨_, rfl, HF.out, hB⟩

end Go.Proofs.YtjioingdpfgadaaDoor
namespace Go.Proofs.YtjioingdpfgadaaDoor
open Go Go.RowKit Go.Deep

/-- What a report that counts does to the news of call k of its trip. -/
def doNews (r : RepD) (k : Nat) (x : NewsD) : NewsD :=
  if r.op = 1 then (if r.call ≤ k then { x with late := r.n } else x)
  else if r.op = 2 then (if r.call = k then { x with track := r.n } else x)
  else if r.op = 3 then (if r.call ≤ k then { x with off := true } else x)
  else if r.op = 4 then (if r.call = k then { x with here := true } else x)
  else if r.op = 5 then (if r.call = k then { x with here := false, gone := true } else x)
  else x
def doRow (r : RepD) (ns : List NewsD) : List NewsD := ns.mapIdx (doNews r)
def upTo (r : RepD) (m : Nat) (ns : List NewsD) : List NewsD := ns.mapIdx fun i x => if i < m then doNews r i x else x
theorem doRow_length (r : RepD) (ns : List NewsD) : (doRow r ns).length = ns.length := by simp [doRow]
theorem upTo_length (r : RepD) (m : Nat) (ns : List NewsD) : (upTo r m ns).length = ns.length := by simp [upTo]
theorem upTo_get (r : RepD) (m : Nat) (ns : List NewsD) (i : Nat) (h : i < ns.length) : (upTo r m ns)[i]'(by rw [upTo_length]; exact h) = if i < m then doNews r i ns[i] else ns[i] := by simp [upTo]
theorem upTo_start (r : RepD) (k : Nat) (ns : List NewsD) (hk : r.call = (k : Int)) (ho : r.op = 1 ∨ r.op = 3) : upTo r k ns = ns := by
  apply List.ext_getElem (upTo_length r k ns)
  intro i h1 h2
  rw [upTo_get r k ns i h2]
  by_cases h : i < k
  · rw [if_pos h]
    unfold doNews
    have : ¬ r.call ≤ (i : Int) := by omega
    rcases ho with ho | ho <;> simp [ho, this]
  · rw [if_neg h]
theorem upTo_end (r : RepD) (ns : List NewsD) : upTo r ns.length ns = doRow r ns := by
  apply List.ext_getElem (by rw [upTo_length, doRow_length])
  intro i h1 h2
  rw [doRow_length] at h2
  rw [upTo_get r _ ns i h2, if_pos h2]
  simp [doRow]
theorem upTo_succ (r : RepD) (m : Nat) (ns : List NewsD) (h : m < ns.length) : upTo r (m + 1) ns = (upTo r m ns).set m (doNews r m ns[m]) := by
  apply List.ext_getElem (by rw [List.length_set, upTo_length, upTo_length])
  intro i h1 h2
  rw [upTo_length] at h1
  rw [upTo_get r _ ns i h1, List.getElem_set]
  by_cases e : m = i
  · subst e; rw [if_pos (by omega), if_pos rfl]
  · rw [if_neg e, upTo_get r _ ns i h1]
    by_cases h' : i < m
    · rw [if_pos (by omega), if_pos h']
    · rw [if_neg (by omega), if_neg h']
theorem doRow_one (r : RepD) (k : Nat) (ns : List NewsD) (hk : r.call = (k : Int)) (h : k < ns.length) (h1 : r.op ≠ 1) (h3 : r.op ≠ 3) : doRow r ns = ns.set k (doNews r k ns[k]) := by
  apply List.ext_getElem (by rw [List.length_set, doRow_length])
  intro i h4 h2
  rw [doRow_length] at h4
  rw [List.getElem_set]
  have e0 : (doRow r ns)[i]'(by rw [doRow_length]; exact h4) = doNews r i ns[i] := by simp [doRow]
  rw [e0]
  by_cases e : k = i
  · subst e; rw [if_pos rfl]
  · rw [if_neg e]
    have : ¬ r.call = (i : Int) := by omega
    unfold doNews
    simp [h1, h3, this]

/-- One cell of a row is written. -/
theorem rowCells_set (ns : List NewsD) (m c : Nat) (u : Value) (x : NewsD) (h : m < ns.length) (hc : c < 5) (hx : newsCells x = (newsCells ns[m]).set c u) : (rowCells ns).set (m * 5 + c) u = rowCells (ns.set m x) := by
  induction ns generalizing m with
  | nil => simp at h
  | cons a l ih =>
    have e : ∀ b, rowCells (b :: l) = newsCells b ++ rowCells l := fun b => by simp [rowCells]
    have la : ∀ b, (newsCells b).length = 5 := fun b => rfl
    cases m with
    | zero =>
      rw [List.set_cons_zero, e, e, List.set_append_left _ _ (by rw [la]; omega)]
      simp at hx
      rw [hx, Nat.zero_mul, Nat.zero_add]
    | succ m =>
      rw [List.set_cons_succ, e, List.set_append_right _ _ (by rw [la]; omega), la]
      have e2 : rowCells (a :: l.set m x) = newsCells a ++ rowCells (l.set m x) := by simp [rowCells]
      rw [e2, ← ih m (by simpa using h) (by simpa using hx)]
      have : (m + 1) * 5 + c - 5 = m * 5 + c := by omega
      rw [this]
theorem rowCells_set' {w : World} {B g cap : Nat} {ns : List NewsD} (m c : Nat) (u : Value) (x : NewsD) (h : m < ns.length) (hc : c < 5) (hx : newsCells x = (newsCells ns[m]).set c u)
    (hr : w.ownsRow B 41 5 (.slice (some ⟨g, 0, none⟩) ns.length cap) ns.length (rowCells ns)) :
    (w.setCell ⟨g, m * 5 + c, none⟩ u).ownsRow B 41 5 (.slice (some ⟨g, 0, none⟩) ns.length cap) ns.length (rowCells (ns.set m x)) ∧ w.grownBy (w.setCell ⟨g, m * 5 + c, none⟩ u) (some g) := by
  have := hr.stored (m * 5 + c) u
  rw [rowCells_set ns m c u x h hc hx] at this
  exact this

/-- One row of the news is turned; the others stay. -/
theorem NewsOwnAt.stored {B : Nat} {w w' : World} {v : Value} {nss : List (List NewsD)} {vs : List Value} (h : NewsOwnAt B w v nss vs) (j : Nat) (hj : j < nss.length) (hj' : j < vs.length) {ns : List NewsD} (hr : w'.ownsRow B 41 5 vs[j] ns.length (rowCells ns)) (hg : w.grownBy w' vs[j].ownBlock) : NewsOwnAt B w' v (nss.set j ns) vs := by
  have hrj := h.rows j hj hj'
  refine ⟨?_, by rw [List.length_set]; exact h.len, fun i h1 h2 => ?_, h.apart⟩
  · rw [List.length_set]
    refine h.outer.kept hg ?_
    cases hb : v.ownBlock with
    | none => exact Or.inl rfl
    | some g =>
      refine Or.inr fun e => ?_
      have := owns_types hrj h.outer e.symm hb
      exact absurd this (by decide)
  · rw [List.length_set] at h1
    by_cases e : j = i
    · subst e
      rw [List.getElem_set_self]
      exact hr
    · rw [List.getElem_set_ne e]
      refine (h.rows i h1 h2).kept hg ?_
      rcases Nat.lt_or_ge i j with hij | hij
      · exact h.apart i j h2 hj' hij
      · rcases h.apart j i hj' h2 (by omega) with h0 | h0
        · cases hb : vs[i].ownBlock with
          | none => exact Or.inl rfl
          | some g => rw [h0]; exact Or.inr (by simp)
        · exact Or.inr (fun e => h0 e.symm)

end Go.Proofs.YtjioingdpfgadaaDoor
