import Derived.Test.YtjioingdpfgadaaDoorProg
import Derived.Test.YtjioingdpfgadaaDoorSpecBM
import Derived.Test.YtjioingdpfgadaaDoorChkDM
import Derived.Test.YtjioingdpfgadaaDoorHeapM
import Derived.Test.YtjioingdpfgadaaDoorBoardCM
namespace Go.Proofs.YtjioingdpfgadaaDoor
open Go Go.RowKit Go.Deep

set_option maxRecDepth 100000 in
set_option maxHeartbeats 1000000 in
theorem specCallAt_any (v : Value) (bk : BookD) (trip s : Int) (w : World) (hn : bookSize bk ≤ 1048576) (hat : BookAt w v bk) :
    Calls Tryd.prog 19 #[v, .int .i64 trip, .int .i64 s] w fun e w' => e = .returned (.int .i64 (callAtD bk trip s)) ∧ Below w.heap.size w w' := by
  obtain ⟨sa, sc, ta, tc, rfl, hsa, hta⟩ := hat
  have hb0 := bx_below w (.cells #[.slice sa bk.sts.length sc, .slice ta bk.trips.length tc] 26)
  have HBK : Hid (BookAt w (.agg #[.slice sa bk.sts.length sc, .slice ta bk.trips.length tc]) bk) := ⟨sa, sc, ta, tc, rfl, hsa, hta⟩
  have n2 : bk.trips.length ≤ 1048576 := by unfold bookSize tripsSize at hn; omega
  clear hsa hta
  cases hok : ((faultD bk).1 == 0)
  · have HF : Hid (callAtD bk trip s = -1) := callAtD_no (fun h => by rw [h.1] at hok; simp at hok)
    go_enter Tryd.func19, Tryd.ntmps19
    go_wp2_with fail
    refine (l1ok_any _ bk _ hn (by exact HBK.out.keep hb0)).mono ?_
    rintro e w1 ⟨rfl, hb1⟩
    rw [hok]
    go_wp2_with fail
    go_ret
    exact ⟨ret_int HF.out.symm, hb0.trans (hb1.mono (by simp))⟩
  · have H0 : Hid ((faultD bk).1 = 0) := by unfold Hid; simpa using hok
    by_cases hin : 0 ≤ trip ∧ trip ≤ (bk.trips.length : Int) - 1
    · obtain ⟨i1, i2⟩ := hin
      obtain ⟨k, rfl⟩ := Int.eq_ofNat_of_zero_le i1
      have hk : k < bk.trips.length := by omega
      have HF : Hid (callAtD bk k s = callAtC bk.trips[k].calls s) := callAtD_yes H0.out hk
      go_enter Tryd.func19, Tryd.ntmps19
      go_wp2_with fail
      refine (l1ok_any _ bk _ hn (by exact HBK.out.keep hb0)).mono ?_
      rintro e w1 ⟨rfl, hb1⟩
      rw [hok]
      have B1 : Below (w.heap.size + 1) (w.alloc (.cells #[.slice sa bk.sts.length sc, .slice ta bk.trips.length tc] 26)) w1 := hb1.mono (by simp)
      have hB1 : Below w.heap.size w w1 := hb0.trans (B1.mono (by omega))
      have q0 : w1.cell? ⟨w.heap.size, 0, none⟩ = some (.slice sa bk.sts.length sc) := by
        rw [B1.cell (p := ⟨w.heap.size, 0, none⟩) (by simp)]; simp [go_sem]
      have q1 : w1.cell? ⟨w.heap.size, 1, none⟩ = some (.slice ta bk.trips.length tc) := by
        rw [B1.cell (p := ⟨w.heap.size, 1, none⟩) (by simp)]; simp [go_sem]
      clear hb1
      go_wp2_with fail
      refine (l1in_yes _ _ _ _ i1 i2).mono ?_
      rintro e w2 ⟨rfl, rfl⟩
      go_wp2_with fail
      refine (l1at_any _ bk k s _ hk hn (by exact HBK.out.keep hB1)).mono ?_
      rintro e w3 ⟨rfl, hb3⟩
      go_wp2_with fail
      go_ret
      exact ⟨ret_int HF.out.symm, hB1.trans (hb3.mono hB1.size)⟩
    · have HF : Hid (callAtD bk trip s = -1) := callAtD_no (fun h => hin (by omega))
      go_enter Tryd.func19, Tryd.ntmps19
      go_wp2_with fail
      refine (l1ok_any _ bk _ hn (by exact HBK.out.keep hb0)).mono ?_
      rintro e w1 ⟨rfl, hb1⟩
      rw [hok]
      have B1 : Below (w.heap.size + 1) (w.alloc (.cells #[.slice sa bk.sts.length sc, .slice ta bk.trips.length tc] 26)) w1 := hb1.mono (by simp)
      have hB1 : Below w.heap.size w w1 := hb0.trans (B1.mono (by omega))
      have q1 : w1.cell? ⟨w.heap.size, 1, none⟩ = some (.slice ta bk.trips.length tc) := by
        rw [B1.cell (p := ⟨w.heap.size, 1, none⟩) (by simp)]; simp [go_sem]
      clear hb1
      go_wp2_with fail
      refine (l1in_no _ _ _ _ hin).mono ?_
      rintro e w2 ⟨rfl, rfl⟩
      go_wp2_with fail
      go_ret
      exact ⟨ret_int HF.out.symm, hB1⟩

end Go.Proofs.YtjioingdpfgadaaDoor
namespace Go.Proofs.YtjioingdpfgadaaDoor
open Go Go.RowKit Go.Deep Go.WideMaps Go.Maps

set_option maxRecDepth 100000 in
set_option maxHeartbeats 1000000 in
theorem implCallAt_any (v : Value) (bk : BookD) (trip s : Int) (w : World) (hn : bookSize bk ≤ 1048576) (hws : (Lit.int .i64 s).wf = true) (hwf : ∀ t ∈ bk.trips, ∀ i (h : i < t.calls.length), (Lit.int .i64 t.calls[i].st).wf = true) (hat : BookAt w v bk) (hev : ErrVars w) :
    Calls Tryd.prog 28 #[v, .int .i64 trip, .int .i64 s] w fun e w' => e = .returned (.int .i64 (callAtD bk trip s)) ∧ Below w.heap.size w w' := by
  obtain ⟨sa, sc, ta, tc, rfl, hsa, hta⟩ := hat
  have hb0 := box_below w (.cells #[.slice sa bk.sts.length sc, .slice ta bk.trips.length tc] 26)
  have HBK : Hid (BookAt w (.agg #[.slice sa bk.sts.length sc, .slice ta bk.trips.length tc]) bk) := ⟨sa, sc, ta, tc, rfl, hsa, hta⟩
  have n2 : bk.trips.length ≤ 1048576 := by unfold bookSize tripsSize at hn; omega
  have n3 : ∀ i (h : i < bk.trips.length), bk.trips[i].calls.length ≤ 1048576 := by
    intro i h
    have := sumTrips_get bk.trips i h
    unfold bookSize tripsSize at hn; unfold tripSize at this; omega
  have HWF : Hid (∀ t ∈ bk.trips, ∀ i (h : i < t.calls.length), (Lit.int .i64 t.calls[i].st).wf = true) := hwf
  have HTA : Hid (TripsAt w ta bk.trips) := hta
  clear hsa hta hwf
  by_cases hok : (faultD bk).1 = 0
  · have htr := (faultD_zero hok).2
    by_cases hin : 0 ≤ trip ∧ trip < (bk.trips.length : Int)
    · obtain ⟨i1, i2⟩ := hin
      obtain ⟨k, rfl⟩ := Int.eq_ofNat_of_zero_le i1
      have hk : k < bk.trips.length := by omega
      have HF : Hid (callAtD bk k s = callAtC bk.trips[k].calls s) := callAtD_yes hok hk
      have HND : Hid ((stationsOf bk.trips[k].calls).Nodup) := tripB_nodup (htr k hk)
      clear htr
      go_enter Tryd.func28, Tryd.ntmps28
      go_wp2_with fail
      refine (isRight_any _ bk _ hn HWF.out (by exact HBK.out.keep hb0) (by exact hev.keep hb0)).mono ?_
      rintro e w1 ⟨rfl, hb1⟩
      rw [hok, show ((0 : Int) == 0) = true from rfl]
      have B1 : Below (w.heap.size + 1) (w.alloc (.cells #[.slice sa bk.sts.length sc, .slice ta bk.trips.length tc] 26)) w1 := hb1.mono (by simp)
      have hB1 : Below w.heap.size w w1 := hb0.trans (B1.mono (by omega))
      obtain ⟨q0, q1⟩ := box_cell _ _ _ _ _ B1
      clear hb1 hok
      obtain ⟨b, o, ca, cc, rfl, hc0, hc1, hca⟩ := (HTA.out.keep hB1) k hk
      have HCA : Hid (CallsAt w1 ca bk.trips[k].calls) := hca
      clear hca
      have n4 := n3 k hk
      have HWK : Hid (∀ i (h : i < bk.trips[k].calls.length), (Lit.int .i64 bk.trips[k].calls[i].st).wf = true) := HWF.out _ (List.getElem_mem hk)
      generalize bk.trips[k].calls = cs at *
      clear n3
      go_wp2_with fail
      refine (callOf_any _ _ _ cs s _ n4 hws HWK.out HND.out (by exact HCA.out)).mono ?_
      rintro e w2 ⟨rfl, hb2⟩
      have hB2 : Below w.heap.size w w2 := hB1.trans (hb2.mono hB1.size)
      clear q0 q1 hc0 hc1
      go_wp2_with fail
      go_ret
      exact ⟨ret_int (by rw [HF.out]), hB2⟩
    · have HF : Hid (callAtD bk trip s = -1) := callAtD_no (fun h => hin ⟨h.2.1, h.2.2⟩)
      clear htr
      by_cases i1 : 0 ≤ trip
      · have i2 : (bk.trips.length : Int) ≤ trip := by omega
        go_enter Tryd.func28, Tryd.ntmps28
        go_wp2_with fail
        refine (isRight_any _ bk _ hn HWF.out (by exact HBK.out.keep hb0) (by exact hev.keep hb0)).mono ?_
        rintro e w1 ⟨rfl, hb1⟩
        rw [hok, show ((0 : Int) == 0) = true from rfl]
        have B1 : Below (w.heap.size + 1) (w.alloc (.cells #[.slice sa bk.sts.length sc, .slice ta bk.trips.length tc] 26)) w1 := hb1.mono (by simp)
        have hB1 : Below w.heap.size w w1 := hb0.trans (B1.mono (by omega))
        obtain ⟨q0, q1⟩ := box_cell _ _ _ _ _ B1
        clear hb1 hok hin n3
        go_wp2_with fail
        go_ret
        exact ⟨ret_int HF.out.symm, hB1⟩
      · go_enter Tryd.func28, Tryd.ntmps28
        go_wp2_with fail
        refine (isRight_any _ bk _ hn HWF.out (by exact HBK.out.keep hb0) (by exact hev.keep hb0)).mono ?_
        rintro e w1 ⟨rfl, hb1⟩
        rw [hok, show ((0 : Int) == 0) = true from rfl]
        have hB1 : Below w.heap.size w w1 := hb0.trans (hb1.mono (by simp))
        clear hb1 hok hin n3
        go_wp2_with fail
        go_ret
        exact ⟨ret_int HF.out.symm, hB1⟩
  · have HF : Hid (callAtD bk trip s = -1) := callAtD_no (fun h => hok h.1)
    have hne : ((faultD bk).1 == 0) = false := by simpa using hok
    go_enter Tryd.func28, Tryd.ntmps28
    go_wp2_with fail
    refine (isRight_any _ bk _ hn HWF.out (by exact HBK.out.keep hb0) (by exact hev.keep hb0)).mono ?_
    rintro e w1 ⟨rfl, hb1⟩
    rw [hne]
    have hB1 : Below w.heap.size w w1 := hb0.trans (hb1.mono (by simp))
    clear hb1 hok n3
    go_wp2_with fail
    go_ret
    exact ⟨ret_int HF.out.symm, hB1⟩

end Go.Proofs.YtjioingdpfgadaaDoor
namespace Go.Proofs.YtjioingdpfgadaaDoor
open Go Go.RowKit Go.Deep

theorem pick_mem (n : Nat) : ∀ (all : List RowD) (r : RowD), r ∈ pick n all → r ∈ all := by
  induction n with
  | zero => intro all r h; simp [pick] at h
  | succ n ih =>
    intro all r h
    by_cases h0 : 0 < all.length
    · rw [pick_cons n all (bestOf_lt all h0)] at h
      rcases List.mem_cons.1 h with rfl | h
      · exact List.getElem_mem _
      · exact List.mem_of_mem_eraseIdx (ih _ r h)
    · have : all = [] := List.eq_nil_of_length_eq_zero (by omega)
      rw [this, pick_nil] at h
      simp at h
theorem pick_sorted (n : Nat) : ∀ (all : List RowD), (pick n all).Pairwise leD := by
  induction n with
  | zero => intro all; simp [pick]
  | succ n ih =>
    intro all
    by_cases h0 : 0 < all.length
    · rw [pick_cons n all (bestOf_lt all h0)]
      refine List.Pairwise.cons (fun r hr => ?_) (ih _)
      exact bestOf_least all h0 r (List.mem_of_mem_eraseIdx (pick_mem n _ r hr))
    · have : all = [] := List.eq_nil_of_length_eq_zero (by omega)
      rw [this, pick_nil]
      exact List.Pairwise.nil
theorem pick_take (n : Nat) : ∀ (m : Nat) (all : List RowD), n ≤ m → (pick m all).take n = pick n all := by
  induction n with
  | zero => intro m all _; simp [pick]
  | succ n ih =>
    intro m all h
    obtain ⟨m', rfl⟩ : ∃ m', m = m' + 1 := ⟨m - 1, by omega⟩
    by_cases h0 : 0 < all.length
    · rw [pick_cons n all (bestOf_lt all h0), pick_cons m' all (bestOf_lt all h0), List.take_succ_cons, ih m' _ (by omega)]
    · have : all = [] := List.eq_nil_of_length_eq_zero (by omega)
      rw [this, pick_nil, pick_nil]
      simp
theorem pick_one (n : Nat) : ∀ (all : List RowD), OneEach all → OneEach (pick n all) := by
  induction n with
  | zero => intro all _; simp [pick, OneEach]
  | succ n ih =>
    intro all h
    by_cases h0 : 0 < all.length
    · rw [pick_cons n all (bestOf_lt all h0)]
      have hp := h.perm (bestOf_perm all h0)
      unfold OneEach at hp ⊢
      rw [List.map_cons, List.nodup_cons] at hp ⊢
      refine ⟨fun hm => hp.1 ?_, ih _ hp.2⟩
      obtain ⟨r, hr, e⟩ := List.mem_map.1 hm
      exact List.mem_map.2 ⟨r, pick_mem n _ r hr, e⟩
    · have : all = [] := List.eq_nil_of_length_eq_zero (by omega)
      rw [this, pick_nil]
      simp [OneEach]
/-- What is so of each row of a board. -/
structure RowFit (bk : BookD) (nss : List (List NewsD)) (s : Int) (r : RowD) (i k : Nat) (x : NewsD) : Prop where
  trip : r.trip = (i : Int)
  lt : i < bk.trips.length
  ltn : i < nss.length
  call : callAtC bk.trips[i].calls s = (k : Int)
  ltk : k < bk.trips[i].calls.length
  ltkn : k < nss[i].length
  news : nss[i][k] = x
  gone : x.gone = false
  dest : r.to ≠ s
  expect : r.expect = r.due + x.late
  state : (r.state == 3) = x.off
  due : r.due = bk.trips[i].calls[k].go
theorem rowOfTrip_fit {bk : BookD} {nss : List (List NewsD)} {s tick : Int} {i : Nat} {r : RowD} (hf : (faultD bk).1 = 0) (h : rowOfTrip bk nss s tick i = some r) : ∃ k x, RowFit bk nss s r i k x := by
  unfold rowOfTrip at h
  split at h
  · rename_i t ns ht hn
    split at h
    · simp at h
    · rename_i k hk
      split at h
      · rename_i c x hc hx
        split at h
        · rename_i hs
          obtain ⟨hi, rfl⟩ := List.getElem?_eq_some_iff.1 ht
          obtain ⟨hin, rfl⟩ := List.getElem?_eq_some_iff.1 hn
          obtain ⟨hkl, rfl⟩ := List.getElem?_eq_some_iff.1 hc
          obtain ⟨hkn, rfl⟩ := List.getElem?_eq_some_iff.1 hx
          have hst : bk.trips[i].calls[k].st = s := by
            have hk' := hk
            unfold firstIdx at hk'
            rw [List.find?_range_eq_some] at hk'
            have := hk'.1
            rw [atStation_at _ _ _ hkl] at this
            simpa using this
          have hnd := tripB_nodup ((faultD_zero hf).2 i hi)
          simp only [Option.some.injEq] at h
          have hcall := callAtC_some hk
          unfold rowAt at h hs
          by_cases g1 : k + 1 = bk.trips[i].calls.length ∨ nss[i][k].gone = true
          · rw [if_pos g1] at hs; simp at hs
          · rw [if_neg g1] at h hs
            have hg : nss[i][k].gone = false := by
              cases hgg : nss[i][k].gone
              · rfl
              · exact absurd (Or.inr hgg) g1
            by_cases g2 : nss[i][k].off = true
            · rw [if_pos g2] at h hs
              subst h
              refine ⟨k, nss[i][k], rfl, hi, hin, hcall, hkl, hkn, rfl, hg, ?_, rfl, by simp [g2], rfl⟩
              simp only
              have hll : bk.trips[i].calls.length - 1 < bk.trips[i].calls.length := by omega
              rw [List.getElem?_eq_getElem hll]
              simp only [Option.map_some, Option.getD_some]
              rw [← hst]
              unfold stationsOf at hnd
              rw [List.nodup_iff_pairwise_ne, List.pairwise_iff_getElem] at hnd
              have := hnd k (bk.trips[i].calls.length - 1) (by simpa using hkl) (by simpa using hll) (by omega)
              simp at this
              exact fun e => this e.symm
            · rw [if_neg g2] at h hs
              have ho : nss[i][k].off = false := by simpa using g2
              by_cases g3 : nss[i][k].here = true
              · rw [if_pos g3] at h hs
                subst h
                exact ⟨k, nss[i][k], rfl, hi, hin, hcall, hkl, hkn, rfl, hg, by rw [← hst]; simpa using hs, rfl, by simp [ho], rfl⟩
              · rw [if_neg g3] at h hs
                by_cases g4 : 0 < nss[i][k].late
                · rw [if_pos g4] at h hs
                  subst h
                  exact ⟨k, nss[i][k], rfl, hi, hin, hcall, hkl, hkn, rfl, hg, by rw [← hst]; simpa using hs, rfl, by simp [ho], rfl⟩
                · rw [if_neg g4] at h hs
                  subst h
                  exact ⟨k, nss[i][k], rfl, hi, hin, hcall, hkl, hkn, rfl, hg, by rw [← hst]; simpa using hs, rfl, by simp [ho], rfl⟩
        · simp at h
      · simp at h
  · simp at h
theorem collect_mem {bk : BookD} {nss : List (List NewsD)} {s tick : Int} (n : Nat) (r : RowD) (h : r ∈ collect bk nss s tick n) : ∃ i, i < n ∧ rowOfTrip bk nss s tick i = some r := by
  induction n with
  | zero => simp [collect] at h
  | succ n ih =>
    rw [collect] at h
    rcases List.mem_append.1 h with h | h
    · obtain ⟨i, hi, e⟩ := ih h; exact ⟨i, by omega, e⟩
    · exact ⟨n, by omega, by simpa using h⟩
theorem collect_one {bk : BookD} {nss : List (List NewsD)} {s tick : Int} (hf : (faultD bk).1 = 0) (n : Nat) : OneEach (collect bk nss s tick n) := by
  induction n with
  | zero => simp [collect, OneEach]
  | succ n ih =>
    rw [collect]
    unfold OneEach at ih ⊢
    rw [List.map_append, List.nodup_append]
    refine ⟨ih, by cases rowOfTrip bk nss s tick n <;> simp, fun a ha b hb => ?_⟩
    obtain ⟨x, hx, rfl⟩ := List.mem_map.1 ha
    obtain ⟨y, hy, rfl⟩ := List.mem_map.1 hb
    obtain ⟨i, hi, e⟩ := collect_mem n x hx
    obtain ⟨k, u, f1⟩ := rowOfTrip_fit hf e
    obtain ⟨k', u', f2⟩ := rowOfTrip_fit hf (show rowOfTrip bk nss s tick n = some y by simpa using hy)
    rw [f1.trip, f2.trip]
    omega

end Go.Proofs.YtjioingdpfgadaaDoor
