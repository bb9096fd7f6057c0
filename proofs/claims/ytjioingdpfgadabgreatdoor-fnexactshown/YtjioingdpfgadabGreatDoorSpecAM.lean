import Derived.Test.YtjioingdpfgadabGreatDoorProg
import Derived.Test.YtjioingdpfgadabGreatDoorNamesB
import Derived.Test.YtjioingdpfgadabGreatDoorPlainM
import Derived.Test.YtjioingdpfgadabGreatDoorSz
import Derived.Deep.OwnRows
import Derived.BigRegion
import Derived.Deep.RegionWith
import Derived.BigQuiet
namespace Go.Proofs.YtjioingdpfgadabGreatDoor
open Go Go.RowKit Go.Deep

theorem bx_below (w : World) (o : Obj) : Below w.heap.size w (w.alloc o) := (Below.refl _ _).alloc (Nat.le_refl _) _
theorem in_yes {x a b : Int} (h : a ≤ x ∧ x ≤ b) : decide (a ≤ x ∧ x ≤ b) = true := decide_eq_true h
theorem in_no {x a b : Int} (h : ¬ (a ≤ x ∧ x ≤ b)) : decide (a ≤ x ∧ x ≤ b) = false := decide_eq_false h
theorem l1in_yes (x a b : Int) (w : World) (h1 : a ≤ x) (h2 : x ≤ b) : Calls Tryz.prog 29 #[.int .i64 x, .int .i64 a, .int .i64 b] w fun e w' => e = .returned (.bool true) ∧ w' = w := by
  refine (l1in_any x a b w).mono ?_
  rintro e w' ⟨rfl, rfl⟩
  exact ⟨ret_bool (in_yes ⟨h1, h2⟩), rfl⟩
theorem l1in_no (x a b : Int) (w : World) (h : ¬ (a ≤ x ∧ x ≤ b)) : Calls Tryz.prog 29 #[.int .i64 x, .int .i64 a, .int .i64 b] w fun e w' => e = .returned (.bool false) ∧ w' = w := by
  refine (l1in_any x a b w).mono ?_
  rintro e w' ⟨rfl, rfl⟩
  exact ⟨ret_bool (in_no h), rfl⟩

set_option maxRecDepth 100000 in
set_option maxHeartbeats 2000000 in
theorem l1trip_any (v : Value) (bk : BookD) (t : TripD) (ca : Option Addr) (cc : Nat) (w : World) (hb : bk.sts.length ≤ 1048576) (hs : t.name.size ≤ 1048576) (hn : t.calls.length ≤ 1048576) (hbk : BookAt w v bk) (hat : CallsAt w ca t.calls) :
    Calls Tryz.prog 103 #[v, .agg #[.string t.name, .slice ca t.calls.length cc]] w fun e w' => e = .returned (.bool (tripB bk.sts.length t)) ∧ Below w.heap.size w w' := by
  obtain ⟨sa, sc, ta, tc, rfl, hsa, hta⟩ := hbk
  clear hsa hta
  have hb0 : Below w.heap.size w ((w.alloc (.cells #[.slice sa bk.sts.length sc, .slice ta bk.trips.length tc] 33)).alloc (.cells #[.string t.name, .slice ca t.calls.length cc] 81)) := (bx_below _ _).alloc (by simp) _
  cases hnm : nameB t.name
  · have HF : Hid (tripB bk.sts.length t = false) := tripB_name hnm
    go_enter Tryz.func103, Tryz.ntmps103
    go_wp2_with fail
    refine (l1name_any _ _ hs).mono ?_
    rintro e w1 ⟨rfl, rfl⟩
    rw [hnm]
    go_wp2_with fail
    go_ret
    exact ⟨ret_bool HF.out.symm, hb0⟩
  · have HN : Hid (nameB t.name = true) := hnm
    by_cases hct : 2 ≤ t.calls.length ∧ t.calls.length ≤ 20
    · obtain ⟨g1, g2⟩ := hct
      go_enter Tryz.func103, Tryz.ntmps103
      go_wp2_with fail
      refine (l1name_any _ _ hs).mono ?_
      rintro e w1 ⟨rfl, rfl⟩
      rw [hnm]
      go_wp2_with fail
      refine (l1in_yes _ _ _ _ (by omega) (by omega)).mono ?_
      rintro e w1 ⟨rfl, rfl⟩
      clear hnm
      go_wp2_with fail
      go_loopw [5, 23] (fun gn i wr => ∃ k : Nat, k ≤ t.calls.length ∧ i = .int .i64 k ∧ gn = .int .i64 (prevGo t.calls k) ∧ Hid (∀ j, j < k → callAtB bk.sts.length t.calls j = true) ∧ Hid (∀ i m (hi : i < t.calls.length) (hm : m < i), i < k → t.calls[m].st ≠ t.calls[i].st) ∧ Below (w.heap.size + 2) ((w.alloc (.cells #[.slice sa bk.sts.length sc, .slice ta bk.trips.length tc] 33)).alloc (.cells #[.string t.name, .slice ca t.calls.length cc] 81)) wr) (fun _ i _ => t.calls.length - (intOf i).toNat)
      case atStart => exact ⟨0, Nat.zero_le _, rfl, rfl, fun j hj => by omega, fun i m _ _ hi => by omega, Below.refl _ _⟩
      case round =>
        obtain ⟨k, hk, rfl, rfl, hgood, hnd, hbel⟩ := hrel
        have hB : Below w.heap.size w wr := hb0.trans (hbel.mono (by omega))
        have hz := hbel.size
        simp at hz
        have hz1 : w.heap.size < wr.heap.size := by omega
        have hz2 : w.heap.size + 1 < wr.heap.size := by omega
        have q0 : wr.cell? ⟨w.heap.size, 0, none⟩ = some (.slice sa bk.sts.length sc) := by
          rw [hbel.cell (p := ⟨w.heap.size, 0, none⟩) (by simp)]; simp [go_sem]
        have q1 : wr.cell? ⟨w.heap.size + 1, 1, none⟩ = some (.slice ca t.calls.length cc) := by
          rw [hbel.cell (p := ⟨w.heap.size + 1, 1, none⟩) (by simp)]; simp [go_sem]
        by_cases hlt : k < t.calls.length
        · have HATW : Hid (CallsAt wr ca t.calls) := hat.keep hB
          obtain ⟨b, o, rfl, hc0, hc1, hc2, hc3⟩ := hat.keep hB k hlt
          have HA : Hid (callAtB bk.sts.length t.calls k = callB bk.sts.length (prevGo t.calls k) t.calls[k]) := callAtB_at _ _ k hlt
          have HP : Hid (prevGo t.calls (k + 1) = t.calls[k].go) := prevGo_succ _ k hlt
          cases hcb : callB bk.sts.length (prevGo t.calls k) t.calls[k]
          · have HF : Hid (tripB bk.sts.length t = false) := tripB_call (callsB_no hlt (by rw [HA.out, hcb]))
            have hno := callB_no hcb
            have hBr : Below w.heap.size w (wr.alloc (.cells #[.int .i64 t.calls[k].st, .int .i64 t.calls[k].co, .int .i64 t.calls[k].go, .int .i64 t.calls[k].tr] 113)) := hB.alloc hB.size _
            generalize t.calls[k] = c at *
            generalize prevGo t.calls k = gn at *
            clear hat hcb hbel HATW
            by_cases a1 : 0 ≤ c.st ∧ c.st ≤ (bk.sts.length : Int) - 1
            · by_cases a2 : gn ≤ c.co ∧ c.co ≤ 1000000
              · by_cases a3 : c.co ≤ c.go ∧ c.go ≤ 1000000
                · have a4 : ¬ (1 ≤ c.tr ∧ c.tr ≤ 20) := by omega
                  obtain ⟨b1, b2⟩ := a1
                  obtain ⟨b3, b4⟩ := a2
                  obtain ⟨b5, b6⟩ := a3
                  clear hno
                  go_wp2_with fail
                  refine (l1in_yes _ _ _ _ b1 b2).mono ?_
                  rintro e w1 ⟨rfl, rfl⟩
                  go_wp2_with fail
                  refine (l1in_yes _ _ _ _ b3 b4).mono ?_
                  rintro e w1 ⟨rfl, rfl⟩
                  go_wp2_with fail
                  refine (l1in_yes _ _ _ _ b5 b6).mono ?_
                  rintro e w1 ⟨rfl, rfl⟩
                  go_wp2_with fail
                  refine (l1in_no _ _ _ _ a4).mono ?_
                  rintro e w1 ⟨rfl, rfl⟩
                  go_wp2_with fail
                  go_ret
                  exact ⟨ret_bool HF.out.symm, hBr⟩
                · obtain ⟨b1, b2⟩ := a1
                  obtain ⟨b3, b4⟩ := a2
                  clear hno
                  go_wp2_with fail
                  refine (l1in_yes _ _ _ _ b1 b2).mono ?_
                  rintro e w1 ⟨rfl, rfl⟩
                  go_wp2_with fail
                  refine (l1in_yes _ _ _ _ b3 b4).mono ?_
                  rintro e w1 ⟨rfl, rfl⟩
                  go_wp2_with fail
                  refine (l1in_no _ _ _ _ a3).mono ?_
                  rintro e w1 ⟨rfl, rfl⟩
                  go_wp2_with fail
                  go_ret
                  exact ⟨ret_bool HF.out.symm, hBr⟩
              · obtain ⟨b1, b2⟩ := a1
                clear hno
                go_wp2_with fail
                refine (l1in_yes _ _ _ _ b1 b2).mono ?_
                rintro e w1 ⟨rfl, rfl⟩
                go_wp2_with fail
                refine (l1in_no _ _ _ _ a2).mono ?_
                rintro e w1 ⟨rfl, rfl⟩
                go_wp2_with fail
                go_ret
                exact ⟨ret_bool HF.out.symm, hBr⟩
            · clear hno
              go_wp2_with fail
              refine (l1in_no _ _ _ _ a1).mono ?_
              rintro e w1 ⟨rfl, rfl⟩
              go_wp2_with fail
              go_ret
              exact ⟨ret_bool HF.out.symm, hBr⟩
          · obtain ⟨a1, a2, a3, a4, a5, a6, a7⟩ := callB_yes hcb
            have HCB : Hid (callB bk.sts.length (prevGo t.calls k) t.calls[k] = true) := hcb
            have HCC : Hid (CallsAt wr (some ⟨b, o, none⟩) t.calls) := HATW
            generalize hc : t.calls[k] = c at *
            have Hc : Hid (t.calls[k] = c) := hc
            generalize prevGo t.calls k = gn at *
            clear hat hcb HATW hc
            go_wp2_with fail
            refine (l1in_yes _ _ _ _ (by omega) (by omega)).mono ?_
            rintro e w1 ⟨rfl, rfl⟩
            go_wp2_with fail
            refine (l1in_yes _ _ _ _ (by omega) (by omega)).mono ?_
            rintro e w1 ⟨rfl, rfl⟩
            go_wp2_with fail
            refine (l1in_yes _ _ _ _ (by omega) (by omega)).mono ?_
            rintro e w1 ⟨rfl, rfl⟩
            go_wp2_with fail
            refine (l1in_yes _ _ _ _ (by omega) (by omega)).mono ?_
            rintro e w1 ⟨rfl, rfl⟩
            go_wp2_with fail
            obtain ⟨wo, hwo⟩ : ∃ wo, wo = wr := ⟨_, rfl⟩
            subst hwo
            go_loopw [8] (fun i wi => ∃ m : Nat, m ≤ k ∧ i = .int .i64 m ∧ Hid (∀ j (hj : j < t.calls.length), j < m → t.calls[j].st ≠ c.st) ∧ Below (wo.heap.size + 1) (wo.alloc (.cells #[.int .i64 c.st, .int .i64 c.co, .int .i64 c.go, .int .i64 c.tr] 113)) wi) (fun i _ => k - (intOf i).toNat)
            case atStart => exact ⟨0, Nat.zero_le _, rfl, fun j _ hj => by omega, Below.refl _ _⟩
            case round =>
              obtain ⟨m, hm, rfl, hnb, hbi⟩ := hrel
              have hzi := hbi.size
              simp at hzi
              have hBi : Below wo.heap.size wo wr := ((Below.refl _ _).alloc (Nat.le_refl _) _).trans (hbi.mono (by omega))
              have p1 := cell_keep hBi q1
              have p2 : wr.cell? ⟨wo.heap.size, 0, none⟩ = some (.int .i64 c.st) := by
                rw [hbi.cell (p := ⟨wo.heap.size, 0, none⟩) (by simp)]; simp [go_sem]
              by_cases hmk : m < k
              · have hml : m < t.calls.length := by omega
                obtain ⟨b', o', e', d0, _, _, _⟩ := HCC.out.keep hBi m hml
                simp only [Option.some.injEq, Addr.mk.injEq] at e'
                obtain ⟨rfl, rfl, _⟩ := e'
                have hi1 : (m : Int) < (t.calls.length : Int) := by omega
                have hi0 : (0 : Int) ≤ (m : Int) := by omega
                have HM : Hid (t.calls[m].st = t.calls[m].st) := rfl
                generalize hcm : t.calls[m].st = y at *
                have Hcm : Hid (t.calls[m].st = y) := hcm
                clear hcm q1 hc0 hc1 hc2 hc3 q0
                by_cases hyc : y = c.st
                · have HF : Hid (tripB bk.sts.length t = false) := tripB_dup (dup_of_pair hlt hmk (by rw [Hcm.out, Hc.out, hyc]))
                  have hyb : (y == c.st) = true := by simp [hyc]
                  clear hyc
                  go_wp2
                  go_quiet (fail)
                  go_wp2
                  go_ret
                  refine ⟨ret_bool HF.out.symm, ?_⟩
                  exact below_drewN (hB.trans (hBi.mono hB.size)) _
                · have Hy : Hid (¬ y = c.st) := hyc
                  have hyb : (y == c.st) = false := by simp [hyc]
                  clear hyc
                  go_wp2
                  go_quiet (fail)
                  go_wp2
                  go_roundw
                  case rel =>
                    refine ⟨m + 1, by omega, by go_num, fun j hj hjm => ?_, below_drewN hbi _⟩
                    by_cases e : j = m
                    · subst e; rw [Hcm.out]; exact Hy.out
                    · exact hnb.out j hj (by omega)
                  case measure => simp [intOf]; omega
              · have hmk' : m = k := by omega
                go_wp2
                go_roundw
                case rel =>
                  refine ⟨k + 1, by omega, by go_num, by rw [HP.out], fun j hj => ?_, fun i m' hi hm' hik => ?_, (hbel.alloc (by omega) _).trans (hbi.mono (by omega))⟩
                  · by_cases e : j = k
                    · subst e; rw [HA.out, HCB.out]
                    · exact hgood.out j (by omega)
                  · by_cases e : i = k
                    · subst e; rw [Hc.out]; exact hnb.out m' (by omega) (by omega)
                    · exact hnd.out i m' hi hm' (by omega)
                case measure => simp [intOf]; omega
        · have HF : Hid (tripB bk.sts.length t = true) := tripB_yes HN.out ⟨g1, g2⟩ (callsB_yes (fun j hj => hgood.out j (by omega))) (nodup_of_pairs (fun i m hi hm => hnd.out i m hi hm (by omega)))
          go_wp2
          go_ret
          exact ⟨ret_bool HF.out.symm, hB⟩
    · have HF : Hid (tripB bk.sts.length t = false) := tripB_count hct
      go_enter Tryz.func103, Tryz.ntmps103
      go_wp2_with fail
      refine (l1name_any _ _ hs).mono ?_
      rintro e w1 ⟨rfl, rfl⟩
      rw [hnm]
      go_wp2_with fail
      refine (l1in_no _ _ _ _ (by omega)).mono ?_
      rintro e w1 ⟨rfl, rfl⟩
      go_wp2_with fail
      go_ret
      exact ⟨ret_bool HF.out.symm, hb0⟩

end Go.Proofs.YtjioingdpfgadabGreatDoor
namespace Go.Proofs.YtjioingdpfgadabGreatDoor
open Go Go.RowKit Go.Deep

theorem res_facts (w : World) (x y : Value) (T Tr : TypeId) (wr : World) (h : Below (w.heap.size + 2) ((w.alloc (.cells #[x, y] T)).alloc (.cells #[.int .i64 0, .int .i64 0] Tr)) wr) :
    wr.cell? ⟨w.heap.size, 0, none⟩ = some x ∧ wr.cell? ⟨w.heap.size, 1, none⟩ = some y ∧ wr.cell? ⟨w.heap.size + 1, 0, none⟩ = some (.int .i64 0) ∧ wr.cell? ⟨w.heap.size + 1, 1, none⟩ = some (.int .i64 0) ∧ (∀ o, wr.frozen? ⟨w.heap.size + 1, o, none⟩ = false) ∧ w.heap.size < wr.heap.size ∧ w.heap.size + 1 < wr.heap.size ∧ Below w.heap.size w wr := by
  have hz := h.size
  simp at hz
  refine ⟨?_, ?_, ?_, ?_, ?_, by omega, by omega, ((Below.refl _ _).alloc (Nat.le_refl _) _ |>.alloc (by simp) _).trans (h.mono (by omega))⟩
  · rw [h.cell (p := ⟨w.heap.size, 0, none⟩) (by simp)]; simp [go_sem]
  · rw [h.cell (p := ⟨w.heap.size, 1, none⟩) (by simp)]; simp [go_sem]
  · rw [h.cell (p := ⟨w.heap.size + 1, 0, none⟩) (by simp)]; simp [go_sem]
  · rw [h.cell (p := ⟨w.heap.size + 1, 1, none⟩) (by simp)]; simp [go_sem]
  · intro o
    rw [h.frozen (p := ⟨w.heap.size + 1, o, none⟩) (by simp)]; simp [go_sem]

theorem str_eq {a b : ByteArray} (h : a.data.toList = b.data.toList) : (a.toList == b.toList) = true := by
  rw [ByteArray.toList_eq, ByteArray.toList_eq]; simpa using h
theorem str_ne {a b : ByteArray} (h : a.data.toList ≠ b.data.toList) : (a.toList == b.toList) = false := by
  rw [ByteArray.toList_eq, ByteArray.toList_eq]; simpa using h
theorem nmOf_length (ts : List TripD) : (namesOf ts).length = ts.length := by simp [namesOf]
theorem nmOf_get (ts : List TripD) (i : Nat) (h : i < (namesOf ts).length) : (namesOf ts)[i] = (ts[i]'(by rw [nmOf_length] at h; exact h)).name := by simp [namesOf]

set_option maxRecDepth 100000 in
set_option maxHeartbeats 4000000 in
theorem specBookOk_any (v : Value) (bk : BookD) (w : World) (hn : bookSize bk ≤ 1048576) (hat : BookAt w v bk) :
    Calls Tryz.prog 86 #[v] w fun e w' => e = .returned (.agg #[.int .i64 (faultD bk).1, .int .i64 (faultD bk).2]) ∧ Below w.heap.size w w' := by
  obtain ⟨sa, sc, ta, tc, rfl, hsa, hta⟩ := hat
  have n1 : bk.sts.length ≤ 1048576 := by unfold bookSize strsSize at hn; omega
  have n2 : bk.trips.length ≤ 1048576 := by unfold bookSize tripsSize at hn; omega
  have n3 : ∀ i (h : i < bk.trips.length), bk.trips[i].name.size ≤ 1048576 ∧ bk.trips[i].calls.length ≤ 1048576 := by
    intro i h
    have := sumTrips_get bk.trips i h
    unfold bookSize tripsSize at hn; unfold tripSize at this; omega
  have n4 : ∀ i (h : i < bk.sts.length), bk.sts[i].size ≤ 1048576 := by
    intro i h
    have := sumSizes_get bk.sts i h
    unfold bookSize strsSize at hn; omega
  have hb0 : Below w.heap.size w ((w.alloc (.cells #[.slice sa bk.sts.length sc, .slice ta bk.trips.length tc] 33)).alloc (.cells #[.int .i64 0, .int .i64 0] 147)) := ((Below.refl _ _).alloc (Nat.le_refl _) _).alloc (by simp) _
  clear hn
  by_cases g1 : 30 < bk.sts.length
  · have HF : Hid (faultD bk = (1, 0)) := faultD_1 (Or.inl g1)
    clear hsa hta n3 n4
    go_enter Tryz.func86, Tryz.ntmps86
    go_wp2_with fail
    exact bodyPost_ret (v := .agg #[.int .i64 1, .int .i64 0]) (by simp [results, Tryz.results86, go_sem]) rfl ⟨by rw [HF.out], (bx_below _ _).alloc (by simp) _⟩
  · by_cases g2 : 40 < bk.trips.length
    · have HF : Hid (faultD bk = (1, 0)) := faultD_1 (Or.inr g2)
      clear hsa hta n3 n4
      go_enter Tryz.func86, Tryz.ntmps86
      go_wp2_with fail
      exact bodyPost_ret (v := .agg #[.int .i64 1, .int .i64 0]) (by simp [results, Tryz.results86, go_sem]) rfl ⟨by rw [HF.out], (bx_below _ _).alloc (by simp) _⟩
    · have HF : Hid (faultD bk = fault2 bk) := faultD_2 (by omega)
      go_enter Tryz.func86, Tryz.ntmps86
      go_wp2_with fail
      go_loopw [25] (fun i wr => ∃ k : Nat, k ≤ bk.sts.length ∧ i = .int .i64 k ∧ Hid (∀ j, j < k → badName bk.sts j = false) ∧ Below (w.heap.size + 2) ((w.alloc (.cells #[.slice sa bk.sts.length sc, .slice ta bk.trips.length tc] 33)).alloc (.cells #[.int .i64 0, .int .i64 0] 147)) wr) (fun i _ => bk.sts.length - (intOf i).toNat)
      case atStart => exact ⟨0, Nat.zero_le _, rfl, fun j hj => by omega, Below.refl _ _⟩
      case round =>
        obtain ⟨k, hk, rfl, hgood, hbel⟩ := hrel
        obtain ⟨q0, q1, r0, r1, rf, z1, z2, hB⟩ := res_facts _ _ _ _ _ _ hbel
        by_cases hlt : k < bk.sts.length
        · obtain ⟨b, o, rfl, hc⟩ := hsa.keep hB k hlt
          have HSA : Hid (StrsAt wr (some ⟨b, o, none⟩) bk.sts) := hsa.keep hB
          have s4 := n4 k hlt
          cases hnm : nameB bk.sts[k]
          · have HG : Hid (faultD bk = (2, (k : Int))) := by unfold Hid; rw [HF.out, fault2_some (first_some hlt (badName_no hlt hnm) hgood.out)]
            generalize bk.sts[k] = s at *
            clear hsa hta n3 n4
            go_wp2_with fail
            refine (l1name_any _ _ s4).mono ?_
            rintro e w1 ⟨rfl, rfl⟩
            rw [hnm]
            go_wp2_with fail
            exact bodyPost_ret (v := .agg #[.int .i64 2, .int .i64 k]) (by simp [results, Tryz.results86, go_sem, r0, r1]) rfl ⟨by rw [HG.out], (hB.setCell (by simp) _).setCell (by simp) _⟩
          · have HN : Hid (nameB bk.sts[k] = true) := hnm
            generalize hs : bk.sts[k] = s at *
            have Hs : Hid (bk.sts[k] = s) := hs
            clear hs
            go_wp2_with fail
            refine (l1name_any _ _ s4).mono ?_
            rintro e w1 ⟨rfl, rfl⟩
            rw [hnm]
            clear hnm
            go_wp2_with fail
            clear hc q0 q1 r0 r1 rf z1 z2 HSA
            go_loopw [5] (fun i wr => ∃ m : Nat, m ≤ k ∧ i = .int .i64 m ∧ Hid (∀ j (hj : j < bk.sts.length), j < m → bk.sts[j].data.toList ≠ s.data.toList) ∧ Below (w.heap.size + 2) ((w.alloc (.cells #[.slice (some ⟨b, o, none⟩) bk.sts.length sc, .slice ta bk.trips.length tc] 33)).alloc (.cells #[.int .i64 0, .int .i64 0] 147)) wr) (fun i _ => k - (intOf i).toNat)
            case atStart => exact ⟨0, Nat.zero_le _, rfl, fun j _ hj => by omega, hbel⟩
            case round =>
              clear hbel hB
              obtain ⟨m, hm, rfl, hnb, hbel⟩ := hrel
              obtain ⟨q0, q1, r0, r1, rf, z1, z2, hB⟩ := res_facts _ _ _ _ _ _ hbel
              by_cases hmk : m < k
              · have hml : m < bk.sts.length := by omega
                obtain ⟨b', o', e', d0⟩ := hsa.keep hB m hml
                simp only [Option.some.injEq, Addr.mk.injEq] at e'
                obtain ⟨rfl, rfl, _⟩ := e'
                generalize hy : bk.sts[m] = y at *
                have Hy : Hid (bk.sts[m] = y) := hy
                clear hy hsa hta n3 n4
                by_cases hyc : y.data.toList = s.data.toList
                · have HG : Hid (faultD bk = (2, (k : Int))) := by
                    unfold Hid
                    rw [HF.out, fault2_some (first_some hlt (badName_dup hlt hmk (by rw [Hy.out, Hs.out]; exact hyc)) hgood.out)]
                  have hyb := str_eq hyc
                  clear hyc
                  go_wp2
                  exact bodyPost_ret (v := .agg #[.int .i64 2, .int .i64 k]) (by simp [results, Tryz.results86, go_sem, r0, r1]) rfl ⟨by rw [HG.out], (hB.setCell (by simp) _).setCell (by simp) _⟩
                · have HY : Hid (y.data.toList ≠ s.data.toList) := hyc
                  have hyb := str_ne hyc
                  clear hyc
                  go_wp2
                  go_roundw
                  case rel =>
                    refine ⟨m + 1, by omega, by go_num, fun j hj hjm => ?_, hbel⟩
                    by_cases e : j = m
                    · subst e; rw [Hy.out]; exact HY.out
                    · exact hnb.out j hj (by omega)
                  case measure => simp [intOf]; omega
              · go_wp2
                go_roundw
                case rel =>
                  refine ⟨k + 1, by omega, by go_num, fun j hj => ?_, hbel⟩
                  by_cases e : j = k
                  · subst e
                    exact badName_ok hlt (by rw [Hs.out]; exact HN.out) (fun m' hm' => by rw [Hs.out]; exact hnb.out m' (by omega) (by omega))
                  · exact hgood.out j (by omega)
                case measure => simp [intOf]; omega
        · have HF3 : Hid (faultD bk = fault3 bk) := by unfold Hid; rw [HF.out, fault2_none (first_none (fun j hj => hgood.out j (by omega)))]
          have HSA : Hid (StrsAt w sa bk.sts) := hsa
          clear HF hsa n4 hgood
          go_wp2_with fail
          go_loopw [53] (fun i wr => ∃ k : Nat, k ≤ bk.trips.length ∧ i = .int .i64 k ∧ Hid (∀ j, j < k → badTrip bk.sts.length bk.trips j = false) ∧ Below (w.heap.size + 2) ((w.alloc (.cells #[.slice sa bk.sts.length sc, .slice ta bk.trips.length tc] 33)).alloc (.cells #[.int .i64 0, .int .i64 0] 147)) wr) (fun i _ => bk.trips.length - (intOf i).toNat)
          case atStart => exact ⟨0, Nat.zero_le _, rfl, fun j hj => by omega, hbel⟩
          case round =>
            clear hbel q0 q1 r0 r1 rf z1 z2 hB hlt hk
            obtain ⟨k, hk, rfl, hgood, hbel⟩ := hrel
            obtain ⟨q0, q1, r0, r1, rf, z1, z2, hB⟩ := res_facts _ _ _ _ _ _ hbel
            by_cases hlt : k < bk.trips.length
            · have HBK : Hid (BookAt wr (.agg #[.slice sa bk.sts.length sc, .slice ta bk.trips.length tc]) bk) := ⟨sa, sc, ta, tc, rfl, HSA.out.keep hB, hta.keep hB⟩
              obtain ⟨b, o, ca, cc, rfl, hc0, hc1, hca⟩ := hta.keep hB k hlt
              obtain ⟨s1, s2⟩ := n3 k hlt
              have HA : Hid (badTrip bk.sts.length bk.trips k = !tripB bk.sts.length bk.trips[k]) := badTrip_at _ _ k hlt
              have HC : Hid (CallsAt wr ca bk.trips[k].calls) := hca
              generalize bk.trips[k] = t at *
              clear hta n3 hca HSA
              cases htb : tripB bk.sts.length t
              · have HG : Hid (faultD bk = (3, (k : Int))) := by unfold Hid; rw [HF3.out, fault3_some (first_some hlt (by rw [HA.out, htb]; rfl) hgood.out)]
                go_wp2_with fail
                refine (l1trip_any _ bk t _ _ _ n1 s1 s2 (by exact HBK.out.keep (bx_below _ _)) (by exact HC.out.keep (bx_below _ _))).mono ?_
                rintro e w1 ⟨rfl, hb1⟩
                rw [htb]
                have hB1 : Below w.heap.size w w1 := (hB.alloc hB.size _).trans (hb1.mono (by have := hB.size; simp; omega))
                have hbel1 : Below (w.heap.size + 2) ((w.alloc (.cells #[.slice sa bk.sts.length sc, .slice (some ⟨b, o, none⟩) bk.trips.length tc] 33)).alloc (.cells #[.int .i64 0, .int .i64 0] 147)) w1 := (hbel.alloc (by omega) _).trans (hb1.mono (by simp; omega))
                clear q0 q1 r0 r1 rf hb1 hbel hB
                obtain ⟨q0, q1, r0, r1, rf, z3, z4, hB⟩ := res_facts _ _ _ _ _ _ hbel1
                go_wp2_with fail
                exact bodyPost_ret (v := .agg #[.int .i64 3, .int .i64 k]) (by simp [results, Tryz.results86, go_sem, r0, r1]) rfl ⟨by rw [HG.out], (hB.setCell (by simp) _).setCell (by simp) _⟩
              · have HT : Hid (tripB bk.sts.length t = true) := htb
                go_wp2_with fail
                refine (l1trip_any _ bk t _ _ _ n1 s1 s2 (by exact HBK.out.keep (bx_below _ _)) (by exact HC.out.keep (bx_below _ _))).mono ?_
                rintro e w1 ⟨rfl, hb1⟩
                rw [htb]
                clear htb
                go_wp2_with fail
                go_roundw
                case rel =>
                  refine ⟨k + 1, by omega, by go_num, fun j hj => ?_, (hbel.alloc (by omega) _).trans (hb1.mono (by simp; omega))⟩
                  by_cases e : j = k
                  · subst e; rw [HA.out, HT.out]; rfl
                  · exact hgood.out j (by omega)
                case measure => simp [intOf]; omega
            · have HF4 : Hid (faultD bk = fault4 bk) := by unfold Hid; rw [HF3.out, fault3_none (first_none (fun j hj => hgood.out j (by omega)))]
              have HNM : Hid (∀ j (h : j < bk.trips.length), nameB bk.trips[j].name = true) := fun j h => by
                have h1 := hgood.out j (by omega)
                rw [badTrip_at _ _ j h] at h1
                exact tripB_named (n := bk.sts.length) (by simpa using h1)
              clear HF3 hgood HSA n3
              go_wp2_with fail
              go_loopw [68] (fun i wr => ∃ k : Nat, k ≤ bk.trips.length ∧ i = .int .i64 k ∧ Hid (∀ j, j < k → badName (namesOf bk.trips) j = false) ∧ Below (w.heap.size + 2) ((w.alloc (.cells #[.slice sa bk.sts.length sc, .slice ta bk.trips.length tc] 33)).alloc (.cells #[.int .i64 0, .int .i64 0] 147)) wr) (fun i _ => bk.trips.length - (intOf i).toNat)
              case atStart => exact ⟨0, Nat.zero_le _, rfl, fun j hj => by omega, hbel⟩
              case round =>
                clear hbel q0 q1 r0 r1 rf z1 z2 hB hlt hk
                obtain ⟨k, hk, rfl, hgood, hbel⟩ := hrel
                obtain ⟨q0, q1, r0, r1, rf, z1, z2, hB⟩ := res_facts _ _ _ _ _ _ hbel
                by_cases hlt : k < bk.trips.length
                · obtain ⟨b, o, ca, cc, rfl, hc0, hc1, _⟩ := hta.keep hB k hlt
                  have hltn : k < (namesOf bk.trips).length := by rw [nmOf_length]; exact hlt
                  have Hn : Hid ((namesOf bk.trips)[k] = bk.trips[k].name) := nmOf_get _ k hltn
                  have HNk : Hid (nameB (namesOf bk.trips)[k] = true) := by unfold Hid; rw [nmOf_get _ k hltn]; exact HNM.out k hlt
                  generalize bk.trips[k].name = s at *
                  generalize bk.trips[k].calls.length = cl at *
                  obtain ⟨wo, hwo⟩ : ∃ wo, wo = wr := ⟨_, rfl⟩
                  subst hwo
                  go_wp2_with fail
                  clear hc0 hc1 q0 q1 r0 r1 rf
                  go_loopw [10] (fun i wr => ∃ m : Nat, m ≤ k ∧ i = .int .i64 m ∧ Hid (∀ j (hj : j < (namesOf bk.trips).length), j < m → (namesOf bk.trips)[j].data.toList ≠ s.data.toList) ∧ Below (wo.heap.size + 1) (wo.alloc (.cells #[.string s, .slice ca cl cc] 81)) wr) (fun i _ => k - (intOf i).toNat)
                  case atStart => exact ⟨0, Nat.zero_le _, rfl, fun j _ hj => by omega, Below.refl _ _⟩
                  case round =>
                    obtain ⟨m, hm, rfl, hnb, hbi⟩ := hrel
                    have hbel1 : Below (w.heap.size + 2) ((w.alloc (.cells #[.slice sa bk.sts.length sc, .slice (some ⟨b, o, none⟩) bk.trips.length tc] 33)).alloc (.cells #[.int .i64 0, .int .i64 0] 147)) wr := (hbel.alloc (by omega) _).trans (hbi.mono (by omega))
                    obtain ⟨q0, q1, r0, r1, rf, z3, z4, hB1⟩ := res_facts _ _ _ _ _ _ hbel1
                    have p2 : wr.cell? ⟨wo.heap.size, 0, none⟩ = some (.string s) := by
                      rw [hbi.cell (p := ⟨wo.heap.size, 0, none⟩) (by simp)]; simp [go_sem]
                    by_cases hmk : m < k
                    · have hml : m < bk.trips.length := by omega
                      have hmn : m < (namesOf bk.trips).length := by rw [nmOf_length]; exact hml
                      obtain ⟨b', o', ca', cc', e', d0, _, _⟩ := hta.keep hB1 m hml
                      simp only [Option.some.injEq, Addr.mk.injEq] at e'
                      obtain ⟨rfl, rfl, _⟩ := e'
                      have Hm : Hid ((namesOf bk.trips)[m] = bk.trips[m].name) := nmOf_get _ m hmn
                      have hi1 : (m : Int) < (bk.trips.length : Int) := by omega
                      have hi0 : (0 : Int) ≤ (m : Int) := by omega
                      generalize bk.trips[m].name = y at *
                      have hbi' := hbi
                      clear hta hbi hbel hB
                      by_cases hyc : y.data.toList = s.data.toList
                      · have HG : Hid (faultD bk = (4, (k : Int))) := by
                          unfold Hid
                          rw [HF4.out, fault4_some (first_some hlt (badName_dup hltn hmk (by rw [Hm.out, Hn.out]; exact hyc)) hgood.out)]
                        have hyb := str_eq hyc
                        clear hyc
                        go_wp2
                        go_quiet (fail)
                        go_wp2
                        exact bodyPost_ret (v := .agg #[.int .i64 4, .int .i64 k]) (by simp [results, Tryz.results86, go_sem, r0, r1]) rfl ⟨by rw [HG.out], ((below_drewN hB1 _).setCell (by simp) _).setCell (by simp) _⟩
                      · have HY : Hid (y.data.toList ≠ s.data.toList) := hyc
                        have hyb := str_ne hyc
                        clear hyc
                        go_wp2
                        go_quiet (fail)
                        go_wp2
                        go_roundw
                        case rel =>
                          refine ⟨m + 1, by omega, by go_num, fun j hj hjm => ?_, below_drewN hbi' _⟩
                          by_cases e : j = m
                          · subst e; rw [Hm.out]; exact HY.out
                          · exact hnb.out j hj (by omega)
                        case measure => simp [intOf]; omega
                    · go_wp2
                      go_roundw
                      case rel =>
                        refine ⟨k + 1, by omega, by go_num, fun j hj => ?_, hbel1⟩
                        by_cases e : j = k
                        · subst e
                          exact badName_ok hltn HNk.out (fun m' hm' => by rw [Hn.out]; exact hnb.out m' (by omega) (by omega))
                        · exact hgood.out j (by omega)
                      case measure => simp [intOf]; omega
                · have HG : Hid (faultD bk = (0, 0)) := by unfold Hid; rw [HF4.out, fault4_none (first_none (fun j hj => hgood.out j (by omega)))]
                  go_wp2_with fail
                  exact bodyPost_ret (v := .agg #[.int .i64 0, .int .i64 0]) (by simp [results, Tryz.results86, go_sem, r0, r1]) rfl ⟨by rw [HG.out], (hB.setCell (by simp) _).setCell (by simp) _⟩

end Go.Proofs.YtjioingdpfgadabGreatDoor
