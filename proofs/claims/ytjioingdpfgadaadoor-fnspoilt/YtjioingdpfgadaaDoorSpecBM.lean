import Derived.Test.YtjioingdpfgadaaDoorProg
import Derived.Test.YtjioingdpfgadaaDoorNamesBM
import Derived.Test.YtjioingdpfgadaaDoorBaseM
import Derived.BigQuiet
namespace Go.Proofs.YtjioingdpfgadaaDoor
open Go Go.RowKit Go.Deep

theorem res_facts (w : World) (x y : Value) (T Tr : TypeId) (wr : World) (h : Below (w.heap.size + 2) ((w.alloc (.cells #[x, y] T)).alloc (.cells #[.int .i64 0, .int .i64 0] Tr)) wr) :
    wr.cell? ⟨w.heap.size, 0, none⟩ = some x ∧ wr.cell? ⟨w.heap.size, 1, none⟩ = some y ∧ wr.cell? ⟨w.heap.size + 1, 0, none⟩ = some (.int .i64 0) ∧ wr.cell? ⟨w.heap.size + 1, 1, none⟩ = some (.int .i64 0) ∧ (∀ o, wr.frozen? ⟨w.heap.size + 1, o, none⟩ = false) ∧ w.heap.size < wr.heap.size ∧ w.heap.size + 1 < wr.heap.size ∧ Below w.heap.size w wr := by
  have hz := h.size
  simp at hz
  refine ⟨?_, ?_, ?_, ?_, ?_, by omega, by omega, ((Below.refl _ _).alloc (Nat.le_refl _) _ |>.alloc (by simp) _).trans (h.mono (by omega))⟩
  · rw [h.cell (p := ⟨w.heap.size, 0, none⟩) (by simp)]; simp [go_sem]
  · rw [h.cell (p := ⟨w.heap.size, 1, none⟩) (by simp)]; simp [go_sem]
  · rw [h.cell (p := ⟨w.heap.size + 1, 0, none⟩) (by simp)]; simp [go_sem]
  · rw [h.cell (p := ⟨w.heap.size + 1, 1, none⟩) (by simp)]; simp [go_sem]
  · intro o
    rw [h.frozen (p := ⟨w.heap.size + 1, o, none⟩) (by simp)]; simp [go_sem]

theorem str_eq {a b : ByteArray} (h : a.data.toList = b.data.toList) : (a.toList == b.toList) = true := by
  rw [ByteArray.toList_eq, ByteArray.toList_eq]; simpa using h
theorem str_ne {a b : ByteArray} (h : a.data.toList ≠ b.data.toList) : (a.toList == b.toList) = false := by
  rw [ByteArray.toList_eq, ByteArray.toList_eq]; simpa using h
theorem nmOf_length (ts : List TripD) : (namesOf ts).length = ts.length := by simp [namesOf]
theorem nmOf_get (ts : List TripD) (i : Nat) (h : i < (namesOf ts).length) : (namesOf ts)[i] = (ts[i]'(by rw [nmOf_length] at h; exact h)).name := by simp [namesOf]

set_option maxRecDepth 100000 in
set_option maxHeartbeats 4000000 in
theorem specBookOk_any (v : Value) (bk : BookD) (w : World) (hn : bookSize bk ≤ 1048576) (hat : BookAt w v bk) :
    Calls Tryd.prog 27 #[v] w fun e w' => e = .returned (.agg #[.int .i64 (faultD bk).1, .int .i64 (faultD bk).2]) ∧ Below w.heap.size w w' := by
  obtain ⟨sa, sc, ta, tc, rfl, hsa, hta⟩ := hat
  have n1 : bk.sts.length ≤ 1048576 := by unfold bookSize strsSize at hn; omega
  have n2 : bk.trips.length ≤ 1048576 := by unfold bookSize tripsSize at hn; omega
  have n3 : ∀ i (h : i < bk.trips.length), bk.trips[i].name.size ≤ 1048576 ∧ bk.trips[i].calls.length ≤ 1048576 := by
    intro i h
    have := sumTrips_get bk.trips i h
    unfold bookSize tripsSize at hn; unfold tripSize at this; omega
  have n4 : ∀ i (h : i < bk.sts.length), bk.sts[i].size ≤ 1048576 := by
    intro i h
    have := sumSizes_get bk.sts i h
    unfold bookSize strsSize at hn; omega
  have hb0 : Below w.heap.size w ((w.alloc (.cells #[.slice sa bk.sts.length sc, .slice ta bk.trips.length tc] 26)).alloc (.cells #[.int .i64 0, .int .i64 0] 59)) := ((Below.refl _ _).alloc (Nat.le_refl _) _).alloc (by simp) _
  clear hn
  by_cases g1 : 30 < bk.sts.length
  · have HF : Hid (faultD bk = (1, 0)) := faultD_1 (Or.inl g1)
    clear hsa hta n3 n4
    go_enter Tryd.func27, Tryd.ntmps27
    go_wp2_with fail
    exact bodyPost_ret (v := .agg #[.int .i64 1, .int .i64 0]) (by simp [results, Tryd.results27, go_sem]) rfl ⟨by rw [HF.out], (bx_below _ _).alloc (by simp) _⟩
  · by_cases g2 : 40 < bk.trips.length
    · have HF : Hid (faultD bk = (1, 0)) := faultD_1 (Or.inr g2)
      clear hsa hta n3 n4
      go_enter Tryd.func27, Tryd.ntmps27
      go_wp2_with fail
      exact bodyPost_ret (v := .agg #[.int .i64 1, .int .i64 0]) (by simp [results, Tryd.results27, go_sem]) rfl ⟨by rw [HF.out], (bx_below _ _).alloc (by simp) _⟩
    · have HF : Hid (faultD bk = fault2 bk) := faultD_2 (by omega)
      go_enter Tryd.func27, Tryd.ntmps27
      go_wp2_with fail
      go_loopw [25] (fun i wr => ∃ k : Nat, k ≤ bk.sts.length ∧ i = .int .i64 k ∧ Hid (∀ j, j < k → badName bk.sts j = false) ∧ Below (w.heap.size + 2) ((w.alloc (.cells #[.slice sa bk.sts.length sc, .slice ta bk.trips.length tc] 26)).alloc (.cells #[.int .i64 0, .int .i64 0] 59)) wr) (fun i _ => bk.sts.length - (intOf i).toNat)
      case atStart => exact ⟨0, Nat.zero_le _, rfl, fun j hj => by omega, Below.refl _ _⟩
      case round =>
        obtain ⟨k, hk, rfl, hgood, hbel⟩ := hrel
        obtain ⟨q0, q1, r0, r1, rf, z1, z2, hB⟩ := res_facts _ _ _ _ _ _ hbel
        by_cases hlt : k < bk.sts.length
        · obtain ⟨b, o, rfl, hc⟩ := hsa.keep hB k hlt
          have HSA : Hid (StrsAt wr (some ⟨b, o, none⟩) bk.sts) := hsa.keep hB
          have s4 := n4 k hlt
          cases hnm : nameB bk.sts[k]
          · have HG : Hid (faultD bk = (2, (k : Int))) := by unfold Hid; rw [HF.out, fault2_some (first_some hlt (badName_no hlt hnm) hgood.out)]
            generalize bk.sts[k] = s at *
            clear hsa hta n3 n4
            go_wp2_with fail
            refine (l1name_any _ _ s4).mono ?_
            rintro e w1 ⟨rfl, rfl⟩
            rw [hnm]
            go_wp2_with fail
            exact bodyPost_ret (v := .agg #[.int .i64 2, .int .i64 k]) (by simp [results, Tryd.results27, go_sem, r0, r1]) rfl ⟨by rw [HG.out], (hB.setCell (by simp) _).setCell (by simp) _⟩
          · have HN : Hid (nameB bk.sts[k] = true) := hnm
            generalize hs : bk.sts[k] = s at *
            have Hs : Hid (bk.sts[k] = s) := hs
            clear hs
            go_wp2_with fail
            refine (l1name_any _ _ s4).mono ?_
            rintro e w1 ⟨rfl, rfl⟩
            rw [hnm]
            clear hnm
            go_wp2_with fail
            clear hc q0 q1 r0 r1 rf z1 z2 HSA
            go_loopw [5] (fun i wr => ∃ m : Nat, m ≤ k ∧ i = .int .i64 m ∧ Hid (∀ j (hj : j < bk.sts.length), j < m → bk.sts[j].data.toList ≠ s.data.toList) ∧ Below (w.heap.size + 2) ((w.alloc (.cells #[.slice (some ⟨b, o, none⟩) bk.sts.length sc, .slice ta bk.trips.length tc] 26)).alloc (.cells #[.int .i64 0, .int .i64 0] 59)) wr) (fun i _ => k - (intOf i).toNat)
            case atStart => exact ⟨0, Nat.zero_le _, rfl, fun j _ hj => by omega, hbel⟩
            case round =>
              clear hbel hB
              obtain ⟨m, hm, rfl, hnb, hbel⟩ := hrel
              obtain ⟨q0, q1, r0, r1, rf, z1, z2, hB⟩ := res_facts _ _ _ _ _ _ hbel
              by_cases hmk : m < k
              · have hml : m < bk.sts.length := by omega
                obtain ⟨b', o', e', d0⟩ := hsa.keep hB m hml
                simp only [Option.some.injEq, Addr.mk.injEq] at e'
                obtain ⟨rfl, rfl, _⟩ := e'
                generalize hy : bk.sts[m] = y at *
                have Hy : Hid (bk.sts[m] = y) := hy
                clear hy hsa hta n3 n4
                by_cases hyc : y.data.toList = s.data.toList
                · have HG : Hid (faultD bk = (2, (k : Int))) := by
                    unfold Hid
                    rw [HF.out, fault2_some (first_some hlt (badName_dup hlt hmk (by rw [Hy.out, Hs.out]; exact hyc)) hgood.out)]
                  have hyb := str_eq hyc
                  clear hyc
                  go_wp2
                  exact bodyPost_ret (v := .agg #[.int .i64 2, .int .i64 k]) (by simp [results, Tryd.results27, go_sem, r0, r1]) rfl ⟨by rw [HG.out], (hB.setCell (by simp) _).setCell (by simp) _⟩
                · have HY : Hid (y.data.toList ≠ s.data.toList) := hyc
                  have hyb := str_ne hyc
                  clear hyc
                  go_wp2
                  go_roundw
                  case rel =>
                    refine ⟨m + 1, by omega, by go_num, fun j hj hjm => ?_, hbel⟩
                    by_cases e : j = m
                    · subst e; rw [Hy.out]; exact HY.out
                    · exact hnb.out j hj (by omega)
                  case measure => simp [intOf]; omega
              · go_wp2
                go_roundw
                case rel =>
                  refine ⟨k + 1, by omega, by go_num, fun j hj => ?_, hbel⟩
                  by_cases e : j = k
                  · subst e
                    exact badName_ok hlt (by rw [Hs.out]; exact HN.out) (fun m' hm' => by rw [Hs.out]; exact hnb.out m' (by omega) (by omega))
                  · exact hgood.out j (by omega)
                case measure => simp [intOf]; omega
        · have HF3 : Hid (faultD bk = fault3 bk) := by unfold Hid; rw [HF.out, fault2_none (first_none (fun j hj => hgood.out j (by omega)))]
          have HSA : Hid (StrsAt w sa bk.sts) := hsa
          clear HF hsa n4 hgood
          go_wp2_with fail
          go_loopw [53] (fun i wr => ∃ k : Nat, k ≤ bk.trips.length ∧ i = .int .i64 k ∧ Hid (∀ j, j < k → badTrip bk.sts.length bk.trips j = false) ∧ Below (w.heap.size + 2) ((w.alloc (.cells #[.slice sa bk.sts.length sc, .slice ta bk.trips.length tc] 26)).alloc (.cells #[.int .i64 0, .int .i64 0] 59)) wr) (fun i _ => bk.trips.length - (intOf i).toNat)
          case atStart => exact ⟨0, Nat.zero_le _, rfl, fun j hj => by omega, hbel⟩
          case round =>
            clear hbel q0 q1 r0 r1 rf z1 z2 hB hlt hk
            obtain ⟨k, hk, rfl, hgood, hbel⟩ := hrel
            obtain ⟨q0, q1, r0, r1, rf, z1, z2, hB⟩ := res_facts _ _ _ _ _ _ hbel
            by_cases hlt : k < bk.trips.length
            · have HBK : Hid (BookAt wr (.agg #[.slice sa bk.sts.length sc, .slice ta bk.trips.length tc]) bk) := ⟨sa, sc, ta, tc, rfl, HSA.out.keep hB, hta.keep hB⟩
              obtain ⟨b, o, ca, cc, rfl, hc0, hc1, hca⟩ := hta.keep hB k hlt
              obtain ⟨s1, s2⟩ := n3 k hlt
              have HA : Hid (badTrip bk.sts.length bk.trips k = !tripB bk.sts.length bk.trips[k]) := badTrip_at _ _ k hlt
              have HC : Hid (CallsAt wr ca bk.trips[k].calls) := hca
              generalize bk.trips[k] = t at *
              clear hta n3 hca HSA
              cases htb : tripB bk.sts.length t
              · have HG : Hid (faultD bk = (3, (k : Int))) := by unfold Hid; rw [HF3.out, fault3_some (first_some hlt (by rw [HA.out, htb]; rfl) hgood.out)]
                go_wp2_with fail
                refine (l1trip_any _ bk t _ _ _ n1 s1 s2 (by exact HBK.out.keep (bx_below _ _)) (by exact HC.out.keep (bx_below _ _))).mono ?_
                rintro e w1 ⟨rfl, hb1⟩
                rw [htb]
                have hB1 : Below w.heap.size w w1 := (hB.alloc hB.size _).trans (hb1.mono (by have := hB.size; simp; omega))
                have hbel1 : Below (w.heap.size + 2) ((w.alloc (.cells #[.slice sa bk.sts.length sc, .slice (some ⟨b, o, none⟩) bk.trips.length tc] 26)).alloc (.cells #[.int .i64 0, .int .i64 0] 59)) w1 := (hbel.alloc (by omega) _).trans (hb1.mono (by simp; omega))
                clear q0 q1 r0 r1 rf hb1 hbel hB
                obtain ⟨q0, q1, r0, r1, rf, z3, z4, hB⟩ := res_facts _ _ _ _ _ _ hbel1
                go_wp2_with fail
                exact bodyPost_ret (v := .agg #[.int .i64 3, .int .i64 k]) (by simp [results, Tryd.results27, go_sem, r0, r1]) rfl ⟨by rw [HG.out], (hB.setCell (by simp) _).setCell (by simp) _⟩
              · have HT : Hid (tripB bk.sts.length t = true) := htb
                go_wp2_with fail
                refine (l1trip_any _ bk t _ _ _ n1 s1 s2 (by exact HBK.out.keep (bx_below _ _)) (by exact HC.out.keep (bx_below _ _))).mono ?_
                rintro e w1 ⟨rfl, hb1⟩
                rw [htb]
                clear htb
                go_wp2_with fail
                go_roundw
                case rel =>
                  refine ⟨k + 1, by omega, by go_num, fun j hj => ?_, (hbel.alloc (by omega) _).trans (hb1.mono (by simp; omega))⟩
                  by_cases e : j = k
                  · subst e; rw [HA.out, HT.out]; rfl
                  · exact hgood.out j (by omega)
                case measure => simp [intOf]; omega
            · have HF4 : Hid (faultD bk = fault4 bk) := by unfold Hid; rw [HF3.out, fault3_none (first_none (fun j hj => hgood.out j (by omega)))]
              have HNM : Hid (∀ j (h : j < bk.trips.length), nameB bk.trips[j].name = true) := fun j h => by
                have h1 := hgood.out j (by omega)
                rw [badTrip_at _ _ j h] at h1
                exact tripB_named (n := bk.sts.length) (by simpa using h1)
              clear HF3 hgood HSA n3
              go_wp2_with fail
              go_loopw [68] (fun i wr => ∃ k : Nat, k ≤ bk.trips.length ∧ i = .int .i64 k ∧ Hid (∀ j, j < k → badName (namesOf bk.trips) j = false) ∧ Below (w.heap.size + 2) ((w.alloc (.cells #[.slice sa bk.sts.length sc, .slice ta bk.trips.length tc] 26)).alloc (.cells #[.int .i64 0, .int .i64 0] 59)) wr) (fun i _ => bk.trips.length - (intOf i).toNat)
              case atStart => exact ⟨0, Nat.zero_le _, rfl, fun j hj => by omega, hbel⟩
              case round =>
                clear hbel q0 q1 r0 r1 rf z1 z2 hB hlt hk
                obtain ⟨k, hk, rfl, hgood, hbel⟩ := hrel
                obtain ⟨q0, q1, r0, r1, rf, z1, z2, hB⟩ := res_facts _ _ _ _ _ _ hbel
                by_cases hlt : k < bk.trips.length
                · obtain ⟨b, o, ca, cc, rfl, hc0, hc1, _⟩ := hta.keep hB k hlt
                  have hltn : k < (namesOf bk.trips).length := by rw [nmOf_length]; exact hlt
                  have Hn : Hid ((namesOf bk.trips)[k] = bk.trips[k].name) := nmOf_get _ k hltn
                  have HNk : Hid (nameB (namesOf bk.trips)[k] = true) := by unfold Hid; rw [nmOf_get _ k hltn]; exact HNM.out k hlt
                  generalize bk.trips[k].name = s at *
                  generalize bk.trips[k].calls.length = cl at *
                  obtain ⟨wo, hwo⟩ : ∃ wo, wo = wr := ⟨_, rfl⟩
                  subst hwo
                  go_wp2_with fail
                  clear hc0 hc1 q0 q1 r0 r1 rf
                  go_loopw [10] (fun i wr => ∃ m : Nat, m ≤ k ∧ i = .int .i64 m ∧ Hid (∀ j (hj : j < (namesOf bk.trips).length), j < m → (namesOf bk.trips)[j].data.toList ≠ s.data.toList) ∧ Below (wo.heap.size + 1) (wo.alloc (.cells #[.string s, .slice ca cl cc] 54)) wr) (fun i _ => k - (intOf i).toNat)
                  case atStart => exact ⟨0, Nat.zero_le _, rfl, fun j _ hj => by omega, Below.refl _ _⟩
                  case round =>
                    obtain ⟨m, hm, rfl, hnb, hbi⟩ := hrel
                    have hbel1 : Below (w.heap.size + 2) ((w.alloc (.cells #[.slice sa bk.sts.length sc, .slice (some ⟨b, o, none⟩) bk.trips.length tc] 26)).alloc (.cells #[.int .i64 0, .int .i64 0] 59)) wr := (hbel.alloc (by omega) _).trans (hbi.mono (by omega))
                    obtain ⟨q0, q1, r0, r1, rf, z3, z4, hB1⟩ := res_facts _ _ _ _ _ _ hbel1
                    have p2 : wr.cell? ⟨wo.heap.size, 0, none⟩ = some (.string s) := by
                      rw [hbi.cell (p := ⟨wo.heap.size, 0, none⟩) (by simp)]; simp [go_sem]
                    by_cases hmk : m < k
                    · have hml : m < bk.trips.length := by omega
                      have hmn : m < (namesOf bk.trips).length := by rw [nmOf_length]; exact hml
                      obtain ⟨b', o', ca', cc', e', d0, _, _⟩ := hta.keep hB1 m hml
                      simp only [Option.some.injEq, Addr.mk.injEq] at e'
                      obtain ⟨rfl, rfl, _⟩ := e'
                      have Hm : Hid ((namesOf bk.trips)[m] = bk.trips[m].name) := nmOf_get _ m hmn
                      have hi1 : (m : Int) < (bk.trips.length : Int) := by omega
                      have hi0 : (0 : Int) ≤ (m : Int) := by omega
                      generalize bk.trips[m].name = y at *
                      have hbi' := hbi
                      clear hta hbi hbel hB
                      by_cases hyc : y.data.toList = s.data.toList
                      · have HG : Hid (faultD bk = (4, (k : Int))) := by
                          unfold Hid
                          rw [HF4.out, fault4_some (first_some hlt (badName_dup hltn hmk (by rw [Hm.out, Hn.out]; exact hyc)) hgood.out)]
                        have hyb := str_eq hyc
                        clear hyc
                        go_wp2
                        go_quiet (fail)
                        go_wp2
                        exact bodyPost_ret (v := .agg #[.int .i64 4, .int .i64 k]) (by simp [results, Tryd.results27, go_sem, r0, r1]) rfl ⟨by rw [HG.out], ((below_drewN hB1 _).setCell (by simp) _).setCell (by simp) _⟩
                      · have HY : Hid (y.data.toList ≠ s.data.toList) := hyc
                        have hyb := str_ne hyc
                        clear hyc
                        go_wp2
                        go_quiet (fail)
                        go_wp2
                        go_roundw
                        case rel =>
                          refine ⟨m + 1, by omega, by go_num, fun j hj hjm => ?_, below_drewN hbi' _⟩
                          by_cases e : j = m
                          · subst e; rw [Hm.out]; exact HY.out
                          · exact hnb.out j hj (by omega)
                        case measure => simp [intOf]; omega
                    · go_wp2
                      go_roundw
                      case rel =>
                        refine ⟨k + 1, by omega, by go_num, fun j hj => ?_, hbel1⟩
                        by_cases e : j = k
                        · subst e
                          exact badName_ok hltn HNk.out (fun m' hm' => by rw [Hn.out]; exact hnb.out m' (by omega) (by omega))
                        · exact hgood.out j (by omega)
                      case measure => simp [intOf]; omega
                · have HG : Hid (faultD bk = (0, 0)) := by unfold Hid; rw [HF4.out, fault4_none (first_none (fun j hj => hgood.out j (by omega)))]
                  go_wp2_with fail
                  exact bodyPost_ret (v := .agg #[.int .i64 0, .int .i64 0]) (by simp [results, Tryd.results27, go_sem, r0, r1]) rfl ⟨by rw [HG.out], (hB.setCell (by simp) _).setCell (by simp) _⟩

end Go.Proofs.YtjioingdpfgadaaDoor
namespace Go.Proofs.YtjioingdpfgadaaDoor
open Go Go.RowKit Go.Deep

set_option maxRecDepth 100000 in
set_option maxHeartbeats 1000000 in
theorem l1ok_any (v : Value) (bk : BookD) (w : World) (hn : bookSize bk ≤ 1048576) (hat : BookAt w v bk) :
    Calls Tryd.prog 58 #[v] w fun e w' => e = .returned (.bool ((faultD bk).1 == 0)) ∧ Below w.heap.size w w' := by
  obtain ⟨sa, sc, ta, tc, rfl, hsa, hta⟩ := hat
  have hb0 := bx_below w (.cells #[.slice sa bk.sts.length sc, .slice ta bk.trips.length tc] 26)
  go_enter Tryd.func58, Tryd.ntmps58
  go_wp2_with fail
  refine (specBookOk_any _ bk _ hn (by exact ⟨sa, sc, ta, tc, rfl, hsa.keep hb0, hta.keep hb0⟩)).mono ?_
  rintro e w1 ⟨rfl, hb1⟩
  have hB1 : Below w.heap.size w w1 := hb0.trans (hb1.mono (by simp))
  go_wp2_with fail
  go_ret
  exact ⟨rfl, hB1.alloc hB1.size _⟩

set_option maxRecDepth 100000 in
set_option maxHeartbeats 1000000 in
theorem l1at_any (v : Value) (bk : BookD) (k : Nat) (s : Int) (w : World) (hk : k < bk.trips.length) (hn : bookSize bk ≤ 1048576) (hat : BookAt w v bk) :
    Calls Tryd.prog 51 #[v, .int .i64 k, .int .i64 s] w fun e w' => e = .returned (.int .i64 (callAtC bk.trips[k].calls s)) ∧ Below w.heap.size w w' := by
  obtain ⟨sa, sc, ta, tc, rfl, hsa, hta⟩ := hat
  have hb0 := bx_below w (.cells #[.slice sa bk.sts.length sc, .slice ta bk.trips.length tc] 26)
  obtain ⟨b, o, ca, cc, rfl, hc0, hc1, hca⟩ := (hta.keep hb0) k hk
  have n2 : bk.trips.length ≤ 1048576 := by unfold bookSize tripsSize at hn; omega
  have n3 : bk.trips[k].calls.length ≤ 1048576 := by
    have := sumTrips_get bk.trips k hk
    unfold bookSize tripsSize at hn; unfold tripSize at this; omega
  have HC : Hid (CallsAt w ca bk.trips[k].calls) := by
    obtain ⟨b', o', ca', cc', e', d0, d1, d2⟩ := hta k hk
    simp only [Option.some.injEq, Addr.mk.injEq] at e'
    obtain ⟨rfl, rfl, _⟩ := e'
    have := cell_keep hb0 d1
    rw [hc1] at this
    simp at this
    obtain ⟨rfl, _⟩ := this
    exact d2
  have hi1 : (k : Int) < (bk.trips.length : Int) := by omega
  generalize bk.trips[k].calls = cs at *
  clear hca hsa hta hc0 hn
  go_enter Tryd.func51, Tryd.ntmps51
  go_wp2
  go_loopw [16] (fun i wr => ∃ m : Nat, m ≤ cs.length ∧ i = .int .i64 m ∧ Hid (∀ j, j < m → atStation cs s j = false) ∧ Below w.heap.size w wr) (fun i _ => cs.length - (intOf i).toNat)
  case atStart => exact ⟨0, Nat.zero_le _, rfl, fun j hj => by omega, hb0⟩
  case round =>
    obtain ⟨m, hm, rfl, hno, hbel⟩ := hrel
    by_cases hlt : m < cs.length
    · obtain ⟨b', o', rfl, d0, d1, d2, d3⟩ := HC.out.keep hbel m hlt
      have HA : Hid (atStation cs s m = (cs[m].st == s)) := atStation_at cs s m hlt
      generalize cs[m] = c at *
      clear HC
      cases hcs : (c.st == s)
      · have HS : Hid ((c.st == s) = false) := hcs
        go_wp2
        go_roundw
        case rel =>
          refine ⟨m + 1, by omega, by go_num, fun j hj => ?_, hbel.alloc hbel.size _⟩
          by_cases e : j = m
          · subst e; rw [HA.out, HS.out]
          · exact hno.out j (by omega)
        case measure => simp [intOf]; omega
      · have HF : Hid (callAtC cs s = m) := callAtC_some (first_some hlt (by rw [HA.out, hcs]) hno.out)
        go_wp2
        go_ret
        exact ⟨ret_int HF.out.symm, hbel.alloc hbel.size _⟩
    · have HF : Hid (callAtC cs s = -1) := callAtC_none (first_none (fun j hj => hno.out j (by omega)))
      go_wp2
      go_ret
      exact ⟨ret_int HF.out.symm, hbel⟩

end Go.Proofs.YtjioingdpfgadaaDoor
namespace Go.Proofs.YtjioingdpfgadaaDoor
open Go Go.RowKit

/-- A world that came of W: below block B it is as W was. -/
structure Later (B : Nat) (W : World) where
  w : World
  below : Below B W w

/-- A region that draws its order, whose operations read what lies below B alone and whose callees turn nothing there: one walk, in the order of the text. -/
theorem wp_region_later {P : Program} {id : Nat} {Q : Exit → Act → World → Prop} {a : Act} {w W : World} {B : Nat} {l : List Oper} (hm : P.follows .mixedOrders = true) (hB : Region.lexB .any l.toArray = true) (hW : Below B W w)
    (h : wpQuiet P l.toArray (fun w' => ∃ x : Later B W, w' = x.w) (fun a' => ∀ w', (∃ x : Later B W, w' = x.w) → Q .normal a' w') l a) : (Code.region id l.toArray true).wp P Q a w :=
  wp_region_quiet (C := fun w' => ∃ x : Later B W, w' = x.w) hm hB ⟨⟨_, hW.drew⟩, rfl⟩ (by simpa using h)
theorem later_ne (B : Nat) (W : World) : Nonempty (Later B W) := ⟨⟨W, Below.refl _ _⟩⟩
/-- A cell below B, in every later world. -/
theorem later_cell {B : Nat} {W : World} {b o : Nat} {v : Value} (h : W.cell? ⟨b, o, none⟩ = some v) (hb : b < B) : ∀ x : Later B W, x.w.cell? ⟨b, o, none⟩ = some v :=
  fun x => by rw [x.below.cell (p := ⟨b, o, none⟩) hb]; exact h
/-- A callee's contract at a later world. -/
theorem later_call {P : Program} {f : FuncId} {args : Array Value} {B : Nat} {W : World} {x : Later B W} {v : Value} (hs : B ≤ W.heap.size)
    (h : Calls P f args x.w fun e w' => e = .returned v ∧ Below x.w.heap.size x.w w') : Calls P f args x.w fun e w'' => e = .returned v ∧ ∃ y : Later B W, w'' = y.w :=
  h.mono fun _ w' ⟨he, hb⟩ => ⟨he, ⟨w', x.below.trans (hb.mono (Nat.le_trans hs x.below.size))⟩, rfl⟩
theorem later_call_same {P : Program} {f : FuncId} {args : Array Value} {B : Nat} {W : World} {x : Later B W} {v : Value}
    (h : Calls P f args x.w fun e w' => e = .returned v ∧ w' = x.w) : Calls P f args x.w fun e w'' => e = .returned v ∧ ∃ y : Later B W, w'' = y.w :=
  h.mono fun _ _ ⟨he, hw⟩ => ⟨he, x, hw⟩

end Go.Proofs.YtjioingdpfgadaaDoor
