import Derived.Test.YtjioingdpfgadaaDoorProg
import Derived.Test.YtjioingdpfgadaaDoorBaseM
import Derived.Test.YtjioingdpfgadaaDoorSzM
import Derived.Deep.OwnRows
import Derived.BigRegion
import Derived.Deep.RegionWith
import Derived.BigQuiet
namespace Go.Proofs.YtjioingdpfgadaaDoor
open Go Go.RowKit

set_option maxHeartbeats 400000 in
theorem l1in_any (x a b : Int) (w : World) :
    Calls Tryd.prog 50 #[.int .i64 x, .int .i64 a, .int .i64 b] w fun e w' => e = .returned (.bool (decide (a ≤ x ∧ x ≤ b))) ∧ w' = w := by
  by_cases h : a ≤ x
  · by_cases h2 : x ≤ b
    · go_enter Tryd.func50, Tryd.ntmps50
      go_wp2
      go_ret
      exact ⟨ret_bool (by simp [h, h2]), rfl⟩
    · go_enter Tryd.func50, Tryd.ntmps50
      go_wp2
      go_ret
      exact ⟨ret_bool (by simp [h2]), rfl⟩
  · go_enter Tryd.func50, Tryd.ntmps50
    go_wp2
    go_ret
    exact ⟨ret_bool (by rw [decide_eq_false (by omega)]; rfl), rfl⟩

set_option maxRecDepth 100000 in
set_option maxHeartbeats 4000000 in
theorem l1name_any (s : ByteArray) (w : World) (hs : s.size ≤ 1048576) :
    Calls Tryd.prog 65 #[.string s] w fun e w' => e = .returned (.bool (nameB s)) ∧ w' = w := by
  go_enter Tryd.func65, Tryd.ntmps65
  go_wp2
  go_loop [3, 4] (fun bl i => ∃ (k : Nat) (b : Bool), k ≤ s.size ∧ i = .int .i64 k ∧ bl = .bool b ∧ Hid (scanB (s.data.toList.take k) = some b)) (fun _ i => s.size - (intOf i).toNat)
  case atStart => exact ⟨0, true, Nat.zero_le _, rfl, rfl, by unfold Hid; simp [scanB]⟩
  case round =>
    obtain ⟨k, b, hk, rfl, rfl, hsc⟩ := hrel
    by_cases hlt : k < s.size
    · obtain ⟨c0, c1⟩ := byte_lt s[k]
      have HS : Hid (scanB (s.data.toList.take (k + 1)) = stepB s[k].toNat b) := scanB_step s k hlt hsc.out
      by_cases h32 : (s[k].toNat : Int) = 32
      · have H32 : Hid ((s[k].toNat : Int) = 32) := h32
        have hb32 : ((s[k].toNat : Int) == 32) = true := by simp [h32]
        clear h32
        cases b
        · go_wp2
          go_round
          case rel => exact ⟨k + 1, true, by omega, by go_num, rfl, by unfold Hid; rw [HS.out, step_blank H32.out]⟩
          case measure => simp [intOf]; omega
        · go_wp2
          go_ret
          exact ⟨ret_bool (by rw [nameB_dead s (k + 1) (by rw [HS.out, step_blank_bad H32.out])]), rfl⟩
      · have hb32 : ((s[k].toNat : Int) == 32) = false := by simpa using h32
        have H32 : Hid ((s[k].toNat : Int) ≠ 32) := h32
        clear h32
        by_cases hl : 97 ≤ (s[k].toNat : Int) ∧ (s[k].toNat : Int) ≤ 122 ∨ 65 ≤ (s[k].toNat : Int) ∧ (s[k].toNat : Int) ≤ 90 ∨ 48 ≤ (s[k].toNat : Int) ∧ (s[k].toNat : Int) ≤ 57
        · have HL : Hid (ldB (s[k].toNat : Int) = true) := ldB_yes hl
          rcases hl with ⟨l1, l2⟩ | ⟨l1, l2⟩ | ⟨l1, l2⟩
          all_goals
            go_wp2
            go_round
            case rel => exact ⟨k + 1, false, by omega, by go_num, rfl, by unfold Hid; rw [HS.out, step_ld H32.out HL.out]⟩
            case measure => simp [intOf]; omega
        · have HL : Hid (ldB (s[k].toNat : Int) = false) := ldB_no hl
          have hdead : nameB s = false := nameB_dead s (k + 1) (by rw [HS.out, step_bad H32.out HL.out])
          have HD : Hid (nameB s = false) := hdead
          clear hdead
          by_cases g1 : (s[k].toNat : Int) < 48
          · clear hl
            go_wp2
            go_ret
            exact ⟨ret_bool HD.out.symm, rfl⟩
          · by_cases g2 : (s[k].toNat : Int) < 65
            · have g3 : decide ((s[k].toNat : Int) ≤ 57) = false := by simp; omega
              clear hl
              go_wp2
              go_ret
              exact ⟨ret_bool HD.out.symm, rfl⟩
            · by_cases g4 : (s[k].toNat : Int) < 97
              · have g3 : decide ((s[k].toNat : Int) ≤ 90) = false := by simp; omega
                have g5 : decide ((s[k].toNat : Int) ≤ 57) = false := by simp; omega
                clear hl
                go_wp2
                go_ret
                exact ⟨ret_bool HD.out.symm, rfl⟩
              · have g3 : decide ((s[k].toNat : Int) ≤ 122) = false := by simp; omega
                have g5 : decide ((s[k].toNat : Int) ≤ 57) = false := by simp; omega
                have g6 : decide ((s[k].toNat : Int) ≤ 90) = false := by simp; omega
                clear hl
                go_wp2
                go_ret
                exact ⟨ret_bool HD.out.symm, rfl⟩
    · by_cases hz : s.size = 0
      · have HZ : Hid (nameB s = false) := nameB_empty hz
        have hz' : ¬ (0 : Int) < (s.size : Int) := by omega
        clear hz
        go_wp2
        go_ret
        exact ⟨ret_bool HZ.out.symm, rfl⟩
      · by_cases h20 : s.size ≤ 20
        · go_wp2
          go_ret
          exact ⟨ret_bool (by rw [nameB_end s k (by omega) hsc.out]; simp [h20]), rfl⟩
        · go_wp2
          go_ret
          exact ⟨ret_bool (nameB_long h20).symm, rfl⟩

end Go.Proofs.YtjioingdpfgadaaDoor
namespace Go.Proofs.YtjioingdpfgadaaDoor
open Go Go.RowKit Go.Deep

theorem bx_below (w : World) (o : Obj) : Below w.heap.size w (w.alloc o) := (Below.refl _ _).alloc (Nat.le_refl _) _
theorem in_yes {x a b : Int} (h : a ≤ x ∧ x ≤ b) : decide (a ≤ x ∧ x ≤ b) = true := decide_eq_true h
theorem in_no {x a b : Int} (h : ¬ (a ≤ x ∧ x ≤ b)) : decide (a ≤ x ∧ x ≤ b) = false := decide_eq_false h
theorem l1in_yes (x a b : Int) (w : World) (h1 : a ≤ x) (h2 : x ≤ b) : Calls Tryd.prog 50 #[.int .i64 x, .int .i64 a, .int .i64 b] w fun e w' => e = .returned (.bool true) ∧ w' = w := by
  refine (l1in_any x a b w).mono ?_
  rintro e w' ⟨rfl, rfl⟩
  exact ⟨ret_bool (in_yes ⟨h1, h2⟩), rfl⟩
theorem l1in_no (x a b : Int) (w : World) (h : ¬ (a ≤ x ∧ x ≤ b)) : Calls Tryd.prog 50 #[.int .i64 x, .int .i64 a, .int .i64 b] w fun e w' => e = .returned (.bool false) ∧ w' = w := by
  refine (l1in_any x a b w).mono ?_
  rintro e w' ⟨rfl, rfl⟩
  exact ⟨ret_bool (in_no h), rfl⟩

set_option maxRecDepth 100000 in
set_option maxHeartbeats 2000000 in
theorem l1trip_any (v : Value) (bk : BookD) (t : TripD) (ca : Option Addr) (cc : Nat) (w : World) (hb : bk.sts.length ≤ 1048576) (hs : t.name.size ≤ 1048576) (hn : t.calls.length ≤ 1048576) (hbk : BookAt w v bk) (hat : CallsAt w ca t.calls) :
    Calls Tryd.prog 66 #[v, .agg #[.string t.name, .slice ca t.calls.length cc]] w fun e w' => e = .returned (.bool (tripB bk.sts.length t)) ∧ Below w.heap.size w w' := by
  obtain ⟨sa, sc, ta, tc, rfl, hsa, hta⟩ := hbk
  clear hsa hta
  have hb0 : Below w.heap.size w ((w.alloc (.cells #[.slice sa bk.sts.length sc, .slice ta bk.trips.length tc] 26)).alloc (.cells #[.string t.name, .slice ca t.calls.length cc] 54)) := (bx_below _ _).alloc (by simp) _
  cases hnm : nameB t.name
  · have HF : Hid (tripB bk.sts.length t = false) := tripB_name hnm
    go_enter Tryd.func66, Tryd.ntmps66
    go_wp2_with fail
    refine (l1name_any _ _ hs).mono ?_
    rintro e w1 ⟨rfl, rfl⟩
    rw [hnm]
    go_wp2_with fail
    go_ret
    exact ⟨ret_bool HF.out.symm, hb0⟩
  · have HN : Hid (nameB t.name = true) := hnm
    by_cases hct : 2 ≤ t.calls.length ∧ t.calls.length ≤ 20
    · obtain ⟨g1, g2⟩ := hct
      go_enter Tryd.func66, Tryd.ntmps66
      go_wp2_with fail
      refine (l1name_any _ _ hs).mono ?_
      rintro e w1 ⟨rfl, rfl⟩
      rw [hnm]
      go_wp2_with fail
      refine (l1in_yes _ _ _ _ (by omega) (by omega)).mono ?_
      rintro e w1 ⟨rfl, rfl⟩
      clear hnm
      go_wp2_with fail
      go_loopw [5, 23] (fun gn i wr => ∃ k : Nat, k ≤ t.calls.length ∧ i = .int .i64 k ∧ gn = .int .i64 (prevGo t.calls k) ∧ Hid (∀ j, j < k → callAtB bk.sts.length t.calls j = true) ∧ Hid (∀ i m (hi : i < t.calls.length) (hm : m < i), i < k → t.calls[m].st ≠ t.calls[i].st) ∧ Below (w.heap.size + 2) ((w.alloc (.cells #[.slice sa bk.sts.length sc, .slice ta bk.trips.length tc] 26)).alloc (.cells #[.string t.name, .slice ca t.calls.length cc] 54)) wr) (fun _ i _ => t.calls.length - (intOf i).toNat)
      case atStart => exact ⟨0, Nat.zero_le _, rfl, rfl, fun j hj => by omega, fun i m _ _ hi => by omega, Below.refl _ _⟩
      case round =>
        obtain ⟨k, hk, rfl, rfl, hgood, hnd, hbel⟩ := hrel
        have hB : Below w.heap.size w wr := hb0.trans (hbel.mono (by omega))
        have hz := hbel.size
        simp at hz
        have hz1 : w.heap.size < wr.heap.size := by omega
        have hz2 : w.heap.size + 1 < wr.heap.size := by omega
        have q0 : wr.cell? ⟨w.heap.size, 0, none⟩ = some (.slice sa bk.sts.length sc) := by
          rw [hbel.cell (p := ⟨w.heap.size, 0, none⟩) (by simp)]; simp [go_sem]
        have q1 : wr.cell? ⟨w.heap.size + 1, 1, none⟩ = some (.slice ca t.calls.length cc) := by
          rw [hbel.cell (p := ⟨w.heap.size + 1, 1, none⟩) (by simp)]; simp [go_sem]
        by_cases hlt : k < t.calls.length
        · have HATW : Hid (CallsAt wr ca t.calls) := hat.keep hB
          obtain ⟨b, o, rfl, hc0, hc1, hc2, hc3⟩ := hat.keep hB k hlt
          have HA : Hid (callAtB bk.sts.length t.calls k = callB bk.sts.length (prevGo t.calls k) t.calls[k]) := callAtB_at _ _ k hlt
          have HP : Hid (prevGo t.calls (k + 1) = t.calls[k].go) := prevGo_succ _ k hlt
          cases hcb : callB bk.sts.length (prevGo t.calls k) t.calls[k]
          · have HF : Hid (tripB bk.sts.length t = false) := tripB_call (callsB_no hlt (by rw [HA.out, hcb]))
            have hno := callB_no hcb
            have hBr : Below w.heap.size w (wr.alloc (.cells #[.int .i64 t.calls[k].st, .int .i64 t.calls[k].co, .int .i64 t.calls[k].go, .int .i64 t.calls[k].tr] 56)) := hB.alloc hB.size _
            generalize t.calls[k] = c at *
            generalize prevGo t.calls k = gn at *
            clear hat hcb hbel HATW
            by_cases a1 : 0 ≤ c.st ∧ c.st ≤ (bk.sts.length : Int) - 1
            · by_cases a2 : gn ≤ c.co ∧ c.co ≤ 1000000
              · by_cases a3 : c.co ≤ c.go ∧ c.go ≤ 1000000
                · have a4 : ¬ (1 ≤ c.tr ∧ c.tr ≤ 20) := by omega
                  obtain ⟨b1, b2⟩ := a1
                  obtain ⟨b3, b4⟩ := a2
                  obtain ⟨b5, b6⟩ := a3
                  clear hno
                  go_wp2_with fail
                  refine (l1in_yes _ _ _ _ b1 b2).mono ?_
                  rintro e w1 ⟨rfl, rfl⟩
                  go_wp2_with fail
                  refine (l1in_yes _ _ _ _ b3 b4).mono ?_
                  rintro e w1 ⟨rfl, rfl⟩
                  go_wp2_with fail
                  refine (l1in_yes _ _ _ _ b5 b6).mono ?_
                  rintro e w1 ⟨rfl, rfl⟩
                  go_wp2_with fail
                  refine (l1in_no _ _ _ _ a4).mono ?_
                  rintro e w1 ⟨rfl, rfl⟩
                  go_wp2_with fail
                  go_ret
                  exact ⟨ret_bool HF.out.symm, hBr⟩
                · obtain ⟨b1, b2⟩ := a1
                  obtain ⟨b3, b4⟩ := a2
                  clear hno
                  go_wp2_with fail
                  refine (l1in_yes _ _ _ _ b1 b2).mono ?_
                  rintro e w1 ⟨rfl, rfl⟩
                  go_wp2_with fail
                  refine (l1in_yes _ _ _ _ b3 b4).mono ?_
                  rintro e w1 ⟨rfl, rfl⟩
                  go_wp2_with fail
                  refine (l1in_no _ _ _ _ a3).mono ?_
                  rintro e w1 ⟨rfl, rfl⟩
                  go_wp2_with fail
                  go_ret
                  exact ⟨ret_bool HF.out.symm, hBr⟩
              · obtain ⟨b1, b2⟩ := a1
                clear hno
                go_wp2_with fail
                refine (l1in_yes _ _ _ _ b1 b2).mono ?_
                rintro e w1 ⟨rfl, rfl⟩
                go_wp2_with fail
                refine (l1in_no _ _ _ _ a2).mono ?_
                rintro e w1 ⟨rfl, rfl⟩
                go_wp2_with fail
                go_ret
                exact ⟨ret_bool HF.out.symm, hBr⟩
            · clear hno
              go_wp2_with fail
              refine (l1in_no _ _ _ _ a1).mono ?_
              rintro e w1 ⟨rfl, rfl⟩
              go_wp2_with fail
              go_ret
              exact ⟨ret_bool HF.out.symm, hBr⟩
          · obtain ⟨a1, a2, a3, a4, a5, a6, a7⟩ := callB_yes hcb
            have HCB : Hid (callB bk.sts.length (prevGo t.calls k) t.calls[k] = true) := hcb
            have HCC : Hid (CallsAt wr (some ⟨b, o, none⟩) t.calls) := HATW
            generalize hc : t.calls[k] = c at *
            have Hc : Hid (t.calls[k] = c) := hc
            generalize prevGo t.calls k = gn at *
            clear hat hcb HATW hc
            go_wp2_with fail
            refine (l1in_yes _ _ _ _ (by omega) (by omega)).mono ?_
            rintro e w1 ⟨rfl, rfl⟩
            go_wp2_with fail
            refine (l1in_yes _ _ _ _ (by omega) (by omega)).mono ?_
            rintro e w1 ⟨rfl, rfl⟩
            go_wp2_with fail
            refine (l1in_yes _ _ _ _ (by omega) (by omega)).mono ?_
            rintro e w1 ⟨rfl, rfl⟩
            go_wp2_with fail
            refine (l1in_yes _ _ _ _ (by omega) (by omega)).mono ?_
            rintro e w1 ⟨rfl, rfl⟩
            go_wp2_with fail
            obtain ⟨wo, hwo⟩ : ∃ wo, wo = wr := ⟨_, rfl⟩
            subst hwo
            go_loopw [8] (fun i wi => ∃ m : Nat, m ≤ k ∧ i = .int .i64 m ∧ Hid (∀ j (hj : j < t.calls.length), j < m → t.calls[j].st ≠ c.st) ∧ Below (wo.heap.size + 1) (wo.alloc (.cells #[.int .i64 c.st, .int .i64 c.co, .int .i64 c.go, .int .i64 c.tr] 56)) wi) (fun i _ => k - (intOf i).toNat)
            case atStart => exact ⟨0, Nat.zero_le _, rfl, fun j _ hj => by omega, Below.refl _ _⟩
            case round =>
              obtain ⟨m, hm, rfl, hnb, hbi⟩ := hrel
              have hzi := hbi.size
              simp at hzi
              have hBi : Below wo.heap.size wo wr := ((Below.refl _ _).alloc (Nat.le_refl _) _).trans (hbi.mono (by omega))
              have p1 := cell_keep hBi q1
              have p2 : wr.cell? ⟨wo.heap.size, 0, none⟩ = some (.int .i64 c.st) := by
                rw [hbi.cell (p := ⟨wo.heap.size, 0, none⟩) (by simp)]; simp [go_sem]
              by_cases hmk : m < k
              · have hml : m < t.calls.length := by omega
                obtain ⟨b', o', e', d0, _, _, _⟩ := HCC.out.keep hBi m hml
                simp only [Option.some.injEq, Addr.mk.injEq] at e'
                obtain ⟨rfl, rfl, _⟩ := e'
                have hi1 : (m : Int) < (t.calls.length : Int) := by omega
                have hi0 : (0 : Int) ≤ (m : Int) := by omega
                have HM : Hid (t.calls[m].st = t.calls[m].st) := rfl
                generalize hcm : t.calls[m].st = y at *
                have Hcm : Hid (t.calls[m].st = y) := hcm
                clear hcm q1 hc0 hc1 hc2 hc3 q0
                by_cases hyc : y = c.st
                · have HF : Hid (tripB bk.sts.length t = false) := tripB_dup (dup_of_pair hlt hmk (by rw [Hcm.out, Hc.out, hyc]))
                  have hyb : (y == c.st) = true := by simp [hyc]
                  clear hyc
                  go_wp2
                  go_quiet (fail)
                  go_wp2
                  go_ret
                  refine ⟨ret_bool HF.out.symm, ?_⟩
                  exact below_drewN (hB.trans (hBi.mono hB.size)) _
                · have Hy : Hid (¬ y = c.st) := hyc
                  have hyb : (y == c.st) = false := by simp [hyc]
                  clear hyc
                  go_wp2
                  go_quiet (fail)
                  go_wp2
                  go_roundw
                  case rel =>
                    refine ⟨m + 1, by omega, by go_num, fun j hj hjm => ?_, below_drewN hbi _⟩
                    by_cases e : j = m
                    · subst e; rw [Hcm.out]; exact Hy.out
                    · exact hnb.out j hj (by omega)
                  case measure => simp [intOf]; omega
              · have hmk' : m = k := by omega
                go_wp2
                go_roundw
                case rel =>
                  refine ⟨k + 1, by omega, by go_num, by rw [HP.out], fun j hj => ?_, fun i m' hi hm' hik => ?_, (hbel.alloc (by omega) _).trans (hbi.mono (by omega))⟩
                  · by_cases e : j = k
                    · subst e; rw [HA.out, HCB.out]
                    · exact hgood.out j (by omega)
                  · by_cases e : i = k
                    · subst e; rw [Hc.out]; exact hnb.out m' (by omega) (by omega)
                    · exact hnd.out i m' hi hm' (by omega)
                case measure => simp [intOf]; omega
        · have HF : Hid (tripB bk.sts.length t = true) := tripB_yes HN.out ⟨g1, g2⟩ (callsB_yes (fun j hj => hgood.out j (by omega))) (nodup_of_pairs (fun i m hi hm => hnd.out i m hi hm (by omega)))
          go_wp2
          go_ret
          exact ⟨ret_bool HF.out.symm, hB⟩
    · have HF : Hid (tripB bk.sts.length t = false) := tripB_count hct
      go_enter Tryd.func66, Tryd.ntmps66
      go_wp2_with fail
      refine (l1name_any _ _ hs).mono ?_
      rintro e w1 ⟨rfl, rfl⟩
      rw [hnm]
      go_wp2_with fail
      refine (l1in_no _ _ _ _ (by omega)).mono ?_
      rintro e w1 ⟨rfl, rfl⟩
      go_wp2_with fail
      go_ret
      exact ⟨ret_bool HF.out.symm, hb0⟩

end Go.Proofs.YtjioingdpfgadaaDoor
