import Derived.Test.YtjioingdpfgadaaGreatDoorProg
import Derived.Test.YtjioingdpfgadaaGreatDoorBoardCM
namespace Go.Proofs.YtjioingdpfgadaaGreatDoor
open Go Go.RowKit Go.Deep

set_option maxRecDepth 100000 in
set_option maxHeartbeats 4000000 in
theorem specBoard_yes (bk : BookD) (sa : Option Addr) (sc : Nat) (ta : Option Addr) (tc : Nat) (ra : Option Addr) (rc : Nat) (rs : List RepD) (s tick rows : Int) (w : World) (hn : bookSize bk ≤ 1048576) (hm : rs.length ≤ 1048576) (hat : BookAt w (.agg #[.slice sa bk.sts.length sc, .slice ta bk.trips.length tc]) bk) (hra : RepsAt w ra rs)
    (hrep : reportsB bk rs = true) (hs : 0 ≤ s ∧ s < bk.sts.length) (ht : 0 ≤ tick ∧ tick ≤ 1000000) (hr : 0 ≤ rows ∧ rows ≤ 40) :
    Calls Tryz.prog 13 #[.agg #[.slice sa bk.sts.length sc, .slice ta bk.trips.length tc], .slice ra rs.length rc, .int .i64 s, .int .i64 tick, .int .i64 rows] w fun e w' => ∃ v', e = .returned v' ∧ w'.ownsRow w.heap.size 52 6 v' (pick rows.toNat (collect bk (newsTo bk tick rs) s tick bk.trips.length)).length (sixes (pick rows.toNat (collect bk (newsTo bk tick rs) s tick bk.trips.length))) ∧ Below w.heap.size w w' := by
  have HBK : Hid (BookAt w (.agg #[.slice sa bk.sts.length sc, .slice ta bk.trips.length tc]) bk) := hat
  have HRA : Hid (RepsAt w ra rs) := hra
  have hb0 := bx_below w (.cells #[.slice sa bk.sts.length sc, .slice ta bk.trips.length tc] 26)
  obtain ⟨r0, _, rk⟩ := reportsB_inv hrep
  have h40 := right_trips' r0
  have HTB : Hid (∀ i (h : i < bk.trips.length), tripB bk.sts.length bk.trips[i] = true) := (faultD_zero r0).2
  have HKD : Hid (knownD bk rs tick = newsTo bk tick rs) := by unfold Hid knownD; rw [hrep]; rfl
  have hsh := shape_to bk tick rs
  have HNL : Hid ((newsTo bk tick rs).length = bk.trips.length) := hsh.length
  have HLEN : Hid (∀ i (h : i < bk.trips.length) (h' : i < (newsTo bk tick rs).length), (newsTo bk tick rs)[i].length = bk.trips[i].calls.length) := fun i h h' => by rw [hsh.at i h', callsOf_at bk i h]
  have HLATE : Hid (LateOk (newsTo bk tick rs)) := late_to bk tick rs (fun r hr => by
    obtain ⟨i, hi, rfl⟩ := List.getElem_of_mem hr
    exact (rk i hi).1)
  have n1 : bk.sts.length ≤ 1048576 := by unfold bookSize strsSize at hn; omega
  obtain ⟨s1, s2⟩ := hs
  obtain ⟨t1, t2⟩ := ht
  obtain ⟨k1, k2⟩ := hr
  have HRT : Hid (0 ≤ tick ∧ tick ≤ 1000000) := ⟨t1, t2⟩
  obtain ⟨ii, hi0, he0⟩ := Option.map_eq_some_iff.1 infRows
  simp only [Prod.mk.injEq] at he0
  have HI0 : Hid (ii.zero = some (.agg #[.int .i64 0, .int .i64 0, .int .i64 0, .int .i64 0, .int .i64 0, .int .i64 0]) ∧ ii.size = 6 ∧ ii.bytes = 48) := he0
  have HJ0 : Hid (Tryz.prog.info? 52 = some ii) := hi0
  generalize newsTo bk tick rs = N at *
  clear hat hra r0 rk hsh hi0 he0
  go_enter Tryz.func13, Tryz.ntmps13
  go_wp2_with fail
  refine (l2reports_any _ bk _ _ rs _ hn hm (by exact HBK.out.keep hb0) (by exact HRA.out.keep hb0)).mono ?_
  rintro e w1 ⟨rfl, hb1⟩
  rw [hrep]
  have B1 : Below (w.heap.size + 1) (w.alloc (.cells #[.slice sa bk.sts.length sc, .slice ta bk.trips.length tc] 26)) w1 := hb1.mono (by simp)
  have hB1 : Below w.heap.size w w1 := hb0.trans (B1.mono (by omega))
  have q0 : w1.cell? ⟨w.heap.size, 0, none⟩ = some (.slice sa bk.sts.length sc) := by rw [B1.cell (p := ⟨w.heap.size, 0, none⟩) (by simp)]; simp [go_sem]
  have q1 : w1.cell? ⟨w.heap.size, 1, none⟩ = some (.slice ta bk.trips.length tc) := by rw [B1.cell (p := ⟨w.heap.size, 1, none⟩) (by simp)]; simp [go_sem]
  clear hb1 B1
  go_wp2_with fail
  refine (l1in_yes _ _ _ _ (by omega) (by omega)).mono ?_
  rintro e w1' ⟨rfl, rfl⟩
  go_wp2_with fail
  refine (l1in_yes _ _ _ _ (by omega) (by omega)).mono ?_
  rintro e w1' ⟨rfl, rfl⟩
  go_wp2_with fail
  refine (l1in_yes _ _ _ _ (by omega) (by omega)).mono ?_
  rintro e w1' ⟨rfl, rfl⟩
  go_wp2_with fail
  refine (specKnown_any _ bk _ _ rs tick _ hn hm (by exact HBK.out.keep hB1) (by exact HRA.out.keep hB1)).mono ?_
  rintro e w2 ⟨v2, rfl, ⟨vs2, hown2⟩, hb2⟩
  rw [HKD.out] at hown2
  obtain ⟨na, nc, rfl, hss⟩ := hown2.at
  have hB2 : Below w.heap.size w w2 := hB1.trans (hb2.mono hB1.size)
  have p0 := cell_keep hb2 q0
  have p1 := cell_keep hb2 q1
  have HSS : Hid (NewsSSAt w2 na N) := hss
  have HB2 : Hid (BookAt w2 (.agg #[.slice sa bk.sts.length sc, .slice ta bk.trips.length tc]) bk) := HBK.out.keep hB2
  clear q0 q1 hown2 hss hb2
  go_wp2_with fail
  go_loopw [12, 50] (fun all i wr => ∃ k : Nat, k ≤ bk.trips.length ∧ i = .int .i64 k ∧ wr.ownsRow w2.heap.size 52 6 all (collect bk N s tick k).length (sixes (collect bk N s tick k)) ∧ Below w2.heap.size w2 wr) (fun _ i _ => bk.trips.length - (intOf i).toNat)
  case atStart => exact ⟨0, Nat.zero_le _, rfl, World.ownsRow_nil _ _ _ _, Below.refl _ _⟩
  case round =>
    obtain ⟨k, hk, rfl, hrow, hbel⟩ := hrel
    have hz := hbel.size
    have e0 := cell_keep hbel p0
    have e1 := cell_keep hbel p1
    by_cases hlt : k < bk.trips.length
    · have hkn : k < N.length := by rw [HNL.out]; exact hlt
      have hlen := HLEN.out k hlt hkn
      have HTk := HTB.out k hlt
      have hl20 := tripB_len' HTk
      have HC : Hid (collect bk N s tick (k + 1) = collect bk N s tick k ++ (rowOfTrip bk N s tick k).toList) := rfl
      have hcl := collect_length bk N s tick k
      go_wp2_with fail
      refine (l1at_any _ bk k s _ hlt hn (by exact HB2.out.keep hbel)).mono ?_
      rintro e w3 ⟨rfl, hb3⟩
      have hbel3 : Below w2.heap.size w2 w3 := hbel.trans (hb3.mono hbel.size)
      have hrow3 := owns_below hrow hb3 (owns_lt hrow)
      have f0 := cell_keep hb3 e0
      have f1 := cell_keep hb3 e1
      cases hfi : firstIdx (atStation bk.trips[k].calls s) bk.trips[k].calls.length with
      | none =>
        have hat1 : callAtC bk.trips[k].calls s = -1 := by unfold callAtC; rw [hfi]
        have HC1 : Hid (collect bk N s tick (k + 1) = collect bk N s tick k) := by
          unfold Hid; rw [HC.out]
          have : rowOfTrip bk N s tick k = none := by unfold rowOfTrip; simp [List.getElem?_eq_getElem hlt, List.getElem?_eq_getElem hkn, hfi]
          rw [this]; simp
        rw [hat1]
        have HR3 : Hid (w3.ownsRow w2.heap.size 52 6 u12 (collect bk N s tick (k + 1)).length (sixes (collect bk N s tick (k + 1)))) := by unfold Hid; rw [HC1.out]; exact hrow3
        clear hrow hrow3 hfi hat1
        go_wp2_with fail
        go_roundw
        case rel => exact ⟨k + 1, by omega, by go_num, HR3.out, hbel3⟩
        case measure => simp [intOf]; omega
      | some kk =>
        have hkk : kk < bk.trips[k].calls.length := firstIdx_lt hfi
        have hkkn : kk < N[k].length := by omega
        have hat1 : callAtC bk.trips[k].calls s = (kk : Int) := callAtC_some hfi
        have HLR : Hid (∀ v na nc w, BookAt w v bk → NewsSSAt w na N → Calls Tryz.prog 36 #[v, .slice na N.length nc, .int .i64 k, .int .i64 kk, .int .i64 tick] w fun e w' => e = .returned (.tuple #[rowV (rowAt bk.trips[k].calls N[k] k kk bk.trips[k].calls[kk] N[k][kk] tick).1, .bool (rowAt bk.trips[k].calls N[k] k kk bk.trips[k].calls[kk] N[k][kk] tick).2]) ∧ Below w.heap.size w w') := fun v na nc w h1 h2 =>
          l3row_any v bk na nc N k kk tick w hlt hkn hlen (by omega) hkk hkkn (tripB_go HTk kk hkk) (HLATE.out _ (List.getElem_mem hkn) _ (List.getElem_mem hkkn)) HRT.out h1 h2
        have HRO : Hid (rowOfTrip bk N s tick k = if (rowAt bk.trips[k].calls N[k] k kk bk.trips[k].calls[kk] N[k][kk] tick).2 then some (rowAt bk.trips[k].calls N[k] k kk bk.trips[k].calls[kk] N[k][kk] tick).1 else none) := by
          unfold Hid rowOfTrip; simp [List.getElem?_eq_getElem hlt, List.getElem?_eq_getElem hkn, hfi, List.getElem?_eq_getElem hkk, List.getElem?_eq_getElem hkkn]
        rw [hat1]
        generalize rowAt bk.trips[k].calls N[k] k kk bk.trips[k].calls[kk] N[k][kk] tick = ro at *
        obtain ⟨r, ok⟩ := ro
        simp only at HLR HRO
        have hkk0 : (0 : Int) ≤ (kk : Int) := by omega
        have hkk20 : kk ≤ 20 := by omega
        clear hfi hat1 hrow
        go_wp2_with fail
        refine (HLR.out _ _ _ _ (by exact HB2.out.keep hbel3) (by exact HSS.out.keep hbel3)).mono ?_
        rintro e w4 ⟨rfl, hb4⟩
        have hbel4 : Below w2.heap.size w2 w4 := hbel3.trans (hb4.mono hbel3.size)
        have hrow4 := owns_below hrow3 hb4 (owns_lt hrow3)
        unfold rowV
        cases ok
        · have HC1 : Hid (collect bk N s tick (k + 1) = collect bk N s tick k) := by unfold Hid; rw [HC.out, HRO.out]; simp
          have HR4 : Hid (∀ o, (w4.alloc o).ownsRow w2.heap.size 52 6 u12 (collect bk N s tick (k + 1)).length (sixes (collect bk N s tick (k + 1)))) := fun o => by rw [HC1.out]; exact hrow4.alloc o
          clear hrow3 hrow4
          go_wp2_with fail
          go_roundw
          case rel => exact ⟨k + 1, by omega, by go_num, HR4.out _, hbel4.alloc hbel4.size _⟩
          case measure => simp [intOf]; omega
        · have HC1 : Hid (collect bk N s tick (k + 1) = collect bk N s tick k ++ [r]) := by unfold Hid; rw [HC.out, HRO.out]; simp
          obtain ⟨W5, hW5⟩ : ∃ W5, w4.alloc (.cells #[.int .i64 r.trip, .int .i64 r.to, .int .i64 r.due, .int .i64 r.expect, .int .i64 r.track, .int .i64 r.state] 52) = W5 := ⟨_, rfl⟩
          have hb5 : Below w4.heap.size w4 W5 := by subst hW5; exact bx_below _ _
          have hbel5 : Below w2.heap.size w2 W5 := hbel4.trans (hb5.mono hbel4.size)
          have hrow5 := owns_below hrow4 hb5 (owns_lt hrow4)
          obtain ⟨⟨v0, v1, v2, v3, v4, v5⟩, _⟩ := six_cells (show W5.heap[w4.heap.size]? = some (.cells #[.int .i64 r.trip, .int .i64 r.to, .int .i64 r.due, .int .i64 r.expect, .int .i64 r.track, .int .i64 r.state] 52 (0, 0)) from by subst hW5; exact heap_alloc_last w4 _)
          clear hrow3 hrow4
          go_wp2_with (first
            | (at_builtin; refine wpList_append_own_at _ rfl _ _ 33 rfl w2.heap.size 52 ii (.agg #[.int .i64 0, .int .i64 0, .int .i64 0, .int .i64 0, .int .i64 0, .int .i64 0]) 6 48 uRows HJ0.out HI0.out.1 HI0.out.2.1 HI0.out.2.2 rfl (by decide) _ _ _ rfl (hrow5.alloc _) ⟨W5.heap.size, 0, none⟩ 1 1 (sixOf r) rfl rfl (cells_six_at _ r _) ?c2 ?c3 ?c4 ?c5 ?_)
            | fail)
          case c2 => intro u hu; simp only [sixOf, List.mem_cons, List.not_mem_nil, or_false] at hu; rcases hu with rfl | rfl | rfl | rfl | rfl | rfl <;> rfl
          case c3 => unfold maxLen; omega
          case c4 => omega
          case c5 => have := hbel5.size; simp; omega
          intro v' w6 hown' hgrow _ _
          have HR6 : Hid (w6.ownsRow w2.heap.size 52 6 v' (collect bk N s tick (k + 1)).length (sixes (collect bk N s tick (k + 1)))) := by
            unfold Hid; rw [HC1.out, sixes_snoc, List.length_append]
            exact hown'
          have hbel6 : Below w2.heap.size w2 w6 := Below.grown (hbel5.alloc hbel5.size _) hgrow (by have := hbel5.size; simp; omega) fun g hgg => (hrow5.lt g hgg).1
          clear hown' hgrow hrow5
          go_wp2_with fail
          go_roundw
          case rel => exact ⟨k + 1, by omega, by go_num, HR6.out, hbel6⟩
          case measure => simp [intOf]; omega
    · have hk' : k = bk.trips.length := by omega
      subst hk'
      clear e0 e1 p0 p1
      have HA : Hid (wr.ownsRow w2.heap.size 52 6 u12 (collect bk N s tick bk.trips.length).length (sixes (collect bk N s tick bk.trips.length))) := hrow
      have hAl := collect_length bk N s tick bk.trips.length
      obtain ⟨A, hAe⟩ : ∃ A, collect bk N s tick bk.trips.length = A := ⟨_, rfl⟩
      have HAE : Hid (collect bk N s tick bk.trips.length = A) := hAe
      rw [hAe] at HA hAl
      obtain ⟨R, hR⟩ := Int.eq_ofNat_of_zero_le k1
      have HRR : Hid (rows = (R : Int)) := hR
      have HRN : Hid (rows.toNat = R) := by unfold Hid; omega
      have hR40 : R ≤ 40 := by omega
      clear hrow hR hAe
      rename World => W4
      go_wp2_with fail
      go_loopw [17, 12] (fun out all wr => ∃ o a : List RowD, wr.ownsRow w2.heap.size 52 6 out o.length (sixes o) ∧ wr.ownsRow w2.heap.size 52 6 all a.length (sixes a) ∧ (out.ownBlock = none ∨ out.ownBlock ≠ all.ownBlock) ∧ Hid (o ++ pick (R - o.length) a = pick R A) ∧ o.length ≤ R ∧ a.length ≤ 40 ∧ Below w2.heap.size w2 wr) (fun _ all _ => sliceLen all)
      case atStart => exact ⟨[], A, World.ownsRow_nil _ _ _ _, HA.out, Or.inl rfl, by simp [Hid], Nat.zero_le _, by omega, hbel⟩
      case round =>
        obtain ⟨o, a, ho, ha, hap, hpk, hoR, ha40, hbo⟩ := hrel
        have hB : Below w.heap.size w wr := hB2.trans (hbo.mono hB2.size)
        obtain ⟨oa, oc, rfl⟩ := owns_slice ho
        obtain ⟨aa, ac, rfl⟩ := owns_slice ha
        have HO : Hid (wr.ownsRow w2.heap.size 52 6 (.slice oa o.length oc) o.length (sixes o)) := ho
        have HAA : Hid (wr.ownsRow w2.heap.size 52 6 (.slice aa a.length ac) a.length (sixes a)) := ha
        clear ho ha HA
        by_cases h1 : o.length < R
        · have h1' : (o.length : Int) < rows := by rw [HRR.out]; omega
          by_cases h2 : 0 < a.length
          · have h2' : (0 : Int) < (a.length : Int) := by omega
            rename World => W5
            have HRW : Hid (RowsAt W5 aa a) := by
              obtain ⟨x, y, e, h⟩ := rows_at HAA.out
              simp only [Value.slice.injEq] at e
              obtain ⟨rfl, _, _⟩ := e
              exact h
            go_wp2_with fail
            go_loopw [18, 85] (fun best i wi => ∃ k : Nat, k ≤ a.length ∧ i = .int .i64 k ∧ best = .int .i64 ((bestTo a k : Nat) : Int) ∧ Below W5.heap.size W5 wi) (fun _ i _ => a.length - (intOf i).toNat)
            case atStart => exact ⟨0, Nat.zero_le _, rfl, rfl, Below.refl _ _⟩
            case round =>
              obtain ⟨k, hk, rfl, rfl, hbi⟩ := hrel
              by_cases hlt : k < a.length
              · have hbl := bestTo_lt a k h2 hk
                obtain ⟨b, o', rfl, c0, c1, c2, c3, c4, c5⟩ := HRW.out.keep hbi k hlt
                obtain ⟨b', o'', e', d0, d1, d2, d3, d4, d5⟩ := HRW.out.keep hbi (bestTo a k) hbl
                simp only [Option.some.injEq, Addr.mk.injEq] at e'
                obtain ⟨rfl, rfl, _⟩ := e'
                have hbs := bestTo_succ a k hlt hbl
                have i1 : (k : Int) < (a.length : Int) := by omega
                have i0 : (0 : Int) ≤ (k : Int) := by omega
                have i3 : ((bestTo a k : Nat) : Int) < (a.length : Int) := by omega
                have i2 : (0 : Int) ≤ ((bestTo a k : Nat) : Int) := by omega
                generalize hx : a[k] = x at *
                generalize hy : a[bestTo a k] = y at *
                have HBS : Hid (bestTo a (k + 1) = if lessD x y then k else bestTo a k) := hbs
                generalize bestTo a k = q at *
                clear hbs hx hy
                cases hless : lessD x y
                · have HB1 : Hid (bestTo a (k + 1) = q) := by unfold Hid; rw [HBS.out, hless]; rfl
                  go_wp2_with fail
                  go_region_with (go_at_call 37; refine (l3less_any x y _).mono ?_; rintro e w9 ⟨rfl, hb9⟩; rw [hless])
                  all_goals
                    have hb10 : Below W5.heap.size W5 w9 := hbi.drew.trans (by exact hb9.mono hbi.size)
                    clear c0 c1 c2 c3 c4 c5 d0 d1 d2 d3 d4 d5
                    go_wp2_with fail
                    go_roundw
                    case rel => exact ⟨k + 1, by omega, by go_num, by rw [HB1.out], hb10⟩
                    case measure => simp [intOf]; omega
                · have HB1 : Hid (bestTo a (k + 1) = k) := by unfold Hid; rw [HBS.out, hless]; rfl
                  go_wp2_with fail
                  go_region_with (go_at_call 37; refine (l3less_any x y _).mono ?_; rintro e w9 ⟨rfl, hb9⟩; rw [hless])
                  all_goals
                    have hb10 : Below W5.heap.size W5 w9 := hbi.drew.trans (by exact hb9.mono hbi.size)
                    clear c0 c1 c2 c3 c4 c5 d0 d1 d2 d3 d4 d5
                    go_wp2_with fail
                    go_roundw
                    case rel => exact ⟨k + 1, by omega, by go_num, by rw [HB1.out], hb10⟩
                    case measure => simp [intOf]; omega
              · have hk' : k = a.length := by omega
                subst hk'
                have hq := bestTo_lt a a.length h2 (Nat.le_refl _)
                have HEL : Hid ((a.eraseIdx (bestTo a a.length)).length = a.length - 1) := by unfold Hid; rw [List.length_eraseIdx, if_pos hq]
                have HPK : Hid ((o ++ [a[bestTo a a.length]]) ++ pick (R - (o ++ [a[bestTo a a.length]]).length) (a.eraseIdx (bestTo a a.length)) = pick R A) := by
                  unfold Hid
                  rw [← hpk.out]
                  obtain ⟨m, hm'⟩ : ∃ m, R - o.length = m + 1 := ⟨R - o.length - 1, by omega⟩
                  have e : R - (o ++ [a[bestTo a a.length]]).length = m := by simp; omega
                  rw [e, hm', pick_cons m a hq]
                  simp [bestOf]
                have HER : Hid (∀ (w : World) (B g cap : Nat), w.ownsRow B 52 6 (.slice (some ⟨g, 0, none⟩) a.length cap) a.length (sixes a) → (w.setCells g (bestTo a a.length * 6) (sixes (a.drop (bestTo a a.length + 1)))).ownsRow B 52 6 (.slice (some ⟨g, 0, none⟩) (a.eraseIdx (bestTo a a.length)).length cap) (a.eraseIdx (bestTo a a.length)).length (sixes (a.eraseIdx (bestTo a a.length)))) := fun w B g cap h => owns_erase h _ hq
                obtain ⟨g, rfl⟩ : ∃ g, aa = some ⟨g, 0, none⟩ := by
                  rcases HAA.out.2 with ⟨_, e0⟩ | ⟨g, cap, cur, e, _⟩
                  · omega
                  · simp only [Value.slice.injEq] at e
                    exact ⟨g, e.1⟩
                have hcap : a.length ≤ ac := by
                  rcases HAA.out.2 with ⟨_, e0⟩ | ⟨g', cap, cur, e, _, _, hle, _⟩
                  · omega
                  · simp only [Value.slice.injEq] at e
                    rw [e.2.2]; exact hle
                have hcapm : ac ≤ 9223372036854775807 := by
                  rcases HAA.out.2 with ⟨_, e0⟩ | ⟨g', cap, cur, e, _, _, _, hle, _⟩
                  · omega
                  · simp only [Value.slice.injEq] at e
                    rw [e.2.2]; unfold maxLen at hle; omega
                obtain ⟨b, o', e', c0, c1, c2, c3, c4, c5⟩ := HRW.out.keep hbi (bestTo a a.length) hq
                simp only [Option.some.injEq, Addr.mk.injEq, and_true] at e'
                obtain ⟨rfl, rfl⟩ := e'
                simp only [Nat.zero_add] at c0 c1 c2 c3 c4 c5
                have HO1 := owns_below HO.out hbi (owns_lt HO.out)
                have HA1 := owns_below HAA.out hbi (owns_lt HAA.out)
                have hgl := (HA1.lt g rfl)
                have hbw : Below w2.heap.size w2 wr := hbo.trans (hbi.mono hbo.size)
                generalize a[bestTo a a.length] = r at *
                generalize bestTo a a.length = q at *
                have i3 : (q : Int) < (a.length : Int) := by omega
                have i2 : (0 : Int) ≤ (q : Int) := by omega
                clear HRW hpk
                go_wp2_with (first
                  | (at_builtin; refine wpList_append_own_at _ rfl _ _ 33 rfl w2.heap.size 52 ii (.agg #[.int .i64 0, .int .i64 0, .int .i64 0, .int .i64 0, .int .i64 0, .int .i64 0]) 6 48 uRows HJ0.out HI0.out.1 HI0.out.2.1 HI0.out.2.2 rfl (by decide) _ _ _ rfl (HO1.alloc _) ⟨wr.heap.size, 0, none⟩ 1 1 (sixOf r) rfl rfl (cells_six_at _ r _) ?c2 ?c3 ?c4 ?c5 ?_)
                  | fail)
                case c2 => intro u hu; simp only [sixOf, List.mem_cons, List.not_mem_nil, or_false] at hu; rcases hu with rfl | rfl | rfl | rfl | rfl | rfl <;> rfl
                case c3 => unfold maxLen; omega
                case c4 => omega
                case c5 => have := hbw.size; simp; omega
                intro v' w6 hown' hgrow _ hloc
                have HO6 : Hid (w6.ownsRow w2.heap.size 52 6 v' (o ++ [r]).length (sixes (o ++ [r]))) := by
                  unfold Hid; rw [sixes_snoc, List.length_append]; exact hown'
                have HA6 : w6.ownsRow w2.heap.size 52 6 (.slice (some ⟨g, 0, none⟩) a.length ac) a.length (sixes a) := (HA1.alloc _).kept hgrow (by
                  rcases hap with h | h
                  · exact Or.inr (by rw [h]; simp [Value.ownBlock])
                  · exact Or.inr (Ne.symm h))
                have hbel6 : Below w2.heap.size w2 w6 := Below.grown (hbw.alloc hbw.size _) hgrow (by have := hbw.size; simp; omega) fun x hx => (HO1.lt x hx).1
                have HAP : Hid (v'.ownBlock ≠ some g) := by
                  rcases hloc with h | h
                  · unfold Hid; rw [h]
                    rcases hap with h' | h'
                    · rw [h']; simp
                    · simpa [Value.ownBlock] using h'
                  · unfold Hid; rw [h]; simp; omega
                have HA6' : Hid (w6.ownsRow w2.heap.size 52 6 (.slice (some ⟨g, 0, none⟩) a.length ac) a.length (sixes a)) := HA6
                obtain ⟨D, hD, hnews⟩ : ∃ D : Addr, (if ac = q + 1 then some (⟨g, 0, none⟩ : Addr) else some ⟨g, (q + 1) * 6, none⟩) = some D ∧ Hid (∀ j u, (sixes (a.drop (q + 1)))[j]? = some u → w6.drew.cell? (D.add j) = some u) := by
                  by_cases h : ac = q + 1
                  · refine ⟨⟨g, 0, none⟩, by simp [h], fun j u hu => ?_⟩
                    have : a.drop (q + 1) = [] := List.drop_eq_nil_iff.2 (by omega)
                    rw [this] at hu
                    simp [sixes] at hu
                  · refine ⟨⟨g, (q + 1) * 6, none⟩, by simp [h], fun j u hu => ?_⟩
                    have hadd : (⟨g, (q + 1) * 6, none⟩ : Addr).add j = ⟨g, (q + 1) * 6 + j, none⟩ := by unfold Addr.add; split <;> simp_all
                    have hjl : j < (sixes (a.drop (q + 1))).length := (List.getElem?_eq_some_iff.1 hu).1
                    have hsp : sixes a = sixes (a.take (q + 1)) ++ sixes (a.drop (q + 1)) := by rw [← sixes_append, List.take_append_drop]
                    have hlt1 : (sixes (a.take (q + 1))).length = (q + 1) * 6 := by rw [sixes_length, List.length_take]; congr 1; omega
                    rw [hadd]
                    show w6.cell? ⟨g, (q + 1) * 6 + j, none⟩ = some u
                    rw [HA6'.out.cellAt _ (by rw [sixes_length, List.length_drop] at hjl; omega), hsp, List.getElem?_append_right (by omega), hlt1]
                    have : (q + 1) * 6 + j - (q + 1) * 6 = j := by omega
                    rw [this]; exact hu
                have s1 : Hid ((sixes (a.drop (q + 1))).length = (a.length - (q + 1)) * 6) := by unfold Hid; rw [sixes_length, List.length_drop]
                have s2 : Hid (∀ u ∈ sixes (a.drop (q + 1)), u.oneCell' = true) := sixes_one _
                have s3 : Hid (∀ j, j < (sixes (a.drop (q + 1))).length → (w6.drew.cell? ⟨g, 0 + q * 6 + j, none⟩).isSome = true ∧ w6.drew.frozen? ⟨g, 0 + q * 6 + j, none⟩ = false) := fun j hj => by
                  rw [s1.out] at hj
                  have e : 0 + q * 6 + j = q * 6 + j := by omega
                  rw [e]
                  refine ⟨?_, HA6'.out.frozenAt _⟩
                  show (w6.cell? ⟨g, q * 6 + j, none⟩).isSome = true
                  rw [HA6'.out.cellAt _ (by omega), List.getElem?_eq_getElem (by rw [sixes_length]; omega)]
                  rfl
                have hwr : IntKind.i64.wrap ((q : Int) + 1) = (q : Int) + 1 := by rw [IntKind.wrap_i64]; omega
                have hp0 : (0 : Int) ≤ (q : Int) + 1 := by omega
                have hp1 : (q : Int) + 1 ≤ (a.length : Int) := by omega
                have hp2 : ((q : Int) + 1).toNat = q + 1 := by omega
                have hic : q ≤ ac := by omega
                have HFIN : Hid ((w6.drew.setCells g (q * 6) (sixes (a.drop (q + 1)))).ownsRow w2.heap.size 52 6 (.slice (some ⟨g, 0, none⟩) (a.eraseIdx q).length ac) (a.eraseIdx q).length (sixes (a.eraseIdx q))) := HER.out w6.drew _ _ _ HA6
                clear hown' hgrow hloc HA6 HA1 HO1 c0 c1 c2 c3 c4 c5 HER
                go_wp2_with fail
                go_region_law (refine step_append_room rfl (.tmp 108) (.tmp 112) 33 rfl 52 ii 6 uRows HJ0.out HI0.out.2.1 g 0 q ac (by simp [Act.eval, Act.put]) D (a.length - (q + 1)) (ac - (q + 1)) (sixes (a.drop (q + 1))) (by simp [Act.eval, Act.put]) s1.out hnews.out s2.out (by omega) s3.out ?_)
                have HE2 : Hid (q + (a.length - (q + 1)) = (a.eraseIdx q).length) := by unfold Hid; rw [HEL.out]; omega
                have hb7 : Below 0 w6 (w6.drew.setCells g (q * 6) (sixes (a.drop (q + 1)))) := setCells_below g (Nat.zero_le _) _ _ _ ((Below.refl 0 w6).drew)
                have HG7 : Hid (w6.grownBy (w6.drew.setCells g (q * 6) (sixes (a.drop (q + 1)))) (some g)) := ⟨hb7.os, hb7.tape, hb7.output, hb7.size, fun k hk hne => setCells_other g _ _ k _ (fun e => hne (by rw [e]))⟩
                have HB7 : Hid (Below w2.heap.size w2 (w6.drew.setCells g (q * 6) (sixes (a.drop (q + 1))))) := setCells_below g hgl.1 _ _ _ hbel6.drew
                simp [Act.put]
                go_wp2_with fail
                go_roundw
                case rel =>
                  rw [HE2.out]
                  refine ⟨o ++ [r], a.eraseIdx q, HO6.out.kept HG7.out (Or.inr HAP.out), HFIN.out, Or.inr HAP.out, HPK, by simp; omega, by rw [HEL.out]; omega, HB7.out⟩
                case measure => simp [sliceLen]; omega
          · have h2' : ¬ ((0 : Int) < (a.length : Int)) := by omega
            have h2d : decide ((0 : Int) < (a.length : Int)) = false := decide_eq_false h2'
            have h2n : decide (0 < a.length) = false := decide_eq_false h2
            have HF : Hid (o = pick R A) := by
              have e : a = [] := List.length_eq_zero_iff.1 (by omega)
              have := hpk.out
              rw [e, pick_nil, List.append_nil] at this
              exact this
            have HF2 : Hid (pick rows.toNat (collect bk N s tick bk.trips.length) = o) := by unfold Hid; rw [HAE.out, HRN.out, ← HF.out]
            go_wp2_with fail
            go_ret
            refine ⟨_, rfl, ?_, hB⟩
            rw [HF2.out]
            exact owns_mono HO.out hB2.size
        · have h1' : decide ((o.length : Int) < rows) = false := decide_eq_false (by rw [HRR.out]; omega)
          have HF : Hid (o = pick R A) := by
            have e : R - o.length = 0 := by omega
            have := hpk.out
            rw [e, pick, List.append_nil] at this
            exact this
          have HF2 : Hid (pick rows.toNat (collect bk N s tick bk.trips.length) = o) := by unfold Hid; rw [HAE.out, HRN.out, ← HF.out]
          go_wp2_with fail
          go_ret
          refine ⟨_, rfl, ?_, hB⟩
          rw [HF2.out]
          exact owns_mono HO.out hB2.size

end Go.Proofs.YtjioingdpfgadaaGreatDoor
