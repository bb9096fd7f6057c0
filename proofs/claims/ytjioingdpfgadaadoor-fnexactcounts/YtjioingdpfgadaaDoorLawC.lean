import Derived.Test.YtjioingdpfgadaaDoorProg
import Derived.Test.YtjioingdpfgadaaDoorSpecR
import Derived.Test.YtjioingdpfgadaaDoorRepF
import Derived.Test.YtjioingdpfgadaaDoorSpecS
import Derived.Test.YtjioingdpfgadaaDoorNewsF
import Derived.Test.YtjioingdpfgadaaDoorNewsE
import Derived.Test.YtjioingdpfgadaaDoorTo
import Derived.Test.YtjioingdpfgadaaDoorEq
import Derived.Deep.Cut
import Derived.Deep.DeepCutAuto
namespace Go.Proofs.YtjioingdpfgadaaDoor
open Go Go.RowKit Go.Deep

set_option maxRecDepth 100000 in
set_option maxHeartbeats 4000000 in
theorem lawCounts_by (v : Value) (bk : BookD) (na : Option Addr) (nc : Nat) (nss : List (List NewsD)) (r : RepD) (w : World) (hl : BookLens bk) (hnl : nss.length ≤ maxLen) (hns : ∀ i (h : i < nss.length), nss[i].length ≤ maxLen) (hat : BookAt w v bk) (hna : NewsSSAt w na nss)
    (himpl : bookSize bk ≤ 1048576 → newsSize nss ≤ 1048576 → ∀ w1, Below w.heap.size w w1 → ∀ v na nc, BookAt w1 v bk → NewsSSAt w1 na nss → Calls Tryd.prog 39 #[v, .slice na nss.length nc, repV r] w1 fun e w2 => e = .returned (.bool (countsB bk nss r)) ∧ Below w1.heap.size w1 w2) :
    Calls Tryd.prog 11 #[v, .slice na nss.length nc, repV r] w fun e w' => e = .returned (.bool true) ∧ Below w.heap.size w w' := by
  have hat0 := hat
  obtain ⟨sa, sc, ta, tc, rfl, hsa, hta⟩ := hat
  clear hsa hta
  have HAT : Hid (BookAt w (.agg #[.slice sa bk.sts.length sc, .slice ta bk.trips.length tc]) bk) := hat0
  have HNA : Hid (NewsSSAt w na nss) := hna
  clear hat0 hna
  obtain ⟨W0, hW0⟩ : ∃ W0, (w.alloc (.cells #[.slice sa bk.sts.length sc, .slice ta bk.trips.length tc] 65)).alloc (.cells #[.int .i64 r.tick, .int .i64 r.op, .int .i64 r.trip, .int .i64 r.call, .int .i64 r.n] 72) = W0 := ⟨_, rfl⟩
  have hb0 : Below w.heap.size w W0 := by subst hW0; exact ((Below.refl _ _).alloc (Nat.le_refl _) _).alloc (by simp) _
  have a0 : W0.cell? ⟨w.heap.size, 0, none⟩ = some (.slice sa bk.sts.length sc) := by subst hW0; simp [go_sem]
  have a1 : W0.cell? ⟨w.heap.size, 1, none⟩ = some (.slice ta bk.trips.length tc) := by subst hW0; simp [go_sem]
  have d0 : W0.cell? ⟨w.heap.size + 1, 0, none⟩ = some (.int .i64 r.tick) := by subst hW0; simp [go_sem]
  have d1 : W0.cell? ⟨w.heap.size + 1, 1, none⟩ = some (.int .i64 r.op) := by subst hW0; simp [go_sem]
  have d2 : W0.cell? ⟨w.heap.size + 1, 2, none⟩ = some (.int .i64 r.trip) := by subst hW0; simp [go_sem]
  have d3 : W0.cell? ⟨w.heap.size + 1, 3, none⟩ = some (.int .i64 r.call) := by subst hW0; simp [go_sem]
  have d4 : W0.cell? ⟨w.heap.size + 1, 4, none⟩ = some (.int .i64 r.n) := by subst hW0; simp [go_sem]
  have H1 : Hid (repV r = .agg #[.int .i64 r.tick, .int .i64 r.op, .int .i64 r.trip, .int .i64 r.call, .int .i64 r.n]) := rfl
  by_cases hfit : (bookSize bk : Int) ≤ 1048576
  · have hn : bookSize bk ≤ 1048576 := by omega
    by_cases hfit2 : (newsSize nss : Int) ≤ 1048576 - bookSize bk
    · have hm : newsSize nss ≤ 1048576 := by omega
      have hm2 : nss.length ≤ 1048576 := by unfold newsSize at hm; omega
      have HM3 : Hid (∀ i (h : i < nss.length), nss[i].length ≤ 1048576) := fun i h => by
        have := sumLens_get _ i h
        unfold newsSize at hm; omega
      have HIM : Hid (∀ w1, Below w.heap.size w w1 → ∀ v na nc, BookAt w1 v bk → NewsSSAt w1 na nss → Calls Tryd.prog 39 #[v, .slice na nss.length nc, repV r] w1 fun e w2 => e = .returned (.bool (countsB bk nss r)) ∧ Below w1.heap.size w1 w2) := himpl hn hm
      clear himpl
      rw [H1.out]
      go_enter Tryd.func11, Tryd.ntmps11
      go_wp2_with fail
      refine (szBook_any _ bk _ _ (by omega) (by omega) hl (by exact HAT.out.keep hb0)).mono ?_
      rintro e w1 ⟨rfl, hb1⟩
      rw [rest_yes hfit]
      have hB1 : Below w.heap.size w w1 := hb0.trans (hb1.mono hb0.size)
      have hlt0 : ¬ ((1048576 : Int) - bookSize bk < 0) := by omega
      have b0 := cell_keep hb1 a0
      have b1 := cell_keep hb1 a1
      have c0 := cell_keep hb1 d0
      have c1 := cell_keep hb1 d1
      have c2 := cell_keep hb1 d2
      have c3 := cell_keep hb1 d3
      have c4 := cell_keep hb1 d4
      have HA1 : Hid (BookAt w1 (.agg #[.slice sa bk.sts.length sc, .slice ta bk.trips.length tc]) bk) := HAT.out.keep hB1
      have HN1 : Hid (NewsSSAt w1 na nss) := HNA.out.keep hB1
      clear a0 a1 d0 d1 d2 d3 d4 hW0
      go_wp2_with fail
      refine (szNewsSS_any _ nss _ _ _ (by omega) (by omega) hnl hns (by exact HN1.out)).mono ?_
      rintro e w1' ⟨rfl, rfl⟩
      rw [rest_yes hfit2]
      have hlt1 : ¬ ((1048576 : Int) - bookSize bk - newsSize nss < 0) := by omega
      rename World => w1
      go_upto_region 8 with fail
      go_cut [8] (fun s wx => s = .bool (countsB bk nss r) ∧ Below w1.heap.size w1 wx)
      case first =>
        go_region_with (first
          | (go_at_call 31; refine (toBook_any _ bk _ hn (by exact HA1.out)).mono ?_; rintro e w2 ⟨v2, rfl, hat2, hb2⟩; have e0 := cell_keep hb2 (by exact c0); have e1 := cell_keep hb2 (by exact c1); have e2 := cell_keep hb2 (by exact c2); have e3 := cell_keep hb2 (by exact c3); have e4 := cell_keep hb2 (by exact c4); have HA2 : Hid (BookAt w2 v2 bk) := hat2; have HN2 : Hid (NewsSSAt w2 na nss) := NewsSSAt.keep (by exact HN1.out) hb2; clear hat2)
          | (go_at_call 38; refine (toNewsSS_any _ nss _ _ hm2 HM3.out (by exact HN2.out)).mono ?_; rintro e w3 ⟨b3, rfl, _, hat3, hb3⟩; have g0 := cell_keep hb3 (by exact e0); have g1 := cell_keep hb3 (by exact e1); have g2 := cell_keep hb3 (by exact e2); have g3 := cell_keep hb3 (by exact e3); have g4 := cell_keep hb3 (by exact e4); have HA3 : Hid (BookAt w3 v2 bk) := HA2.out.keep hb3; have HN3 : Hid (NewsSSAt w3 (some ⟨b3, 0, none⟩) nss) := hat3; clear hat3)
          | (go_at_call 35; refine (toReport_any r _).mono ?_; rintro e w4 ⟨rfl, hb4⟩)
          | (go_at_call 37; refine (specCounts_any _ bk _ _ nss r _ hn hm (by exact HA3.out.keep hb4) (by exact HN3.out.keep hb4)).mono ?_; rintro e w5 ⟨rfl, hb5⟩))
        all_goals
          have B2 : Below w1.heap.size w1 w2 := (Below.refl _ _).drew.trans (by exact hb2)
          have B3 := B2.trans (hb3.mono B2.size)
          have B4 := B3.trans (hb4.mono B3.size)
          have B5 := B4.trans (hb5.mono B4.size)
          go_wp2_with fail
          go_meet
          exact ⟨rfl, B5⟩
      case rest =>
        obtain ⟨rfl, C4⟩ := hcut
        clear hb1 hlt0 hlt1
        rename World => w4
        have hB4 : Below w.heap.size w w4 := hB1.trans (C4.mono hB1.size)
        have q0 := cell_keep C4 b0
        have q1 := cell_keep C4 b1
        have x0 := cell_keep C4 c0
        have x1 := cell_keep C4 c1
        have x2 := cell_keep C4 c2
        have x3 := cell_keep C4 c3
        have x4 := cell_keep C4 c4
        clear b0 b1 c0 c1 c2 c3 c4 HA1 HN1 C4
        go_wp2_with fail
        refine (toBook_any _ bk _ hn (by exact HAT.out.keep hB4)).mono ?_
        rintro e w5 ⟨v5, rfl, hat5, hb5⟩
        have hB5 : Below w.heap.size w w5 := hB4.trans (hb5.mono hB4.size)
        have HA5 : Hid (BookAt w5 v5 bk) := hat5
        obtain ⟨sa5, sc5, ta5, tc5, rfl, _, _⟩ := hat5
        obtain ⟨W5, hW5⟩ : ∃ W5, w5.alloc (.cells #[.slice sa5 bk.sts.length sc5, .slice ta5 bk.trips.length tc5] 26) = W5 := ⟨_, rfl⟩
        have hb5' : Below w5.heap.size w5 W5 := by subst hW5; exact bx_below _ _
        have hB5' : Below w.heap.size w W5 := hB5.trans (hb5'.mono hB5.size)
        have k0 : W5.cell? ⟨w5.heap.size, 0, none⟩ = some (.slice sa5 bk.sts.length sc5) := by subst hW5; simp [go_sem]
        have k1 : W5.cell? ⟨w5.heap.size, 1, none⟩ = some (.slice ta5 bk.trips.length tc5) := by subst hW5; simp [go_sem]
        have C5 : Below w4.heap.size w4 W5 := hb5.trans (hb5'.mono hb5.size)
        have p0 := cell_keep C5 q0
        have p1 := cell_keep C5 q1
        have y0 := cell_keep C5 x0
        have y1 := cell_keep C5 x1
        have y2 := cell_keep C5 x2
        have y3 := cell_keep C5 x3
        have y4 := cell_keep C5 x4
        have HA5' : Hid (BookAt W5 (.agg #[.slice sa5 bk.sts.length sc5, .slice ta5 bk.trips.length tc5]) bk) := HA5.out.keep hb5'
        clear q0 q1 x0 x1 x2 x3 x4 HA5
        go_wp2_with fail
        refine (toNewsSS_any _ nss _ _ hm2 HM3.out (by exact HNA.out.keep hB5')).mono ?_
        rintro e w6 ⟨b6, rfl, _, hat6, hb6⟩
        have hB6 : Below w.heap.size w w6 := hB5'.trans (hb6.mono hB5'.size)
        have HN6 : Hid (NewsSSAt w6 (some ⟨b6, 0, none⟩) nss) := hat6
        have HA6 : Hid (BookAt w6 (.agg #[.slice sa5 bk.sts.length sc5, .slice ta5 bk.trips.length tc5]) bk) := HA5'.out.keep hb6
        have q0 := cell_keep hb6 p0
        have q1 := cell_keep hb6 p1
        have x0 := cell_keep hb6 y0
        have x1 := cell_keep hb6 y1
        have x2 := cell_keep hb6 y2
        have x3 := cell_keep hb6 y3
        have x4 := cell_keep hb6 y4
        have l0 := cell_keep hb6 k0
        have l1 := cell_keep hb6 k1
        clear p0 p1 y0 y1 y2 y3 y4 k0 k1 hat6 HA5' hW5
        go_upto_region 11 with fail
        go_cut [11] (fun s wx => s = .bool (countsB bk nss r) ∧ Below w6.heap.size w6 wx)
        case first =>
          go_region_with (first
            | (go_at_call 35; refine (toReport_any r _).mono ?_; rintro e w7 ⟨rfl, hb7⟩; have f0 := cell_keep hb7 (by exact l0); have f1 := cell_keep hb7 (by exact l1))
            | (go_at_call 39; refine (HIM.out _ (hB6.drew.trans (by exact hb7.mono hB6.size)) _ _ _ (by exact BookAt.keep (by exact HA6.out) hb7) (by exact NewsSSAt.keep (by exact HN6.out) hb7)).mono ?_; rintro e w8 ⟨rfl, hb8⟩))
          all_goals
            have B7 : Below w6.heap.size w6 w7 := (Below.refl _ _).drew.trans (by exact hb7)
            have B8 := B7.trans (hb8.mono B7.size)
            go_wp2_with fail
            go_meet
            exact ⟨rfl, B8⟩
        case rest =>
          obtain ⟨rfl, C7⟩ := hcut
          rename World => w7
          have hB7 : Below w.heap.size w w7 := hB6.trans (C7.mono hB6.size)
          have p0 := cell_keep C7 q0
          have p1 := cell_keep C7 q1
          have u0 := cell_keep C7 l0
          have u1 := cell_keep C7 l1
          have HA7 : Hid (BookAt w7 (.agg #[.slice sa bk.sts.length sc, .slice ta bk.trips.length tc]) bk) := HAT.out.keep hB7
          have HX7 : Hid (BookAt w7 (.agg #[.slice sa5 bk.sts.length sc5, .slice ta5 bk.trips.length tc5]) bk) := HA6.out.keep C7
          have HN7 : Hid (NewsSSAt w7 (some ⟨b6, 0, none⟩) nss) := HN6.out.keep C7
          clear q0 q1 l0 l1 x0 x1 x2 x3 x4 C7 C5 HA6 HN6
          go_wp2_with fail
          go_region_with (first | (go_at_call 31; refine (toBook_any _ bk _ hn (by exact HA7.out)).mono ?_; rintro e w8 ⟨v8, rfl, hat8, hb8⟩; have f0 := cell_keep hb8 (by exact u0); have f1 := cell_keep hb8 (by exact u1); have H8 : Hid (BookAt w8 v8 bk) := hat8; have HX8 : Hid (BookAt w8 (.agg #[.slice sa5 bk.sts.length sc5, .slice ta5 bk.trips.length tc5]) bk) := BookAt.keep (by exact HX7.out) hb8; clear hat8) | (go_at_call 33; refine (eqBook_same _ _ bk _ hn (by exact HX8.out) (by exact H8.out)).mono ?_; rintro e w9 ⟨rfl, hb9⟩))
          all_goals
            have C9 : Below w7.heap.size w7 w9 := ((Below.refl _ _).drew.trans (by exact hb8)).trans (hb9.mono (by have := hb8.size; exact this))
            have hB9 : Below w.heap.size w w9 := hB7.trans (C9.mono hB7.size)
            have HN9 : Hid (NewsSSAt w9 (some ⟨b6, 0, none⟩) nss) := HN7.out.keep C9
            clear f0 f1 H8 HX8 hb8 hb9
            go_wp2_with fail
            refine (toNewsSS_any _ nss _ _ hm2 HM3.out (by exact HNA.out.keep hB9)).mono ?_
            rintro e w10 ⟨b10, rfl, _, hat10, hb10⟩
            have hB10 : Below w.heap.size w w10 := hB9.trans (hb10.mono hB9.size)
            have HN10 : Hid (NewsSSAt w10 (some ⟨b6, 0, none⟩) nss) := HN9.out.keep hb10
            have HM10 : Hid (NewsSSAt w10 (some ⟨b10, 0, none⟩) nss) := hat10
            clear hat10
            go_wp2_with fail
            refine (eqNewsSS_same _ _ nss _ _ _ hm2 HM3.out (by exact HN10.out) (by exact HM10.out)).mono ?_
            rintro e w11 ⟨rfl, hb11⟩
            go_wp2_with fail
            go_ret
            exact ⟨rfl, hB10.trans (hb11.mono hB10.size)⟩
    · rw [H1.out]
      go_enter Tryd.func11, Tryd.ntmps11
      go_wp2_with fail
      refine (szBook_any _ bk _ _ (by omega) (by omega) hl (by exact HAT.out.keep hb0)).mono ?_
      rintro e w1 ⟨rfl, hb1⟩
      rw [rest_yes hfit]
      have hB1 : Below w.heap.size w w1 := hb0.trans (hb1.mono hb0.size)
      have hlt0 : ¬ ((1048576 : Int) - bookSize bk < 0) := by omega
      go_wp2_with fail
      refine (szNewsSS_any _ nss _ _ _ (by omega) (by omega) hnl hns (by exact HNA.out.keep hB1)).mono ?_
      rintro e w1' ⟨rfl, rfl⟩
      rw [rest_no (by omega)]
      go_wp2_with fail
      go_ret
      exact ⟨rfl, hB1⟩
  · rw [H1.out]
    go_enter Tryd.func11, Tryd.ntmps11
    go_wp2_with fail
    refine (szBook_any _ bk _ _ (by omega) (by omega) hl (by exact HAT.out.keep hb0)).mono ?_
    rintro e w1 ⟨rfl, hb1⟩
    rw [rest_no (by omega)]
    go_wp2_with fail
    go_ret
    exact ⟨rfl, hb0.trans (hb1.mono hb0.size)⟩

end Go.Proofs.YtjioingdpfgadaaDoor
