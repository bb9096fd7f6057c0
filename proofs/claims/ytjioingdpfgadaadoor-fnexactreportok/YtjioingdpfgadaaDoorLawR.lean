import Derived.Test.YtjioingdpfgadaaDoorProg
import Derived.Test.YtjioingdpfgadaaDoorSpecR
import Derived.Test.YtjioingdpfgadaaDoorRepF
import Derived.Test.YtjioingdpfgadaaDoorTo
import Derived.Test.YtjioingdpfgadaaDoorEq
import Derived.Deep.Cut
import Derived.Deep.DeepCutAuto
namespace Go.Proofs.YtjioingdpfgadaaDoor
open Go Go.RowKit Go.Deep

set_option maxRecDepth 100000 in
set_option maxHeartbeats 4000000 in
theorem lawReportOk_by (v : Value) (bk : BookD) (r : RepD) (w : World) (hl : BookLens bk) (hat : BookAt w v bk)
    (himpl : bookSize bk ≤ 1048576 → ∀ w1, Below w.heap.size w w1 → ∀ v, BookAt w1 v bk → Calls Tryd.prog 29 #[v, repV r] w1 fun e w2 => e = .returned (.bool (reportB bk r)) ∧ Below w1.heap.size w1 w2) :
    Calls Tryd.prog 10 #[v, repV r] w fun e w' => e = .returned (.bool true) ∧ Below w.heap.size w w' := by
  have hat0 := hat
  obtain ⟨sa, sc, ta, tc, rfl, hsa, hta⟩ := hat
  clear hsa hta
  have HAT : Hid (BookAt w (.agg #[.slice sa bk.sts.length sc, .slice ta bk.trips.length tc]) bk) := hat0
  clear hat0
  obtain ⟨W0, hW0⟩ : ∃ W0, (w.alloc (.cells #[.slice sa bk.sts.length sc, .slice ta bk.trips.length tc] 65)).alloc (.cells #[.int .i64 r.tick, .int .i64 r.op, .int .i64 r.trip, .int .i64 r.call, .int .i64 r.n] 72) = W0 := ⟨_, rfl⟩
  have hb0 : Below w.heap.size w W0 := by subst hW0; exact ((Below.refl _ _).alloc (Nat.le_refl _) _).alloc (by simp) _
  have hz0 : W0.heap.size = w.heap.size + 1 + 1 := by subst hW0; simp
  have a0 : W0.cell? ⟨w.heap.size, 0, none⟩ = some (.slice sa bk.sts.length sc) := by subst hW0; simp [go_sem]
  have a1 : W0.cell? ⟨w.heap.size, 1, none⟩ = some (.slice ta bk.trips.length tc) := by subst hW0; simp [go_sem]
  have d0 : W0.cell? ⟨w.heap.size + 1, 0, none⟩ = some (.int .i64 r.tick) := by subst hW0; simp [go_sem]
  have d1 : W0.cell? ⟨w.heap.size + 1, 1, none⟩ = some (.int .i64 r.op) := by subst hW0; simp [go_sem]
  have d2 : W0.cell? ⟨w.heap.size + 1, 2, none⟩ = some (.int .i64 r.trip) := by subst hW0; simp [go_sem]
  have d3 : W0.cell? ⟨w.heap.size + 1, 3, none⟩ = some (.int .i64 r.call) := by subst hW0; simp [go_sem]
  have d4 : W0.cell? ⟨w.heap.size + 1, 4, none⟩ = some (.int .i64 r.n) := by subst hW0; simp [go_sem]
  have H1 : Hid (repV r = .agg #[.int .i64 r.tick, .int .i64 r.op, .int .i64 r.trip, .int .i64 r.call, .int .i64 r.n]) := rfl
  by_cases hfit : (bookSize bk : Int) ≤ 1048576
  · have hn : bookSize bk ≤ 1048576 := by omega
    have HIM : Hid (∀ w1, Below w.heap.size w w1 → ∀ v, BookAt w1 v bk → Calls Tryd.prog 29 #[v, repV r] w1 fun e w2 => e = .returned (.bool (reportB bk r)) ∧ Below w1.heap.size w1 w2) := himpl hn
    clear himpl
    rw [H1.out]
    go_enter Tryd.func10, Tryd.ntmps10
    go_wp2_with fail
    refine (szBook_any _ bk _ _ (by omega) (by omega) hl (by exact HAT.out.keep hb0)).mono ?_
    rintro e w1 ⟨rfl, hb1⟩
    rw [rest_yes hfit]
    have hB1 : Below w.heap.size w w1 := hb0.trans (hb1.mono hb0.size)
    have hlt0 : ¬ ((1048576 : Int) - bookSize bk < 0) := by omega
    have b0 := cell_keep hb1 a0
    have b1 := cell_keep hb1 a1
    have c0 := cell_keep hb1 d0
    have c1 := cell_keep hb1 d1
    have c2 := cell_keep hb1 d2
    have c3 := cell_keep hb1 d3
    have c4 := cell_keep hb1 d4
    have HA1 : Hid (BookAt w1 (.agg #[.slice sa bk.sts.length sc, .slice ta bk.trips.length tc]) bk) := HAT.out.keep hB1
    clear a0 a1 d0 d1 d2 d3 d4 hW0
    go_upto_region 5 with fail
    go_cut [6] (fun s wx => s = .bool (reportB bk r) ∧ Below w1.heap.size w1 wx)
    case first =>
      go_region_with (first
        | (go_at_call 31; refine (toBook_any _ bk _ hn (by exact HA1.out)).mono ?_; rintro e w2 ⟨v2, rfl, hat2, hb2⟩; have e0 := cell_keep hb2 (by exact c0); have e1 := cell_keep hb2 (by exact c1); have e2 := cell_keep hb2 (by exact c2); have e3 := cell_keep hb2 (by exact c3); have e4 := cell_keep hb2 (by exact c4); have HA2 : Hid (BookAt w2 v2 bk) := hat2; clear hat2)
        | (go_at_call 35; refine (toReport_any r _).mono ?_; rintro e w3 ⟨rfl, hb3⟩)
        | (go_at_call 34; refine (specReportOk_any _ bk r _ hn (by exact HA2.out.keep hb3)).mono ?_; rintro e w4 ⟨rfl, hb4⟩))
      all_goals
        have B2 : Below w1.heap.size w1 w2 := (Below.refl _ _).drew.trans (by exact hb2)
        have B3 := B2.trans (hb3.mono B2.size)
        have B4 := B3.trans (hb4.mono B3.size)
        go_wp2_with fail
        go_meet
        exact ⟨rfl, B4⟩
    case rest =>
      obtain ⟨rfl, C4⟩ := hcut
      clear hb1 hlt0
      rename World => w4
      have hB4 : Below w.heap.size w w4 := hB1.trans (C4.mono hB1.size)
      have q0 := cell_keep C4 b0
      have q1 := cell_keep C4 b1
      have x0 := cell_keep C4 c0
      have x1 := cell_keep C4 c1
      have x2 := cell_keep C4 c2
      have x3 := cell_keep C4 c3
      have x4 := cell_keep C4 c4
      clear b0 b1 c0 c1 c2 c3 c4 HA1 C4
      go_wp2_with fail
      refine (toBook_any _ bk _ hn (by exact HAT.out.keep hB4)).mono ?_
      rintro e w5 ⟨v5, rfl, hat5, hb5⟩
      have hB5 : Below w.heap.size w w5 := hB4.trans (hb5.mono hB4.size)
      have HA5 : Hid (BookAt w5 v5 bk) := hat5
      obtain ⟨sa5, sc5, ta5, tc5, rfl, _, _⟩ := hat5
      obtain ⟨W5, hW5⟩ : ∃ W5, w5.alloc (.cells #[.slice sa5 bk.sts.length sc5, .slice ta5 bk.trips.length tc5] 26) = W5 := ⟨_, rfl⟩
      have hb5' : Below w5.heap.size w5 W5 := by subst hW5; exact bx_below _ _
      have hB5' : Below w.heap.size w W5 := hB5.trans (hb5'.mono hB5.size)
      have k0 : W5.cell? ⟨w5.heap.size, 0, none⟩ = some (.slice sa5 bk.sts.length sc5) := by subst hW5; simp [go_sem]
      have k1 : W5.cell? ⟨w5.heap.size, 1, none⟩ = some (.slice ta5 bk.trips.length tc5) := by subst hW5; simp [go_sem]
      have C5 : Below w4.heap.size w4 W5 := hb5.trans (hb5'.mono hb5.size)
      have p0 := cell_keep C5 q0
      have p1 := cell_keep C5 q1
      have y0 := cell_keep C5 x0
      have y1 := cell_keep C5 x1
      have y2 := cell_keep C5 x2
      have y3 := cell_keep C5 x3
      have y4 := cell_keep C5 x4
      have HA5' : Hid (BookAt W5 (.agg #[.slice sa5 bk.sts.length sc5, .slice ta5 bk.trips.length tc5]) bk) := HA5.out.keep hb5'
      clear q0 q1 x0 x1 x2 x3 x4 HA5
      go_upto_region 7 with fail
      go_cut [8] (fun s wx => s = .bool (reportB bk r) ∧ Below W5.heap.size W5 wx)
      case first =>
        go_region_with (first
          | (go_at_call 35; refine (toReport_any r _).mono ?_; rintro e w6 ⟨rfl, hb6⟩; have f0 := cell_keep hb6 (by exact k0); have f1 := cell_keep hb6 (by exact k1))
          | (go_at_call 29; refine (HIM.out _ (hB5'.drew.trans (by exact hb6.mono hB5'.size)) _ (by exact BookAt.keep (by exact HA5'.out) hb6)).mono ?_; rintro e w7 ⟨rfl, hb7⟩))
        all_goals
          have B6 : Below W5.heap.size W5 w6 := (Below.refl _ _).drew.trans (by exact hb6)
          have B7 := B6.trans (hb7.mono B6.size)
          go_wp2_with fail
          go_meet
          exact ⟨rfl, B7⟩
      case rest =>
        obtain ⟨rfl, C7⟩ := hcut
        rename World => w7
        have hB7 : Below w.heap.size w w7 := hB5'.trans (C7.mono hB5'.size)
        have q0 := cell_keep C7 p0
        have q1 := cell_keep C7 p1
        have u0 := cell_keep C7 k0
        have u1 := cell_keep C7 k1
        have HA7 : Hid (BookAt w7 (.agg #[.slice sa bk.sts.length sc, .slice ta bk.trips.length tc]) bk) := HAT.out.keep hB7
        have HX7 : Hid (BookAt w7 (.agg #[.slice sa5 bk.sts.length sc5, .slice ta5 bk.trips.length tc5]) bk) := HA5'.out.keep C7
        clear p0 p1 k0 k1 y0 y1 y2 y3 y4 C7 C5 hW5 HA5'
        go_wp2_with fail
        go_region_with (first | (go_at_call 31; refine (toBook_any _ bk _ hn (by exact HA7.out)).mono ?_; rintro e w8 ⟨v8, rfl, hat8, hb8⟩; have f0 := cell_keep hb8 (by exact u0); have f1 := cell_keep hb8 (by exact u1); have H8 : Hid (BookAt w8 v8 bk) := hat8; have HX8 : Hid (BookAt w8 (.agg #[.slice sa5 bk.sts.length sc5, .slice ta5 bk.trips.length tc5]) bk) := BookAt.keep (by exact HX7.out) hb8; clear hat8) | (go_at_call 33; refine (eqBook_same _ _ bk _ hn (by exact HX8.out) (by exact H8.out)).mono ?_; rintro e w9 ⟨rfl, hb9⟩))
        all_goals
          go_wp2
          go_ret
          refine ⟨rfl, ?_⟩
          have hB8 : Below w.heap.size w w8 := hB7.drew.trans (by exact hb8.mono hB7.size)
          exact hB8.trans (hb9.mono hB8.size)
  · rw [H1.out]
    go_enter Tryd.func10, Tryd.ntmps10
    go_wp2_with fail
    refine (szBook_any _ bk _ _ (by omega) (by omega) hl (by exact HAT.out.keep hb0)).mono ?_
    rintro e w1 ⟨rfl, hb1⟩
    rw [rest_no (by omega)]
    go_wp2_with fail
    go_ret
    exact ⟨rfl, hb0.trans (hb1.mono hb0.size)⟩

end Go.Proofs.YtjioingdpfgadaaDoor
