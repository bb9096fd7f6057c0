import Derived.Test.YtjioingdpfgadabGreatDoorProg
import Derived.Test.YtjioingdpfgadabGreatDoorSpecMM
import Derived.Test.YtjioingdpfgadabGreatDoorDecM
import Derived.Test.YtjioingdpfgadabGreatDoorRepFM
import Derived.Test.YtjioingdpfgadabGreatDoorNewsE
import Derived.Test.YtjioingdpfgadabGreatDoorMarkNM
import Derived.Test.YtjioingdpfgadabGreatDoorEq
import Derived.Test.YtjioingdpfgadabGreatDoorSpecAM
import Derived.Test.YtjioingdpfgadabGreatDoorBoardCM
namespace Go.Proofs.YtjioingdpfgadabGreatDoor
open Go Go.RowKit Go.Deep

theorem box_two (w : World) (x y : Value) (t : TypeId) (wr : World) (h : Below (w.heap.size + 1) (w.alloc (.cells #[x, y] t)) wr) :
    wr.cell? ⟨w.heap.size, 0, none⟩ = some x ∧ wr.cell? ⟨w.heap.size, 1, none⟩ = some y := by
  have h0 := h.cell (p := ⟨w.heap.size, 0, none⟩) (Nat.lt_succ_self _)
  have h1 := h.cell (p := ⟨w.heap.size, 1, none⟩) (Nat.lt_succ_self _)
  exact ⟨by rw [h0]; simp [go_sem], by rw [h1]; simp [go_sem]⟩
theorem sumLens_shape {bk : BookD} {nss : List (List NewsD)} (h : ShapeOf bk nss) : newsSize nss ≤ bookSize bk := by
  have hl := h.length
  have key : ∀ (ts : List TripD) (ms : List (List NewsD)), ms.map (·.length) = ts.map (fun t => t.calls.length) → sumLens ms ≤ sumTrips ts := by
    intro ts
    induction ts with
    | nil => intro ms hm; cases ms with
      | nil => simp [sumLens]
      | cons a l => simp at hm
    | cons t ts ih => intro ms hm; cases ms with
      | nil => simp at hm
      | cons a l =>
        simp only [List.map_cons, List.cons.injEq] at hm
        have := ih l hm.2
        simp only [sumLens, sumTrips, tripSize]
        omega
  have := key _ _ h
  unfold newsSize bookSize tripsSize
  omega
theorem knownD_size (bk : BookD) (rs : List RepD) (tick : Int) : newsSize (knownD bk rs tick) ≤ bookSize bk := by
  unfold knownD
  split
  · exact sumLens_shape (shape_to bk tick rs)
  · simp [newsSize, sumLens]
theorem sumMarks_trips (ts : List TripD) : sumMarks (ts.map (·.calls.length)) ≤ ts.length + sumTrips ts * 4 := by
  induction ts with
  | nil => simp [sumMarks]
  | cons t ts ih => simp only [List.map_cons, sumMarks, List.length_cons, sumTrips, tripSize]; omega
theorem Kept.below {L R B : Nat} {a b : World} (h : Kept L R a b) (h1 : B ≤ L) (h2 : B ≤ a.heap.size) : Below B a b := ⟨h.os, h.tape, h.output, h.size, fun k hk => h.block k (by omega) (Or.inl (by omega))⟩
theorem owns_keptOut {L R B : Nat} {w w' : World} {e : TypeId} {s n : Nat} {v : Value} {xs : List Value} (h : w.ownsRow B e s v n xs) (hk : Kept L R w w') (hB : R ≤ B) : w'.ownsRow B e s v n xs := by
  refine ⟨h.1, ?_⟩
  rcases h.2 with h0 | ⟨g, cap, cur, rfl, h1, hh, r⟩
  · exact Or.inl h0
  · have hlt := (h.lt g rfl).2
    exact Or.inr ⟨g, cap, cur, rfl, h1, by rw [hk.block g hlt (Or.inr (by omega))]; exact hh, r⟩
theorem NewsOwnAt.keptOut {L R B : Nat} {w w' : World} {v : Value} {nss : List (List NewsD)} {vs : List Value} (h : NewsOwnAt B w v nss vs) (hk : Kept L R w w') (hB : R ≤ B) : NewsOwnAt B w' v nss vs :=
  ⟨owns_keptOut h.outer hk hB, h.len, fun i h1 h2 => owns_keptOut (h.rows i h1 h2) hk hB, h.apart⟩
theorem NewsOwnAt.ss {B n c : Nat} {w : World} {a : Option Addr} {nss : List (List NewsD)} {vs : List Value} (h : NewsOwnAt B w (.slice a n c) nss vs) : NewsSSAt w a nss := by
  obtain ⟨na, nc, e, h1⟩ := h.at
  simp only [Value.slice.injEq] at e
  obtain ⟨rfl, _, _⟩ := e
  exact h1
theorem BookIn.keep {L R : Nat} {w w' : World} {v : Value} {n : Nat} {ls : List Nat} (h : BookIn L R w v n ls) (hb : Below w.heap.size w w') : BookIn L R w' v n ls := by
  obtain ⟨b, sc, ta, tc, rfl, hL, hR, ⟨f, hrow⟩, ⟨b', g, e, hL', hR', hr, hcs⟩⟩ := h
  refine ⟨b, sc, ta, tc, rfl, hL, hR, ⟨f, hrow.of_block (hb.block _ hrow.lt)⟩, ⟨b', g, e, hL', hR', hr.of_block (hb.block _ hr.lt), fun i hi => ?_⟩⟩
  obtain ⟨ca, cc, e1, h1⟩ := hcs i hi
  exact ⟨ca, cc, e1, h1.shape (Shape.of_below hb)⟩

end Go.Proofs.YtjioingdpfgadabGreatDoor
namespace Go.Proofs.YtjioingdpfgadabGreatDoor
open Go Go.RowKit Go.Deep

/-- Rows in memory of the call's own. -/
def RowsOwn (B : Nat) (w : World) (v : Value) (K : List RowD) : Prop := w.ownsRow B 57 6 v K.length (sixes K)
theorem RowsOwn.below {B : Nat} {w w' : World} {v : Value} {K : List RowD} (h : RowsOwn B w v K) (hb : Below w.heap.size w w') : RowsOwn B w' v K := owns_below h hb (owns_lt h)
theorem RowsOwn.keptOut {L R B : Nat} {w w' : World} {v : Value} {K : List RowD} (h : RowsOwn B w v K) (hk : Kept L R w w') (hB : R ≤ B) : RowsOwn B w' v K := owns_keptOut h hk hB
theorem RowsOwn.ss {B n c : Nat} {w : World} {a : Option Addr} {K : List RowD} (h : RowsOwn B w (.slice a n c) K) : RowsAt w a K := by
  obtain ⟨na, nc, e, h1⟩ := rows_at h
  simp only [Value.slice.injEq] at e
  obtain ⟨rfl, _, _⟩ := e
  exact h1

set_option maxRecDepth 100000 in
set_option maxHeartbeats 1000000 in
theorem markRowS_own (B k : Nat) (a : Option Addr) (c : Nat) (K : List RowD) (w : World) (hn : K.length ≤ 1048576) (hk : k ≤ 100000000) (hB : B ≤ w.heap.size) (hr : RowsOwn B w (.slice a K.length c) K) :
    Calls Tryz.prog 17 #[.slice a K.length c, .int .i64 k] w fun e w' => e = .returned (.int .i64 ((k + K.length * 6 : Nat) : Int)) ∧ RowsAt w' a (markRs k K.length) ∧ Below B w w' := by
  have hr0 := hr
  rcases hr.2 with ⟨e, e0⟩ | ⟨g, cap, cur, e, hg, _⟩
  · simp only [Value.slice.injEq] at e
    obtain ⟨rfl, _, rfl⟩ := e
    obtain rfl : K = [] := List.length_eq_zero_iff.1 e0
    clear hr hr0
    go_enter Tryz.func17, Tryz.ntmps17
    go_wp2
    go_loopw [1, 5] (fun q i wr => i = .int .i64 0 ∧ q = .int .i64 k ∧ wr = w) (fun _ _ _ => 0)
    case atStart => exact ⟨rfl, rfl, rfl⟩
    case round =>
      obtain ⟨rfl, rfl, rfl⟩ := hrel
      go_wp2
      go_ret
      exact ⟨by simp, fun i hi => by simp [markRs] at hi, Below.refl _ _⟩
  · simp only [Value.slice.injEq] at e
    obtain ⟨rfl, _, rfl⟩ := e
    refine (markRowS_some B g c k K w hn hk hr0).mono ?_
    rintro e w' ⟨rfl, hown, hgr⟩
    refine ⟨rfl, ?_, (Below.refl _ _).grown hgr hB (fun x hx => by cases hx; exact hg)⟩
    have hl := markRs_length k K.length
    have h2 : RowsOwn B w' (.slice (some ⟨g, 0, none⟩) K.length c) (markRs k K.length) := by unfold RowsOwn; rw [hl]; exact hown
    exact h2.ss

set_option maxRecDepth 100000 in
set_option maxHeartbeats 8000000 in
theorem lawBoard_by (v : Value) (bk : BookD) (ra : Option Addr) (rc : Nat) (rs : List RepD) (s tick rows : Int) (K : List RowD) (w : World) (hK2 : K.length ≤ 1048576) (hl : BookLens bk) (hrl : rs.length ≤ maxLen) (hat : BookAt w v bk) (hra : RepsAt w ra rs)
    (hspec : bookSize bk ≤ 1048576 → rs.length ≤ 1048576 → ∀ w1, Below w.heap.size w w1 → ∀ v ra rc, BookAt w1 v bk → RepsAt w1 ra rs → Calls Tryz.prog 8 #[v, .slice ra rs.length rc, .int .i64 s, .int .i64 tick, .int .i64 rows] w1 fun e w2 => ∃ v', e = .returned v' ∧ RowsOwn w1.heap.size w2 v' K ∧ Below w1.heap.size w1 w2)
    (himpl : bookSize bk ≤ 1048576 → rs.length ≤ 1048576 → ∀ w1, Below w.heap.size w w1 → ∀ v ra rc, BookAt w1 v bk → RepsAt w1 ra rs → Calls Tryz.prog 11 #[v, .slice ra rs.length rc, .int .i64 s, .int .i64 tick, .int .i64 rows] w1 fun e w2 => ∃ v', e = .returned v' ∧ RowsOwn w1.heap.size w2 v' K ∧ Below w1.heap.size w1 w2) :
    Calls Tryz.prog 3 #[v, .slice ra rs.length rc, .int .i64 s, .int .i64 tick, .int .i64 rows] w fun e w' => e = .returned (.bool true) ∧ Below w.heap.size w w' := by
  have hat0 := hat
  obtain ⟨sa, sc, ta, tc, rfl, hsa, hta⟩ := hat
  clear hsa hta
  have HAT : Hid (BookAt w (.agg #[.slice sa bk.sts.length sc, .slice ta bk.trips.length tc]) bk) := hat0
  have HRA : Hid (RepsAt w ra rs) := hra
  clear hat0 hra
  have hb0 : Below w.heap.size w (w.alloc (.cells #[.slice sa bk.sts.length sc, .slice ta bk.trips.length tc] 25)) := bx_below _ _
  by_cases hfit : (bookSize bk : Int) ≤ 1048576
  · have hn : bookSize bk ≤ 1048576 := by omega
    by_cases hfit2 : (rs.length : Int) ≤ 1048576 - bookSize bk
    · have hm : rs.length ≤ 1048576 := by omega
      have HIM : Hid (∀ w1, Below w.heap.size w w1 → ∀ v ra rc, BookAt w1 v bk → RepsAt w1 ra rs → Calls Tryz.prog 11 #[v, .slice ra rs.length rc, .int .i64 s, .int .i64 tick, .int .i64 rows] w1 fun e w2 => ∃ v', e = .returned v' ∧ RowsOwn w1.heap.size w2 v' K ∧ Below w1.heap.size w1 w2) := himpl hn hm
      have HSP : Hid (∀ w1, Below w.heap.size w w1 → ∀ v ra rc, BookAt w1 v bk → RepsAt w1 ra rs → Calls Tryz.prog 8 #[v, .slice ra rs.length rc, .int .i64 s, .int .i64 tick, .int .i64 rows] w1 fun e w2 => ∃ v', e = .returned v' ∧ RowsOwn w1.heap.size w2 v' K ∧ Below w1.heap.size w1 w2) := hspec hn hm
      have HMK : Hid (sumMarks (bk.trips.map (·.calls.length)) ≤ 5000000 ∧ bk.sts.length ≤ 1048576 ∧ (bk.trips.map (·.calls.length)).length ≤ 1048576) := by
        have := sumMarks_trips bk.trips
        unfold bookSize tripsSize strsSize at hn
        exact ⟨by omega, by omega, by rw [List.length_map]; omega⟩
      clear himpl hspec
      go_enter Tryz.func3, Tryz.ntmps3
      go_wp2_with fail
      refine (szBook_any _ bk _ _ (by omega) (by omega) hl (by exact HAT.out.keep hb0)).mono ?_
      rintro e w1 ⟨rfl, hb1⟩
      rw [rest_yes hfit]
      have B1 : Below (w.heap.size + 1) (w.alloc (.cells #[.slice sa bk.sts.length sc, .slice ta bk.trips.length tc] 25)) w1 := hb1.mono (by simp)
      have hB1 : Below w.heap.size w w1 := hb0.trans (B1.mono (by omega))
      obtain ⟨q0, q1⟩ := box_two _ _ _ _ _ B1
      clear hb1 hb0
      have hlt0 : ¬ ((1048576 : Int) - bookSize bk < 0) := by omega
      go_wp2_with fail
      refine (szReportS_any _ _ _ _ _ (by omega) (by omega) hrl).mono ?_
      rintro e w1' ⟨rfl, rfl⟩
      rw [rest_yes hfit2]
      have hlt1 : ¬ ((1048576 : Int) - bookSize bk - rs.length < 0) := by omega
      go_wp2_with fail
      refine (toBook_any _ bk _ hn (by exact HAT.out.keep hB1)).mono ?_
      rintro e w2 ⟨v2, rfl, hat2, hb2⟩
      have hB2 : Below w.heap.size w w2 := hB1.trans (hb2.mono hB1.size)
      have HA2 : Hid (BookAt w2 v2 bk) := hat2
      have p0 := cell_keep hb2 q0
      have p1 := cell_keep hb2 q1
      clear hat2 q0 q1 hlt0 hlt1
      go_wp2_with fail
      refine (toReportS_any _ rs _ _ hm (by exact HRA.out.keep hB2)).mono ?_
      rintro e w3 ⟨b3, rfl, _, hat3, hb3, _⟩
      have hB3 : Below w.heap.size w w3 := hB2.trans (hb3.mono hB2.size)
      have HA3 : Hid (BookAt w3 v2 bk) := HA2.out.keep hb3
      have HR3 : Hid (RepsAt w3 (some ⟨b3, 0, none⟩) rs) := hat3
      have q0 := cell_keep hb3 p0
      have q1 := cell_keep hb3 p1
      clear hat3 p0 p1
      go_wp2_with fail
      refine (HSP.out _ hB3 _ _ _ (by exact HA3.out) (by exact HR3.out)).mono ?_
      rintro e w4 ⟨n4, rfl, hown4, hb4⟩
      obtain ⟨na4, nc4, rfl, hss4⟩ := rows_at hown4
      have HN4 : Hid (RowsAt w4 na4 K) := hss4
      have hB4 : Below w.heap.size w w4 := hB3.trans (hb4.mono hB3.size)
      have p0 := cell_keep hb4 q0
      have p1 := cell_keep hb4 q1
      have HP4 : Hid (w4.cell? ⟨w.heap.size, 0, none⟩ = some (.slice sa bk.sts.length sc) ∧ w4.cell? ⟨w.heap.size, 1, none⟩ = some (.slice ta bk.trips.length tc)) := ⟨p0, p1⟩
      clear hown4 hss4 q0 q1 HA2 HA3 HR3 hb4 hb3 hb2 hB1 hB2 hB3
      go_wp2_with fail
      refine (toBook_own _ bk _ hn (by exact HAT.out.keep hB4)).mono ?_
      rintro e w5 ⟨v5, rfl, hat5, hb5, hin5⟩
      have HA5 : Hid (BookAt w5 v5 bk) := hat5
      have HI5 : Hid (BookIn w4.heap.size w5.heap.size w5 v5 bk.sts.length (bk.trips.map (·.calls.length))) := hin5
      obtain ⟨sa5, sc5, ta5, tc5, rfl, _, _⟩ := hat5
      have hB5 : Below w.heap.size w w5 := hB4.trans (hb5.mono hB4.size)
      have q0 := cell_keep hb5 p0
      have q1 := cell_keep hb5 p1
      have z5 := cell_lt q0
      have z45 := hb5.size
      have G5 : Hid (Below w4.heap.size w4 w5) := hb5
      clear hin5 p0 p1
      go_wp2_with fail
      have hB5' := hB5.alloc hB5.size (.cells #[.slice sa5 bk.sts.length sc5, .slice ta5 bk.trips.length tc5] 33)
      refine (toReportS_any _ rs _ _ hm (by exact HRA.out.keep hB5')).mono ?_
      rintro e w6 ⟨b6, rfl, hb6L, hat6, hb6, hrow6⟩
      have hB6 : Below w.heap.size w w6 := hB5'.trans (hb6.mono (by have := hB5.size; simp; omega))
      have D6 : Below (w5.heap.size + 1) (w5.alloc (.cells #[.slice sa5 bk.sts.length sc5, .slice ta5 bk.trips.length tc5] 33)) w6 := hb6.mono (by simp)
      have E6 : Below w5.heap.size w5 w6 := (bx_below _ _).trans (D6.mono (by omega))
      have HA6 : Hid (BookAt w6 (.agg #[.slice sa5 bk.sts.length sc5, .slice ta5 bk.trips.length tc5]) bk) := HA5.out.keep E6
      have HI6 : Hid (BookIn w4.heap.size w5.heap.size w6 (.agg #[.slice sa5 bk.sts.length sc5, .slice ta5 bk.trips.length tc5]) bk.sts.length (bk.trips.map (·.calls.length))) := HI5.out.keep E6
      have HR6 : Hid (RepsAt w6 (some ⟨b6, 0, none⟩) rs) := hat6
      have HW6 : Hid (∃ f, w6.rowIs b6 64 (rs.length * 5) f) := hrow6
      have HN6 : Hid (RowsAt w6 na4 K) := HN4.out.keep (hb5.trans (E6.mono z45))
      obtain ⟨x0, x1⟩ := box_two _ _ _ _ _ D6
      have p0 := cell_keep E6 q0
      have p1 := cell_keep E6 q1
      have z56 := cell_lt x0
      simp at hb6L
      have z6 : w.heap.size < w6.heap.size := cell_lt p0
      clear hat6 hrow6 hb6 q0 q1 HA5 HI5 hB5' hb5
      go_wp2_with fail
      refine (HIM.out _ hB6 _ _ _ (by exact HA6.out) (by exact HR6.out)).mono ?_
      rintro e w7 ⟨n7, rfl, hown7, hb7⟩
      have HO7 : Hid (RowsOwn w6.heap.size w7 n7 K) := hown7
      obtain ⟨na7, nc7, rfl, hss7⟩ := rows_at hown7
      have HN7 : Hid (RowsAt w7 na7 K) := hss7
      have hB7 : Below w.heap.size w w7 := hB6.trans (hb7.mono hB6.size)
      have q0 := cell_keep hb7 p0
      have q1 := cell_keep hb7 p1
      have y0 := cell_keep hb7 x0
      have y1 := cell_keep hb7 x1
      have z67 := hb7.size
      have G7 : Hid (Below w4.heap.size w4 w7) := (G5.out.trans (E6.mono z45)).trans (hb7.mono (by have := E6.size; omega))
      have HM7 : Hid (RowsAt w7 na4 K) := HN6.out.keep hb7
      clear hown7 hss7 p0 p1 x0 x1
      go_wp2_with fail
      refine (eqRowS_same _ _ K _ _ _ hK2 (by exact HN7.out) (by exact HM7.out)).mono ?_
      rintro e w8 ⟨rfl, hb8⟩
      have hB8 : Below w.heap.size w w8 := hB7.trans (hb8.mono hB7.size)
      have p0 := cell_keep hb8 q0
      have p1 := cell_keep hb8 q1
      have x0 := cell_keep hb8 y0
      have x1 := cell_keep hb8 y1
      have z78 := hb8.size
      have HA8 : Hid (BookAt w8 (.agg #[.slice sa5 bk.sts.length sc5, .slice ta5 bk.trips.length tc5]) bk) := (HA6.out.keep hb7).keep hb8
      have HAA8 : Hid (BookAt w8 (.agg #[.slice sa bk.sts.length sc, .slice ta bk.trips.length tc]) bk) := HAT.out.keep hB8
      clear q0 q1 y0 y1
      go_wp2_with fail
      have HC8 : Hid (Below w7.heap.size w7 w8) := hb8
      clear hb8
      go_region_with (first | (go_at_call 9; refine (toBook_any _ bk _ hn (by exact HAA8.out)).mono ?_; rintro e w9 ⟨v9, rfl, hat9, hb9⟩; have f0 := cell_keep hb9 (by exact x0); have f1 := cell_keep hb9 (by exact x1); have H9 : Hid (BookAt w9 v9 bk) := hat9; have HX9 : Hid (BookAt w9 (.agg #[.slice sa5 bk.sts.length sc5, .slice ta5 bk.trips.length tc5]) bk) := BookAt.keep (by exact HA8.out) hb9; clear hat9) | (go_at_call 13; refine (eqBook_same _ _ bk _ hn (by exact HX9.out) (by exact H9.out)).mono ?_; rintro e w10 ⟨rfl, hb10⟩))
      all_goals
        have C10 : Below w8.heap.size w8 w10 := ((Below.refl _ _).drew.trans (by exact hb9)).trans (hb10.mono (by have := hb9.size; exact this))
        have D10 : Below w7.heap.size w7 w10 := HC8.out.trans (C10.mono z78)
        have hB10 : Below w.heap.size w w10 := hB8.trans (C10.mono hB8.size)
        clear f0 f1 HX9 H9 hb9 hb10
        have q0 := cell_keep C10 p0
        have q1 := cell_keep C10 p1
        have y0 := cell_keep C10 x0
        have y1 := cell_keep C10 x1
        go_wp2_with fail
        refine (toReportS_any _ rs _ _ hm (by exact HRA.out.keep hB10)).mono ?_
        rintro e w11 ⟨b11, rfl, _, hat11, hb11, _⟩
        have D11 : Below w7.heap.size w7 w11 := D10.trans (hb11.mono D10.size)
        have HR11 : Hid (RepsAt w11 (some ⟨b11, 0, none⟩) rs) := hat11
        have HQ11 : Hid (RepsAt w11 (some ⟨b6, 0, none⟩) rs) := (HR6.out.keep hb7).keep D11
        have r0 := cell_keep hb11 y0
        have r1 := cell_keep hb11 y1
        clear hat11 y0 y1 q0 q1
        go_wp2_with fail
        refine (eqReportS_same _ _ rs _ _ _ hm (by exact HQ11.out) (by exact HR11.out)).mono ?_
        rintro e w12 ⟨rfl, hb12⟩
        have D12 : Below w7.heap.size w7 w12 := D11.trans (hb12.mono D11.size)
        have y0 := cell_keep hb12 r0
        have y1 := cell_keep hb12 r1
        have z12 := D12.size
        have HI12 : Hid (BookIn w4.heap.size w5.heap.size w12 (.agg #[.slice sa5 bk.sts.length sc5, .slice ta5 bk.trips.length tc5]) bk.sts.length (bk.trips.map (·.calls.length))) := (HI6.out.keep hb7).keep D12
        have HO12 : Hid (RowsOwn w6.heap.size w12 (.slice na7 K.length nc7) K) := HO7.out.below D12
        have hW12 : ∃ f, w12.rowIs b6 64 (rs.length * 5) f := by
          obtain ⟨f, hf⟩ := HW6.out
          have hf7 := hf.of_block (hb7.block _ hf.lt)
          exact ⟨f, hf7.of_block (D12.block _ hf7.lt)⟩
        have HW12 : Hid (∃ f, w12.rowIs b6 64 (rs.length * 5) f) := hW12
        have hb6R : b6 < w6.heap.size := by obtain ⟨f, hf⟩ := HW6.out; exact hf.lt
        have G12 : Hid (Below w4.heap.size w4 w12) := G7.out.trans (D12.mono (by omega))
        clear r0 r1 HR11 HQ11 hb11 hb12 D11 D10 C10 hW12
        go_wp2_with fail
        obtain ⟨km1, km2, km3⟩ := HMK.out
        refine (markBook_any w4.heap.size w5.heap.size _ bk.sts.length (bk.trips.map (·.calls.length)) 1 _ km2 km3 (by omega) (by omega) (by exact HI12.out)).mono ?_
        rintro e w13 ⟨rfl, hk13, hs13⟩
        have HO13 : Hid (RowsOwn w6.heap.size w13 (.slice na7 K.length nc7) K) := HO12.out.keptOut hk13 (by omega)
        have G13 : Hid (Below w4.heap.size w4 w13) := G12.out.trans (hk13.below (Nat.le_refl _) G12.out.size)
        obtain ⟨f12, hf12⟩ := HW12.out
        obtain ⟨f13, hf13⟩ := hs13 _ _ _ _ hf12
        have HF13 : Hid (w13.rowIs b6 64 (rs.length * 5) f13) := hf13
        have z13 := hk13.size
        generalize hkk : 1 + bk.sts.length + sumMarks (bk.trips.map (·.calls.length)) = kk
        have hkk2 : kk ≤ 10000000 := by omega
        clear hkk km1 km2 km3 hk13 hs13 hf12 hf13 y0 y1 HI12 HO12 HW12 f12
        go_wp2_with fail
        refine (markReportS_any b6 rs.length _ kk f13 _ hm (by omega) (by exact HF13.out)).mono ?_
        rintro e w14 ⟨rfl, hk14, _⟩
        have HO14 : Hid (RowsOwn w6.heap.size w14 (.slice na7 K.length nc7) K) := HO13.out.keptOut hk14 (by omega)
        have G14 : Hid (Below w4.heap.size w4 w14) := G13.out.trans (hk14.below (by omega) G13.out.size)
        have HN14 : Hid (RowsAt w14 na7 K) := HO14.out.ss
        have HM14 : Hid (RowsAt w14 na4 K) := HN4.out.keep G14.out
        have z14 := hk14.size
        generalize hkr : kk + rs.length * 5 = kr
        have hneg : ¬ ((kr : Int) < 0) := by omega
        clear hkr hkk2 hk14 HO13 HF13
        go_wp2_with fail
        refine (eqRowS_same _ _ K _ _ _ hK2 (by exact HN14.out) (by exact HM14.out)).mono ?_
        rintro e w15 ⟨rfl, hb15⟩
        have HO15 : Hid (RowsOwn w6.heap.size w15 (.slice na7 K.length nc7) K) := HO14.out.below hb15
        have G15 : Hid (Below w4.heap.size w4 w15) := G14.out.trans (hb15.mono G14.out.size)
        have z15 := hb15.size
        clear HO14 HN14 HM14 hb15 hneg
        go_wp2_with fail
        refine (markRowS_own w6.heap.size 1 _ _ K _ hK2 (by omega) (by omega) (by exact HO15.out)).mono ?_
        rintro e wm ⟨rfl, hown16, hb16⟩
        obtain ⟨mm, hmm⟩ : ∃ mm, 1 + K.length * 6 = mm := ⟨_, rfl⟩
        have HMM : Hid (1 + K.length * 6 = mm) := hmm
        rw [hmm]
        have HN16 : Hid (RowsAt wm na7 (markRs 1 K.length)) := hown16
        have G16 : Hid (Below w4.heap.size w4 wm) := G15.out.trans (hb16.mono (by omega))
        clear hown16 hb16 HO15 hmm
        go_wp2_with fail
        refine (heldRowS_any _ K.length _ 1 _ hK2 (by omega) (by exact HN16.out)).mono ?_
        rintro e w16 ⟨rfl, rfl⟩
        rw [HMM.out]
        have hneg : ¬ ((mm : Int) < 0) := by omega
        have h40 := HP4.out.1
        have h41 := HP4.out.2
        have hB16 : Below w.heap.size w w16 := hB4.trans (G16.out.mono hB4.size)
        have q0 := cell_keep G16.out h40
        have q1 := cell_keep G16.out h41
        clear h40 h41
        go_wp2_with fail
        refine (toBook_any _ bk _ hn (by exact HAT.out.keep hB16)).mono ?_
        rintro e w17 ⟨v17, rfl, hat17, hb17⟩
        have hB17 : Below w.heap.size w w17 := hB16.trans (hb17.mono hB16.size)
        have HA17 : Hid (BookAt w17 v17 bk) := hat17
        clear hat17 q0 q1
        go_wp2_with fail
        refine (toReportS_any _ rs _ _ hm (by exact HRA.out.keep hB17)).mono ?_
        rintro e w18 ⟨b18, rfl, _, hat18, hb18, _⟩
        have hB18 : Below w.heap.size w w18 := hB17.trans (hb18.mono hB17.size)
        have HA18 : Hid (BookAt w18 v17 bk) := HA17.out.keep hb18
        have HR18 : Hid (RepsAt w18 (some ⟨b18, 0, none⟩) rs) := hat18
        have C18 : Below w16.heap.size w16 w18 := hb17.trans (hb18.mono hb17.size)
        clear hat18 HA17 hb17 hb18
        go_wp2_with fail
        refine (HIM.out _ hB18 _ _ _ (by exact HA18.out) (by exact HR18.out)).mono ?_
        rintro e w19 ⟨n19, rfl, hown19, hb19⟩
        obtain ⟨na19, nc19, rfl, hss19⟩ := rows_at hown19
        have HN19 : Hid (RowsAt w19 na19 K) := hss19
        have C19 : Below w16.heap.size w16 w19 := C18.trans (hb19.mono C18.size)
        have HM19 : Hid (RowsAt w19 na4 K) := HN4.out.keep (G16.out.trans (C19.mono G16.out.size))
        clear hown19 hss19 hb19 C18 HA18 HR18
        go_wp2_with fail
        refine (eqRowS_same _ _ K _ _ _ hK2 (by exact HN19.out) (by exact HM19.out)).mono ?_
        rintro e w20 ⟨rfl, hb20⟩
        have C20 : Below w16.heap.size w16 w20 := C19.trans (hb20.mono C19.size)
        have HN20 : Hid (RowsAt w20 na7 (markRs 1 K.length)) := HN16.out.keep C20
        have HB20 : Hid (Below w.heap.size w w20) := hB16.trans (C20.mono hB16.size)
        clear hb20
        go_wp2_with fail
        refine (heldRowS_any _ K.length _ 1 _ hK2 (by omega) (by exact HN20.out)).mono ?_
        rintro e w21 ⟨rfl, rfl⟩
        rw [HMM.out]
        go_wp2_with fail
        go_ret
        exact ⟨rfl, HB20.out⟩
    · go_enter Tryz.func3, Tryz.ntmps3
      go_wp2_with fail
      refine (szBook_any _ bk _ _ (by omega) (by omega) hl (by exact HAT.out.keep hb0)).mono ?_
      rintro e w1 ⟨rfl, hb1⟩
      rw [rest_yes hfit]
      have hlt0 : ¬ ((1048576 : Int) - bookSize bk < 0) := by omega
      go_wp2_with fail
      refine (szReportS_any _ _ _ _ _ (by omega) (by omega) hrl).mono ?_
      rintro e w1' ⟨rfl, rfl⟩
      rw [rest_no (by omega)]
      go_wp2_with fail
      go_ret
      exact ⟨rfl, hb0.trans (hb1.mono (by simp))⟩
  · go_enter Tryz.func3, Tryz.ntmps3
    go_wp2_with fail
    refine (szBook_any _ bk _ _ (by omega) (by omega) hl (by exact HAT.out.keep hb0)).mono ?_
    rintro e w1 ⟨rfl, hb1⟩
    rw [rest_no (by omega)]
    go_wp2_with fail
    go_ret
    exact ⟨rfl, hb0.trans (hb1.mono (by simp))⟩

end Go.Proofs.YtjioingdpfgadabGreatDoor
