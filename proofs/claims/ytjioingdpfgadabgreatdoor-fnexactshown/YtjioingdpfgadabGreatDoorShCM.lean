import Derived.Test.YtjioingdpfgadabGreatDoorProg
import Derived.Test.YtjioingdpfgadabGreatDoorBoardCM
import Derived.Test.YtjioingdpfgadabGreatDoorLawK
import Derived.Test.YtjioingdpfgadabGreatDoorShBM
import Derived.Deep.RegionHeld3
import Derived.Test.YtjioingdpfgadabGreatDoorShelfM
import Derived.Test.YtjioingdpfgadabGreatDoorBase
import Derived.Shelf.Strings.BuilderK
import Derived.Test.YtjioingdpfgadabGreatDoorBrdDM
import Derived.Test.YtjioingdpfgadabGreatDoorSayIM
namespace Go.Proofs.YtjioingdpfgadabGreatDoor
open Go Go.RowKit Go.Deep

set_option maxRecDepth 100000 in
set_option maxHeartbeats 8000000 in
theorem lawShown_by (v : Value) (bk : BookD) (ra : Option Addr) (rc : Nat) (rs : List RepD) (s tick rows : Int) (K : ByteArray) (w : World) (hl : BookLens bk) (hrl : rs.length ≤ maxLen) (hat : BookAt w v bk) (hra : RepsAt w ra rs)
    (hspec : bookSize bk ≤ 1048576 → rs.length ≤ 1048576 → ∀ w1, Below w.heap.size w w1 → ∀ v ra rc, BookAt w1 v bk → RepsAt w1 ra rs → Calls Tryz.prog 19 #[v, .slice ra rs.length rc, .int .i64 s, .int .i64 tick, .int .i64 rows] w1 fun e w2 => e = .returned (.string K) ∧ Below w1.heap.size w1 w2)
    (himpl : bookSize bk ≤ 1048576 → rs.length ≤ 1048576 → ∀ w1, Below w.heap.size w w1 → ∀ v ra rc, BookAt w1 v bk → RepsAt w1 ra rs → Calls Tryz.prog 20 #[v, .slice ra rs.length rc, .int .i64 s, .int .i64 tick, .int .i64 rows] w1 fun e w2 => e = .returned (.string K) ∧ Below w1.heap.size w1 w2) :
    Calls Tryz.prog 4 #[v, .slice ra rs.length rc, .int .i64 s, .int .i64 tick, .int .i64 rows] w fun e w' => e = .returned (.bool true) ∧ Below w.heap.size w w' := by
  have hat0 := hat
  obtain ⟨sa, sc, ta, tc, rfl, hsa, hta⟩ := hat
  clear hsa hta
  have HAT : Hid (BookAt w (.agg #[.slice sa bk.sts.length sc, .slice ta bk.trips.length tc]) bk) := hat0
  have HRA : Hid (RepsAt w ra rs) := hra
  clear hat0 hra
  have hb0 : Below w.heap.size w (w.alloc (.cells #[.slice sa bk.sts.length sc, .slice ta bk.trips.length tc] 25)) := bx_below _ _
  by_cases hfit : (bookSize bk : Int) ≤ 1048576
  · have hn : bookSize bk ≤ 1048576 := by omega
    by_cases hfit2 : (rs.length : Int) ≤ 1048576 - bookSize bk
    · have hm : rs.length ≤ 1048576 := by omega
      have HIM : Hid (∀ w1, Below w.heap.size w w1 → ∀ v ra rc, BookAt w1 v bk → RepsAt w1 ra rs → Calls Tryz.prog 20 #[v, .slice ra rs.length rc, .int .i64 s, .int .i64 tick, .int .i64 rows] w1 fun e w2 => e = .returned (.string K) ∧ Below w1.heap.size w1 w2) := himpl hn hm
      have HSP : Hid (∀ w1, Below w.heap.size w w1 → ∀ v ra rc, BookAt w1 v bk → RepsAt w1 ra rs → Calls Tryz.prog 19 #[v, .slice ra rs.length rc, .int .i64 s, .int .i64 tick, .int .i64 rows] w1 fun e w2 => e = .returned (.string K) ∧ Below w1.heap.size w1 w2) := hspec hn hm
      clear himpl hspec
      go_enter Tryz.func4, Tryz.ntmps4
      go_wp2_with fail
      refine (szBook_any _ bk _ _ (by omega) (by omega) hl (by exact HAT.out.keep hb0)).mono ?_
      rintro e w1 ⟨rfl, hb1⟩
      rw [rest_yes hfit]
      have B1 : Below (w.heap.size + 1) (w.alloc (.cells #[.slice sa bk.sts.length sc, .slice ta bk.trips.length tc] 25)) w1 := hb1.mono (by simp)
      have hB1 : Below w.heap.size w w1 := hb0.trans (B1.mono (by omega))
      obtain ⟨q0, q1⟩ := box_two _ _ _ _ _ B1
      clear hb1 hb0
      have hlt0 : ¬ ((1048576 : Int) - bookSize bk < 0) := by omega
      go_wp2_with fail
      refine (szReportS_any _ _ _ _ _ (by omega) (by omega) hrl).mono ?_
      rintro e w1' ⟨rfl, rfl⟩
      rw [rest_yes hfit2]
      have hlt1 : ¬ ((1048576 : Int) - bookSize bk - rs.length < 0) := by omega
      go_wp2_with fail
      refine (toBook_any _ bk _ hn (by exact HAT.out.keep hB1)).mono ?_
      rintro e w2 ⟨v2, rfl, hat2, hb2⟩
      have hB2 : Below w.heap.size w w2 := hB1.trans (hb2.mono hB1.size)
      have HA2 : Hid (BookAt w2 v2 bk) := hat2
      have p0 := cell_keep hb2 q0
      have p1 := cell_keep hb2 q1
      clear hat2 q0 q1 hlt0 hlt1
      go_wp2_with fail
      refine (toReportS_any _ rs _ _ hm (by exact HRA.out.keep hB2)).mono ?_
      rintro e w3 ⟨b3, rfl, _, hat3, hb3, _⟩
      have hB3 : Below w.heap.size w w3 := hB2.trans (hb3.mono hB2.size)
      have HA3 : Hid (BookAt w3 v2 bk) := HA2.out.keep hb3
      have HR3 : Hid (RepsAt w3 (some ⟨b3, 0, none⟩) rs) := hat3
      have q0 := cell_keep hb3 p0
      have q1 := cell_keep hb3 p1
      clear hat3 p0 p1
      go_wp2_with fail
      refine (HSP.out _ hB3 _ _ _ (by exact HA3.out) (by exact HR3.out)).mono ?_
      rintro e w4 ⟨rfl, hb4⟩
      have hB4 : Below w.heap.size w w4 := hB3.trans (hb4.mono hB3.size)
      have p0 := cell_keep hb4 q0
      have p1 := cell_keep hb4 q1
      clear q0 q1 HA2 HA3 HR3 hb4 hb3 hb2 hB1 hB2 hB3
      go_wp2_with fail
      refine (toBook_any _ bk _ hn (by exact HAT.out.keep hB4)).mono ?_
      rintro e w5 ⟨v5, rfl, hat5, hb5⟩
      have HA5 : Hid (BookAt w5 v5 bk) := hat5
      obtain ⟨sa5, sc5, ta5, tc5, rfl, _, _⟩ := hat5
      have hB5 : Below w.heap.size w w5 := hB4.trans (hb5.mono hB4.size)
      have q0 := cell_keep hb5 p0
      have q1 := cell_keep hb5 p1
      have z5 := cell_lt q0
      have z45 := hb5.size
      clear p0 p1
      go_wp2_with fail
      have hB5' := hB5.alloc hB5.size (.cells #[.slice sa5 bk.sts.length sc5, .slice ta5 bk.trips.length tc5] 33)
      refine (toReportS_any _ rs _ _ hm (by exact HRA.out.keep hB5')).mono ?_
      rintro e w6 ⟨b6, rfl, hb6L, hat6, hb6, hrow6⟩
      have hB6 : Below w.heap.size w w6 := hB5'.trans (hb6.mono (by have := hB5.size; simp; omega))
      have D6 : Below (w5.heap.size + 1) (w5.alloc (.cells #[.slice sa5 bk.sts.length sc5, .slice ta5 bk.trips.length tc5] 33)) w6 := hb6.mono (by simp)
      have E6 : Below w5.heap.size w5 w6 := (bx_below _ _).trans (D6.mono (by omega))
      have HA6 : Hid (BookAt w6 (.agg #[.slice sa5 bk.sts.length sc5, .slice ta5 bk.trips.length tc5]) bk) := HA5.out.keep E6
      have HR6 : Hid (RepsAt w6 (some ⟨b6, 0, none⟩) rs) := hat6
      obtain ⟨x0, x1⟩ := box_two _ _ _ _ _ D6
      have p0 := cell_keep E6 q0
      have p1 := cell_keep E6 q1
      have z56 := cell_lt x0
      simp at hb6L
      have z6 : w.heap.size < w6.heap.size := cell_lt p0
      clear hat6 hrow6 hb6 q0 q1 HA5 hB5' hb5
      go_wp2_with fail
      refine (HIM.out _ hB6 _ _ _ (by exact HA6.out) (by exact HR6.out)).mono ?_
      rintro e w7 ⟨rfl, hb7⟩
      have hB7 : Below w.heap.size w w7 := hB6.trans (hb7.mono hB6.size)
      have q0 := cell_keep hb7 p0
      have q1 := cell_keep hb7 p1
      have y0 := cell_keep hb7 x0
      have y1 := cell_keep hb7 x1
      have z67 := hb7.size
      clear p0 p1 x0 x1
      have HA8 : Hid (BookAt w7 (.agg #[.slice sa5 bk.sts.length sc5, .slice ta5 bk.trips.length tc5]) bk) := HA6.out.keep hb7
      have HAA8 : Hid (BookAt w7 (.agg #[.slice sa bk.sts.length sc, .slice ta bk.trips.length tc]) bk) := HAT.out.keep hB7
      clear z56 z67 hb6L
      go_wp2_with fail
      go_region_with (first | (go_at_call 9; refine (toBook_any _ bk _ hn (by exact HAA8.out)).mono ?_; rintro e w9 ⟨v9, rfl, hat9, hb9⟩; have f0 := cell_keep hb9 (by exact y0); have f1 := cell_keep hb9 (by exact y1); have H9 : Hid (BookAt w9 v9 bk) := hat9; have HX9 : Hid (BookAt w9 (.agg #[.slice sa5 bk.sts.length sc5, .slice ta5 bk.trips.length tc5]) bk) := BookAt.keep (by exact HA8.out) hb9; clear hat9) | (go_at_call 13; refine (eqBook_same _ _ bk _ hn (by exact HX9.out) (by exact H9.out)).mono ?_; rintro e w10 ⟨rfl, hb10⟩))
      all_goals
        have D10 : Below w7.heap.size w7 w10 := ((Below.refl _ _).drew.trans (by exact hb9)).trans (hb10.mono (by have := hb9.size; exact this))
        have hB10 : Below w.heap.size w w10 := hB7.trans (D10.mono hB7.size)
        clear f0 f1 HX9 H9 hb9 hb10
        go_wp2_with fail
        refine (toReportS_any _ rs _ _ hm (by exact HRA.out.keep hB10)).mono ?_
        rintro e w11 ⟨b11, rfl, _, hat11, hb11, _⟩
        have D11 : Below w7.heap.size w7 w11 := D10.trans (hb11.mono D10.size)
        have HR11 : Hid (RepsAt w11 (some ⟨b11, 0, none⟩) rs) := hat11
        have HQ11 : Hid (RepsAt w11 (some ⟨b6, 0, none⟩) rs) := (HR6.out.keep hb7).keep D11
        clear hat11
        go_wp2_with fail
        refine (eqReportS_same _ _ rs _ _ _ hm (by exact HQ11.out) (by exact HR11.out)).mono ?_
        rintro e w12 ⟨rfl, hb12⟩
        have D12 : Below w7.heap.size w7 w12 := D11.trans (hb12.mono D11.size)
        go_wp2_with fail
        go_ret
        exact ⟨rfl, hB7.trans (D12.mono hB7.size)⟩
    · go_enter Tryz.func4, Tryz.ntmps4
      go_wp2_with fail
      refine (szBook_any _ bk _ _ (by omega) (by omega) hl (by exact HAT.out.keep hb0)).mono ?_
      rintro e w1 ⟨rfl, hb1⟩
      rw [rest_yes hfit]
      have hlt0 : ¬ ((1048576 : Int) - bookSize bk < 0) := by omega
      go_wp2_with fail
      refine (szReportS_any _ _ _ _ _ (by omega) (by omega) hrl).mono ?_
      rintro e w1' ⟨rfl, rfl⟩
      rw [rest_no (by omega)]
      go_wp2_with fail
      go_ret
      exact ⟨rfl, hb0.trans (hb1.mono (by simp))⟩
  · go_enter Tryz.func4, Tryz.ntmps4
    go_wp2_with fail
    refine (szBook_any _ bk _ _ (by omega) (by omega) hl (by exact HAT.out.keep hb0)).mono ?_
    rintro e w1 ⟨rfl, hb1⟩
    rw [rest_no (by omega)]
    go_wp2_with fail
    go_ret
    exact ⟨rfl, hb0.trans (hb1.mono (by simp))⟩

end Go.Proofs.YtjioingdpfgadabGreatDoor
namespace Go.Proofs.YtjioingdpfgadabGreatDoor
open Go Go.RowKit Go.Deep

set_option maxRecDepth 100000 in
set_option maxHeartbeats 8000000 in
theorem specShown_any (v : Value) (bk : BookD) (ra : Option Addr) (rc : Nat) (rs : List RepD) (s tick rows : Int) (w : World) (hn : bookSize bk ≤ 1048576) (hm : rs.length ≤ 1048576) (hat : BookAt w v bk) (hra : RepsAt w ra rs) :
    Calls Tryz.prog 19 #[v, .slice ra rs.length rc, .int .i64 s, .int .i64 tick, .int .i64 rows] w fun e w' => e = .returned (.string (shownS bk (boardD bk rs s tick rows))) ∧ Below w.heap.size w w' := by
  have HOK : Hid (∀ r ∈ boardD bk rs s tick rows, RowOk bk r) := board_ok
  have hK40 : (boardD bk rs s tick rows).length ≤ 40 := by
    unfold boardD
    split
    · rename_i h
      have := pick_length rows.toNat (collect bk (newsTo bk tick rs) s tick bk.trips.length)
      omega
    · simp
  obtain ⟨sa, sc, ta, tc, rfl, hsa, hta⟩ := hat
  have HBK : Hid (BookAt w (.agg #[.slice sa bk.sts.length sc, .slice ta bk.trips.length tc]) bk) := ⟨sa, sc, ta, tc, rfl, hsa, hta⟩
  have HSA : Hid (StrsAt w sa bk.sts) := hsa
  have HTA : Hid (TripsAt w ta bk.trips) := hta
  have HRA : Hid (RepsAt w ra rs) := hra
  have hb0 := bx_below w (.cells #[.slice sa bk.sts.length sc, .slice ta bk.trips.length tc] 33)
  clear hsa hta hra
  go_enter Tryz.func19, Tryz.ntmps19
  go_wp2_with fail
  refine (specBoard_any _ bk _ _ rs s tick rows _ hn hm (by exact HBK.out.keep hb0) (by exact HRA.out.keep hb0)).mono ?_
  rintro e w1 ⟨v1, rfl, hown1, hb1⟩
  have B1 : Below (w.heap.size + 1) (w.alloc (.cells #[.slice sa bk.sts.length sc, .slice ta bk.trips.length tc] 33)) w1 := hb1.mono (by simp)
  have hB1 : Below w.heap.size w w1 := hb0.trans (B1.mono (by omega))
  have p0 : w1.cell? ⟨w.heap.size, 0, none⟩ = some (.slice sa bk.sts.length sc) := by rw [B1.cell (p := ⟨w.heap.size, 0, none⟩) (by simp)]; simp [go_sem]
  have p1 : w1.cell? ⟨w.heap.size, 1, none⟩ = some (.slice ta bk.trips.length tc) := by rw [B1.cell (p := ⟨w.heap.size, 1, none⟩) (by simp)]; simp [go_sem]
  obtain ⟨a1, c1, rfl, hrows⟩ := rows_at hown1
  have HRW : Hid (RowsAt w1 a1 (boardD bk rs s tick rows)) := hrows
  obtain ⟨K, hKe⟩ : ∃ K, boardD bk rs s tick rows = K := ⟨_, rfl⟩
  have HKE : Hid (boardD bk rs s tick rows = K) := hKe
  rw [hKe] at HRW HOK hK40 ⊢
  clear hb1 B1 hown1 hrows hKe
  go_wp2_with fail
  go_loopw [11, 21] (fun o i wr => ∃ k : Nat, k ≤ K.length ∧ i = .int .i64 k ∧ o = .string (shownS bk (K.take k)) ∧ Below w1.heap.size w1 wr) (fun _ i _ => K.length - (intOf i).toNat)
  case atStart => exact ⟨0, Nat.zero_le _, rfl, rfl, Below.refl _ _⟩
  case round =>
    obtain ⟨k, hk, rfl, rfl, hbel⟩ := hrel
    have hB : Below w.heap.size w wr := hB1.trans (hbel.mono hB1.size)
    by_cases hlt : k < K.length
    · obtain ⟨b, o, rfl, c0, c1', c2, c3, c4, c5⟩ := HRW.out.keep hbel k hlt
      have hok := HOK.out _ (List.getElem_mem hlt)
      have HT : Hid (shownS bk (K.take (k + 1)) = shownS bk (K.take k) ++ lineS bk K[k]) := shownS_take bk K k hlt
      have HSZ : Hid ((shownS bk (K.take k)).size ≤ 8000) := by have := shownS_size HOK.out k hk; unfold Hid; omega
      generalize K[k] = r at *
      obtain ⟨⟨j0, j1⟩, ⟨q0, q1⟩, ⟨d0, d1⟩, ⟨e0, e1⟩, ⟨t0, t1⟩, ⟨st0, st1⟩, nms, sts⟩ := hok
      obtain ⟨j, hj⟩ := Int.eq_ofNat_of_zero_le j0
      obtain ⟨q, hq⟩ := Int.eq_ofNat_of_zero_le q0
      obtain ⟨d, hd⟩ := Int.eq_ofNat_of_zero_le d0
      obtain ⟨x, hx⟩ := Int.eq_ofNat_of_zero_le e0
      obtain ⟨t, ht⟩ := Int.eq_ofNat_of_zero_le (show 0 ≤ r.track by omega)
      have hjl : j < bk.trips.length := by omega
      have hql : q < bk.sts.length := by omega
      obtain ⟨bt, ot, ca, cc, rfl, n0, _, _⟩ := HTA.out.keep hB j hjl
      obtain ⟨bs, os, rfl, m0⟩ := HSA.out.keep hB q hql
      have HH : Hid (headS bk r = decB (d : Int) ++ ⟨#[32]⟩ ++ bk.trips[j].name ++ ⟨#[32]⟩ ++ bk.sts[q] ++ ⟨#[32, 116, 114, 97, 99, 107, 32]⟩ ++ decB (t : Int)) := by
        unfold Hid headS nameOf toOf
        rw [hd, hj, hq, ht, Int.toNat_natCast, Int.toNat_natCast]
        rw [List.getElem?_eq_getElem hjl, List.getElem?_eq_getElem hql]
        rfl
      have HX : Hid (decB r.expect = decB (x : Int)) := by unfold Hid; rw [hx]
      have z0 := cell_keep hbel p0
      have z1 := cell_keep hbel p1
      rw [hj] at c0
      rw [hq] at c1'
      rw [hd] at c2
      rw [hx] at c3
      rw [ht] at c4
      have hj1 : (j : Int) < (bk.trips.length : Int) := by omega
      have hj0 : (0 : Int) ≤ (j : Int) := by omega
      have hq1 : (q : Int) < (bk.sts.length : Int) := by omega
      have hq0 : (0 : Int) ≤ (q : Int) := by omega
      have hd6 : d ≤ 1000000000000 := by omega
      have ht6 : t ≤ 1000000000000 := by omega
      have hx6 : x ≤ 1000000000000 := by omega
      have hki : (k : Int) < (K.length : Int) := by omega
      have hk0 : (0 : Int) ≤ (k : Int) := by omega
      obtain ⟨W, hW⟩ : ∃ W, wr.alloc (.cells #[.int .i64 j, .int .i64 q, .int .i64 d, .int .i64 x, .int .i64 t, .int .i64 r.state] 57) = W := ⟨_, rfl⟩
      have HWE : Hid (wr.alloc (.cells #[.int .i64 j, .int .i64 q, .int .i64 d, .int .i64 x, .int .i64 t, .int .i64 r.state] 57) = W) := hW
      have hsW : W.heap.size = wr.heap.size + 1 := by subst hW; simp
      have bW : Below wr.heap.size wr W := by subst hW; exact (Below.refl _ _).alloc (Nat.le_refl _) _
      obtain ⟨⟨g0, g1, g2, g3, g4, g5⟩, _⟩ := six_cells (show W.heap[wr.heap.size]? = some (.cells #[.int .i64 j, .int .i64 q, .int .i64 d, .int .i64 x, .int .i64 t, .int .i64 r.state] 57 (0, 0)) from by subst hW; exact heap_alloc_last wr _)
      have lt1 : wr.heap.size < W.heap.size := by omega
      have k0 := cell_keep bW z0
      have k1 := cell_keep bW z1
      have k2 := cell_keep bW n0
      have k3 := cell_keep bW m0
      have hbW : Below w1.heap.size w1 W := hbel.trans (bW.mono hbel.size)
      have HN20 : Hid (bk.trips[j].name.size ≤ 20) := by
        have e : nameOf bk r = bk.trips[j].name := by unfold nameOf; rw [hj, Int.toNat_natCast, List.getElem?_eq_getElem hjl]; rfl
        rw [e] at nms; exact nms
      have HS20 : Hid (bk.sts[q].size ≤ 20) := by
        have e : toOf bk r = bk.sts[q] := by unfold toOf; rw [hq, Int.toNat_natCast, List.getElem?_eq_getElem hql]; rfl
        rw [e] at sts; exact sts
      generalize bk.trips[j].name = nm at *
      generalize bk.sts[q] = sn at *
      have hD20 : (decB (d : Int)).size ≤ 20 := by have := decL_len d; simpa [decB, ByteArray.size] using this
      have hT20 : (decB (t : Int)).size ≤ 20 := by have := decL_len t; simpa [decB, ByteArray.size] using this
      have LB : Hid (∀ (k : Nat) (w : World), k ≤ 1000000000000 → Calls Tryz.prog 47 #[.int .i64 k] w fun e w' => e = .returned (.string (decB k)) ∧ Below w.heap.size w w') := fun k w hk => by unfold decB; rw [Int.toNat_natCast]; exact l3decimal_any k w hk
      obtain ⟨A, hAe⟩ : ∃ A : ByteArray, shownS bk (K.take k) = A := ⟨_, rfl⟩
      have hA8 : A.size ≤ 8000 := by rw [← hAe]; exact HSZ.out
      have hn20 := HN20.out
      have hs20 := HS20.out
      rw [hAe] at HT
      have E1 : ∀ w, (Op.stringOp .add (decB (d : Int)) ⟨#[32]⟩).run Tryz.prog w = .ok (.string (decB (d : Int) ++ ⟨#[32]⟩)) w := fun w => run_string_add_sum w _ _ (by show (decB (d : Int)).size + 1 ≤ _; omega)
      have E2 : ∀ w, (Op.stringOp .add (decB (d : Int) ++ ⟨#[32]⟩) nm).run Tryz.prog w = .ok (.string (decB (d : Int) ++ ⟨#[32]⟩ ++ nm)) w := fun w => run_string_add_sum w _ _ (by rw [ByteArray.size_append]; show (decB (d : Int)).size + 1 + nm.size ≤ _; omega)
      have E3 : ∀ w, (Op.stringOp .add (decB (d : Int) ++ ⟨#[32]⟩ ++ nm) ⟨#[32]⟩).run Tryz.prog w = .ok (.string (decB (d : Int) ++ ⟨#[32]⟩ ++ nm ++ ⟨#[32]⟩)) w := fun w => run_string_add_sum w _ _ (by simp only [ByteArray.size_append]; show (decB (d : Int)).size + 1 + nm.size + 1 ≤ _; omega)
      have E4 : ∀ w, (Op.stringOp .add (decB (d : Int) ++ ⟨#[32]⟩ ++ nm ++ ⟨#[32]⟩) sn).run Tryz.prog w = .ok (.string (decB (d : Int) ++ ⟨#[32]⟩ ++ nm ++ ⟨#[32]⟩ ++ sn)) w := fun w => run_string_add_sum w _ _ (by simp only [ByteArray.size_append]; show (decB (d : Int)).size + 1 + nm.size + 1 + sn.size ≤ _; omega)
      have E5 : ∀ w, (Op.stringOp .add (decB (d : Int) ++ ⟨#[32]⟩ ++ nm ++ ⟨#[32]⟩ ++ sn) ⟨#[32, 116, 114, 97, 99, 107, 32]⟩).run Tryz.prog w = .ok (.string (decB (d : Int) ++ ⟨#[32]⟩ ++ nm ++ ⟨#[32]⟩ ++ sn ++ ⟨#[32, 116, 114, 97, 99, 107, 32]⟩)) w := fun w => run_string_add_sum w _ _ (by simp only [ByteArray.size_append]; show (decB (d : Int)).size + 1 + nm.size + 1 + sn.size + 7 ≤ _; omega)
      have E6 : ∀ w, (Op.stringOp .add (decB (d : Int) ++ ⟨#[32]⟩ ++ nm ++ ⟨#[32]⟩ ++ sn ++ ⟨#[32, 116, 114, 97, 99, 107, 32]⟩) (decB (t : Int))).run Tryz.prog w = .ok (.string (decB (d : Int) ++ ⟨#[32]⟩ ++ nm ++ ⟨#[32]⟩ ++ sn ++ ⟨#[32, 116, 114, 97, 99, 107, 32]⟩ ++ decB (t : Int))) w := fun w => run_string_add_sum w _ _ (by simp only [ByteArray.size_append]; show (decB (d : Int)).size + 1 + nm.size + 1 + sn.size + 7 + (decB (t : Int)).size ≤ _; omega)
      have E7 : ∀ w, (Op.stringOp .add A (decB (d : Int) ++ ⟨#[32]⟩ ++ nm ++ ⟨#[32]⟩ ++ sn ++ ⟨#[32, 116, 114, 97, 99, 107, 32]⟩ ++ decB (t : Int))).run Tryz.prog w = .ok (.string (A ++ (decB (d : Int) ++ ⟨#[32]⟩ ++ nm ++ ⟨#[32]⟩ ++ sn ++ ⟨#[32, 116, 114, 97, 99, 107, 32]⟩ ++ decB (t : Int)))) w := fun w => run_string_add_sum w _ _ (by simp only [ByteArray.size_append]; show A.size + ((decB (d : Int)).size + 1 + nm.size + 1 + sn.size + 7 + (decB (t : Int)).size) ≤ _; omega)
      have HSTA : Hid (r.state = 1 ∨ r.state = 2 ∨ r.state = 3 ∨ r.state = 0) := by unfold Hid; omega
      clear hj hq hd hx ht j0 j1 q0 q1 d0 d1 e0 e1 t0 t1 st0 st1 n0 m0 z0 z1
      go_upto_region 5 with fail
      clear hW
      go_region_held3 (fun w' => w'.cell? ⟨wr.heap.size, 0, none⟩ = some (.int .i64 j) ∧ w'.cell? ⟨wr.heap.size, 1, none⟩ = some (.int .i64 q) ∧ w'.cell? ⟨wr.heap.size, 2, none⟩ = some (.int .i64 d) ∧ w'.cell? ⟨wr.heap.size, 4, none⟩ = some (.int .i64 t) ∧ w'.cell? ⟨w.heap.size, 0, none⟩ = some (.slice (some ⟨bs, os, none⟩) bk.sts.length sc) ∧ w'.cell? ⟨w.heap.size, 1, none⟩ = some (.slice (some ⟨bt, ot, none⟩) bk.trips.length tc) ∧ w'.cell? ⟨bt, ot + j * 2, none⟩ = some (.string nm) ∧ w'.cell? ⟨bs, os + q, none⟩ = some (.string sn))
        (first | exact ⟨cell_keep hb4 (cell_keep hb3 (by exact g0)), cell_keep hb4 (cell_keep hb3 (by exact g1)), cell_keep hb4 (cell_keep hb3 (by exact g2)), cell_keep hb4 (cell_keep hb3 (by exact g4)), cell_keep hb4 (cell_keep hb3 (by exact k0)), cell_keep hb4 (cell_keep hb3 (by exact k1)), cell_keep hb4 (cell_keep hb3 (by exact k2)), cell_keep hb4 (cell_keep hb3 (by exact k3))⟩ | exact ⟨cell_keep hb3 (by exact g0), cell_keep hb3 (by exact g1), cell_keep hb3 (by exact g2), cell_keep hb3 (by exact g4), cell_keep hb3 (by exact k0), cell_keep hb3 (by exact k1), cell_keep hb3 (by exact k2), cell_keep hb3 (by exact k3)⟩ | go_keep)
        (first | (go_at_call 47; refine (LB.out _ _ (by omega)).mono ?_; first | (have _ := hb3; rintro e w4 ⟨rfl, hb4⟩) | (rintro e w3 ⟨rfl, hb3⟩)))
      have B4 : Below W.heap.size W w4 := ((Below.refl _ _).drew.trans (by exact hb3)).trans (hb4.mono (by have := hb3.size; exact this))
      have y5 := cell_keep B4 g5
      have y3 := cell_keep B4 g3
      have hB4 : Below w1.heap.size w1 w4 := hbW.trans (B4.mono hbW.size)
      obtain ⟨A1, hA1⟩ : ∃ A1 : ByteArray, A ++ (decB (d : Int) ++ ⟨#[32]⟩ ++ nm ++ ⟨#[32]⟩ ++ sn ++ ⟨#[32, 116, 114, 97, 99, 107, 32]⟩ ++ decB (t : Int)) = A1 := ⟨_, rfl⟩
      have HA1 : Hid (A ++ (decB (d : Int) ++ ⟨#[32]⟩ ++ nm ++ ⟨#[32]⟩ ++ sn ++ ⟨#[32, 116, 114, 97, 99, 107, 32]⟩ ++ decB (t : Int)) = A1) := hA1
      have hA1s : A1.size ≤ 8100 := by rw [← hA1]; simp only [ByteArray.size_append]; show A.size + ((decB (d : Int)).size + 1 + nm.size + 1 + sn.size + 7 + (decB (t : Int)).size) ≤ 8100; omega
      have hX20 : (decB (x : Int)).size ≤ 20 := by have := decL_len x; simpa [decB, ByteArray.size] using this
      clear E1 E2 E3 E4 E5 E6 E7 hb3 hb4 g0 g1 g2 g3 g4 g5 k0 k1 k2 k3
      rcases HSTA.out with hst | hst | hst | hst
      · have y5' : w4.cell? ⟨wr.heap.size, 5, none⟩ = some (.int .i64 1) := by rw [hst] at y5; exact y5
        clear y5
        have E8 : ∀ w, (Op.stringOp .add ⟨#[32, 101, 120, 112, 101, 99, 116, 101, 100, 32]⟩ (decB (x : Int))).run Tryz.prog w = .ok (.string (⟨#[32, 101, 120, 112, 101, 99, 116, 101, 100, 32]⟩ ++ decB (x : Int))) w := fun w => run_string_add_sum w _ _ (by show 10 + _ ≤ _; omega)
        have E9 : ∀ w, (Op.stringOp .add A1 (⟨#[32, 101, 120, 112, 101, 99, 116, 101, 100, 32]⟩ ++ decB (x : Int))).run Tryz.prog w = .ok (.string (A1 ++ (⟨#[32, 101, 120, 112, 101, 99, 116, 101, 100, 32]⟩ ++ decB (x : Int)))) w := fun w => run_string_add_sum w _ _ (by simp only [ByteArray.size_append]; show A1.size + (10 + _) ≤ _; omega)
        have E10 : ∀ w, (Op.stringOp .add (A1 ++ (⟨#[32, 101, 120, 112, 101, 99, 116, 101, 100, 32]⟩ ++ decB (x : Int))) ⟨#[10]⟩).run Tryz.prog w = .ok (.string (A1 ++ (⟨#[32, 101, 120, 112, 101, 99, 116, 101, 100, 32]⟩ ++ decB (x : Int)) ++ ⟨#[10]⟩)) w := fun w => run_string_add_sum w _ _ (by simp only [ByteArray.size_append]; show A1.size + (10 + _) + 1 ≤ _; omega)
        have HTL : Hid (tailS r = (⟨#[32, 101, 120, 112, 101, 99, 116, 101, 100, 32]⟩ ++ decB (x : Int))) := by unfold Hid tailS; rw [if_pos hst, HX.out]
        clear hst
        go_wp2_with fail
        refine (LB.out _ _ (by omega)).mono ?_
        rintro e w5 ⟨rfl, hb5⟩
        have hB5 : Below w1.heap.size w1 w5 := hB4.trans (hb5.mono hB4.size)
        clear hb5
        go_wp2_with fail
        go_roundw
        case rel => exact ⟨k + 1, by omega, by go_num, by rw [HT.out]; unfold lineS; rw [HH.out, HTL.out, ← HA1.out]; simp only [ByteArray.append_assoc], hB5⟩
        case measure => simp [intOf]; omega
      · have y5' : w4.cell? ⟨wr.heap.size, 5, none⟩ = some (.int .i64 2) := by rw [hst] at y5; exact y5
        clear y5
        have E9 : ∀ w, (Op.stringOp .add A1 ⟨#[32, 104, 101, 114, 101]⟩).run Tryz.prog w = .ok (.string (A1 ++ ⟨#[32, 104, 101, 114, 101]⟩)) w := fun w => run_string_add_sum w _ _ (by show A1.size + 5 ≤ _; omega)
        have E10 : ∀ w, (Op.stringOp .add (A1 ++ ⟨#[32, 104, 101, 114, 101]⟩) ⟨#[10]⟩).run Tryz.prog w = .ok (.string (A1 ++ ⟨#[32, 104, 101, 114, 101]⟩ ++ ⟨#[10]⟩)) w := fun w => run_string_add_sum w _ _ (by simp only [ByteArray.size_append]; show A1.size + 5 + 1 ≤ _; omega)
        have HTL : Hid (tailS r = ⟨#[32, 104, 101, 114, 101]⟩) := by unfold Hid tailS; rw [if_neg (by omega), if_pos hst]
        clear hst
        go_wp2_with fail
        go_roundw
        case rel => exact ⟨k + 1, by omega, by go_num, by rw [HT.out]; unfold lineS; rw [HH.out, HTL.out, ← HA1.out]; simp only [ByteArray.append_assoc], hB4⟩
        case measure => simp [intOf]; omega
      · have y5' : w4.cell? ⟨wr.heap.size, 5, none⟩ = some (.int .i64 3) := by rw [hst] at y5; exact y5
        clear y5
        have E9 : ∀ w, (Op.stringOp .add A1 ⟨#[32, 99, 97, 108, 108, 101, 100, 32, 111, 102, 102]⟩).run Tryz.prog w = .ok (.string (A1 ++ ⟨#[32, 99, 97, 108, 108, 101, 100, 32, 111, 102, 102]⟩)) w := fun w => run_string_add_sum w _ _ (by show A1.size + 11 ≤ _; omega)
        have E10 : ∀ w, (Op.stringOp .add (A1 ++ ⟨#[32, 99, 97, 108, 108, 101, 100, 32, 111, 102, 102]⟩) ⟨#[10]⟩).run Tryz.prog w = .ok (.string (A1 ++ ⟨#[32, 99, 97, 108, 108, 101, 100, 32, 111, 102, 102]⟩ ++ ⟨#[10]⟩)) w := fun w => run_string_add_sum w _ _ (by simp only [ByteArray.size_append]; show A1.size + 11 + 1 ≤ _; omega)
        have HTL : Hid (tailS r = ⟨#[32, 99, 97, 108, 108, 101, 100, 32, 111, 102, 102]⟩) := by unfold Hid tailS; rw [if_neg (by omega), if_neg (by omega), if_pos hst]
        clear hst
        go_wp2_with fail
        go_roundw
        case rel => exact ⟨k + 1, by omega, by go_num, by rw [HT.out]; unfold lineS; rw [HH.out, HTL.out, ← HA1.out]; simp only [ByteArray.append_assoc], hB4⟩
        case measure => simp [intOf]; omega
      · have y5' : w4.cell? ⟨wr.heap.size, 5, none⟩ = some (.int .i64 0) := by rw [hst] at y5; exact y5
        clear y5
        have E10 : ∀ w, (Op.stringOp .add A1 ⟨#[10]⟩).run Tryz.prog w = .ok (.string (A1 ++ ⟨#[10]⟩)) w := fun w => run_string_add_sum w _ _ (by show A1.size + 1 ≤ _; omega)
        have HTL : Hid (tailS r = ⟨#[]⟩) := by unfold Hid tailS; rw [if_neg (by omega), if_neg (by omega), if_neg (by omega)]
        clear hst
        go_wp2_with fail
        go_roundw
        case rel => exact ⟨k + 1, by omega, by go_num, by rw [HT.out]; unfold lineS; rw [HH.out, HTL.out, ← HA1.out, show ∀ a : ByteArray, a ++ (⟨#[]⟩ : ByteArray) = a from fun a => ByteArray.append_empty]; simp only [ByteArray.append_assoc], hB4⟩
        case measure => simp [intOf]; omega
    · have hk' : k = K.length := by omega
      subst hk'
      rw [List.take_length]
      go_wp2_with fail
      go_ret
      exact ⟨ret_str (by rw [HKE.out]), hB⟩

end Go.Proofs.YtjioingdpfgadabGreatDoor
namespace Go.Proofs.YtjioingdpfgadabGreatDoor
open Go Go.RowKit

set_option maxRecDepth 100000 in
set_option maxHeartbeats 1000000 in
/-- copyCheck at a builder that has been used. -/
theorem copyCheck_used (b : Nat) (w : World) (h0 : w.cell? ⟨b, 0, none⟩ = some (.pointer (some ⟨b, 0, none⟩))) :
    Calls Tryz.prog 75 #[.pointer (some ⟨b, 0, none⟩)] w fun e w' => e = .returned (.tuple #[]) ∧ w' = w := by
  obtain ⟨j, hj, _⟩ := Option.map_eq_some_iff.1 Tryz.Builder_Extra_169.toX72.sizeBuilder
  go_enter Tryz.func75, Tryz.ntmps75
  go_wp2
  rw [Lib.run_neq_ptr_same w _ Tryz.underlying82 hj]
  go_wp2
  go_end0
  exact ⟨rfl, rfl⟩

set_option maxRecDepth 100000 in
set_option maxHeartbeats 1000000 in
/-- copyCheck at a fresh builder: it stores its own address. -/
theorem copyCheck_fresh (b : Nat) (w : World) (h0 : w.cell? ⟨b, 0, none⟩ = some (.pointer none)) (hsh : w.shape? b = some (85, 2)) (hfz : w.frozen? ⟨b, 0, none⟩ = false) :
    Calls Tryz.prog 75 #[.pointer (some ⟨b, 0, none⟩)] w fun e w' => e = .returned (.tuple #[]) ∧ w' = w.setCell ⟨b, 0, none⟩ (.pointer (some ⟨b, 0, none⟩)) := by
  obtain ⟨j, hj, hjs⟩ := Option.map_eq_some_iff.1 Tryz.Builder_Extra_169.toX72.sizeBuilder
  go_enter Tryz.func75, Tryz.ntmps75
  go_wp2
  rw [Lib.run_to_unsafe w ⟨b, 0, none⟩ Tryz.underlying82 Tryz.underlying165 hj (by rw [hjs]; decide) hsh (Nat.zero_lt_succ 1)]
  simp only [Result.andThen]
  rw [Oper.upon_value]
  go_wp2
  rw [run_callFunc_extern Tryz.func93 (by kernel_rfl) (by kernel_rfl) (by kernel_rfl) (e := Extern.AbiNoEscape.same) (by kernel_rfl)]
  rw [Lib.run_noEscape]
  simp only [Result.andThen]
  rw [Oper.upon_value]
  go_wp2
  rw [Lib.run_from_unsafe w ⟨b, 0, none⟩ Tryz.underlying165 Tryz.underlying82 hj hsh Tryz.Builder_Extra_169.toX72.liesBuilder]
  simp only [Result.andThen]
  rw [Oper.upon_value]
  go_wp2
  go_end0
  exact ⟨rfl, rfl⟩

theorem copyCheck_any (B b : Nat) (bs : List Value) (w : World) (h : Lib.IsBuilderF 85 5 B b bs w) :
    Calls Tryz.prog 75 #[.pointer (some ⟨b, 0, none⟩)] w fun e w' => e = .returned (.tuple #[]) ∧ (Lib.BuilderAtF 85 5 B b (.pointer (some ⟨b, 0, none⟩)) bs w' ∧ Below B w w' ∧ Lib.OthersKept 5 (some b) w w') := by
  rcases h with h | h
  · refine (copyCheck_fresh b w h.cell0 h.shape h.frozen0).mono ?_
    rintro e w' ⟨rfl, rfl⟩
    exact ⟨rfl, h.used _, (Below.refl B w).setCell (p := ⟨b, 0, none⟩) h.1 _, (Lib.OthersKept.refl _ _ w).setCell ⟨b, 0, none⟩ rfl _⟩
  · refine (copyCheck_used b w h.cell0).mono ?_
    rintro e w' ⟨rfl, rfl⟩
    exact ⟨rfl, h, Below.refl B _, Lib.OthersKept.refl _ _ _⟩

theorem uBytesB : Tryz.prog.underlying 83 = some (.slice 5) := by kernel_rfl

set_option maxRecDepth 100000 in
set_option maxHeartbeats 2000000 in
theorem writeString_any (B b : Nat) (bs : List Value) (s : ByteArray) (w : World) (h : Lib.IsBuilderF 85 5 B b bs w) (hlen : bs.length + s.size ≤ 140737488355328) (hBw : B ≤ w.heap.size) :
    Calls Tryz.prog 48 #[.pointer (some ⟨b, 0, none⟩), .string s] w fun e w' => e = .returned (.tuple #[.int .i64 s.size, .nilIface]) ∧ (Lib.BuilderAtF 85 5 B b (.pointer (some ⟨b, 0, none⟩)) (bs ++ Lib.strCells s) w' ∧ Below B w w' ∧ Lib.OthersKept 5 (some b) w w') := by
  obtain ⟨i0, hi, hz0, hz1, hz2⟩ := info_parts Tryz.Builder_Extra_169.infoByte
  go_enter Tryz.func48, Tryz.ntmps48
  go_wp2_with fail
  refine (copyCheck_any B b bs _ h).mono ?_
  rintro e w1 ⟨rfl, h1, hb1, hk1⟩
  obtain ⟨hB, v, hbk, hown, hne⟩ := h1
  have c0 : w1.cell? ⟨b, 0, none⟩ = some (.pointer (some ⟨b, 0, none⟩)) := by rw [Lib.cell_of_heap hbk]; rfl
  have c1 : w1.cell? ⟨b, 1, none⟩ = some v := by rw [Lib.cell_of_heap hbk]; rfl
  go_wp2_with (at_builtin; refine Lib.wpList_append_own_stringF _ rfl _ _ 83 9 rfl B 5 i0 uBytesB Tryz.underlying9 hi hz0 hz1 hz2 _ _ _ rfl hown s rfl ?c3 ?c4 ?c5 ?_)
  case c3 => unfold maxLen; omega
  case c4 => omega
  case c5 => have := hb1.size; omega
  intro v' w2 hown' hgrow _
  have hlt : b < w1.heap.size := by
    rcases Nat.lt_or_ge b w1.heap.size with h' | h'
    · exact h'
    · simp [Array.getElem?_eq_none h'] at hbk
  have hb2 : w2.heap[b]? = some (.cells #[.pointer (some ⟨b, 0, none⟩), v] 85 (0, 0)) := by
    rw [hgrow.block b hlt (fun e => hne e.symm)]
    exact hbk
  have d0 : w2.cell? ⟨b, 0, none⟩ = some (.pointer (some ⟨b, 0, none⟩)) := by rw [Lib.cell_of_heap hb2]; rfl
  have d1 : w2.cell? ⟨b, 1, none⟩ = some v := by rw [Lib.cell_of_heap hb2]; rfl
  have f1 : w2.frozen? ⟨b, 1, none⟩ = false := Lib.frozen_of_heap hb2 1
  obtain ⟨ao, n', cap, rfl⟩ : ∃ ao n' cap, v' = .slice ao n' cap := by
    rcases hown'.2 with ⟨hv, _⟩ | ⟨g, cap, cur, fz, hv, _⟩
    · exact ⟨_, _, _, hv⟩
    · exact ⟨_, _, _, hv⟩
  go_wp2
  go_ret2
  refine ⟨rfl, ?_, ?_, (hk1.grown hgrow (Lib.ownsRowF_kind hown)).setCell ⟨b, 1, none⟩ rfl _⟩
  · exact Lib.BuilderAtF.put (T := 85) (e := 5) hB hb2 (bs' := bs ++ Lib.strCells s) (by simpa [Lib.strCells_length] using hown') Tryz.Builder_Extra_169.neB5
  · exact (hb1.grown hgrow (by have := hb1.size; omega) (fun k hk => (hown.lt k hk).1)).setCell (p := ⟨b, 1, none⟩) hB _

end Go.Proofs.YtjioingdpfgadabGreatDoor
namespace Go.Proofs.YtjioingdpfgadabGreatDoor
open Go Go.RowKit Go.Deep

set_option maxRecDepth 100000 in
set_option maxHeartbeats 8000000 in
/-- The program's line, given what strconv.Itoa answers (Tab: what it asks of a world). -/
theorem lineOf_by (Tab : World → Prop) (v : Value) (bk : BookD) (r : RowD) (w : World) (hok : RowOk bk r) (hat : BookAt w v bk) (htab : Tab w) (hkeep : ∀ w w', Below w.heap.size w w' → Tab w → Tab w')
    (hit : ∀ (k : Nat) (w : World), k ≤ 1000000000000 → Tab w → Calls Tryz.prog 76 #[.int .i64 k] w fun e w' => e = .returned (.string (decB k)) ∧ Below w.heap.size w w') :
    Calls Tryz.prog 49 #[v, rowV r] w fun e w' => e = .returned (.string (lineS bk r)) ∧ Below w.heap.size w w' := by
  have HIT : Hid (∀ (k : Nat) (w : World), k ≤ 1000000000000 → Tab w → Calls Tryz.prog 76 #[.int .i64 k] w fun e w' => e = .returned (.string (decB k)) ∧ Below w.heap.size w w') := hit
  have HTB : Hid (∀ w w', Below w.heap.size w w' → Tab w → Tab w') := hkeep
  unfold rowV
  obtain ⟨⟨j0, j1⟩, ⟨q0, q1⟩, ⟨d0, d1⟩, ⟨e0, e1⟩, ⟨t0, t1⟩, ⟨st0, st1⟩, nms, sts⟩ := hok
  obtain ⟨j, hj⟩ := Int.eq_ofNat_of_zero_le j0
  obtain ⟨q, hq⟩ := Int.eq_ofNat_of_zero_le q0
  obtain ⟨d, hd⟩ := Int.eq_ofNat_of_zero_le d0
  obtain ⟨x, hx⟩ := Int.eq_ofNat_of_zero_le e0
  obtain ⟨t, ht⟩ := Int.eq_ofNat_of_zero_le (show 0 ≤ r.track by omega)
  have hjl : j < bk.trips.length := by omega
  have hql : q < bk.sts.length := by omega
  obtain ⟨sa, sc, ta, tc, rfl, hsa, hta⟩ := hat
  obtain ⟨bt, ot, ca, cc, rfl, n0, _, _⟩ := hta j hjl
  obtain ⟨bs, os, rfl, m0⟩ := hsa q hql
  have HH : Hid (headS bk r = decB (d : Int) ++ ⟨#[32]⟩ ++ bk.trips[j].name ++ ⟨#[32]⟩ ++ bk.sts[q] ++ ⟨#[32, 116, 114, 97, 99, 107, 32]⟩ ++ decB (t : Int)) := by
    unfold Hid headS nameOf toOf
    rw [hd, hj, hq, ht, Int.toNat_natCast, Int.toNat_natCast]
    rw [List.getElem?_eq_getElem hjl, List.getElem?_eq_getElem hql]
    rfl
  have HX : Hid (decB r.expect = decB (x : Int)) := by unfold Hid; rw [hx]
  have hn20 : bk.trips[j].name.size ≤ 20 := by
    have e : nameOf bk r = bk.trips[j].name := by unfold nameOf; rw [hj, Int.toNat_natCast, List.getElem?_eq_getElem hjl]; rfl
    rw [e] at nms; exact nms
  have hs20 : bk.sts[q].size ≤ 20 := by
    have e : toOf bk r = bk.sts[q] := by unfold toOf; rw [hq, Int.toNat_natCast, List.getElem?_eq_getElem hql]; rfl
    rw [e] at sts; exact sts
  have HSTA : Hid (r.state = 1 ∨ r.state = 2 ∨ r.state = 3 ∨ r.state = 0) := by unfold Hid; omega
  have hd6 : d ≤ 1000000000000 := by omega
  have ht6 : t ≤ 1000000000000 := by omega
  have hx6 : x ≤ 1000000000000 := by omega
  rw [hj, hq, hd, hx, ht]
  obtain ⟨W, hW⟩ : ∃ W, (w.alloc (.cells #[.slice (some ⟨bs, os, none⟩) bk.sts.length sc, .slice (some ⟨bt, ot, none⟩) bk.trips.length tc] 33)).alloc (.cells #[.int .i64 j, .int .i64 q, .int .i64 d, .int .i64 x, .int .i64 t, .int .i64 r.state] 57) = W := ⟨_, rfl⟩
  have bW : Below w.heap.size w W := by subst hW; exact ((Below.refl _ _).alloc (Nat.le_refl _) _).alloc (by simp) _
  have HTW : Hid (Tab W) := hkeep _ _ bW htab
  have HTD : Hid (Tab W.drew) := hkeep _ _ (Below.refl _ _).drew HTW.out
  have p0 : W.cell? ⟨w.heap.size, 0, none⟩ = some (.slice (some ⟨bs, os, none⟩) bk.sts.length sc) := by subst hW; simp [go_sem]
  have p1 : W.cell? ⟨w.heap.size, 1, none⟩ = some (.slice (some ⟨bt, ot, none⟩) bk.trips.length tc) := by subst hW; simp [go_sem]
  have g0 : W.cell? ⟨w.heap.size + 1, 0, none⟩ = some (.int .i64 j) := by subst hW; simp [go_sem]
  have g1 : W.cell? ⟨w.heap.size + 1, 1, none⟩ = some (.int .i64 q) := by subst hW; simp [go_sem]
  have g2 : W.cell? ⟨w.heap.size + 1, 2, none⟩ = some (.int .i64 d) := by subst hW; simp [go_sem]
  have g3 : W.cell? ⟨w.heap.size + 1, 3, none⟩ = some (.int .i64 x) := by subst hW; simp [go_sem]
  have g4 : W.cell? ⟨w.heap.size + 1, 4, none⟩ = some (.int .i64 t) := by subst hW; simp [go_sem]
  have g5 : W.cell? ⟨w.heap.size + 1, 5, none⟩ = some (.int .i64 r.state) := by subst hW; simp [go_sem]
  have k2 := cell_keep bW n0
  have k3 := cell_keep bW m0
  have hj1 : (j : Int) < (bk.trips.length : Int) := by omega
  have hj0 : (0 : Int) ≤ (j : Int) := by omega
  have hq1 : (q : Int) < (bk.sts.length : Int) := by omega
  have hq0 : (0 : Int) ≤ (q : Int) := by omega
  have hD20 : (decB (d : Int)).size ≤ 20 := by have := decL_len d; simpa [decB, ByteArray.size] using this
  have hT20 : (decB (t : Int)).size ≤ 20 := by have := decL_len t; simpa [decB, ByteArray.size] using this
  have hX20 : (decB (x : Int)).size ≤ 20 := by have := decL_len x; simpa [decB, ByteArray.size] using this
  generalize bk.trips[j].name = nm at *
  generalize bk.sts[q] = sn at *
  have E1 : ∀ w, (Op.stringOp .add (decB (d : Int)) ⟨#[32]⟩).run Tryz.prog w = .ok (.string (decB (d : Int) ++ ⟨#[32]⟩)) w := fun w => run_string_add_sum w _ _ (by show (decB (d : Int)).size + 1 ≤ _; omega)
  have E2 : ∀ w, (Op.stringOp .add (decB (d : Int) ++ ⟨#[32]⟩) nm).run Tryz.prog w = .ok (.string (decB (d : Int) ++ ⟨#[32]⟩ ++ nm)) w := fun w => run_string_add_sum w _ _ (by rw [ByteArray.size_append]; show (decB (d : Int)).size + 1 + nm.size ≤ _; omega)
  have E3 : ∀ w, (Op.stringOp .add (decB (d : Int) ++ ⟨#[32]⟩ ++ nm) ⟨#[32]⟩).run Tryz.prog w = .ok (.string (decB (d : Int) ++ ⟨#[32]⟩ ++ nm ++ ⟨#[32]⟩)) w := fun w => run_string_add_sum w _ _ (by simp only [ByteArray.size_append]; show (decB (d : Int)).size + 1 + nm.size + 1 ≤ _; omega)
  have E4 : ∀ w, (Op.stringOp .add (decB (d : Int) ++ ⟨#[32]⟩ ++ nm ++ ⟨#[32]⟩) sn).run Tryz.prog w = .ok (.string (decB (d : Int) ++ ⟨#[32]⟩ ++ nm ++ ⟨#[32]⟩ ++ sn)) w := fun w => run_string_add_sum w _ _ (by simp only [ByteArray.size_append]; show (decB (d : Int)).size + 1 + nm.size + 1 + sn.size ≤ _; omega)
  have E5 : ∀ w, (Op.stringOp .add (decB (d : Int) ++ ⟨#[32]⟩ ++ nm ++ ⟨#[32]⟩ ++ sn) ⟨#[32, 116, 114, 97, 99, 107, 32]⟩).run Tryz.prog w = .ok (.string (decB (d : Int) ++ ⟨#[32]⟩ ++ nm ++ ⟨#[32]⟩ ++ sn ++ ⟨#[32, 116, 114, 97, 99, 107, 32]⟩)) w := fun w => run_string_add_sum w _ _ (by simp only [ByteArray.size_append]; show (decB (d : Int)).size + 1 + nm.size + 1 + sn.size + 7 ≤ _; omega)
  have E6 : ∀ w, (Op.stringOp .add (decB (d : Int) ++ ⟨#[32]⟩ ++ nm ++ ⟨#[32]⟩ ++ sn ++ ⟨#[32, 116, 114, 97, 99, 107, 32]⟩) (decB (t : Int))).run Tryz.prog w = .ok (.string (decB (d : Int) ++ ⟨#[32]⟩ ++ nm ++ ⟨#[32]⟩ ++ sn ++ ⟨#[32, 116, 114, 97, 99, 107, 32]⟩ ++ decB (t : Int))) w := fun w => run_string_add_sum w _ _ (by simp only [ByteArray.size_append]; show (decB (d : Int)).size + 1 + nm.size + 1 + sn.size + 7 + (decB (t : Int)).size ≤ _; omega)
  clear hj hq hd hx ht j0 j1 q0 q1 d0 d1 e0 e1 t0 t1 st0 st1 n0 m0 hsa hta htab hkeep hit nms sts
  go_enter Tryz.func49, Tryz.ntmps49
  go_upto_region 1 with fail
  clear hW
  go_region_held3 (fun w' => w'.cell? ⟨w.heap.size + 1, 0, none⟩ = some (.int .i64 j) ∧ w'.cell? ⟨w.heap.size + 1, 1, none⟩ = some (.int .i64 q) ∧ w'.cell? ⟨w.heap.size + 1, 2, none⟩ = some (.int .i64 d) ∧ w'.cell? ⟨w.heap.size + 1, 4, none⟩ = some (.int .i64 t) ∧ w'.cell? ⟨w.heap.size, 0, none⟩ = some (.slice (some ⟨bs, os, none⟩) bk.sts.length sc) ∧ w'.cell? ⟨w.heap.size, 1, none⟩ = some (.slice (some ⟨bt, ot, none⟩) bk.trips.length tc) ∧ w'.cell? ⟨bt, ot + j * 2, none⟩ = some (.string nm) ∧ w'.cell? ⟨bs, os + q, none⟩ = some (.string sn))
    (first | exact ⟨cell_keep hb4 (cell_keep hb3 (by exact g0)), cell_keep hb4 (cell_keep hb3 (by exact g1)), cell_keep hb4 (cell_keep hb3 (by exact g2)), cell_keep hb4 (cell_keep hb3 (by exact g4)), cell_keep hb4 (cell_keep hb3 (by exact p0)), cell_keep hb4 (cell_keep hb3 (by exact p1)), cell_keep hb4 (cell_keep hb3 (by exact k2)), cell_keep hb4 (cell_keep hb3 (by exact k3))⟩ | exact ⟨cell_keep hb3 (by exact g0), cell_keep hb3 (by exact g1), cell_keep hb3 (by exact g2), cell_keep hb3 (by exact g4), cell_keep hb3 (by exact p0), cell_keep hb3 (by exact p1), cell_keep hb3 (by exact k2), cell_keep hb3 (by exact k3)⟩ | go_keep)
    (first | (go_at_call 76; first | (have _ := hb3; refine (HIT.out _ _ (by omega) (by exact HTB.out _ _ hb3 (by exact HTD.out))).mono ?_; rintro e w4 ⟨rfl, hb4⟩) | (refine (HIT.out _ _ (by omega) (by exact HTD.out)).mono ?_; rintro e w3 ⟨rfl, hb3⟩)))
  have B4 : Below W.heap.size W w4 := ((Below.refl _ _).drew.trans (by exact hb3)).trans (hb4.mono (by have := hb3.size; exact this))
  have y5 := cell_keep B4 g5
  have y3 := cell_keep B4 g3
  have hB4 : Below w.heap.size w w4 := bW.trans (B4.mono bW.size)
  have HT4 : Hid (Tab w4) := HTB.out _ _ B4 HTW.out
  obtain ⟨A1, hA1⟩ : ∃ A1 : ByteArray, decB (d : Int) ++ ⟨#[32]⟩ ++ nm ++ ⟨#[32]⟩ ++ sn ++ ⟨#[32, 116, 114, 97, 99, 107, 32]⟩ ++ decB (t : Int) = A1 := ⟨_, rfl⟩
  have hA1s : A1.size ≤ 8100 := by rw [← hA1]; simp only [ByteArray.size_append]; show (decB (d : Int)).size + 1 + nm.size + 1 + sn.size + 7 + (decB (t : Int)).size ≤ 8100; omega
  rw [hA1] at HH
  clear E1 E2 E3 E4 E5 E6 hb3 hb4 g0 g1 g2 g3 g4 g5 p0 p1 k2 k3
  rcases HSTA.out with hst | hst | hst | hst
  · have y5' : w4.cell? ⟨w.heap.size + 1, 5, none⟩ = some (.int .i64 1) := by rw [hst] at y5; exact y5
    clear y5
    have E8 : ∀ w, (Op.stringOp .add ⟨#[32, 101, 120, 112, 101, 99, 116, 101, 100, 32]⟩ (decB (x : Int))).run Tryz.prog w = .ok (.string (⟨#[32, 101, 120, 112, 101, 99, 116, 101, 100, 32]⟩ ++ decB (x : Int))) w := fun w => run_string_add_sum w _ _ (by show 10 + _ ≤ _; omega)
    have E9 : ∀ w, (Op.stringOp .add A1 (⟨#[32, 101, 120, 112, 101, 99, 116, 101, 100, 32]⟩ ++ decB (x : Int))).run Tryz.prog w = .ok (.string (A1 ++ (⟨#[32, 101, 120, 112, 101, 99, 116, 101, 100, 32]⟩ ++ decB (x : Int)))) w := fun w => run_string_add_sum w _ _ (by simp only [ByteArray.size_append]; show A1.size + (10 + _) ≤ _; omega)
    have E10 : ∀ w, (Op.stringOp .add (A1 ++ (⟨#[32, 101, 120, 112, 101, 99, 116, 101, 100, 32]⟩ ++ decB (x : Int))) ⟨#[10]⟩).run Tryz.prog w = .ok (.string (A1 ++ (⟨#[32, 101, 120, 112, 101, 99, 116, 101, 100, 32]⟩ ++ decB (x : Int)) ++ ⟨#[10]⟩)) w := fun w => run_string_add_sum w _ _ (by simp only [ByteArray.size_append]; show A1.size + (10 + _) + 1 ≤ _; omega)
    have HTL : Hid (tailS r = (⟨#[32, 101, 120, 112, 101, 99, 116, 101, 100, 32]⟩ ++ decB (x : Int))) := by unfold Hid tailS; rw [if_pos hst, HX.out]
    clear hst
    go_wp2_with fail
    refine (HIT.out _ _ (by omega) (by exact HT4.out)).mono ?_
    rintro e w5 ⟨rfl, hb5⟩
    have hB5 : Below w.heap.size w w5 := hB4.trans (hb5.mono hB4.size)
    clear hb5
    go_wp2_with fail
    go_ret
    exact ⟨ret_str (by unfold lineS; rw [HH.out, HTL.out]), hB5⟩
  · have y5' : w4.cell? ⟨w.heap.size + 1, 5, none⟩ = some (.int .i64 2) := by rw [hst] at y5; exact y5
    clear y5
    have E9 : ∀ w, (Op.stringOp .add A1 ⟨#[32, 104, 101, 114, 101]⟩).run Tryz.prog w = .ok (.string (A1 ++ ⟨#[32, 104, 101, 114, 101]⟩)) w := fun w => run_string_add_sum w _ _ (by show A1.size + 5 ≤ _; omega)
    have E10 : ∀ w, (Op.stringOp .add (A1 ++ ⟨#[32, 104, 101, 114, 101]⟩) ⟨#[10]⟩).run Tryz.prog w = .ok (.string (A1 ++ ⟨#[32, 104, 101, 114, 101]⟩ ++ ⟨#[10]⟩)) w := fun w => run_string_add_sum w _ _ (by simp only [ByteArray.size_append]; show A1.size + 5 + 1 ≤ _; omega)
    have HTL : Hid (tailS r = ⟨#[32, 104, 101, 114, 101]⟩) := by unfold Hid tailS; rw [if_neg (by omega), if_pos hst]
    clear hst
    go_wp2_with fail
    go_ret
    exact ⟨ret_str (by unfold lineS; rw [HH.out, HTL.out]), hB4⟩
  · have y5' : w4.cell? ⟨w.heap.size + 1, 5, none⟩ = some (.int .i64 3) := by rw [hst] at y5; exact y5
    clear y5
    have E9 : ∀ w, (Op.stringOp .add A1 ⟨#[32, 99, 97, 108, 108, 101, 100, 32, 111, 102, 102]⟩).run Tryz.prog w = .ok (.string (A1 ++ ⟨#[32, 99, 97, 108, 108, 101, 100, 32, 111, 102, 102]⟩)) w := fun w => run_string_add_sum w _ _ (by show A1.size + 11 ≤ _; omega)
    have E10 : ∀ w, (Op.stringOp .add (A1 ++ ⟨#[32, 99, 97, 108, 108, 101, 100, 32, 111, 102, 102]⟩) ⟨#[10]⟩).run Tryz.prog w = .ok (.string (A1 ++ ⟨#[32, 99, 97, 108, 108, 101, 100, 32, 111, 102, 102]⟩ ++ ⟨#[10]⟩)) w := fun w => run_string_add_sum w _ _ (by simp only [ByteArray.size_append]; show A1.size + 11 + 1 ≤ _; omega)
    have HTL : Hid (tailS r = ⟨#[32, 99, 97, 108, 108, 101, 100, 32, 111, 102, 102]⟩) := by unfold Hid tailS; rw [if_neg (by omega), if_neg (by omega), if_pos hst]
    clear hst
    go_wp2_with fail
    go_ret
    exact ⟨ret_str (by unfold lineS; rw [HH.out, HTL.out]), hB4⟩
  · have y5' : w4.cell? ⟨w.heap.size + 1, 5, none⟩ = some (.int .i64 0) := by rw [hst] at y5; exact y5
    clear y5
    have E10 : ∀ w, (Op.stringOp .add A1 ⟨#[10]⟩).run Tryz.prog w = .ok (.string (A1 ++ ⟨#[10]⟩)) w := fun w => run_string_add_sum w _ _ (by show A1.size + 1 ≤ _; omega)
    have HTL : Hid (tailS r = ⟨#[]⟩) := by unfold Hid tailS; rw [if_neg (by omega), if_neg (by omega), if_neg (by omega)]
    clear hst
    go_wp2_with fail
    go_ret
    exact ⟨ret_str (by unfold lineS; rw [HH.out, HTL.out, show ∀ a : ByteArray, a ++ (⟨#[]⟩ : ByteArray) = a from fun a => ByteArray.append_empty]), hB4⟩

end Go.Proofs.YtjioingdpfgadabGreatDoor
namespace Go.Proofs.YtjioingdpfgadabGreatDoor
open Go Go.RowKit Go.Deep

theorem builder_below {T e : TypeId} {B b : Nat} {bs : List Value} {w w' : World} (h : Lib.IsBuilderF T e B b bs w) (hb : Below w.heap.size w w') : Lib.IsBuilderF T e B b bs w' := by
  have go : ∀ p, Lib.BuilderAtF T e B b p bs w → Lib.BuilderAtF T e B b p bs w' := fun p h => by
    obtain ⟨hB, v, hbk, hown, hne⟩ := h
    exact ⟨hB, v, by rw [hb.block _ (Array.getElem?_eq_some_iff.1 hbk).1]; exact hbk, hown.kept (below_grown (r := b) hb) (Or.inr hne), hne⟩
  rcases h with h | h
  · exact Or.inl (go _ h)
  · exact Or.inr (go _ h)
theorem owns_others {w w' : World} {B b : Nat} {e t : TypeId} {s n : Nat} {v : Value} {xs : List Value} (h : w.ownsRow B t s v n xs) (hk : Lib.OthersKept e (some b) w w') (hte : t ≠ e) (hb : v.ownBlock ≠ some b) : w'.ownsRow B t s v n xs := by
  refine ⟨h.1, ?_⟩
  rcases h.2 with h0 | ⟨g, cap, cur, rfl, h1, hh, r⟩
  · exact Or.inl h0
  · exact Or.inr ⟨g, cap, cur, rfl, h1, hk g _ hh (fun e => hb (by rw [← e]; rfl)) (fun c fz e2 => hte (by cases e2; rfl)), r⟩
theorem strCells_append (a b : ByteArray) : Lib.strCells (a ++ b) = Lib.strCells a ++ Lib.strCells b := by
  simp [Lib.strCells, ByteArray.data_append]

set_option maxRecDepth 100000 in
set_option maxHeartbeats 8000000 in
theorem implShown_any (v : Value) (bk : BookD) (ra : Option Addr) (rc : Nat) (rs : List RepD) (s tick rows : Int) (w : World) (hn : bookSize bk ≤ 1048576) (hm : rs.length ≤ 1048576) (hwf : ∀ t ∈ bk.trips, ∀ i (h : i < t.calls.length), (Lit.int .i64 t.calls[i].st).wf = true) (hsw : (Lit.int .i64 s).wf = true) (hat : BookAt w v bk) (hra : RepsAt w ra rs) (hev : ErrVars w) (htab : TabW w) :
    Calls Tryz.prog 20 #[v, .slice ra rs.length rc, .int .i64 s, .int .i64 tick, .int .i64 rows] w fun e w' => e = .returned (.string (shownS bk (boardD bk rs s tick rows))) ∧ Below w.heap.size w w' := by
  have HOK : Hid (∀ r ∈ boardD bk rs s tick rows, RowOk bk r) := board_ok
  have hK40 : (boardD bk rs s tick rows).length ≤ 40 := by
    unfold boardD
    split
    · rename_i h
      have := pick_length rows.toNat (collect bk (newsTo bk tick rs) s tick bk.trips.length)
      omega
    · simp
  obtain ⟨sa, sc, ta, tc, rfl, hsa, hta⟩ := hat
  have HBK : Hid (BookAt w (.agg #[.slice sa bk.sts.length sc, .slice ta bk.trips.length tc]) bk) := ⟨sa, sc, ta, tc, rfl, hsa, hta⟩
  have HRA : Hid (RepsAt w ra rs) := hra
  have HWF : Hid (∀ t ∈ bk.trips, ∀ i (h : i < t.calls.length), (Lit.int .i64 t.calls[i].st).wf = true) := hwf
  have HTB : Hid (TabW w) := htab
  clear hsa hta hra hwf htab
  obtain ⟨W1, hW1⟩ : ∃ W1, w.alloc (.cells #[.slice sa bk.sts.length sc, .slice ta bk.trips.length tc] 33) = W1 := ⟨_, rfl⟩
  have bW1 : Below w.heap.size w W1 := by subst hW1; exact (Below.refl _ _).alloc (Nat.le_refl _) _
  have p0 : W1.cell? ⟨w.heap.size, 0, none⟩ = some (.slice sa bk.sts.length sc) := by subst hW1; simp [go_sem]
  have p1 : W1.cell? ⟨w.heap.size, 1, none⟩ = some (.slice ta bk.trips.length tc) := by subst hW1; simp [go_sem]
  obtain ⟨W2, hW2⟩ : ∃ W2, W1.alloc (.cells #[.pointer none, .slice none 0 0] 85) = W2 := ⟨_, rfl⟩
  have bW2 : Below W1.heap.size W1 W2 := by subst hW2; exact (Below.refl _ _).alloc (Nat.le_refl _) _
  have HBD : Hid (Lib.IsBuilderF 85 5 W1.heap.size W1.heap.size [] W2) := by subst hW2; exact Lib.IsBuilderF.of (Lib.fresh_isBuilder _ _ W1)
  have B2 : Below w.heap.size w W2 := bW1.trans (bW2.mono bW1.size)
  have q0 := cell_keep bW2 p0
  have q1 := cell_keep bW2 p1
  have hs2 : W1.heap.size < W2.heap.size := by subst hW2; simp
  go_enter Tryz.func20, Tryz.ntmps20
  go_wp2_with fail
  refine (implBoard_any _ bk _ _ rs s tick rows _ hn hm HWF.out hsw (by exact HBK.out.keep B2) (by exact HRA.out.keep B2) (by exact hev.keep B2)).mono ?_
  rintro e w3 ⟨v3, rfl, hown3, hb3⟩
  have hb23 : Below W1.heap.size W1 w3 := bW2.trans (hb3.mono bW2.size)
  obtain ⟨a3, c3, rfl, _⟩ := rows_at hown3
  obtain ⟨K, hKe⟩ : ∃ K, boardD bk rs s tick rows = K := ⟨_, rfl⟩
  have HKE : Hid (boardD bk rs s tick rows = K) := hKe
  rw [hKe] at HOK hK40 hown3 ⊢
  have HOW3 : Hid (w3.ownsRow W2.heap.size 57 6 (.slice a3 K.length c3) K.length (sixes K)) := hown3
  have HBD3 : Hid (Lib.IsBuilderF 85 5 W1.heap.size W1.heap.size (Lib.strCells (shownS bk (K.take 0))) w3) := builder_below HBD.out hb3
  have z3 := hb3.size
  have P0 : Hid (∀ w', Below W1.heap.size W1 w' → w'.cell? ⟨w.heap.size, 0, none⟩ = some (.slice sa bk.sts.length sc) ∧ w'.cell? ⟨w.heap.size, 1, none⟩ = some (.slice ta bk.trips.length tc)) := fun w' hb => ⟨cell_keep hb p0, cell_keep hb p1⟩
  clear hown3 hKe hW1 hW2 p0 p1 HBD hb3 q0 q1
  go_wp2_with fail
  go_loopw [21] (fun i wr => ∃ k : Nat, k ≤ K.length ∧ i = .int .i64 k ∧ Hid (wr.ownsRow W2.heap.size 57 6 (.slice a3 K.length c3) K.length (sixes K)) ∧ Hid (Lib.IsBuilderF 85 5 W1.heap.size W1.heap.size (Lib.strCells (shownS bk (K.take k))) wr) ∧ Below W1.heap.size W1 wr) (fun i _ => K.length - (intOf i).toNat)
  case atStart => exact ⟨0, Nat.zero_le _, rfl, HOW3, HBD3, hb23⟩
  case round =>
    obtain ⟨k, hk, rfl, HOW, HBL, hbel⟩ := hrel
    have hB : Below w.heap.size w wr := bW1.trans (hbel.mono bW1.size)
    have hzz := hbel.size
    clear HOW3 HBD3 hb23 z3
    by_cases hlt : k < K.length
    · obtain ⟨a3', c3', e3, hrows⟩ := rows_at HOW.out
      simp only [Value.slice.injEq] at e3
      obtain ⟨rfl, _, rfl⟩ := e3
      obtain ⟨b, o, rfl, c0, c1, c2, c4, c5, c6⟩ := hrows k hlt
      have hok := HOK.out _ (List.getElem_mem hlt)
      have HT : Hid (shownS bk (K.take (k + 1)) = shownS bk (K.take k) ++ lineS bk K[k]) := shownS_take bk K k hlt
      have HS1 : Hid ((shownS bk (K.take (k + 1))).size ≤ 140737488355328) := by have := shownS_size HOK.out (k + 1) hlt; unfold Hid; omega
      obtain ⟨f0, f1⟩ := P0.out wr hbel
      have hki : (k : Int) < (K.length : Int) := by omega
      have hk0 : (0 : Int) ≤ (k : Int) := by omega
      have z0 := cell_lt c0
      have z1 := cell_lt f0
      have HLN : Hid (∀ w', Below w.heap.size w w' → Calls Tryz.prog 49 #[.agg #[.slice sa bk.sts.length sc, .slice ta bk.trips.length tc], .agg #[.int .i64 K[k].trip, .int .i64 K[k].to, .int .i64 K[k].due, .int .i64 K[k].expect, .int .i64 K[k].track, .int .i64 K[k].state]] w' fun e w'' => e = .returned (.string (lineS bk K[k])) ∧ Below w'.heap.size w' w'') := fun w' hb' => lineOf_by TabW _ bk K[k] w' hok (HBK.out.keep hb') (tabW_keep _ _ hb' HTB.out) tabW_keep (fun k w hk ht => itoa_ok.calls k w hk ht)
      generalize K[k] = r at *
      clear hrows hok
      obtain ⟨W5, hW5⟩ : ∃ W5, wr.alloc (.cells #[.int .i64 r.trip, .int .i64 r.to, .int .i64 r.due, .int .i64 r.expect, .int .i64 r.track, .int .i64 r.state] 57) = W5 := ⟨_, rfl⟩
      have bW5 : Below wr.heap.size wr W5 := by subst hW5; exact (Below.refl _ _).alloc (Nat.le_refl _) _
      obtain ⟨⟨g0, g1, g2, g3, g4, g5⟩, _⟩ := six_cells (show W5.heap[wr.heap.size]? = some (.cells #[.int .i64 r.trip, .int .i64 r.to, .int .i64 r.due, .int .i64 r.expect, .int .i64 r.track, .int .i64 r.state] 57 (0, 0)) from by subst hW5; exact heap_alloc_last wr _)
      have d0 := cell_keep bW5 f0
      have d1 := cell_keep bW5 f1
      have B5 : Below w.heap.size w W5 := hB.trans (bW5.mono hB.size)
      clear f0 f1
      go_wp2_with fail
      refine (HLN.out _ (by exact B5)).mono ?_
      rintro e w6 ⟨rfl, hb6⟩
      have b6 : Below wr.heap.size wr w6 := bW5.trans (hb6.mono bW5.size)
      have HBL6 : Hid (Lib.IsBuilderF 85 5 W1.heap.size W1.heap.size (Lib.strCells (shownS bk (K.take k))) w6) := builder_below HBL.out b6
      have hbel6 : Below W1.heap.size W1 w6 := hbel.trans (b6.mono hzz)
      have HOW6 : Hid (w6.ownsRow W2.heap.size 57 6 (.slice (some ⟨b, o, none⟩) K.length c3) K.length (sixes K)) := owns_below HOW.out b6 (owns_lt HOW.out)
      have HLE : Hid ((Lib.strCells (shownS bk (K.take k))).length + (lineS bk r).size ≤ 140737488355328) := by
        have h1 := HS1.out
        rw [HT.out, ByteArray.size_append] at h1
        unfold Hid
        rw [Lib.strCells_length]; exact h1
      have hz6 : W1.heap.size ≤ w6.heap.size := hbel6.size
      clear c0 c1 c2 c4 c5 c6 g0 g1 g2 g3 g4 g5 d0 d1 hW5 bW5 hb6 HBL HOW HLN
      generalize hlr : lineS bk r = L at *
      go_wp2_with fail
      refine (writeString_any W1.heap.size W1.heap.size _ L _ HBL6.out HLE.out hz6).mono ?_
      rintro e w7 ⟨rfl, hbd7, hb7, hok7⟩
      have HBL7 : Hid (Lib.IsBuilderF 85 5 W1.heap.size W1.heap.size (Lib.strCells (shownS bk (K.take (k + 1)))) w7) := by
        unfold Hid; rw [HT.out, strCells_append]; exact Or.inr hbd7
      have hbel7 : Below W1.heap.size W1 w7 := hbel6.trans hb7
      have HOW7 : Hid (w7.ownsRow W2.heap.size 57 6 (.slice (some ⟨b, o, none⟩) K.length c3) K.length (sixes K)) := owns_others HOW6.out hok7 (by decide) (fun e => by
        have := (HOW6.out.lt _ e).1
        omega)
      clear hbd7 hok7 hb7 HBL6 HOW6
      go_wp2_with fail
      go_roundw
      case rel => exact ⟨k + 1, by omega, by go_num, HOW7, HBL7, hbel7⟩
      case measure => simp [intOf]; omega
    · have hk' : k = K.length := by omega
      subst hk'
      rw [List.take_length] at HBL
      go_wp2_with fail
      refine (Tryz.Builder_String_any_k W1.heap.size W1.heap.size (shownS bk K).data.toList _ (by exact HBL.out) hzz).mono ?_
      rintro e w8 ⟨rfl, _, hb8, _⟩
      have B8 : Below w.heap.size w w8 := hB.trans (hb8.mono bW1.size)
      have HST : Hid ((⟨(shownS bk K).data.toList.toArray⟩ : ByteArray) = shownS bk K) := by unfold Hid; rw [Array.toArray_toList]
      rw [HST.out]
      go_wp2_with fail
      go_ret
      exact ⟨ret_str (by rw [HKE.out]), B8⟩

end Go.Proofs.YtjioingdpfgadabGreatDoor
