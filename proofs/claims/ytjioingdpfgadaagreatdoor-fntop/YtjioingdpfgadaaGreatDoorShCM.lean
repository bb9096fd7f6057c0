import Derived.Test.YtjioingdpfgadaaGreatDoorProg
import Derived.Test.YtjioingdpfgadaaGreatDoorShAM
import Derived.Deep.RegionHeld3
namespace Go.Proofs.YtjioingdpfgadaaGreatDoor
open Go Go.RowKit Go.Deep

set_option maxRecDepth 100000 in
set_option maxHeartbeats 8000000 in
theorem specShown_any (v : Value) (bk : BookD) (ra : Option Addr) (rc : Nat) (rs : List RepD) (s tick rows : Int) (w : World) (hn : bookSize bk ≤ 1048576) (hm : rs.length ≤ 1048576) (hat : BookAt w v bk) (hra : RepsAt w ra rs) :
    Calls Tryz.prog 15 #[v, .slice ra rs.length rc, .int .i64 s, .int .i64 tick, .int .i64 rows] w fun e w' => e = .returned (.string (shownS bk (boardD bk rs s tick rows))) ∧ Below w.heap.size w w' := by
  have HOK : Hid (∀ r ∈ boardD bk rs s tick rows, RowOk bk r) := board_ok
  have hK40 : (boardD bk rs s tick rows).length ≤ 40 := by
    unfold boardD
    split
    · rename_i h
      have := pick_length rows.toNat (collect bk (newsTo bk tick rs) s tick bk.trips.length)
      omega
    · simp
  obtain ⟨sa, sc, ta, tc, rfl, hsa, hta⟩ := hat
  have HBK : Hid (BookAt w (.agg #[.slice sa bk.sts.length sc, .slice ta bk.trips.length tc]) bk) := ⟨sa, sc, ta, tc, rfl, hsa, hta⟩
  have HSA : Hid (StrsAt w sa bk.sts) := hsa
  have HTA : Hid (TripsAt w ta bk.trips) := hta
  have HRA : Hid (RepsAt w ra rs) := hra
  have hb0 := bx_below w (.cells #[.slice sa bk.sts.length sc, .slice ta bk.trips.length tc] 26)
  clear hsa hta hra
  go_enter Tryz.func15, Tryz.ntmps15
  go_wp2_with fail
  refine (specBoard_any _ bk _ _ rs s tick rows _ hn hm (by exact HBK.out.keep hb0) (by exact HRA.out.keep hb0)).mono ?_
  rintro e w1 ⟨v1, rfl, hown1, hb1⟩
  have B1 : Below (w.heap.size + 1) (w.alloc (.cells #[.slice sa bk.sts.length sc, .slice ta bk.trips.length tc] 26)) w1 := hb1.mono (by simp)
  have hB1 : Below w.heap.size w w1 := hb0.trans (B1.mono (by omega))
  have p0 : w1.cell? ⟨w.heap.size, 0, none⟩ = some (.slice sa bk.sts.length sc) := by rw [B1.cell (p := ⟨w.heap.size, 0, none⟩) (by simp)]; simp [go_sem]
  have p1 : w1.cell? ⟨w.heap.size, 1, none⟩ = some (.slice ta bk.trips.length tc) := by rw [B1.cell (p := ⟨w.heap.size, 1, none⟩) (by simp)]; simp [go_sem]
  obtain ⟨a1, c1, rfl, hrows⟩ := rows_at hown1
  have HRW : Hid (RowsAt w1 a1 (boardD bk rs s tick rows)) := hrows
  obtain ⟨K, hKe⟩ : ∃ K, boardD bk rs s tick rows = K := ⟨_, rfl⟩
  have HKE : Hid (boardD bk rs s tick rows = K) := hKe
  rw [hKe] at HRW HOK hK40 ⊢
  clear hb1 B1 hown1 hrows hKe
  go_wp2_with fail
  go_loopw [11, 21] (fun o i wr => ∃ k : Nat, k ≤ K.length ∧ i = .int .i64 k ∧ o = .string (shownS bk (K.take k)) ∧ Below w1.heap.size w1 wr) (fun _ i _ => K.length - (intOf i).toNat)
  case atStart => exact ⟨0, Nat.zero_le _, rfl, rfl, Below.refl _ _⟩
  case round =>
    obtain ⟨k, hk, rfl, rfl, hbel⟩ := hrel
    have hB : Below w.heap.size w wr := hB1.trans (hbel.mono hB1.size)
    by_cases hlt : k < K.length
    · obtain ⟨b, o, rfl, c0, c1', c2, c3, c4, c5⟩ := HRW.out.keep hbel k hlt
      have hok := HOK.out _ (List.getElem_mem hlt)
      have HT : Hid (shownS bk (K.take (k + 1)) = shownS bk (K.take k) ++ lineS bk K[k]) := shownS_take bk K k hlt
      have HSZ : Hid ((shownS bk (K.take k)).size ≤ 8000) := by have := shownS_size HOK.out k hk; unfold Hid; omega
      generalize K[k] = r at *
      obtain ⟨⟨j0, j1⟩, ⟨q0, q1⟩, ⟨d0, d1⟩, ⟨e0, e1⟩, ⟨t0, t1⟩, ⟨st0, st1⟩, nms, sts⟩ := hok
      obtain ⟨j, hj⟩ := Int.eq_ofNat_of_zero_le j0
      obtain ⟨q, hq⟩ := Int.eq_ofNat_of_zero_le q0
      obtain ⟨d, hd⟩ := Int.eq_ofNat_of_zero_le d0
      obtain ⟨x, hx⟩ := Int.eq_ofNat_of_zero_le e0
      obtain ⟨t, ht⟩ := Int.eq_ofNat_of_zero_le (show 0 ≤ r.track by omega)
      have hjl : j < bk.trips.length := by omega
      have hql : q < bk.sts.length := by omega
      obtain ⟨bt, ot, ca, cc, rfl, n0, _, _⟩ := HTA.out.keep hB j hjl
      obtain ⟨bs, os, rfl, m0⟩ := HSA.out.keep hB q hql
      have HH : Hid (headS bk r = decB (d : Int) ++ ⟨#[32]⟩ ++ bk.trips[j].name ++ ⟨#[32]⟩ ++ bk.sts[q] ++ ⟨#[32, 116, 114, 97, 99, 107, 32]⟩ ++ decB (t : Int)) := by
        unfold Hid headS nameOf toOf
        rw [hd, hj, hq, ht, Int.toNat_natCast, Int.toNat_natCast]
        rw [List.getElem?_eq_getElem hjl, List.getElem?_eq_getElem hql]
        rfl
      have HX : Hid (decB r.expect = decB (x : Int)) := by unfold Hid; rw [hx]
      have z0 := cell_keep hbel p0
      have z1 := cell_keep hbel p1
      rw [hj] at c0
      rw [hq] at c1'
      rw [hd] at c2
      rw [hx] at c3
      rw [ht] at c4
      have hj1 : (j : Int) < (bk.trips.length : Int) := by omega
      have hj0 : (0 : Int) ≤ (j : Int) := by omega
      have hq1 : (q : Int) < (bk.sts.length : Int) := by omega
      have hq0 : (0 : Int) ≤ (q : Int) := by omega
      have hd6 : d ≤ 1000000000000 := by omega
      have ht6 : t ≤ 1000000000000 := by omega
      have hx6 : x ≤ 1000000000000 := by omega
      have hki : (k : Int) < (K.length : Int) := by omega
      have hk0 : (0 : Int) ≤ (k : Int) := by omega
      obtain ⟨W, hW⟩ : ∃ W, wr.alloc (.cells #[.int .i64 j, .int .i64 q, .int .i64 d, .int .i64 x, .int .i64 t, .int .i64 r.state] 52) = W := ⟨_, rfl⟩
      have HWE : Hid (wr.alloc (.cells #[.int .i64 j, .int .i64 q, .int .i64 d, .int .i64 x, .int .i64 t, .int .i64 r.state] 52) = W) := hW
      have hsW : W.heap.size = wr.heap.size + 1 := by subst hW; simp
      have bW : Below wr.heap.size wr W := by subst hW; exact (Below.refl _ _).alloc (Nat.le_refl _) _
      obtain ⟨⟨g0, g1, g2, g3, g4, g5⟩, _⟩ := six_cells (show W.heap[wr.heap.size]? = some (.cells #[.int .i64 j, .int .i64 q, .int .i64 d, .int .i64 x, .int .i64 t, .int .i64 r.state] 52 (0, 0)) from by subst hW; exact heap_alloc_last wr _)
      have lt1 : wr.heap.size < W.heap.size := by omega
      have k0 := cell_keep bW z0
      have k1 := cell_keep bW z1
      have k2 := cell_keep bW n0
      have k3 := cell_keep bW m0
      have hbW : Below w1.heap.size w1 W := hbel.trans (bW.mono hbel.size)
      have HN20 : Hid (bk.trips[j].name.size ≤ 20) := by
        have e : nameOf bk r = bk.trips[j].name := by unfold nameOf; rw [hj, Int.toNat_natCast, List.getElem?_eq_getElem hjl]; rfl
        rw [e] at nms; exact nms
      have HS20 : Hid (bk.sts[q].size ≤ 20) := by
        have e : toOf bk r = bk.sts[q] := by unfold toOf; rw [hq, Int.toNat_natCast, List.getElem?_eq_getElem hql]; rfl
        rw [e] at sts; exact sts
      generalize bk.trips[j].name = nm at *
      generalize bk.sts[q] = sn at *
      have hD20 : (decB (d : Int)).size ≤ 20 := by have := decL_len d; simpa [decB, ByteArray.size] using this
      have hT20 : (decB (t : Int)).size ≤ 20 := by have := decL_len t; simpa [decB, ByteArray.size] using this
      have LB : Hid (∀ (k : Nat) (w : World), k ≤ 1000000000000 → Calls Tryz.prog 41 #[.int .i64 k] w fun e w' => e = .returned (.string (decB k)) ∧ Below w.heap.size w w') := fun k w hk => by unfold decB; rw [Int.toNat_natCast]; exact l3decimal_any k w hk
      obtain ⟨A, hAe⟩ : ∃ A : ByteArray, shownS bk (K.take k) = A := ⟨_, rfl⟩
      have hA8 : A.size ≤ 8000 := by rw [← hAe]; exact HSZ.out
      have hn20 := HN20.out
      have hs20 := HS20.out
      rw [hAe] at HT
      have E1 : ∀ w, (Op.stringOp .add (decB (d : Int)) ⟨#[32]⟩).run Tryz.prog w = .ok (.string (decB (d : Int) ++ ⟨#[32]⟩)) w := fun w => run_string_add_sum w _ _ (by show (decB (d : Int)).size + 1 ≤ _; omega)
      have E2 : ∀ w, (Op.stringOp .add (decB (d : Int) ++ ⟨#[32]⟩) nm).run Tryz.prog w = .ok (.string (decB (d : Int) ++ ⟨#[32]⟩ ++ nm)) w := fun w => run_string_add_sum w _ _ (by rw [ByteArray.size_append]; show (decB (d : Int)).size + 1 + nm.size ≤ _; omega)
      have E3 : ∀ w, (Op.stringOp .add (decB (d : Int) ++ ⟨#[32]⟩ ++ nm) ⟨#[32]⟩).run Tryz.prog w = .ok (.string (decB (d : Int) ++ ⟨#[32]⟩ ++ nm ++ ⟨#[32]⟩)) w := fun w => run_string_add_sum w _ _ (by simp only [ByteArray.size_append]; show (decB (d : Int)).size + 1 + nm.size + 1 ≤ _; omega)
      have E4 : ∀ w, (Op.stringOp .add (decB (d : Int) ++ ⟨#[32]⟩ ++ nm ++ ⟨#[32]⟩) sn).run Tryz.prog w = .ok (.string (decB (d : Int) ++ ⟨#[32]⟩ ++ nm ++ ⟨#[32]⟩ ++ sn)) w := fun w => run_string_add_sum w _ _ (by simp only [ByteArray.size_append]; show (decB (d : Int)).size + 1 + nm.size + 1 + sn.size ≤ _; omega)
      have E5 : ∀ w, (Op.stringOp .add (decB (d : Int) ++ ⟨#[32]⟩ ++ nm ++ ⟨#[32]⟩ ++ sn) ⟨#[32, 116, 114, 97, 99, 107, 32]⟩).run Tryz.prog w = .ok (.string (decB (d : Int) ++ ⟨#[32]⟩ ++ nm ++ ⟨#[32]⟩ ++ sn ++ ⟨#[32, 116, 114, 97, 99, 107, 32]⟩)) w := fun w => run_string_add_sum w _ _ (by simp only [ByteArray.size_append]; show (decB (d : Int)).size + 1 + nm.size + 1 + sn.size + 7 ≤ _; omega)
      have E6 : ∀ w, (Op.stringOp .add (decB (d : Int) ++ ⟨#[32]⟩ ++ nm ++ ⟨#[32]⟩ ++ sn ++ ⟨#[32, 116, 114, 97, 99, 107, 32]⟩) (decB (t : Int))).run Tryz.prog w = .ok (.string (decB (d : Int) ++ ⟨#[32]⟩ ++ nm ++ ⟨#[32]⟩ ++ sn ++ ⟨#[32, 116, 114, 97, 99, 107, 32]⟩ ++ decB (t : Int))) w := fun w => run_string_add_sum w _ _ (by simp only [ByteArray.size_append]; show (decB (d : Int)).size + 1 + nm.size + 1 + sn.size + 7 + (decB (t : Int)).size ≤ _; omega)
      have E7 : ∀ w, (Op.stringOp .add A (decB (d : Int) ++ ⟨#[32]⟩ ++ nm ++ ⟨#[32]⟩ ++ sn ++ ⟨#[32, 116, 114, 97, 99, 107, 32]⟩ ++ decB (t : Int))).run Tryz.prog w = .ok (.string (A ++ (decB (d : Int) ++ ⟨#[32]⟩ ++ nm ++ ⟨#[32]⟩ ++ sn ++ ⟨#[32, 116, 114, 97, 99, 107, 32]⟩ ++ decB (t : Int)))) w := fun w => run_string_add_sum w _ _ (by simp only [ByteArray.size_append]; show A.size + ((decB (d : Int)).size + 1 + nm.size + 1 + sn.size + 7 + (decB (t : Int)).size) ≤ _; omega)
      have HSTA : Hid (r.state = 1 ∨ r.state = 2 ∨ r.state = 3 ∨ r.state = 0) := by unfold Hid; omega
      clear hj hq hd hx ht j0 j1 q0 q1 d0 d1 e0 e1 t0 t1 st0 st1 n0 m0 z0 z1
      go_upto_region 5 with fail
      clear hW
      go_region_held3 (fun w' => w'.cell? ⟨wr.heap.size, 0, none⟩ = some (.int .i64 j) ∧ w'.cell? ⟨wr.heap.size, 1, none⟩ = some (.int .i64 q) ∧ w'.cell? ⟨wr.heap.size, 2, none⟩ = some (.int .i64 d) ∧ w'.cell? ⟨wr.heap.size, 4, none⟩ = some (.int .i64 t) ∧ w'.cell? ⟨w.heap.size, 0, none⟩ = some (.slice (some ⟨bs, os, none⟩) bk.sts.length sc) ∧ w'.cell? ⟨w.heap.size, 1, none⟩ = some (.slice (some ⟨bt, ot, none⟩) bk.trips.length tc) ∧ w'.cell? ⟨bt, ot + j * 2, none⟩ = some (.string nm) ∧ w'.cell? ⟨bs, os + q, none⟩ = some (.string sn))
        (first | exact ⟨cell_keep hb4 (cell_keep hb3 (by exact g0)), cell_keep hb4 (cell_keep hb3 (by exact g1)), cell_keep hb4 (cell_keep hb3 (by exact g2)), cell_keep hb4 (cell_keep hb3 (by exact g4)), cell_keep hb4 (cell_keep hb3 (by exact k0)), cell_keep hb4 (cell_keep hb3 (by exact k1)), cell_keep hb4 (cell_keep hb3 (by exact k2)), cell_keep hb4 (cell_keep hb3 (by exact k3))⟩ | exact ⟨cell_keep hb3 (by exact g0), cell_keep hb3 (by exact g1), cell_keep hb3 (by exact g2), cell_keep hb3 (by exact g4), cell_keep hb3 (by exact k0), cell_keep hb3 (by exact k1), cell_keep hb3 (by exact k2), cell_keep hb3 (by exact k3)⟩ | go_keep)
        (first | (go_at_call 41; refine (LB.out _ _ (by omega)).mono ?_; first | (have _ := hb3; rintro e w4 ⟨rfl, hb4⟩) | (rintro e w3 ⟨rfl, hb3⟩)))
      have B4 : Below W.heap.size W w4 := ((Below.refl _ _).drew.trans (by exact hb3)).trans (hb4.mono (by have := hb3.size; exact this))
      have y5 := cell_keep B4 g5
      have y3 := cell_keep B4 g3
      have hB4 : Below w1.heap.size w1 w4 := hbW.trans (B4.mono hbW.size)
      obtain ⟨A1, hA1⟩ : ∃ A1 : ByteArray, A ++ (decB (d : Int) ++ ⟨#[32]⟩ ++ nm ++ ⟨#[32]⟩ ++ sn ++ ⟨#[32, 116, 114, 97, 99, 107, 32]⟩ ++ decB (t : Int)) = A1 := ⟨_, rfl⟩
      have HA1 : Hid (A ++ (decB (d : Int) ++ ⟨#[32]⟩ ++ nm ++ ⟨#[32]⟩ ++ sn ++ ⟨#[32, 116, 114, 97, 99, 107, 32]⟩ ++ decB (t : Int)) = A1) := hA1
      have hA1s : A1.size ≤ 8100 := by rw [← hA1]; simp only [ByteArray.size_append]; show A.size + ((decB (d : Int)).size + 1 + nm.size + 1 + sn.size + 7 + (decB (t : Int)).size) ≤ 8100; omega
      have hX20 : (decB (x : Int)).size ≤ 20 := by have := decL_len x; simpa [decB, ByteArray.size] using this
      clear E1 E2 E3 E4 E5 E6 E7 hb3 hb4 g0 g1 g2 g3 g4 g5 k0 k1 k2 k3
      rcases HSTA.out with hst | hst | hst | hst
      · have y5' : w4.cell? ⟨wr.heap.size, 5, none⟩ = some (.int .i64 1) := by rw [hst] at y5; exact y5
        clear y5
        have E8 : ∀ w, (Op.stringOp .add ⟨#[32, 101, 120, 112, 101, 99, 116, 101, 100, 32]⟩ (decB (x : Int))).run Tryz.prog w = .ok (.string (⟨#[32, 101, 120, 112, 101, 99, 116, 101, 100, 32]⟩ ++ decB (x : Int))) w := fun w => run_string_add_sum w _ _ (by show 10 + _ ≤ _; omega)
        have E9 : ∀ w, (Op.stringOp .add A1 (⟨#[32, 101, 120, 112, 101, 99, 116, 101, 100, 32]⟩ ++ decB (x : Int))).run Tryz.prog w = .ok (.string (A1 ++ (⟨#[32, 101, 120, 112, 101, 99, 116, 101, 100, 32]⟩ ++ decB (x : Int)))) w := fun w => run_string_add_sum w _ _ (by simp only [ByteArray.size_append]; show A1.size + (10 + _) ≤ _; omega)
        have E10 : ∀ w, (Op.stringOp .add (A1 ++ (⟨#[32, 101, 120, 112, 101, 99, 116, 101, 100, 32]⟩ ++ decB (x : Int))) ⟨#[10]⟩).run Tryz.prog w = .ok (.string (A1 ++ (⟨#[32, 101, 120, 112, 101, 99, 116, 101, 100, 32]⟩ ++ decB (x : Int)) ++ ⟨#[10]⟩)) w := fun w => run_string_add_sum w _ _ (by simp only [ByteArray.size_append]; show A1.size + (10 + _) + 1 ≤ _; omega)
        have HTL : Hid (tailS r = (⟨#[32, 101, 120, 112, 101, 99, 116, 101, 100, 32]⟩ ++ decB (x : Int))) := by unfold Hid tailS; rw [if_pos hst, HX.out]
        clear hst
        go_wp2_with fail
        refine (LB.out _ _ (by omega)).mono ?_
        rintro e w5 ⟨rfl, hb5⟩
        have hB5 : Below w1.heap.size w1 w5 := hB4.trans (hb5.mono hB4.size)
        clear hb5
        go_wp2_with fail
        go_roundw
        case rel => exact ⟨k + 1, by omega, by go_num, by rw [HT.out]; unfold lineS; rw [HH.out, HTL.out, ← HA1.out]; simp only [ByteArray.append_assoc], hB5⟩
        case measure => simp [intOf]; omega
      · have y5' : w4.cell? ⟨wr.heap.size, 5, none⟩ = some (.int .i64 2) := by rw [hst] at y5; exact y5
        clear y5
        have E9 : ∀ w, (Op.stringOp .add A1 ⟨#[32, 104, 101, 114, 101]⟩).run Tryz.prog w = .ok (.string (A1 ++ ⟨#[32, 104, 101, 114, 101]⟩)) w := fun w => run_string_add_sum w _ _ (by show A1.size + 5 ≤ _; omega)
        have E10 : ∀ w, (Op.stringOp .add (A1 ++ ⟨#[32, 104, 101, 114, 101]⟩) ⟨#[10]⟩).run Tryz.prog w = .ok (.string (A1 ++ ⟨#[32, 104, 101, 114, 101]⟩ ++ ⟨#[10]⟩)) w := fun w => run_string_add_sum w _ _ (by simp only [ByteArray.size_append]; show A1.size + 5 + 1 ≤ _; omega)
        have HTL : Hid (tailS r = ⟨#[32, 104, 101, 114, 101]⟩) := by unfold Hid tailS; rw [if_neg (by omega), if_pos hst]
        clear hst
        go_wp2_with fail
        go_roundw
        case rel => exact ⟨k + 1, by omega, by go_num, by rw [HT.out]; unfold lineS; rw [HH.out, HTL.out, ← HA1.out]; simp only [ByteArray.append_assoc], hB4⟩
        case measure => simp [intOf]; omega
      · have y5' : w4.cell? ⟨wr.heap.size, 5, none⟩ = some (.int .i64 3) := by rw [hst] at y5; exact y5
        clear y5
        have E9 : ∀ w, (Op.stringOp .add A1 ⟨#[32, 99, 97, 108, 108, 101, 100, 32, 111, 102, 102]⟩).run Tryz.prog w = .ok (.string (A1 ++ ⟨#[32, 99, 97, 108, 108, 101, 100, 32, 111, 102, 102]⟩)) w := fun w => run_string_add_sum w _ _ (by show A1.size + 11 ≤ _; omega)
        have E10 : ∀ w, (Op.stringOp .add (A1 ++ ⟨#[32, 99, 97, 108, 108, 101, 100, 32, 111, 102, 102]⟩) ⟨#[10]⟩).run Tryz.prog w = .ok (.string (A1 ++ ⟨#[32, 99, 97, 108, 108, 101, 100, 32, 111, 102, 102]⟩ ++ ⟨#[10]⟩)) w := fun w => run_string_add_sum w _ _ (by simp only [ByteArray.size_append]; show A1.size + 11 + 1 ≤ _; omega)
        have HTL : Hid (tailS r = ⟨#[32, 99, 97, 108, 108, 101, 100, 32, 111, 102, 102]⟩) := by unfold Hid tailS; rw [if_neg (by omega), if_neg (by omega), if_pos hst]
        clear hst
        go_wp2_with fail
        go_roundw
        case rel => exact ⟨k + 1, by omega, by go_num, by rw [HT.out]; unfold lineS; rw [HH.out, HTL.out, ← HA1.out]; simp only [ByteArray.append_assoc], hB4⟩
        case measure => simp [intOf]; omega
      · have y5' : w4.cell? ⟨wr.heap.size, 5, none⟩ = some (.int .i64 0) := by rw [hst] at y5; exact y5
        clear y5
        have E10 : ∀ w, (Op.stringOp .add A1 ⟨#[10]⟩).run Tryz.prog w = .ok (.string (A1 ++ ⟨#[10]⟩)) w := fun w => run_string_add_sum w _ _ (by show A1.size + 1 ≤ _; omega)
        have HTL : Hid (tailS r = ⟨#[]⟩) := by unfold Hid tailS; rw [if_neg (by omega), if_neg (by omega), if_neg (by omega)]
        clear hst
        go_wp2_with fail
        go_roundw
        case rel => exact ⟨k + 1, by omega, by go_num, by rw [HT.out]; unfold lineS; rw [HH.out, HTL.out, ← HA1.out, show ∀ a : ByteArray, a ++ (⟨#[]⟩ : ByteArray) = a from fun a => ByteArray.append_empty]; simp only [ByteArray.append_assoc], hB4⟩
        case measure => simp [intOf]; omega
    · have hk' : k = K.length := by omega
      subst hk'
      rw [List.take_length]
      go_wp2_with fail
      go_ret
      exact ⟨ret_str (by rw [HKE.out]), hB⟩

end Go.Proofs.YtjioingdpfgadaaGreatDoor
