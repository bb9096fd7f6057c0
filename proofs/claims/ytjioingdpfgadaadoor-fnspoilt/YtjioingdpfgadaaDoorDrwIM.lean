import Derived.Test.YtjioingdpfgadaaDoorDrwHM
import Derived.Deep.RegionHeld3
namespace Go.Proofs.YtjioingdpfgadaaDoor
open Go Go.RowKit Go.Deep

/-- What drawing reports leaves. -/
def RepsDrawn (C : Nat) (ca : Option Addr) (bs : List Int) (cap m : Nat) (bk : BookD) (s0 : Rd) (w : World) (e : Ending) (w' : World) : Prop := ∃ (rs : List RepD) (s' : Rd) (v' : Value), reportsF bs bk s0 = (rs, s') ∧ e = .returned v' ∧ w'.ownsRow w.heap.size 45 5 v' rs.length (fives rs) ∧ CurAt w' C ca bs cap s' (m + 10000) ∧ KeepC C w.heap.size w w'
theorem reps_drawn_no {C : Nat} {ca : Option Addr} {bs : List Int} {cap m : Nat} {bk : BookD} {s0 : Rd} {w w' : World} {e : Ending} (h : CurAt w C ca bs cap s0 m) (hf : ¬ (faultD bk).1 = 0 ∨ bk.trips.length = 0) (he : e = .returned (.slice none 0 0)) (hb : Below w.heap.size w w') : RepsDrawn C ca bs cap m bk s0 w e w' :=
  ⟨[], s0, _, reportsF_no bs bk s0 hf, he, World.ownsRow_nil _ _ _ _, (h.keep hb).more (by omega), KeepC.below hb⟩

set_option maxRecDepth 100000 in
set_option maxHeartbeats 4000000 in
theorem reports_no (C : Nat) (ca : Option Addr) (bs : List Int) (cap m : Nat) (s0 : Rd) (v : Value) (bk : BookD) (w : World) (hn : bookSize bk ≤ 1048576) (hat : BookAt w v bk) (h : CurAt w C ca bs cap s0 m) (hf : ¬ (faultD bk).1 = 0 ∨ bk.trips.length = 0) :
    Calls Tryd.prog 42 #[.pointer (some ⟨C, 0, none⟩), v] w fun e w' => RepsDrawn C ca bs cap m bk s0 w e w' := by
  obtain ⟨sa, sc, ta, tc, rfl, hsa, hta⟩ := hat
  have HBK : Hid (BookAt w (.agg #[.slice sa bk.sts.length sc, .slice ta bk.trips.length tc]) bk) := ⟨sa, sc, ta, tc, rfl, hsa, hta⟩
  have hb0 := bx_below w (.cells #[.slice sa bk.sts.length sc, .slice ta bk.trips.length tc] 26)
  have HC : Hid (CurAt w C ca bs cap s0 m) := h
  have HF : Hid (¬ (faultD bk).1 = 0 ∨ bk.trips.length = 0) := hf
  clear h hf hsa hta
  by_cases h0 : (faultD bk).1 = 0
  · have hl : (bk.trips.length : Int) = 0 := by have := HF.out; omega
    have hF1 : ((faultD bk).1 == 0) = true := by simp [h0]
    clear h0
    go_enter Tryd.func42, Tryd.ntmps42
    go_wp2_with fail
    refine (l1ok_yes _ bk _ hn (by exact HBK.out.keep hb0) hF1).mono ?_
    rintro e w1 ⟨rfl, hb1⟩
    have hB1 : Below w.heap.size w w1 := hb0.trans (hb1.mono (by simp))
    have q1 : w1.cell? ⟨w.heap.size, 1, none⟩ = some (.slice ta bk.trips.length tc) := cell_keep hb1 (by simp [go_sem])
    go_wp2_with fail
    go_ret
    exact reps_drawn_no HC.out HF.out rfl hB1
  · have hF1 : ((faultD bk).1 == 0) = false := by simp [h0]
    clear h0
    go_enter Tryd.func42, Tryd.ntmps42
    go_wp2_with fail
    refine (l1ok_no _ bk _ hn (by exact HBK.out.keep hb0) hF1).mono ?_
    rintro e w1 ⟨rfl, hb1⟩
    have hB1 : Below w.heap.size w w1 := hb0.trans (hb1.mono (by simp))
    go_wp2_with fail
    go_ret
    exact reps_drawn_no HC.out HF.out rfl hB1

set_option maxRecDepth 100000 in
set_option maxHeartbeats 8000000 in
theorem reports_yes (C : Nat) (ca : Option Addr) (bs : List Int) (cap m B : Nat) (s0 : Rd) (sv tv : Value) (bk : BookD) (w : World) (hm : m ≤ 1000000) (hn : bookSize bk ≤ 1000) (hown : BookOwn B w (.agg #[sv, tv]) bk) (hC : C < B) (hB : B ≤ w.heap.size) (hcode : ∀ b o, ca = some ⟨b, o, none⟩ → b < w.heap.size) (h : CurAt w C ca bs cap s0 m) (hf : (faultD bk).1 = 0) (hpos : 0 < bk.trips.length) :
    Calls Tryd.prog 42 #[.pointer (some ⟨C, 0, none⟩), .agg #[sv, tv]] w fun e w' => RepsDrawn C ca bs cap m bk s0 w e w' := by
  have hF1 : ((faultD bk).1 == 0) = true := by simp [hf]
  obtain ⟨sa, sc, ta, tc, ev, _, _⟩ := hown.at
  simp only [Value.agg.injEq, Array.mk.injEq, List.cons.injEq, and_true] at ev
  obtain ⟨rfl, rfl⟩ := ev
  have HCD : Hid (∀ b o, ca = some ⟨b, o, none⟩ → b < w.heap.size) := hcode
  have HFT : Hid ((faultD bk).1 = 0) := hf
  obtain ⟨W0, hW0⟩ : ∃ W0, w.alloc (.cells #[.slice sa bk.sts.length sc, .slice ta bk.trips.length tc] 26) = W0 := ⟨_, rfl⟩
  have hb0 : Below w.heap.size w W0 := by subst hW0; exact bx_below w _
  have hs0 : W0.heap.size = w.heap.size + 1 := by subst hW0; simp
  have HBX0 : Hid (W0.heap[w.heap.size]? = some (.cells #[.slice sa bk.sts.length sc, .slice ta bk.trips.length tc] 26 (0, 0))) := by subst hW0; exact heap_alloc_last w _
  have c0 := (two_cells HBX0.out).1.1
  have c1 := (two_cells HBX0.out).1.2
  have HBO0 : Hid (BookOwn B W0 (.agg #[.slice sa bk.sts.length sc, .slice ta bk.trips.length tc]) bk) := hown.below hb0
  have HC0 : Hid (CurAt W0 C ca bs cap s0 m) := h.keep hb0
  have hl0 : ¬ (bk.trips.length : Int) = 0 := by omega
  have hl1 : (bk.trips.length : Int) ≤ 1000 := by unfold bookSize tripsSize at hn; omega
  have HN3 : Hid (∀ i (h : i < bk.trips.length), bk.trips[i].calls.length ≤ 1000) := fun i h => by
    have := sumTrips_get bk.trips i h
    unfold bookSize tripsSize at hn; unfold tripSize at this; omega
  clear hown h hf hcode
  go_enter Tryd.func42, Tryd.ntmps42
  go_wp2_with fail
  refine (l1ok_yes _ bk _ (by omega) (by exact HBO0.out.at) hF1).mono ?_
  rintro e w1 ⟨rfl, hb1⟩
  have HB1 : Hid (Below W0.heap.size W0 w1) := hb1
  have q0 := cell_keep hb1 c0
  have q1 := cell_keep hb1 c1
  clear hb1
  go_wp2_with fail
  refine (l2news_any _ bk _ (by omega) (by exact (HBO0.out.below HB1.out).at)).mono ?_
  rintro e w2 ⟨nv, rfl, ⟨vs, hvs⟩, hb2⟩
  have hnl : (startNews bk).length = bk.trips.length := by simp [startNews]
  obtain ⟨na, nvc, rfl, _⟩ := hvs.at
  rw [hnl] at hvs ⊢
  have HI2 : Hid (RepInv C ca bs cap B (.slice sa bk.sts.length sc) (.slice ta bk.trips.length tc) bk w1.heap.size (.slice na bk.trips.length nvc) vs w w2 (.slice none 0 0) [] (startNews bk) s0 m) := by
    have z1 := HB1.out.size
    refine ⟨(HBO0.out.below HB1.out).below hb2, ?_, hvs, World.ownsRow_nil _ _ _ _, (HC0.out.keep HB1.out).keep hb2, KeepC.below ((hb0.trans (HB1.out.mono (by omega))).trans (hb2.mono (by omega))), hb2.size, by omega, hB, hC, HCD.out⟩
    rw [hb2.block _ (by omega), HB1.out.block _ (by omega)]; exact HBX0.out
  obtain ⟨BN, hBN⟩ : ∃ BN, w1.heap.size = BN := ⟨_, rfl⟩
  rw [hBN] at HI2
  clear hvs hb2 hBN q0 q1 c0 c1 HB1 HBX0 HBO0 HC0 hW0 hF1
  go_wp2_with fail
  refine (pick_any C ca bs cap m 20 s0 _ (by omega) (by omega) HI2.out.cur).mono ?_
  rintro e w3 ⟨r3, s3, hp3, hr3, rfl, hc3, hg3⟩
  have HP3 : Hid (pickF bs 20 s0 = (r3, s3)) := hp3
  have HI3 : Hid (RepInv C ca bs cap B (.slice sa bk.sts.length sc) (.slice ta bk.trips.length tc) bk BN (.slice na bk.trips.length nvc) vs w w3 (.slice none 0 0) [] (startNews bk) s3 (m + 2)) := HI2.out.cur' hg3 hc3
  have hr3' : r3 ≤ 20 := by omega
  clear hp3 hc3 hg3 hr3 HI2
  go_wp2_with fail
  refine (pick_any C ca bs cap (m + 2) 20 s3 _ (by omega) (by omega) HI3.out.cur).mono ?_
  rintro e w4 ⟨r4, s4, hp4, hr4, rfl, hc4, hg4⟩
  have HI4 : Hid (RepInv C ca bs cap B (.slice sa bk.sts.length sc) (.slice ta bk.trips.length tc) bk BN (.slice na bk.trips.length nvc) vs w w4 (.slice none 0 0) [] (startNews bk) s4 (m + 4)) := HI3.out.cur' hg4 hc4
  have HRF : Hid (reportsF bs bk s0 = repsF bs bk r4 r3 (startNews bk) s4 []) := reportsF_yes bs bk s0 s3 s4 r3 r4 HFT.out hpos HP3.out hp4
  have hr4' : r4 ≤ 20 := by omega
  clear hp4 hc4 hg4 hr4 HI3 HP3
  go_wp2_with fail
  go_loopw [5, 7, 8] (fun ov tm n wr => ∃ (j a m' : Nat) (out : List RepD) (nss : List (List NewsD)) (s : Rd), j ≤ r4 ∧ tm = .int .i64 a ∧ n = .int .i64 j ∧ a ≤ 20 + (r4 - j) * 9 ∧ m' ≤ m + 4 + (r4 - j) * 20 ∧ Hid (out.length ≤ r4 - j) ∧ Hid (ShapeOf bk nss) ∧ Hid (RepInv C ca bs cap B (.slice sa bk.sts.length sc) (.slice ta bk.trips.length tc) bk BN (.slice na bk.trips.length nvc) vs w wr ov out nss s m') ∧ Hid (repsF bs bk j a nss s out = repsF bs bk r4 r3 (startNews bk) s4 [])) (fun _ _ n _ => (intOf n).toNat)
  case atStart => exact ⟨r4, r3, m + 4, [], startNews bk, s4, Nat.le_refl _, rfl, rfl, by omega, by omega, Nat.zero_le _, shape_start bk, HI4, rfl⟩
  case round =>
    obtain ⟨j, a, m', out, nss, s, hj, rfl, rfl, ha, hm', hol, hsh, hI, hF⟩ := hrel
    clear HI4
    by_cases hjp : 0 < j
    · have hji : (0 : Int) < (j : Int) := by omega
      rename World => W1
      have a300 : a ≤ 300 := by omega
      have hW1 : w.heap.size < W1.heap.size := by have := hI.out.size; have := hI.out.base; omega
      have m2k : m' ≤ m + 2000 := by omega
      obtain ⟨⟨b0, b1⟩, _⟩ := two_cells hI.out.box
      go_wp2_with fail
      refine (pick_any C ca bs cap m' bk.trips.length s _ (by omega) (by omega) hI.out.cur).mono ?_
      rintro e w5 ⟨i, s5, hp5, hi5, rfl, hc5, hg5⟩
      have HP5 : Hid (pickF bs bk.trips.length s = (i, s5)) := hp5
      have hil : i < bk.trips.length := by omega
      have HK5 : Hid (KeepC C W1.heap.size W1 w5) := KeepC.cur hg5 (Nat.le_refl _)
      have HI5 : Hid (RepInv C ca bs cap B (.slice sa bk.sts.length sc) (.slice ta bk.trips.length tc) bk BN (.slice na bk.trips.length nvc) vs w w5 u5 out nss s5 (m' + 2)) := hI.out.cur' hg5 hc5
      clear hp5 hc5 hg5 hi5 b0 b1
      obtain ⟨tb, cp, ka, kc, etv, htb, htl, t0, t1, _⟩ := trip_cell HI5.out.book i hil
      simp only [Value.slice.injEq] at etv
      obtain ⟨rfl, _, rfl⟩ := etv
      have b1 := (two_cells HI5.out.box).1.2
      have hbl := cell_lt b1
      obtain ⟨nc, hnc⟩ : ∃ nc, bk.trips[i].calls.length = nc := ⟨_, rfl⟩
      have HNC : Hid ((callsOf bk i).length = nc) := by unfold Hid; rw [callsOf_at bk i hil]; exact hnc
      have hncl : nc ≤ 1000 := by rw [← hnc]; exact HN3.out i hil
      have HNC2 : Hid (2 ≤ nc) := by unfold Hid; rw [← hnc]; exact (tripB_len' ((faultD_zero HFT.out).2 i hil)).1
      rw [hnc] at t1
      generalize bk.trips[i].name = tnm at t0
      have hii : (i : Int) < (bk.trips.length : Int) := by omega
      have hi0 : (0 : Int) ≤ (i : Int) := by omega
      have HB2 : Hid (B ≤ tb ∧ C < B ∧ B ≤ w.heap.size) := ⟨htb, hC, hB⟩
      have hneb : w.heap.size ≠ C := by omega
      have hnet : tb ≠ C := by omega
      clear hnc
      go_upto_region 10 with fail
      go_cut [10] (fun p wx => ∃ (RX op c7 : Nat) (s7 : Rd), p = .pointer (some ⟨RX, 0, none⟩) ∧ W1.heap.size ≤ RX ∧ (1 ≤ op ∧ op ≤ 5) ∧ (c7 < nc ∨ c7 = 0) ∧ Hid (∃ o6 s6, pickF bs 5 s5 = (o6, s6) ∧ 1 + o6 = op ∧ pickF bs nc s6 = (c7, s7)) ∧ Hid (wx.heap[RX]? = some (.cells #[.int .i64 a, .int .i64 op, .int .i64 i, .int .i64 c7, .int .i64 0] 45 (0, 0))) ∧ Hid (KeepC C W1.heap.size W1 wx) ∧ Hid (CurAt wx C ca bs cap s7 (m' + 6)))
      case first =>
        have n51 : w.heap.size ≠ w5.heap.size := by omega
        have n52 : tb ≠ w5.heap.size := by omega
        go_wp2_with fail
        go_region_held3 (fun w' => w'.cell? ⟨w.heap.size, 1, none⟩ = some (.slice (some ⟨tb, 0, none⟩) bk.trips.length tc) ∧ w'.cell? ⟨tb, i * 2 + 1, none⟩ = some (.slice ka nc kc))
          (first | go_keep | (refine ⟨?_, ?_⟩ <;> (rw [five_other (by omega)]; assumption)))
          (first
            | (go_at_call 61; refine (pick_any C ca bs cap (m' + 2 + 2) nc s6 _ (by omega) (by omega) (by first | exact HC6.out | exact HC6.out.keep ((Below.refl _ _).alloc (Nat.le_refl _) _))).mono ?_; rintro e w7 ⟨c7, s7, hp7, hc7', rfl, hc7, hg7⟩; have K7 : KeepC C w6.heap.size w6 w7 := (by first | exact KeepC.cur hg7 (Nat.le_refl _) | exact KeepC.allocCur hg7); have g7 := K7.cell g6 (by omega) hneb; have t7 := K7.cell t6 (by omega) hnet; have z7 := K7.size; have HC7 : Hid (CurAt w7 C ca bs cap s7 (m' + 2 + 2 + 2)) := hc7; have HP7 : Hid (pickF bs nc s6 = (c7, s7)) := hp7; (first | (have X7 := grown_new hg7 (by omega); obtain ⟨⟨x0, x1, x2, x3, x4⟩, xf0, xf1, xf2, xf3, xf4⟩ := five_cells X7) | (have X7 := (K7.block w5.heap.size (by have := cell_lt y0; omega) (by omega)).trans X6; obtain ⟨⟨x0, x1, x2, x3, x4⟩, xf0, xf1, xf2, xf3, xf4⟩ := five_cells X7; clear y0 y1 y2 y3 y4 yf0 yf1 yf2 yf3 yf4) | skip); clear hp7 hc7)
            | (go_at_call 61; refine (pick_any C ca bs cap (m' + 2) 5 s5 _ (by omega) (by omega) (by first | exact HI5.out.cur.keep (Below.refl _ _).drew | exact HI5.out.cur.keep ((Below.refl _ _).alloc (Nat.le_refl _) _).drew)).mono ?_; rintro e w6 ⟨o6, s6, hp6, ho6, rfl, hc6, hg6⟩; have K6 : KeepC C w5.heap.size w5 w6 := (by first | exact KeepC.drewCur hg6 | exact KeepC.allocDrewCur hg6); have g6 := K6.cell b1 hbl hneb; have t6 := K6.cell t1 htl hnet; have z6 := K6.size; have n61 : w.heap.size ≠ w6.heap.size := (by omega); have n62 : tb ≠ w6.heap.size := (by omega); have HC6 : Hid (CurAt w6 C ca bs cap s6 (m' + 2 + 2)) := hc6; have HP6 : Hid (pickF bs 5 s5 = (o6, s6)) := hp6; obtain ⟨op, hop⟩ : ∃ op : Nat, 1 + o6 = op := ⟨_, rfl⟩; have HOP : Hid (1 + o6 = op) := hop; have hopi : (1 : Int) + (o6 : Int) = (op : Int) := (by omega); have hop5 : op ≤ 5 := (by omega); have hop1 : 1 ≤ op := (by omega); have hopw := wrap_small (n := op) (by omega); (first | (have X6 := grown_newD hg6 (by omega); obtain ⟨⟨y0, y1, y2, y3, y4⟩, yf0, yf1, yf2, yf3, yf4⟩ := five_cells X6) | skip); clear hp6 hc6 hop ho6))
        · have HE : Hid (∃ o6 s6, pickF bs 5 s5 = (o6, s6) ∧ 1 + o6 = op ∧ pickF bs nc s6 = (c7, s7)) := ⟨o6, s6, HP6.out, HOP.out, HP7.out⟩
          have z5 := HK5.out.size
          have HKE : Hid (KeepC C W1.heap.size W1 (w7.alloc (.cells #[.int .i64 a, .int .i64 op, .int .i64 i, .int .i64 c7, .int .i64 0] 45))) := ((HK5.out.trans (K6.mono (by omega))).trans (K7.mono (by omega))).trans (KeepC.below ((Below.refl _ _).alloc (by omega) _))
          have HCE : Hid (CurAt (w7.alloc (.cells #[.int .i64 a, .int .i64 op, .int .i64 i, .int .i64 c7, .int .i64 0] 45)) C ca bs cap s7 (m' + 6)) := HC7.out.keep ((Below.refl _ _).alloc (Nat.le_refl _) _)
          go_wp2_with fail
          go_meet
          exact ⟨w7.heap.size, op, c7, s7, rfl, by omega, ⟨hop1, hop5⟩, hc7', HE, heap_alloc_last w7 _, HKE, HCE⟩
        · have HE : Hid (∃ o6 s6, pickF bs 5 s5 = (o6, s6) ∧ 1 + o6 = op ∧ pickF bs nc s6 = (c7, s7)) := ⟨o6, s6, HP6.out, HOP.out, HP7.out⟩
          have z5 := HK5.out.size
          have HX7 : Hid (w7.heap[w6.heap.size]? = some (.cells #[.int .i64 0, .int .i64 0, .int .i64 0, .int .i64 0, .int .i64 0] 45 (0, 0))) := X7
          have HK70 : Hid (KeepC C W1.heap.size W1 w7) := (HK5.out.trans (K6.mono (by omega))).trans (K7.mono (by omega))
          clear X7 x0 x1 x2 x3 x4 xf0 xf1 xf2 xf3 xf4 hg7 hg6 K6 K7
          go_wp2_with fail
          go_meet
          exact ⟨w6.heap.size, op, c7, s7, rfl, by omega, ⟨hop1, hop5⟩, hc7', HE, five_set HX7.out, HK70.out.trans (five_keep (by omega)), five_cur HC7.out (by omega) (fun b o e => by have := HCD.out b o e; omega)⟩
        · have HE : Hid (∃ o6 s6, pickF bs 5 s5 = (o6, s6) ∧ 1 + o6 = op ∧ pickF bs nc s6 = (c7, s7)) := ⟨o6, s6, HP6.out, HOP.out, HP7.out⟩
          have z5 := HK5.out.size
          have HX7 : Hid (w7.heap[w5.heap.size]? = some (.cells #[.int .i64 0, .int .i64 0, .int .i64 0, .int .i64 0, .int .i64 0] 45 (0, 0))) := X7
          have HK70 : Hid (KeepC C W1.heap.size W1 w7) := (HK5.out.trans (K6.mono (by omega))).trans (K7.mono (by omega))
          clear X6 X7 x0 x1 x2 x3 x4 xf0 xf1 xf2 xf3 xf4 hg7 hg6 K6 K7
          go_wp2_with fail
          go_meet
          exact ⟨w5.heap.size, op, c7, s7, rfl, by omega, ⟨hop1, hop5⟩, hc7', HE, five_set HX7.out, HK70.out.trans (five_keep (by omega)), five_cur HC7.out (by omega) (fun b o e => by have := HCD.out b o e; omega)⟩
      case rest =>
        rename World => wx
        obtain ⟨RX, op, c7, s7, rfl, hRX, hop, hc7, HPP, HX7, HK7, HC7⟩ := hcut
        have hc7n : c7 < nc := by have := HNC2.out; omega
        clear HK5 HI5 b1 hbl t0 t1 hnet hneb hc7
        go_wp2_with fail
        refine (pick_any C ca bs cap (m' + 6) 2 s7 _ (by omega) (by omega) HC7.out).mono ?_
        rintro e w8 ⟨z, s8, hp8, hz8, rfl, hc8, hg8⟩
        have HP8 : Hid (pickF bs 2 s7 = (z, s8)) := hp8
        have HC8 : Hid (CurAt w8 C ca bs cap s8 (m' + 8)) := hc8
        have hxl := (Array.getElem?_eq_some_iff.1 HX7.out).1
        have HX8 : Hid (w8.heap[RX]? = some (.cells #[.int .i64 a, .int .i64 op, .int .i64 i, .int .i64 c7, .int .i64 0] 45 (0, 0))) := by unfold Hid; rw [hg8.block _ hxl (fun e => by cases e; omega)]; exact HX7.out
        have HK8 : Hid (KeepC C W1.heap.size W1 w8) := HK7.out.trans (KeepC.cur hg8 HK7.out.size)
        have hz9 := hg8.size
        clear hp8 hc8 hg8 HX7 HK7 HC7 hz8
        go_upto_if 55 with fail
        go_cut [10] (fun p wx => ∃ (op' k' : Nat), p = .pointer (some ⟨RX, 0, none⟩) ∧ (1 ≤ op' ∧ op' ≤ 5) ∧ k' < nc ∧ Hid ((if z = 0 then openF (nss.getD i []) (op, c7) else (op, c7)) = (op', k')) ∧ Hid (wx.heap[RX]? = some (.cells #[.int .i64 a, .int .i64 op', .int .i64 i, .int .i64 k', .int .i64 0] 45 (0, 0))) ∧ Hid (KeepC C W1.heap.size W1 wx) ∧ Hid (CurAt wx C ca bs cap s8 (m' + 8)))
        case first =>
          by_cases hz : z = 0
          · have hzi : ((z : Int) == 0) = true := by simp [hz]
            have HIF : Hid ((if z = 0 then openF (nss.getD i []) (op, c7) else (op, c7)) = openF (nss.getD i []) (op, c7)) := by unfold Hid; rw [if_pos hz]
            have hBN := hI.out.base
            obtain ⟨na', nc', e, hss⟩ := (hI.out.news.keepC HK8.out (by omega)).at
            simp only [Value.slice.injEq] at e
            obtain ⟨rfl, hnl', rfl⟩ := e
            have hin : i < nss.length := by omega
            obtain ⟨nb, no, ra, rc, rfl, n0, hrow⟩ := hss i hin
            have HNS : Hid (nss.getD i [] = nss[i]) := by unfold Hid; simp [List.getD, List.getElem?_eq_getElem hin]
            have hnsl : nss[i].length = nc := by rw [hsh.out.at i hin]; exact HNC.out
            generalize nss[i] = ns at *
            have HROW : Hid (NewsAt w8 ra ns) := hrow
            clear hz hrow hss hnl'
            go_wp2_with fail
            go_loopw [61] (fun idx wi => ∃ q : Nat, q ≤ ns.length ∧ idx = .int .i64 q ∧ Hid (∀ p (h : p < ns.length), p < q → ns[p].gone = true) ∧ Hid (Below w8.heap.size w8 wi)) (fun idx _ => ns.length - (intOf idx).toNat)
            case atStart => exact ⟨0, Nat.zero_le _, rfl, fun p _ h => by omega, Below.refl _ _⟩
            case round =>
              obtain ⟨q, hq, rfl, hall, hbw⟩ := hrel
              by_cases hql : q < ns.length
              · obtain ⟨b', o', rfl, d0, d1, d2, d3, d4⟩ := HROW.out.keep hbw.out q hql
                have HXr : Hid (wr.heap[RX]? = some (.cells #[.int .i64 a, .int .i64 op, .int .i64 i, .int .i64 c7, .int .i64 0] 45 (0, 0))) := (hbw.out.block RX (Array.getElem?_eq_some_iff.1 HX8.out).1).trans HX8.out
                cases hg : ns[q].gone
                · have HOS := openF_some (d := (op, c7)) hql (fun p h1 h2 => hall.out p h1 h2) hg
                  have hxlt := (Array.getElem?_eq_some_iff.1 HXr.out).1
                  obtain ⟨⟨x0, x1, x2, x3, x4⟩, xf0, xf1, xf2, xf3, xf4⟩ := five_cells HXr.out
                  cases hh : ns[q].here
                  · have HOP : Hid (openF ns (op, c7) = (4, q)) := by unfold Hid; rw [HOS, hh]; rfl
                    rw [hg] at d4
                    rw [hh] at d3
                    generalize ns[q] = x at *
                    have HIF2 : Hid ((if z = 0 then openF (nss.getD i []) (op, c7) else (op, c7)) = (4, q)) := by unfold Hid; rw [HIF.out, HNS.out, HOP.out]
                    have HKr : Hid (KeepC C W1.heap.size W1 wr) := HK8.out.trans (KeepC.below (hbw.out.mono HK8.out.size))
                    have HCr : Hid (CurAt wr C ca bs cap s8 (m' + 8)) := HC8.out.keep hbw.out
                    have hqn : q < nc := by omega
                    clear HOS hg hh HIF HOP HNS
                    go_wp2_with fail
                    go_meet
                    exact ⟨4, q, rfl, by omega, hqn, HIF2, two_set HXr.out, HKr.out.trans (two_keep hRX HKr.out.size), two_cur HCr.out (by omega) (fun b o e => by have := HCD.out b o e; omega)⟩
                  · have HOP : Hid (openF ns (op, c7) = (5, q)) := by unfold Hid; rw [HOS, hh]; rfl
                    rw [hg] at d4
                    rw [hh] at d3
                    generalize ns[q] = x at *
                    have HIF2 : Hid ((if z = 0 then openF (nss.getD i []) (op, c7) else (op, c7)) = (5, q)) := by unfold Hid; rw [HIF.out, HNS.out, HOP.out]
                    have HKr : Hid (KeepC C W1.heap.size W1 wr) := HK8.out.trans (KeepC.below (hbw.out.mono HK8.out.size))
                    have HCr : Hid (CurAt wr C ca bs cap s8 (m' + 8)) := HC8.out.keep hbw.out
                    have hqn : q < nc := by omega
                    clear HOS hg hh HIF HOP HNS
                    go_wp2_with fail
                    go_meet
                    first
                      | exact ⟨5, q, rfl, by omega, hqn, HIF2, three_set HXr.out, HKr.out.trans (three_keep hRX HKr.out.size), three_cur HCr.out (by omega) (fun b o e => by have := HCD.out b o e; omega)⟩
                      | exact ⟨5, q, rfl, by omega, hqn, HIF2, two_set HXr.out, HKr.out.trans (two_keep hRX HKr.out.size), two_cur HCr.out (by omega) (fun b o e => by have := HCD.out b o e; omega)⟩
                · have hall' : Hid (∀ p (h : p < ns.length), p < q + 1 → ns[p].gone = true) := fun p h1 h2 => by
                    by_cases e : p = q
                    · subst e; exact hg
                    · exact hall.out p h1 (by omega)
                  rw [hg] at d4
                  generalize ns[q] = x at *
                  clear hall hg
                  go_wp2_with fail
                  go_roundw
                  case rel => exact ⟨q + 1, by omega, by go_num, hall', hbw.out.alloc hbw.out.size _⟩
                  case measure => simp [intOf]; omega
              · have HON : Hid (openF ns (op, c7) = (op, c7)) := openF_none (fun p h => hall.out p h (by omega))
                have HXr : Hid (wr.heap[RX]? = some (.cells #[.int .i64 a, .int .i64 op, .int .i64 i, .int .i64 c7, .int .i64 0] 45 (0, 0))) := (hbw.out.block RX (Array.getElem?_eq_some_iff.1 HX8.out).1).trans HX8.out
                have HIF2 : Hid ((if z = 0 then openF (nss.getD i []) (op, c7) else (op, c7)) = (op, c7)) := by unfold Hid; rw [HIF.out, HNS.out, HON.out]
                have HKr : Hid (KeepC C W1.heap.size W1 wr) := HK8.out.trans (KeepC.below (hbw.out.mono HK8.out.size))
                have HCr : Hid (CurAt wr C ca bs cap s8 (m' + 8)) := HC8.out.keep hbw.out
                clear HON HIF HNS
                go_wp2_with fail
                go_meet
                exact ⟨op, c7, rfl, hop, hc7n, HIF2, HXr, HKr, HCr⟩
          · have hzi : ((z : Int) == 0) = false := by simp; omega
            have HIF : Hid ((if z = 0 then openF (nss.getD i []) (op, c7) else (op, c7)) = (op, c7)) := by unfold Hid; rw [if_neg hz]
            clear hz
            go_wp2_with fail
            go_meet
            exact ⟨op, c7, rfl, hop, hc7n, HIF, HX8, HK8, HC8⟩
        case rest =>
          rename World => wy
          obtain ⟨op', k', rfl, hop', hk', HIF, HX9, HK9, HC9⟩ := hcut
          clear HX8 HK8 HC8 hop hc7n
          obtain ⟨⟨x0, x1, x2, x3, x4⟩, xf0, xf1, xf2, xf3, xf4⟩ := five_cells HX9.out
          go_upto_block 4 with fail
          go_cut [10] (fun p wx => ∃ (n : Nat) (s9 : Rd), p = .pointer (some ⟨RX, 0, none⟩) ∧ n ≤ 100 ∧ Hid (numF bs op' s8 = (n, s9)) ∧ Hid (wx.heap[RX]? = some (.cells #[.int .i64 a, .int .i64 op', .int .i64 i, .int .i64 k', .int .i64 n] 45 (0, 0))) ∧ Hid (KeepC C W1.heap.size W1 wx) ∧ Hid (CurAt wx C ca bs cap s9 (m' + 12)))
          case first =>
            clear x0 x2 x3
            by_cases o1 : op' = 1
            · have o1i : ((op' : Int) == 1) = true := by simp [o1]
              have HO1 : Hid (op' = 1) := o1
              clear o1
              go_wp2_with fail
              refine (pick_any C ca bs cap (m' + 8) 30 s8 _ (by omega) (by omega) HC9.out).mono ?_
              rintro e w10 ⟨r10, s10, hp10, hr10, rfl, hc10, hg10⟩
              have HC10 : Hid (CurAt w10 C ca bs cap s10 (m' + 10)) := hc10
              have HX10 : Hid (w10.heap[RX]? = some (.cells #[.int .i64 a, .int .i64 op', .int .i64 i, .int .i64 k', .int .i64 0] 45 (0, 0))) := by unfold Hid; rw [hg10.block _ (Array.getElem?_eq_some_iff.1 HX9.out).1 (fun e => by cases e; omega)]; exact HX9.out
              have HK10 : Hid (KeepC C W1.heap.size W1 w10) := HK9.out.trans (KeepC.cur hg10 HK9.out.size)
              clear hc10 hg10 x1 x4 xf4 xf0 xf1 xf2 xf3
              go_wp2_with fail
              refine (pick_any C ca bs cap (m' + 10) 2 s10 _ (by omega) (by omega) HC10.out).mono ?_
              rintro e w11 ⟨r11, s11, hp11, hr11, rfl, hc11, hg11⟩
              have HC11 : Hid (CurAt w11 C ca bs cap s11 (m' + 12)) := hc11
              have HX11 : Hid (w11.heap[RX]? = some (.cells #[.int .i64 a, .int .i64 op', .int .i64 i, .int .i64 k', .int .i64 0] 45 (0, 0))) := by unfold Hid; rw [hg11.block _ (Array.getElem?_eq_some_iff.1 HX10.out).1 (fun e => by cases e; omega)]; exact HX10.out
              have HK11 : Hid (KeepC C W1.heap.size W1 w11) := HK10.out.trans (KeepC.cur hg11 HK10.out.size)
              have HNF : Hid (numF bs op' s8 = (r10 * r11, s11)) := by unfold Hid; rw [HO1.out]; exact numF_1 bs s8 s10 s11 r10 r11 hp10 hp11
              have hprod : r10 * r11 ≤ 60 := by
                have h1 : r10 ≤ 30 := by omega
                have h2 : r11 ≤ 2 := by omega
                exact Nat.mul_le_mul h1 h2
              obtain ⟨pr, hpr⟩ : ∃ pr : Nat, r10 * r11 = pr := ⟨_, rfl⟩
              have hpri : (r10 : Int) * (r11 : Int) = (pr : Int) := by rw [← hpr]; simp
              rw [hpr] at HNF hprod
              obtain ⟨⟨_, _, _, _, y4⟩, _, _, _, _, yf4⟩ := five_cells HX11.out
              clear hc11 hg11 hp10 hp11 HX10 HK10 HC10 hr10 hr11 hpr
              go_wp2_with fail
              go_meet
              exact ⟨pr, s11, rfl, by omega, HNF, num_set HX11.out, HK11.out.trans (KeepC.set _ _ _ hRX), HC11.out.other (set_grown _ RX 4 _) (by omega) (fun b o e => by have := HCD.out b o e; omega)⟩
            · have o1i : ((op' : Int) == 1) = false := by simp; omega
              by_cases o2 : op' = 2
              · have o2i : ((op' : Int) == 2) = true := by simp [o2]
                have HO2 : Hid (op' = 2) := o2
                clear o1 o2
                go_wp2_with fail
                refine (pick_any C ca bs cap (m' + 8) 4 s8 _ (by omega) (by omega) HC9.out).mono ?_
                rintro e w10 ⟨r10, s10, hp10, hr10, rfl, hc10, hg10⟩
                have HC10 : Hid (CurAt w10 C ca bs cap s10 (m' + 10)) := hc10
                have HX10 : Hid (w10.heap[RX]? = some (.cells #[.int .i64 a, .int .i64 op', .int .i64 i, .int .i64 k', .int .i64 0] 45 (0, 0))) := by unfold Hid; rw [hg10.block _ (Array.getElem?_eq_some_iff.1 HX9.out).1 (fun e => by cases e; omega)]; exact HX9.out
                have HK10 : Hid (KeepC C W1.heap.size W1 w10) := HK9.out.trans (KeepC.cur hg10 HK9.out.size)
                have HNF : Hid (numF bs op' s8 = (1 + r10, s10)) := by unfold Hid; rw [HO2.out]; exact numF_2 bs s8 s10 r10 hp10
                obtain ⟨pr, hpr⟩ : ∃ pr : Nat, 1 + r10 = pr := ⟨_, rfl⟩
                have hpri : (1 : Int) + (r10 : Int) = (pr : Int) := by omega
                have hprod : pr ≤ 10 := by omega
                rw [hpr] at HNF
                clear x1 x4 xf4 xf0 xf1 xf2 xf3
                obtain ⟨⟨_, _, _, _, y4⟩, _, _, _, _, yf4⟩ := five_cells HX10.out
                clear hc10 hg10 hp10 hr10 hpr
                go_wp2_with fail
                go_meet
                exact ⟨pr, s10, rfl, by omega, HNF, num_set HX10.out, HK10.out.trans (KeepC.set _ _ _ hRX), (HC10.out.other (set_grown _ RX 4 _) (by omega) (fun b o e => by have := HCD.out b o e; omega)).more (by omega)⟩
              · have o2i : ((op' : Int) == 2) = false := by simp; omega
                have HNF : Hid (numF bs op' s8 = (0, s8)) := numF_0 bs op' s8 o1 o2
                clear o1 o2
                go_wp2_with fail
                go_meet
                exact ⟨0, s8, rfl, by omega, HNF, HX9, HK9, HC9.out.more (by omega)⟩
          case rest =>
            rename World => wz
            obtain ⟨n, s9, rfl, hn100, HNF, HXz, HKz, HCz⟩ := hcut
            clear HX9 HK9 HC9 x0 x1 x2 x3 x4 xf0 xf1 xf2 xf3 xf4
            have HRF2 : Hid (repF bs bk a nss s = ((⟨a, op', i, k', n⟩ : RepD), s9)) := by
              obtain ⟨o6, s6, e1, e2, e3⟩ := HPP.out
              exact repF_eq bs bk a nss s s5 s6 s7 s8 s9 i o6 c7 z op' k' n HP5.out e1 (by rw [HNC.out]; exact e3) HP8.out (by rw [e2]; exact HIF.out) HNF.out
            have HIz : Hid (RepInv C ca bs cap B (.slice sa bk.sts.length sc) (.slice (some ⟨tb, 0, none⟩) bk.trips.length tc) bk BN (.slice na bk.trips.length nvc) vs w wz u5 out nss s9 (m' + 12)) := hI.out.keepC HKz.out HCz.out
            obtain ⟨⟨x0, x1, x2, x3, x4⟩, _⟩ := five_cells HXz.out
            obtain ⟨na', nc', e, hss⟩ := HIz.out.news.at
            simp only [Value.slice.injEq] at e
            obtain ⟨rfl, hnl', rfl⟩ := e
            have hin : i < nss.length := by omega
            have hnsl : nss[i].length = nc := by rw [hsh.out.at i hin]; exact HNC.out
            have hkn : k' < nss[i].length := by omega
            have hm2 : nss[i].length ≤ 1048576 := by omega
            have HCN : Hid (∀ w', NewsSSAt w' na nss → Calls Tryd.prog 48 #[.slice na bk.trips.length nvc, .agg #[.int .i64 a, .int .i64 op', .int .i64 i, .int .i64 k', .int .i64 n]] w' fun e w'' => e = .returned (.bool (countsN nss ⟨a, op', i, k', n⟩)) ∧ Below w'.heap.size w' w'') := fun w' hs => by
              rw [hnl', countsN_at nss ⟨a, op', i, k', n⟩ i k' hin rfl hkn rfl]
              exact l2counts_any na nvc nss ⟨a, op', i, k', n⟩ i k' w' hin rfl hkn rfl hm2 hs
            have HDO : Hid (∀ w', NewsOwnAt BN w' (.slice na bk.trips.length nvc) nss vs → Calls Tryd.prog 49 #[.slice na bk.trips.length nvc, .agg #[.int .i64 a, .int .i64 op', .int .i64 i, .int .i64 k', .int .i64 n]] w' fun e w'' => e = .returned (.tuple #[]) ∧ NewsOwnAt BN w'' (.slice na bk.trips.length nvc) (nss.set i (doRow ⟨a, op', i, k', n⟩ nss[i])) vs ∧ ∃ g rv n xs, w'.ownsRow BN 41 5 rv n xs ∧ rv.ownBlock = some g ∧ w'.grownBy w'' (some g)) := fun w' hs =>
              l2do_rep BN (.slice na bk.trips.length nvc) nss vs ⟨a, op', i, k', n⟩ i k' w' hin rfl hkn rfl hm2 (by simp only; omega) hs
            have HSS : Hid (NewsSSAt wz na nss) := hss
            have HMO : Hid (countsN nss ⟨a, op', i, k', n⟩ = true → nss.modify i (doRow ⟨a, op', i, k', n⟩) = nss.set i (doRow ⟨a, op', i, k', n⟩ nss[i]) ∧ ShapeOf bk (nss.set i (doRow ⟨a, op', i, k', n⟩ nss[i]))) := fun hc => by
              have e := stepNews_yes (a : Int) nss ⟨a, op', i, k', n⟩ i hin rfl (Int.le_refl _) hc
              refine ⟨by simp [List.modify_eq_set, List.getElem?_eq_getElem hin], ?_⟩
              rw [← e]; exact shape_step hsh.out _ _
            generalize hset : nss.set i (doRow ⟨a, op', i, k', n⟩ nss[i]) = nss' at *
            obtain ⟨j0, hj0⟩ : ∃ j0, j = j0 + 1 := ⟨j - 1, by omega⟩
            have hj0i : (j : Int) - 1 = (j0 : Int) := by omega
            have HF0 : Hid (repsF bs bk (j0 + 1) a nss s out = repsF bs bk r4 r3 (startNews bk) s4 []) := by have := hF.out; rw [hj0] at this; exact this
            have HOL : Hid (out.length ≤ 20) := by have := hol.out; unfold Hid; omega
            obtain ⟨ii, hi0', he0⟩ := Option.map_eq_some_iff.1 infoRep
            simp only [Prod.mk.injEq] at he0
            have HIN : Hid (ii.zero = some (.agg #[.int .i64 0, .int .i64 0, .int .i64 0, .int .i64 0, .int .i64 0]) ∧ ii.size = 5 ∧ ii.bytes = 40) := he0
            have HJ : Hid (Tryd.prog.info? 45 = some ii) := hi0'
            clear hi0' he0 hss hnl' hnsl hkn hm2 hset hF HPP HP5 HP8 HIF HNF HKz HCz hI HNC
            go_wp2_with fail
            refine (HCN.out _ HSS.out).mono ?_
            rintro e w12 ⟨rfl, hb12⟩
            have HX12 : Hid (w12.heap[RX]? = some (.cells #[.int .i64 a, .int .i64 op', .int .i64 i, .int .i64 k', .int .i64 n] 45 (0, 0))) := (hb12.block RX (Array.getElem?_eq_some_iff.1 HXz.out).1).trans HXz.out
            have HI12 : Hid (RepInv C ca bs cap B (.slice sa bk.sts.length sc) (.slice (some ⟨tb, 0, none⟩) bk.trips.length tc) bk BN (.slice na bk.trips.length nvc) vs w w12 u5 out nss s9 (m' + 12)) := HIz.out.below hb12
            clear x0 x1 x2 x3 x4 HCN HSS HXz HIz hb12
            cases hcn : countsN nss ⟨a, op', i, k', n⟩
            · go_wp2_with fail
              refine (pick_any C ca bs cap (m' + 12) 3 s9 _ (by omega) (by omega) HI12.out.cur).mono ?_
              rintro e w13 ⟨q, s13, hp13, hq13, rfl, hc13, hg13⟩
              have HP13 : Hid (pickF bs 3 s9 = (q, s13)) := hp13
              have HI13 : Hid (RepInv C ca bs cap B (.slice sa bk.sts.length sc) (.slice (some ⟨tb, 0, none⟩) bk.trips.length tc) bk BN (.slice na bk.trips.length nvc) vs w w13 u5 out nss s13 (m' + 14)) := HI12.out.cur' hg13 hc13
              have HX13 : Hid (w13.heap[RX]? = some (.cells #[.int .i64 a, .int .i64 op', .int .i64 i, .int .i64 k', .int .i64 n] 45 (0, 0))) := by unfold Hid; rw [hg13.block _ (Array.getElem?_eq_some_iff.1 HX12.out).1 (fun e => by cases e; omega)]; exact HX12.out
              clear hp13 hc13 hg13 HX12 HI12
              by_cases hq0 : 0 < q
              · have hq0i : (0 : Int) < (q : Int) := by omega
                have HF1 : Hid (repsF bs bk j0 a nss s13 out = repsF bs bk r4 r3 (startNews bk) s4 []) := by
                  unfold Hid; rw [← HF0.out, repsF_skip bs bk j0 a nss s s9 s13 out _ q HRF2.out hcn HP13.out hq0]
                have hol1 : Hid (out.length ≤ r4 - j0) := by have := hol.out; unfold Hid; omega
                clear hcn HF0 HRF2 HMO
                go_wp2_with fail
                go_roundw
                case rel => exact ⟨j0, a, m' + 14, out, nss, s13, by omega, rfl, by go_num, by omega, by omega, hol1, hsh, HI13, HF1⟩
                case measure => simp [intOf]; omega
              · have hq0i : ¬ (0 : Int) < (q : Int) := by omega
                obtain ⟨⟨x0, x1, x2, x3, x4⟩, _⟩ := five_cells HX13.out
                have hsz := HI13.out.size
                go_wp2_with (first
                  | (at_builtin; refine wpList_append_lies _ rfl _ _ 27 rfl BN 45 ii (.agg #[.int .i64 0, .int .i64 0, .int .i64 0, .int .i64 0, .int .i64 0]) 5 40 Go.Proofs.YtjioingdpfgadaaDoor.uReps HJ.out HIN.out.1 HIN.out.2.1 HIN.out.2.2 rfl (by decide) _ _ _ rfl (HI13.out.outs.alloc _) ⟨w13.heap.size, 0, none⟩ 1 1 (fiveOf ⟨a, op', i, k', n⟩) rfl rfl (World.news_of_block (cs := #[.int .i64 a, .int .i64 op', .int .i64 i, .int .i64 k', .int .i64 n]) (t := 45) (fr := (0, 0)) (heap_alloc_new w13 _)) (five_one _) (by decide) (by have := HOL.out; unfold maxLen; omega) (by have := HOL.out; omega) (by simp; omega) (w13.heap.size + 1) (by simp) ?_)
                  | fail)
                intro g14 cap14 w14 hown14 hgrow hat14 hlt14
                have HI14 : Hid (RepInv C ca bs cap B (.slice sa bk.sts.length sc) (.slice (some ⟨tb, 0, none⟩) bk.trips.length tc) bk BN (.slice na bk.trips.length nvc) vs w w14 (.slice (some ⟨g14, 0, none⟩) (out.length + 1) cap14) (out ++ [⟨a, op', i, k', n⟩]) nss s13 (m' + 14)) := HI13.out.more hown14 hgrow
                clear hown14 hgrow hat14 hlt14 HI13 HX13 x0 x1 x2 x3 x4
                go_wp2_with fail
                refine (pick_any C ca bs cap (m' + 14) 9 s13 _ (by omega) (by omega) HI14.out.cur).mono ?_
                rintro e w15 ⟨d, s15, hp15, hd15, rfl, hc15, hg15⟩
                have HI15 : Hid (RepInv C ca bs cap B (.slice sa bk.sts.length sc) (.slice (some ⟨tb, 0, none⟩) bk.trips.length tc) bk BN (.slice na bk.trips.length nvc) vs w w15 (.slice (some ⟨g14, 0, none⟩) (out.length + 1) cap14) (out ++ [⟨a, op', i, k', n⟩]) nss s15 (m' + 16)) := HI14.out.cur' hg15 hc15
                have HF1 : Hid (repsF bs bk j0 (a + d) nss s15 (out ++ [⟨a, op', i, k', n⟩]) = repsF bs bk r4 r3 (startNews bk) s4 []) := by
                  unfold Hid; rw [← HF0.out, repsF_odd bs bk j0 a nss s s9 s13 s15 out _ q d HRF2.out hcn HP13.out hq0 hp15]
                have hol1 : Hid ((out ++ [(⟨a, op', i, k', n⟩ : RepD)]).length ≤ r4 - j0) := by have := hol.out; unfold Hid; rw [List.length_append]; simp; omega
                clear hcn HF0 HRF2 HMO hp15 hc15 hg15 HI14
                go_wp2_with fail
                go_roundw
                case rel => exact ⟨j0, a + d, m' + 16, out ++ [⟨a, op', i, k', n⟩], nss, s15, by omega, by go_num, by go_num, by omega, by omega, hol1, hsh, HI15, HF1⟩
                case measure => simp [intOf]; omega
            · obtain ⟨⟨x0, x1, x2, x3, x4⟩, _⟩ := five_cells HX12.out
              go_wp2_with fail
              refine (HDO.out _ HI12.out.news).mono ?_
              rintro e w13 ⟨rfl, hown13, g13, rv13, n13, xs13, hrow13, hblk13, hg13⟩
              have HI13 : Hid (RepInv C ca bs cap B (.slice sa bk.sts.length sc) (.slice (some ⟨tb, 0, none⟩) bk.trips.length tc) bk BN (.slice na bk.trips.length nvc) vs w w13 u5 out nss' s9 (m' + 12)) := HI12.out.did hown13 hrow13 hblk13 hg13
              have HX13 : Hid (w13.heap[RX]? = some (.cells #[.int .i64 a, .int .i64 op', .int .i64 i, .int .i64 k', .int .i64 n] 45 (0, 0))) := by
                unfold Hid
                rw [hg13.block _ (Array.getElem?_eq_some_iff.1 HX12.out).1 (fun e => block_apart HX12.out hrow13 hblk13 (by decide) (by cases e; rfl))]; exact HX12.out
              obtain ⟨hmod, hsh'⟩ := HMO.out hcn
              have HMD : Hid (nss.modify i (doRow ⟨a, op', i, k', n⟩) = nss') := hmod
              have HSH' : Hid (ShapeOf bk nss') := hsh'
              clear x0 x1 x2 x3 x4 hown13 hrow13 hblk13 hg13 HX12 HI12 hmod hsh' HMO HDO
              obtain ⟨⟨x0, x1, x2, x3, x4⟩, _⟩ := five_cells HX13.out
              have hsz := HI13.out.size
              go_wp2_with (first
                | (at_builtin; refine wpList_append_lies _ rfl _ _ 27 rfl BN 45 ii (.agg #[.int .i64 0, .int .i64 0, .int .i64 0, .int .i64 0, .int .i64 0]) 5 40 Go.Proofs.YtjioingdpfgadaaDoor.uReps HJ.out HIN.out.1 HIN.out.2.1 HIN.out.2.2 rfl (by decide) _ _ _ rfl (HI13.out.outs.alloc _) ⟨w13.heap.size, 0, none⟩ 1 1 (fiveOf ⟨a, op', i, k', n⟩) rfl rfl (World.news_of_block (cs := #[.int .i64 a, .int .i64 op', .int .i64 i, .int .i64 k', .int .i64 n]) (t := 45) (fr := (0, 0)) (heap_alloc_new w13 _)) (five_one _) (by decide) (by have := HOL.out; unfold maxLen; omega) (by have := HOL.out; omega) (by simp; omega) (w13.heap.size + 1) (by simp) ?_)
                | fail)
              intro g14 cap14 w14 hown14 hgrow hat14 hlt14
              have HI14 : Hid (RepInv C ca bs cap B (.slice sa bk.sts.length sc) (.slice (some ⟨tb, 0, none⟩) bk.trips.length tc) bk BN (.slice na bk.trips.length nvc) vs w w14 (.slice (some ⟨g14, 0, none⟩) (out.length + 1) cap14) (out ++ [⟨a, op', i, k', n⟩]) nss' s9 (m' + 12)) := HI13.out.more hown14 hgrow
              clear hown14 hgrow hat14 hlt14 HI13 HX13 x0 x1 x2 x3 x4
              go_wp2_with fail
              refine (pick_any C ca bs cap (m' + 12) 9 s9 _ (by omega) (by omega) HI14.out.cur).mono ?_
              rintro e w15 ⟨d, s15, hp15, hd15, rfl, hc15, hg15⟩
              have HI15 : Hid (RepInv C ca bs cap B (.slice sa bk.sts.length sc) (.slice (some ⟨tb, 0, none⟩) bk.trips.length tc) bk BN (.slice na bk.trips.length nvc) vs w w15 (.slice (some ⟨g14, 0, none⟩) (out.length + 1) cap14) (out ++ [⟨a, op', i, k', n⟩]) nss' s15 (m' + 14)) := HI14.out.cur' hg15 hc15
              have HF1 : Hid (repsF bs bk j0 (a + d) nss' s15 (out ++ [⟨a, op', i, k', n⟩]) = repsF bs bk r4 r3 (startNews bk) s4 []) := by
                unfold Hid
                rw [← HF0.out, repsF_yes bs bk j0 a nss s s9 s15 out _ d HRF2.out hcn hp15, ← HMD.out]
                rfl
              have hol1 : Hid ((out ++ [(⟨a, op', i, k', n⟩ : RepD)]).length ≤ r4 - j0) := by have := hol.out; unfold Hid; rw [List.length_append]; simp; omega
              clear hcn HF0 HRF2 hp15 hc15 hg15 HI14
              go_wp2_with fail
              go_roundw
              case rel => exact ⟨j0, a + d, m' + 14, out ++ [⟨a, op', i, k', n⟩], nss', s15, by omega, by go_num, by go_num, by omega, by omega, hol1, HSH', HI15, HF1⟩
              case measure => simp [intOf]; omega
    · have hj0 : j = 0 := by omega
      have hji : ¬ (0 : Int) < (j : Int) := by omega
      have HFE : Hid (reportsF bs bk s0 = (out, s)) := by
        have := hF.out
        rw [hj0] at this
        unfold Hid; rw [HRF.out, ← this]; rfl
      clear hj0 hF
      go_wp2_with fail
      go_ret
      have h1 := hI.out.base
      exact ⟨out, s, _, HFE.out, rfl, owns_mono hI.out.outs (by omega), hI.out.cur.more (by omega), hI.out.keep⟩

end Go.Proofs.YtjioingdpfgadaaDoor
