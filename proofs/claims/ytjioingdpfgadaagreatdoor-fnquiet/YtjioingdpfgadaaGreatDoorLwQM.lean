import Derived.Test.YtjioingdpfgadaaGreatDoorSayBM
import Derived.Test.YtjioingdpfgadaaGreatDoorSayLM
import Derived.Test.YtjioingdpfgadaaGreatDoorSayIM
import Derived.Test.YtjioingdpfgadaaGreatDoorBoardHM
import Derived.Test.YtjioingdpfgadaaGreatDoorBrdJM
import Derived.Test.YtjioingdpfgadaaGreatDoorPureQM
import Derived.Test.YtjioingdpfgadaaGreatDoorSpecDM
namespace Go.Proofs.YtjioingdpfgadaaGreatDoor
open Go Go.RowKit Go.Deep

theorem Scene.trips {w0 w : World} {X : Nat} {sa ta ra ma : Option Addr} {sc tc : Nat} {bk : BookD} {rs : List RepD} {ms : List Int} (h : Scene w0 w X sa ta ra ma sc tc bk rs ms) : TripsAt w ta bk.trips := by
  obtain ⟨a, b, c, d, e, _, h2⟩ := h.book
  simp only [Value.agg.injEq, Array.mk.injEq, List.cons.injEq, Value.slice.injEq] at e
  obtain ⟨_, ⟨rfl, _⟩, _⟩ := e
  exact h2
theorem reps_nil (w : World) : RepsAt w none [] := fun i h => by simp at h

set_option maxRecDepth 100000 in
set_option maxHeartbeats 3000000 in
theorem lawQuiet_any (ca ma : Option Addr) (bs ms : List Int) (cc mc : Nat) (w : World) (hcode : BytesAt w ca bs) (hlow : ∀ b o, ca = some ⟨b, o, none⟩ → b < w.heap.size) (hmore : BytesAt w ma ms) (hev : ErrVars w) (htab : TabW w) :
    Calls Tryz.prog 4 #[.slice ca bs.length cc, .slice ma ms.length mc] w fun e w' => e = .returned (.bool true) ∧ Below w.heap.size w w' := by
  by_cases h1 : 1048576 < bs.length
  · have h1i : (1048576 : Int) < (bs.length : Int) := by omega
    go_enter Tryz.func4, Tryz.ntmps4
    go_wp2_with fail
    go_ret
    exact ⟨rfl, Below.refl _ _⟩
  by_cases h2 : 1048576 < ms.length
  · have h1i : ¬ (1048576 : Int) < (bs.length : Int) := by omega
    have h2i : (1048576 : Int) < (ms.length : Int) := by omega
    go_enter Tryz.func4, Tryz.ntmps4
    go_wp2_with fail
    go_ret
    exact ⟨rfl, Below.refl _ _⟩
  have h1i : ¬ (1048576 : Int) < (bs.length : Int) := by omega
  have h2i : ¬ (1048576 : Int) < (ms.length : Int) := by omega
  have HDR := drawn_any ca bs cc w hcode hlow
  have HEV : Hid (ErrVars w) := hev
  have HMO : Hid (BytesAt w ma ms) := hmore
  have HTB : Hid (TabW w) := htab
  have HD : Hid (BookDrawn (drawnF bs).1) := drawnF_book bs
  have HR : Hid (reportsB (drawnF bs).1 (drawnF bs).2 = true ∧ (drawnF bs).2.length ≤ 20) := drawnF_reports bs
  clear hcode hlow hmore hev htab
  go_enter Tryz.func4, Tryz.ntmps4
  go_wp2_with fail
  refine HDR.mono ?_
  rintro e w1 ⟨v, rv, rfl, hbk, hrs, hb1⟩
  obtain ⟨sa, sc, ta, tc, ra, rc, rfl, rfl, hsc⟩ := scene_of hbk hrs hb1 HEV.out HMO.out
  generalize (drawnF bs).1 = bk at *
  generalize (drawnF bs).2 = rs at *
  have hn6 := HD.out.sts6
  have hn2 := HD.out.sts2
  have HSML : Hid (bookSize bk ≤ 1048576) := by have := HD.out.small; unfold Hid; omega
  have HRL : Hid (rs.length ≤ 1048576) := by have := HR.out.2; unfold Hid; omega
  have HWF : Hid (∀ t ∈ bk.trips, ∀ i (h : i < t.calls.length), (Lit.int .i64 t.calls[i].st).wf = true) := HD.out.wf
  have HTB1 : Hid (TabW (w1.alloc (.cells #[.slice sa bk.sts.length sc, .slice ta bk.trips.length tc] 26))) := tabW_keep _ _ (hsc.since) HTB.out
  go_wp2_with fail
  obtain ⟨X, hX⟩ : ∃ X, w1.heap.size = X := ⟨_, rfl⟩
  obtain ⟨w2, hw2⟩ : ∃ w2, w1.alloc (.cells #[.slice sa bk.sts.length sc, .slice ta bk.trips.length tc] 26) = w2 := ⟨_, rfl⟩
  rw [hw2, hX] at hsc
  rw [hw2] at HTB1
  rw [hw2, hX]
  have HS2 : Hid (Scene w w2 X sa ta ra ma sc tc bk rs ms) := hsc
  obtain ⟨⟨c0, c1⟩, _⟩ := two_cells hsc.box
  clear hsc hbk hrs hb1 hw2 hX HDR
  have hnz : ¬ (bk.sts.length : Int) = 0 := by omega
  have hnz2 : ¬ bk.sts.length = 0 := by omega
  have hnz3 : ¬ bk.sts = [] := fun e => by rw [e] at hnz2; simp at hnz2
  have hnz4 : ((bk.sts.length : Int) == 0) = false := beq_eq_false_iff_ne.2 hnz
  go_region_held3 (fun w' => w'.cell? ⟨X, 0, none⟩ = some (.slice sa bk.sts.length sc))
    (go_keep)
    (first | (go_at_call 7; refine (wByte_any ma ms mc 0 _ (by omega) (by omega) (by exact HS2.out.more.keep (Below.refl _ _).drew)).mono ?_; rintro e w3 ⟨r3, hr3, rfl, rfl⟩; obtain ⟨s, hs⟩ : ∃ s : Nat, r3 % bk.sts.length = s := ⟨_, rfl⟩; have hsi : (r3 : Int).tmod (bk.sts.length : Int) = (s : Int) := (by rw [Int.tmod_eq_emod_of_nonneg (by omega), ← hs]; simp); have hsl : s < bk.sts.length := (by rw [← hs]; exact Nat.mod_lt _ (by omega)); clear hs))
  clear hsi hr3
  have HS3 : Hid (Scene w w2.drew X sa ta ra ma sc tc bk rs ms) := HS2.out.keep (Below.refl _ _).drew
  have HTB3 : Hid (TabW w2.drew) := tabW_keep _ _ (Below.refl _ _).drew HTB1.out
  obtain ⟨w4', hw4⟩ : ∃ w4', w2.drew = w4' := ⟨_, rfl⟩
  rw [hw4] at HS3 HTB3 ⊢
  clear hw4 c0 c1
  obtain ⟨⟨c0, c1⟩, _⟩ := two_cells HS3.out.box
  have hbl5 : bk.trips.length ≤ 5 := HD.out.trips5
  have hw0 : (Lit.int .i64 (s : Int)).wf = true := wf_small (by omega) (by omega)
  have HW0 : Hid ((Lit.int .i64 (s : Int)).wf = true) := hw0
  clear hw0
  have HSC : Hid (∀ w', Below w4'.heap.size w4' w' → Scene w w' X sa ta ra ma sc tc bk rs ms ∧ TabW w') := fun w' hb => ⟨HS3.out.keep hb, tabW_keep _ _ hb HTB3.out⟩
  have HBRD : Hid (∀ w', Below w4'.heap.size w4' w' → ∀ m : Int, Calls Tryz.prog 10 #[.agg #[.slice sa bk.sts.length sc, .slice ta bk.trips.length tc], .slice none 0 0, .int .i64 s, .int .i64 m, .int .i64 40] w' fun e w'' => ∃ v', e = .returned v' ∧ w''.ownsRow w'.heap.size 52 6 v' (boardD bk [] s m 40).length (sixes (boardD bk [] s m 40)) ∧ Below w'.heap.size w' w'') := fun w' hb m =>
    implBoard_any _ bk none 0 [] s m 40 w' HSML.out (by simp) HWF.out HW0.out (HSC.out w' hb).1.book (reps_nil w') (HSC.out w' hb).1.errs
  have HSAY : Hid (∀ w', Below w4'.heap.size w4' w' → Calls Tryz.prog 17 #[.agg #[.slice sa bk.sts.length sc, .slice ta bk.trips.length tc], .slice none 0 0, .int .i64 s, .int .i64 0, .int .i64 1000000] w' fun e w'' => ∃ v', e = .returned v' ∧ SaidsOwn w'.heap.size w'' v' [] ∧ Below w'.heap.size w' w'') := fun w' hb => by
    have := implSay_any itoa_ok (.agg #[.slice sa bk.sts.length sc, .slice ta bk.trips.length tc]) bk none 0 [] s 0 1000000 w' HSML.out (by simp) HWF.out HW0.out (HSC.out w' hb).1.book (reps_nil w') (HSC.out w' hb).1.errs (HSC.out w' hb).2
    have e : sayD bk [] s 0 1000000 = [] := List.eq_nil_of_length_eq_zero (by have := sayD_length bk [] s 0 1000000; simpa using this)
    rwa [e] at this
  have HCI : Hid (∀ w', Below w4'.heap.size w4' w' → ∀ i : Nat, (h : i < bk.trips.length) → Calls Tryz.prog 19 #[.agg #[.slice sa bk.sts.length sc, .slice ta bk.trips.length tc], .int .i64 i, .int .i64 s] w' fun e w'' => e = .returned (.int .i64 (callAtC bk.trips[i].calls s)) ∧ Below w'.heap.size w' w'') := fun w' hb i hi => by
    have := implCallAt_any (.agg #[.slice sa bk.sts.length sc, .slice ta bk.trips.length tc]) bk i s w' HSML.out HW0.out HWF.out (HSC.out w' hb).1.book (HSC.out w' hb).1.errs
    rwa [callAtD_yes HD.out.fault hi] at this
  have HCS : Hid (∀ w', Below w4'.heap.size w4' w' → ∀ i : Nat, (h : i < bk.trips.length) → Calls Tryz.prog 20 #[.agg #[.slice sa bk.sts.length sc, .slice ta bk.trips.length tc], .int .i64 i, .int .i64 s] w' fun e w'' => e = .returned (.int .i64 (callAtC bk.trips[i].calls s)) ∧ Below w'.heap.size w' w'') := fun w' hb i hi => by
    have := specCallAt_any (.agg #[.slice sa bk.sts.length sc, .slice ta bk.trips.length tc]) bk i s w' HSML.out (HSC.out w' hb).1.book
    rwa [callAtD_yes HD.out.fault hi] at this
  have HMO4 : Hid (BytesAt w4' ma ms) := HS3.out.more
  go_wp2_with fail
  go_region_held3 (fun w' => w'.cell? ⟨X, 0, none⟩ = some (.slice sa bk.sts.length sc) ∧ w'.cell? ⟨X, 1, none⟩ = some (.slice ta bk.trips.length tc))
    (go_keep)
    (first
      | (go_at_call 10; refine (HBRD.out _ B5 m).mono ?_; rintro e w6 ⟨v6, rfl, ho6, hb6⟩; obtain ⟨R, hR⟩ : ∃ R, boardD bk [] s m 40 = R := ⟨_, rfl⟩; have HQ : Hid (QuietOf bk s R) := (by unfold Hid; rw [← hR]; exact quiet_board HD.out.fault (by omega) (by omega) (by omega)); have hrl : R.length ≤ 40 := (by rw [HQ.out.len]; exact Nat.le_trans (quietTo_le _ _ _) (by omega)); rw [hR] at ho6; obtain ⟨a6, c6, rfl, H6⟩ := rows_at ho6; have HR6 : Hid (RowsAt w6 a6 R) := H6; have B6 : Below w4'.heap.size w4' w6 := B5.trans (hb6.mono B5.size); have x0_6 := cell_keep B6 c0; have x1_6 := cell_keep B6 c1; clear ho6 hb6 H6 hR)
      | (go_at_call 7; refine (wByte_any ma ms mc 1 _ (by omega) (by omega) (by exact HMO4.out.keep (Below.refl _ _).drew)).mono ?_; rintro e w5 ⟨m, hm, rfl, rfl⟩; have B5 : Below w4'.heap.size w4' w4'.drew := (Below.refl _ _).drew; have x0_5 := cell_keep B5 c0; have x1_5 := cell_keep B5 c1))
  have HB6 : Hid (Below w4'.heap.size w4' w6) := B6
  clear B5 x0_5 x1_5 B6 c0 c1
  go_wp2_with fail
  go_loopw [9, 44] (fun n i wr => ∃ k : Nat, k ≤ bk.trips.length ∧ i = .int .i64 k ∧ n = .int .i64 (quietTo bk s k : Nat) ∧ Hid (Below w6.heap.size w6 wr)) (fun _ i _ => bk.trips.length - (intOf i).toNat)
  case atStart => exact ⟨0, Nat.zero_le _, rfl, rfl, Below.refl _ _⟩
  case round =>
    obtain ⟨k, hk, rfl, rfl, hB⟩ := hrel
    have y0 := cell_keep hB.out x0_6
    have y1 := cell_keep hB.out x1_6
    have hzr := hB.out.size
    have HBr : Hid (Below w4'.heap.size w4' wr) := HB6.out.trans (hB.out.mono HB6.out.size)
    by_cases hlt : k < bk.trips.length
    · have hsc := (HSC.out wr HBr.out).1
      have HQT : Hid (quietTo bk s (k + 1) = quietTo bk s k + (if decide (0 ≤ callAtC bk.trips[k].calls s ∧ callAtC bk.trips[k].calls s + 1 ≠ bk.trips[k].calls.length) then 1 else 0)) := by
        unfold Hid; rw [quietTo, goesB_at bk s k hlt]
      have hql := quietTo_le bk s k
      obtain ⟨b, o, ca', cc', rfl, t0, t1, hca⟩ := hsc.trips k hlt
      have HCI1 : Hid (∀ w', Below w4'.heap.size w4' w' → Calls Tryz.prog 19 #[.agg #[.slice sa bk.sts.length sc, .slice (some ⟨b, o, none⟩) bk.trips.length tc], .int .i64 k, .int .i64 s] w' fun e w'' => e = .returned (.int .i64 (callAtC bk.trips[k].calls s)) ∧ Below w'.heap.size w' w'') := fun w' hb => HCI.out w' hb k hlt
      have HCS1 : Hid (∀ w', Below w4'.heap.size w4' w' → Calls Tryz.prog 20 #[.agg #[.slice sa bk.sts.length sc, .slice (some ⟨b, o, none⟩) bk.trips.length tc], .int .i64 k, .int .i64 s] w' fun e w'' => e = .returned (.int .i64 (callAtC bk.trips[k].calls s)) ∧ Below w'.heap.size w' w'') := fun w' hb => HCS.out w' hb k hlt
      have HMEM : Hid (∀ q (hq : q < bk.trips[k].calls.length), callAtC bk.trips[k].calls s = (q : Int) → q + 1 ≠ bk.trips[k].calls.length → planRow bk.trips[k].calls k bk.trips[k].calls[q] ∈ R) := fun q hq h1 h2 => HQ.out.mem k q hlt hq h1 h2
      have hlen8 : bk.trips[k].calls.length ≤ 8 := (HD.out.calls k hlt).len
      have HCA : Hid (CallsAt wr ca' bk.trips[k].calls) := hca
      have htl := cell_lt t0
      clear hsc hca
      generalize bk.trips[k] = t at *
      obtain ⟨W9, hW9⟩ : ∃ W9, wr.alloc (.cells #[.string t.name, .slice ca' t.calls.length cc'] 49) = W9 := ⟨_, rfl⟩
      have hb9 : Below wr.heap.size wr W9 := by subst hW9; exact (Below.refl _ _).alloc (Nat.le_refl _) _
      have hx9 : W9.heap[wr.heap.size]? = some (.cells #[.string t.name, .slice ca' t.calls.length cc'] 49 (0, 0)) := by subst hW9; exact heap_alloc_last wr _
      have hs9 : W9.heap.size = wr.heap.size + 1 := by subst hW9; simp
      obtain ⟨⟨p0, p1⟩, _⟩ := two_cells hx9
      have z0 := cell_keep hb9 y0
      have z1 := cell_keep hb9 y1
      have hkl : (k : Int) < (bk.trips.length : Int) := by omega
      have HB9 : Hid (Below wr.heap.size wr W9) := hb9
      clear hb9 hx9
      go_wp2_with fail
      clear hW9
      refine (HCI1.out _ (HBr.out.trans (HB9.out.mono HBr.out.size))).mono ?_
      rintro e w10 ⟨rfl, hb10⟩
      have z0' := cell_keep hb10 z0
      have z1' := cell_keep hb10 z1
      have p0' := cell_keep hb10 p0
      have p1' := cell_keep hb10 p1
      have HB10 : Hid (Below wr.heap.size wr w10) := HB9.out.trans (hb10.mono HB9.out.size)
      clear hb10 z0 z1 p0 p1
      go_wp2_with fail
      refine (HCS1.out _ (HBr.out.trans (HB10.out.mono HBr.out.size))).mono ?_
      rintro e w11 ⟨rfl, hb11⟩
      have z0 := cell_keep hb11 z0'
      have z1 := cell_keep hb11 z1'
      have p0 := cell_keep hb11 p0'
      have p1 := cell_keep hb11 p1'
      have HB11 : Hid (Below wr.heap.size wr w11) := HB10.out.trans (hb11.mono HB10.out.size)
      clear hb11 z0' z1' p0' p1'
      by_cases hz : callAtC t.calls s < 0
      · have HQ2 : Hid (quietTo bk s (k + 1) = quietTo bk s k) := by unfold Hid; rw [HQT.out, if_neg (by simp; omega)]; rfl
        generalize callAtC t.calls s = z at *
        clear HQT HMEM
        go_wp2_with fail
        go_roundw
        case rel => exact ⟨k + 1, by omega, by go_num, by rw [HQ2.out], hB.out.trans (HB11.out.mono hB.out.size)⟩
        case measure => simp [intOf]; omega
      obtain ⟨q, hq, hqe⟩ := callAt_nat (cs := t.calls) (s := s) (by omega)
      have hqi : ¬ (q : Int) < 0 := by omega
      by_cases hl : q + 1 = t.calls.length
      · have HQ2 : Hid (quietTo bk s (k + 1) = quietTo bk s k) := by unfold Hid; rw [HQT.out, if_neg (by simp; omega)]; rfl
        have hqb : ((q : Int) == (t.calls.length : Int) - 1) = true := by simp; omega
        have hqb' : (q : Int) = (t.calls.length : Int) - 1 := by omega
        rw [hqe]
        clear HQT HMEM hqe hz
        go_wp2_with fail
        go_roundw
        case rel => exact ⟨k + 1, by omega, by go_num, by rw [HQ2.out], hB.out.trans (HB11.out.mono hB.out.size)⟩
        case measure => simp [intOf]; omega
      have HQ2 : Hid (quietTo bk s (k + 1) = quietTo bk s k + 1) := by unfold Hid; rw [HQT.out, if_pos (by simp; omega)]
      obtain ⟨L1, hL1⟩ : ∃ L1, t.calls.length = L1 + 1 := ⟨t.calls.length - 1, by omega⟩
      have hL1i : (t.calls.length : Int) - 1 = (L1 : Int) := by omega
      have hL1w : IntKind.i64.wrap (L1 : Int) = (L1 : Int) := by rw [IntKind.wrap_i64]; omega
      have hqb : ((q : Int) == (L1 : Int)) = false := beq_eq_false_iff_ne.2 (by omega)
      have hqb' : ¬ (q : Int) = (L1 : Int) := by omega
      have hmem := HMEM.out q hq hqe hl
      have hto : (t.calls[t.calls.length - 1]?.map (·.st)).getD 0 = (t.calls[L1]'(by omega)).st := by
        rw [show t.calls.length - 1 = L1 by omega, List.getElem?_eq_getElem (by omega)]; rfl
      have HPL : Hid (planRow t.calls k t.calls[q] = ⟨k, (t.calls[L1]'(by omega)).st, t.calls[q].go, t.calls[q].go, t.calls[q].tr, 0⟩) := by unfold Hid planRow; rw [hto]
      rw [HPL.out] at hmem
      obtain ⟨d1, e1, rfl, u0, u1, u2, u3⟩ := (HCA.out.keep HB11.out) L1 (by omega)
      obtain ⟨d2, e2, ed, v0, v1, v2, v3⟩ := (HCA.out.keep HB11.out) q hq
      simp only [Option.some.injEq, Addr.mk.injEq, and_true] at ed
      obtain ⟨rfl, rfl⟩ := ed
      have hdl := cell_lt u0
      obtain ⟨pl, hpl⟩ : ∃ j, ∃ h : j < R.length, R[j] = ⟨k, (t.calls[L1]'(by omega)).st, t.calls[q].go, t.calls[q].go, t.calls[q].tr, 0⟩ := by
        obtain ⟨j, h, e⟩ := List.getElem_of_mem hmem
        exact ⟨j, h, e⟩
      have HPL2 : Hid (∃ h : pl < R.length, R[pl] = ⟨k, (t.calls[L1]'(by omega)).st, t.calls[q].go, t.calls[q].go, t.calls[q].tr, 0⟩) := hpl
      have hqi2 : (q : Int) < (t.calls.length : Int) := by omega
      have hL1i2 : (L1 : Int) < (t.calls.length : Int) := by omega
      have hq0 : (0 : Int) ≤ (q : Int) := by omega
      have hL0 : (0 : Int) ≤ (L1 : Int) := by omega
      rw [hqe]
      generalize (t.calls[L1]'(by omega)).st = toS at *
      generalize t.calls[q] = c at *
      clear HQT HMEM hqe hz hl hmem hpl hto HPL HCA u1 u2 u3 v0 v1
      have HB6' : Hid (Below w6.heap.size w6 w11) := hB.out.trans (HB11.out.mono hB.out.size)
      clear hL1
      generalize t.calls.length = tl at *
      go_wp2_with fail
      go_loopw [13, 73] (fun mt i wr => ∃ (p : Nat) (mb : Bool), p ≤ R.length ∧ i = .int .i64 p ∧ mt = .bool mb ∧ Hid (pl < p → mb = true) ∧ Hid (Below w11.heap.size w11 wr)) (fun _ i _ => R.length - (intOf i).toNat)
      case atStart => exact ⟨0, false, Nat.zero_le _, rfl, rfl, fun h => absurd h (by omega), Below.refl _ _⟩
      case round =>
        obtain ⟨p, mb, hp, rfl, rfl, hmb, hBi⟩ := hrel
        have hzi := hBi.out.size
        by_cases hpl : p < R.length
        · have hpi : (p : Int) < (R.length : Int) := by omega
          obtain ⟨rb, ro, rfl, r0, r1, r2, r3, r4, r5⟩ := ((HR6.out.keep HB6'.out).keep hBi.out) p hpl
          have hrb := cell_lt r0
          have HE : Hid (p = pl → R[p] = ⟨k, toS, c.go, c.go, c.tr, 0⟩) := fun e => by subst e; exact HPL2.out.2
          generalize R[p] = r at *
          have P1 := cell_keep hBi.out p1
          have hPl := cell_lt P1
          have U0 := cell_keep hBi.out u0
          have V2 := cell_keep hBi.out v2
          have V3 := cell_keep hBi.out v3
          have hdi := cell_lt U0
          rcases mb with _ | _
          · by_cases hpp : p = pl
            · obtain rfl := HE.out hpp
              simp only at r0 r1 r2 r3 r4 r5
              clear HE hmb hpp
              go_wp2_with fail
              go_quiet (fail)
              go_wp2_with fail
              go_roundw
              case rel => exact ⟨p + 1, true, by omega, by go_num, rfl, fun _ => rfl, below_drewN (hBi.out.alloc hzi _) _⟩
              case measure => simp [intOf]; omega
            · have HM : Hid (pl < p → false = true) := hmb.out
              clear HE hmb
              go_wp2_with fail
              by_cases e0 : r.trip = (k : Int)
              rotate_left
              · have eb0 : (r.trip == (k : Int)) = false := beq_eq_false_iff_ne.2 e0
                have ed0 : decide (r.trip = (k : Int)) = false := decide_eq_false e0
                go_quiet (fail)
                go_wp2_with fail
                go_roundw
                case rel => exact ⟨p + 1, _, by omega, by go_num, rfl, fun h => absurd (HM.out (by omega)) (by simp), below_drewN (hBi.out.alloc hzi _) _⟩
                case measure => simp [intOf]; omega
              by_cases e1 : r.to = toS
              rotate_left
              · have eb1 : (r.to == toS) = false := beq_eq_false_iff_ne.2 e1
                have ed1 : decide (r.to = toS) = false := decide_eq_false e1
                go_quiet (fail)
                go_wp2_with fail
                go_roundw
                case rel => exact ⟨p + 1, _, by omega, by go_num, rfl, fun h => absurd (HM.out (by omega)) (by simp), below_drewN (hBi.out.alloc hzi _) _⟩
                case measure => simp [intOf]; omega
              by_cases e2 : r.due = c.go
              rotate_left
              · have eb2 : (r.due == c.go) = false := beq_eq_false_iff_ne.2 e2
                have ed2 : decide (r.due = c.go) = false := decide_eq_false e2
                go_quiet (fail)
                go_wp2_with fail
                go_roundw
                case rel => exact ⟨p + 1, _, by omega, by go_num, rfl, fun h => absurd (HM.out (by omega)) (by simp), below_drewN (hBi.out.alloc hzi _) _⟩
                case measure => simp [intOf]; omega
              by_cases e3 : r.expect = c.go
              rotate_left
              · have eb3 : (r.expect == c.go) = false := beq_eq_false_iff_ne.2 e3
                have ed3 : decide (r.expect = c.go) = false := decide_eq_false e3
                go_quiet (fail)
                go_wp2_with fail
                go_roundw
                case rel => exact ⟨p + 1, _, by omega, by go_num, rfl, fun h => absurd (HM.out (by omega)) (by simp), below_drewN (hBi.out.alloc hzi _) _⟩
                case measure => simp [intOf]; omega
              by_cases e4 : r.track = c.tr
              rotate_left
              · have eb4 : (r.track == c.tr) = false := beq_eq_false_iff_ne.2 e4
                have ed4 : decide (r.track = c.tr) = false := decide_eq_false e4
                go_quiet (fail)
                go_wp2_with fail
                go_roundw
                case rel => exact ⟨p + 1, _, by omega, by go_num, rfl, fun h => absurd (HM.out (by omega)) (by simp), below_drewN (hBi.out.alloc hzi _) _⟩
                case measure => simp [intOf]; omega
              by_cases e5 : r.state = 0
              rotate_left
              · have eb5 : (r.state == 0) = false := beq_eq_false_iff_ne.2 e5
                have ed5 : decide (r.state = 0) = false := decide_eq_false e5
                go_quiet (fail)
                go_wp2_with fail
                go_roundw
                case rel => exact ⟨p + 1, _, by omega, by go_num, rfl, fun h => absurd (HM.out (by omega)) (by simp), below_drewN (hBi.out.alloc hzi _) _⟩
                case measure => simp [intOf]; omega
              go_quiet (fail)
              go_wp2_with fail
              go_roundw
              case rel => exact ⟨p + 1, _, by omega, by go_num, rfl, fun h => absurd (HM.out (by omega)) (by simp), below_drewN (hBi.out.alloc hzi _) _⟩
              case measure => simp [intOf]; omega
          · clear HE hmb
            go_wp2_with fail
            go_quiet (fail)
            go_wp2_with fail
            go_roundw
            case rel => exact ⟨p + 1, true, by omega, by go_num, rfl, fun _ => rfl, below_drewN (hBi.out.alloc hzi _) _⟩
            case measure => simp [intOf]; omega
        · have hmt : mb = true := hmb.out (by have := HPL2.out.1; omega)
          subst hmt
          have HBN : Hid (Below w6.heap.size w6 wr) := HB6'.out.trans (hBi.out.mono HB6'.out.size)
          clear hmb
          go_wp2_with fail
          go_roundw
          case rel => exact ⟨k + 1, by omega, by go_num, by rw [HQ2.out]; go_num, HBN⟩
          case measure => simp [intOf]; omega
    · have hke : k = bk.trips.length := by omega
      subst hke
      rw [← HQ.out.len]
      clear y0 y1
      rename World => W0
      have HBW : Hid (Below w6.heap.size w6 W0) := hB
      go_wp2_with fail
      go_loopw [16] (fun i wr => ∃ p : Nat, 1 ≤ p ∧ p ≤ R.length + 1 ∧ i = .int .i64 p ∧ Hid (Below w6.heap.size w6 wr)) (fun i _ => R.length - (intOf i).toNat)
      case atStart => exact ⟨1, Nat.le_refl _, by omega, rfl, HBW⟩
      case round =>
        obtain ⟨p, hp1, hp, rfl, hBi⟩ := hrel
        by_cases hpl : p < R.length
        · obtain ⟨p0, hp0⟩ : ∃ p0, p = p0 + 1 := ⟨p - 1, by omega⟩
          have hle : (R[p0]'(by omega)).expect ≤ R[p].expect := by
            have := HQ.out.srt p0 (by omega)
            simp only [← hp0] at this
            exact this
          obtain ⟨rb, ro, rfl, r0, r1, r2, r3, r4, r5⟩ := (HR6.out.keep hBi.out) p hpl
          obtain ⟨rb', ro', er, q0, q1, q2, q3, q4, q5⟩ := (HR6.out.keep hBi.out) p0 (by omega)
          simp only [Option.some.injEq, Addr.mk.injEq, and_true] at er
          obtain ⟨rfl, rfl⟩ := er
          generalize R[p] = r at *
          generalize R[p0]'(by omega) = r' at *
          have hpi : (p : Int) < (R.length : Int) := by omega
          have hpi0 : (0 : Int) ≤ (p : Int) := by omega
          have hpm : (p : Int) - 1 = (p0 : Int) := by omega
          have hpw : IntKind.i64.wrap (p0 : Int) = (p0 : Int) := by rw [IntKind.wrap_i64]; omega
          have hp0i : (p0 : Int) < (R.length : Int) := by omega
          have hd : decide (r.expect < r'.expect) = false := decide_eq_false (by omega)
          have hd' : ¬ r.expect < r'.expect := by omega
          clear hp0 hle
          go_wp2_with fail
          go_quiet (fail)
          go_wp2_with fail
          go_roundw
          case rel => exact ⟨p + 1, by omega, by omega, by go_num, below_drewN hBi.out _⟩
          case measure => simp [intOf]; omega
        · have y0 := cell_keep hBi.out x0_6
          have y1 := cell_keep hBi.out x1_6
          have hpi : ¬ (p : Int) < (R.length : Int) := by omega
          have HBr2 : Hid (Below w4'.heap.size w4' wr) := HB6.out.trans (hBi.out.mono HB6.out.size)
          go_wp2_with fail
          refine (HSAY.out _ HBr2.out).mono ?_
          rintro e w40 ⟨v40, rfl, ho40, hb40⟩
          obtain ⟨a40, c40, rfl, _⟩ := saids_at ho40
          have HBE : Hid (Below w.heap.size w w40) := by
            have h1 := HBr2.out.trans (hb40.mono HBr2.out.size)
            exact HS3.out.since.trans (h1.mono HS3.out.since.size)
          clear ho40 hb40
          go_wp2_with fail
          go_ret
          exact ⟨rfl, HBE.out⟩

end Go.Proofs.YtjioingdpfgadaaGreatDoor
