import Derived.Test.YtjioingdpfgadaaGreatDoorProg
import Derived.Test.YtjioingdpfgadaaGreatDoorSayKM
import Derived.Test.YtjioingdpfgadaaGreatDoorLaidSM
namespace Go.Proofs.YtjioingdpfgadaaGreatDoor
open Go Go.RowKit Go.Deep

/-- What the program holds of a trip and what the document asks. -/
theorem tell_counts {bk : BookD} {G N : List (List NewsD)} {r : RepD} {j c : Nat} (hG : Grid G) (h40 : bk.trips.length ≤ 40) (h20 : ∀ i (h : i < bk.trips.length), 2 ≤ bk.trips[i].calls.length ∧ bk.trips[i].calls.length ≤ 20) (hN : cutRows bk.trips G = N)
    (hr : reportB bk r = true) (hj : r.trip = (j : Int)) (hjl : j < bk.trips.length) (hc : r.call = (c : Int)) (hjG : j < G.length) (hcG : c < G[j].length) (s : Int) :
    allowsX G[j] c (lastB bk r) G[j][c] r = countsN N r ∧ textD bk N r s = textT bk bk.trips[j] (G[j].take bk.trips[j].calls.length) r s ∧ ∃ hjN : j < N.length, N[j] = G[j].take bk.trips[j].calls.length := by
  obtain ⟨_, _, ho, _, _, i4⟩ := reportB_head hr
  have hcl : callsOf bk r.trip = bk.trips[j].calls := by rw [hj]; exact callsOf_at bk j hjl
  have hcn : c < bk.trips[j].calls.length := by rw [hcl, hc] at i4; omega
  have hNl : N.length = bk.trips.length := by rw [← hN]; exact cutRows_length (by rw [hG.len]; exact h40)
  have hjN : j < N.length := by omega
  have hNj : N[j] = G[j].take bk.trips[j].calls.length := by subst hN; exact cutRows_at j hjl hjG hjN
  have hNl2 : N[j].length = bk.trips[j].calls.length := by rw [hNj, List.length_take, hG.at j hjG]; have := h20 j hjl; omega
  have hcN : c < N[j].length := by omega
  have hfull : ∀ i (h : i < N[j].length), G[j][i]? = some N[j][i] := fun i h => by
    have : N[j][i]? = some N[j][i] := List.getElem?_eq_getElem h
    rw [← this, hNj, List.getElem?_take, if_pos (by omega)]
  refine ⟨?_, ?_, hjN, hNj⟩
  · rw [countsN_at N r j c hjN hj hcN hc]
    refine allowsX_counts ho hcN hcG hfull ?_
    unfold lastB
    rw [hc, hcl, hNl2]
    by_cases h : c + 1 < bk.trips[j].calls.length
    · rw [decide_eq_true h]; simp; omega
    · rw [decide_eq_false h]; simp; omega
  · rw [textD_at bk N r s j hjl hjN hj, hNj]

set_option maxRecDepth 100000 in
set_option maxHeartbeats 4000000 in
theorem speaker_any (bk : BookD) (sa ta : Option Addr) (sc tc : Nat) (s : Int) (w : World) (h40 : bk.trips.length ≤ 40) (h20 : ∀ i (h : i < bk.trips.length), bk.trips[i].calls.length ≤ 20) (hat : BookAt w (.agg #[.slice sa bk.sts.length sc, .slice ta bk.trips.length tc]) bk) :
    Calls Tryz.prog 42 #[.agg #[.slice sa bk.sts.length sc, .slice ta bk.trips.length tc], .int .i64 s] w fun e w' => ∃ Bk Bb Bs : Nat, e = .returned (.func (.func 61) #[] #[.pointer (some ⟨Bk, 0, none⟩), .pointer (some ⟨Bb, 0, none⟩), .pointer (some ⟨Bs, 0, none⟩)]) ∧ w'.heap[Bk]? = some (.cells (gridCells (planGrid bk)).toArray 71 (0, 0)) ∧ w'.cell? ⟨Bb, 0, none⟩ = some (.slice sa bk.sts.length sc) ∧ w'.cell? ⟨Bb, 1, none⟩ = some (.slice ta bk.trips.length tc) ∧ w'.cell? ⟨Bs, 0, none⟩ = some (.int .i64 s) ∧ Bb ≠ Bk ∧ Bs ≠ Bk ∧ w.heap.size ≤ Bk ∧ Below w.heap.size w w' := by
  have HBK : Hid (BookAt w (.agg #[.slice sa bk.sts.length sc, .slice ta bk.trips.length tc]) bk) := hat
  have H20 : Hid (∀ i (h : i < bk.trips.length), bk.trips[i].calls.length ≤ 20) := h20
  obtain ⟨W, hW⟩ : ∃ W, (w.alloc (.cells #[.slice sa bk.sts.length sc, .slice ta bk.trips.length tc] 26)).alloc (.cells #[.int .i64 s] 3) = W := ⟨_, rfl⟩
  have bW : Below w.heap.size w W := by subst hW; exact ((Below.refl _ _).alloc (Nat.le_refl _) _).alloc (by simp) _
  have hsW : W.heap.size = w.heap.size + 1 + 1 := by subst hW; simp
  have p0 : W.cell? ⟨w.heap.size, 0, none⟩ = some (.slice sa bk.sts.length sc) := by subst hW; simp [go_sem]
  have p1 : W.cell? ⟨w.heap.size, 1, none⟩ = some (.slice ta bk.trips.length tc) := by subst hW; simp [go_sem]
  have p2 : W.cell? ⟨w.heap.size + 1, 0, none⟩ = some (.int .i64 s) := by subst hW; simp [go_sem]
  have hz := zeroB
  have HZ4 : Hid ((gridCells zeroGrid).toArray.size = 4000) := grid_zero.size
  have HPG : Hid (Grid (planGrid bk)) := planTo_grid (Nat.le_refl _) h40 h20
  have HX4 : Hid ((gridCells (planGrid bk)).toArray.size = 4000) := HPG.out.size
  have HXI : Hid ((Tryz.prog.info? 71).map (·.size) = some (gridCells (planGrid bk)).toArray.size) := by unfold Hid; rw [HX4.out]; exact sizeB
  have HX1 : Hid ((gridCells (planGrid bk)).toArray.all (·.oneCell') = true) := gridCells_one _
  have HZX : Hid ((gridCells zeroGrid).toArray.size = (gridCells (planGrid bk)).toArray.size) := by unfold Hid; rw [HZ4.out, HX4.out]
  have HSW : Hid (W.heap.size = w.heap.size + 1 + 1) := hsW
  generalize hZ : (gridCells zeroGrid).toArray = Z at *
  clear hat h20 hsW HX4
  go_enter Tryz.func42, Tryz.ntmps42
  go_wp2_with fail
  refine (planned_any _ bk _ h40 H20.out (by exact HBK.out.keep bW)).mono ?_
  rintro e w1 ⟨rfl, hb1⟩
  have q0 := cell_keep hb1 p0
  have q1 := cell_keep hb1 p1
  have q2 := cell_keep hb1 p2
  have z1 := hb1.size
  have hs1 : w.heap.size + 1 + 1 ≤ w1.heap.size := by have := HSW.out; omega
  have B1 : Below w.heap.size w w1 := bW.trans (hb1.mono bW.size)
  clear hW p0 p1 p2
  go_wp2_with (refine wpList_store_row (by rfl) 71 (.tmp 5) (.tmp 7) (by rfl) w1.heap.size (gridCells (planGrid bk)).toArray (by rfl) (by rfl) 71 Z (heap_alloc_last w1 _) HXI.out HZX.out HX1.out ?_)
  go_ret
  have b2 : Below w1.heap.size w1 ((w1.alloc (.cells Z 71)).setRow w1.heap.size (gridCells (planGrid bk)).toArray) := below_setRow ((Below.refl _ _).alloc (Nat.le_refl _) _) _ _ (Nat.le_refl _)
  exact ⟨w1.heap.size, w.heap.size, w.heap.size + 1, rfl, setRow_heap _ _ _ _ _ _ (heap_alloc_last w1 _), cell_keep b2 q0, cell_keep b2 q1, cell_keep b2 q2, by omega, by omega, by omega, B1.trans (b2.mono B1.size)⟩

end Go.Proofs.YtjioingdpfgadaaGreatDoor
namespace Go.Proofs.YtjioingdpfgadaaGreatDoor
open Go Go.RowKit Go.Deep

theorem said_if (bk : BookD) (rs : List RepD) (s frm till : Int) (k : Nat) (hk : k < rs.length) (TT : ByteArray) (N : List (List NewsD)) (hN : newsTo bk lastTick (rs.take k) = N) (hT : TT = if countsN N rs[k] = true then textD bk N rs[k] s else ⟨#[]⟩) :
    saidAt bk rs s frm till k = if TT ≠ ⟨#[]⟩ ∧ frm ≤ rs[k].tick ∧ rs[k].tick ≤ till then [⟨rs[k].tick, TT⟩] else [] := by
  rw [saidAt_at bk rs s frm till k hk, hN, hT]
  by_cases hc : countsN N rs[k] = true
  · rw [if_pos hc]
    by_cases h : textD bk N rs[k] s ≠ ⟨#[]⟩ ∧ frm ≤ rs[k].tick ∧ rs[k].tick ≤ till
    · rw [if_pos ⟨hc, h⟩, if_pos h]
    · rw [if_neg (fun h' => h h'.2), if_neg h]
  · rw [if_neg hc, if_neg (fun h' => hc h'.1), if_neg (fun h' => h'.1 rfl)]

set_option maxRecDepth 100000 in
set_option maxHeartbeats 8000000 in
theorem implSay_any {Tab : World → Prop} (hit : ItoaOk Tab) (v : Value) (bk : BookD) (ra : Option Addr) (rc : Nat) (rs : List RepD) (s frm till : Int) (w : World) (hn : bookSize bk ≤ 1048576) (hm : rs.length ≤ 1048576) (hwf : ∀ t ∈ bk.trips, ∀ i (h : i < t.calls.length), (Lit.int .i64 t.calls[i].st).wf = true) (hws : (Lit.int .i64 s).wf = true) (hat : BookAt w v bk) (hra : RepsAt w ra rs) (hev : ErrVars w) (htab : Tab w) :
    Calls Tryz.prog 17 #[v, .slice ra rs.length rc, .int .i64 s, .int .i64 frm, .int .i64 till] w fun e w' => ∃ v', e = .returned v' ∧ SaidsOwn w.heap.size w' v' (sayD bk rs s frm till) ∧ Below w.heap.size w w' := by
  obtain ⟨sa, sc, ta, tc, rfl, hsa, hta⟩ := hat
  have HBK : Hid (BookAt w (.agg #[.slice sa bk.sts.length sc, .slice ta bk.trips.length tc]) bk) := ⟨sa, sc, ta, tc, rfl, hsa, hta⟩
  have HSA : Hid (StrsAt w sa bk.sts) := hsa
  have HTA : Hid (TripsAt w ta bk.trips) := hta
  have HWF : Hid (∀ t ∈ bk.trips, ∀ i (h : i < t.calls.length), (Lit.int .i64 t.calls[i].st).wf = true) := hwf
  have HRA : Hid (RepsAt w ra rs) := hra
  have HTAB : Hid (Tab w) := htab
  have HWS : Hid ((Lit.int .i64 s).wf = true) := hws
  have n1 : bk.sts.length ≤ 1048576 := by unfold bookSize strsSize at hn; omega
  clear hsa hta hwf hra htab hws
  have hb0 := ibox w (.cells #[.slice sa bk.sts.length sc, .slice ta bk.trips.length tc] 26)
  go_enter Tryz.func17, Tryz.ntmps17
  go_wp2_with fail
  refine (readReports_any _ bk _ _ rs _ hn hm HWF.out (by exact HBK.out.keep hb0) (by exact HRA.out.keep hb0) (by exact hev.keep hb0)).mono ?_
  rintro e w1 ⟨hms, hb1⟩
  have B1 : Below (w.heap.size + 1) (w.alloc (.cells #[.slice sa bk.sts.length sc, .slice ta bk.trips.length tc] 26)) w1 := hb1.mono (by simp)
  have hB1 : Below w.heap.size w w1 := hb0.trans (B1.mono (by omega))
  have q0 : w1.cell? ⟨w.heap.size, 0, none⟩ = some (.slice sa bk.sts.length sc) := by rw [B1.cell (p := ⟨w.heap.size, 0, none⟩) (by simp)]; simp [go_sem]
  have q1 : w1.cell? ⟨w.heap.size, 1, none⟩ = some (.slice ta bk.trips.length tc) := by rw [B1.cell (p := ⟨w.heap.size, 1, none⟩) (by simp)]; simp [go_sem]
  clear hb1 B1 hb0
  rcases hms with ⟨hF, rfl⟩ | ⟨hT, b, rfl, hmsg⟩
  · have HK : Hid (sayD bk rs s frm till = []) := sayD_no (fun h => by rw [hF] at h; exact absurd h.1 (by decide))
    clear hF
    go_wp2_with fail
    go_ret
    refine ⟨_, rfl, ?_, hB1⟩
    rw [HK.out]
    exact World.ownsRow_nil _ _ _ _
  · by_cases hin : 0 ≤ s ∧ s < bk.sts.length
    · have HK : Hid (sayD bk rs s frm till = saidTo bk rs s frm till rs.length) := sayD_yes ⟨hT, hin⟩
      obtain ⟨s0, s1⟩ := hin
      obtain ⟨r0, _, rk⟩ := reportsB_inv hT
      have HRK : Hid (∀ k (hk : k < rs.length), reportB bk rs[k] = true ∧ prevTick rs k ≤ rs[k].tick) := rk
      have HRS : Hid (∀ r ∈ rs, reportB bk r = true) := fun r hr => by obtain ⟨i, hi, rfl⟩ := List.getElem_of_mem hr; exact (rk i hi).1
      have h40 := right_trips r0
      have HTR : Hid (∀ i (h : i < bk.trips.length), tripB bk.sts.length bk.trips[i] = true) := (faultD_zero r0).2
      have H20 : Hid (∀ i (h : i < bk.trips.length), 2 ≤ bk.trips[i].calls.length ∧ bk.trips[i].calls.length ≤ 20) := fun i h => tripB_len ((faultD_zero r0).2 i h)
      have HSN : Hid (∀ i (h : i < bk.sts.length), bk.sts[i].size ≤ 20) := fun i h => nameB_size (sts_named r0 (List.getElem?_eq_getElem h))
      have HMS : Hid (∀ i (h : i < rs.length), w1.cell? ⟨b, i, none⟩ = some (readV bk rs[i])) := hmsg
      have HPG : Hid (Grid (planGrid bk)) := planTo_grid (Nat.le_refl _) h40 (fun i h => (H20.out i h).2)
      obtain ⟨ii, hi0, he0⟩ := Option.map_eq_some_iff.1 infSaid
      simp only [Prod.mk.injEq] at he0
      have HI0 : Hid (ii.zero = some (.agg #[.int .i64 0, .string ⟨#[]⟩]) ∧ ii.size = 2 ∧ ii.bytes = 24) := he0
      have HJ0 : Hid (Tryz.prog.info? 101 = some ii) := hi0
      have s2 : ¬ (s < 0) := by omega
      have s3 : ¬ ((bk.sts.length : Int) ≤ s) := by omega
      have b2 : decide (s < 0) = false := decide_eq_false s2
      have b3 : decide ((bk.sts.length : Int) ≤ s) = false := decide_eq_false s3
      clear hT r0 rk hmsg hi0 he0
      go_wp2_with fail
      refine (speaker_any bk _ _ _ _ s _ h40 (fun i h => (H20.out i h).2) (by exact HBK.out.keep hB1)).mono ?_
      rintro e w2 ⟨Bk, Bb, Bs, rfl, hgk, hk0, hk1, hk2, hne1, hne2, hBk, hb2⟩
      have hB2 : Below w.heap.size w w2 := hB1.trans (hb2.mono hB1.size)
      have HGK : Hid (w2.heap[Bk]? = some (.cells (gridCells (planGrid bk)).toArray 71 (0, 0))) := hgk
      have HBX : Hid (w2.cell? ⟨Bb, 0, none⟩ = some (.slice sa bk.sts.length sc) ∧ w2.cell? ⟨Bb, 1, none⟩ = some (.slice ta bk.trips.length tc) ∧ w2.cell? ⟨Bs, 0, none⟩ = some (.int .i64 s)) := ⟨hk0, hk1, hk2⟩
      have lk : Bk < w2.heap.size := (Array.getElem?_eq_some_iff.1 hgk).1
      have lb := cell_lt hk0
      have ls := cell_lt hk2
      have hBkw : w.heap.size ≤ Bk := by have := hB1.size; omega
      have hz12 := hb2.size
      clear hgk hk0 hk1 hk2 q0 q1 s2 s3
      go_wp2_with fail
      go_loopw [14, 42] (fun out i wr => ∃ (k : Nat) (G : List (List NewsD)), k ≤ rs.length ∧ i = .int .i64 k ∧ Hid (wr.heap[Bk]? = some (.cells (gridCells G).toArray 71 (0, 0))) ∧ Hid (Grid G) ∧ Hid (cutRows bk.trips G = newsTo bk lastTick (rs.take k)) ∧ Hid (wr.cell? ⟨Bb, 0, none⟩ = some (.slice sa bk.sts.length sc) ∧ wr.cell? ⟨Bb, 1, none⟩ = some (.slice ta bk.trips.length tc) ∧ wr.cell? ⟨Bs, 0, none⟩ = some (.int .i64 s)) ∧ Hid (SaidsOwn w2.heap.size wr out (saidTo bk rs s frm till k)) ∧ Below w1.heap.size w1 wr ∧ w2.heap.size ≤ wr.heap.size) (fun _ i _ => rs.length - (intOf i).toNat)
      case atStart => exact ⟨0, planGrid bk, Nat.zero_le _, rfl, HGK, HPG, cut_plan bk, HBX, World.ownsRow_nil _ _ _ _, hb2, Nat.le_refl _⟩
      case round =>
        obtain ⟨k, G, hk, rfl, hgr, hG, hcut, hbx, hout, hbel, hz⟩ := hrel
        have hB : Below w.heap.size w wr := hB1.trans (hbel.mono hB1.size)
        clear HGK HBX HPG
        by_cases hlt : k < rs.length
        · obtain ⟨rb, ro, rfl, c0, c1, c2, c3, c4⟩ := HRA.out.keep hB k hlt
          obtain ⟨hrep, _⟩ := HRK.out k hlt
          have hki : (k : Int) < (rs.length : Int) := by omega
          have hk0 : (0 : Int) ≤ (k : Int) := by omega
          have hmc : wr.cell? ⟨b, k, none⟩ = some (msgV rs[k] (lastB bk rs[k])) := by
            have := cell_keep hbel (HMS.out k hlt)
            rw [readV_yes hrep] at this; exact this
          obtain ⟨_, ⟨_, ht1⟩, ho, ⟨i1, i2⟩, i3, i4⟩ := reportB_head hrep
          obtain ⟨j, hj⟩ := Int.eq_ofNat_of_zero_le i1
          obtain ⟨c, hc⟩ := Int.eq_ofNat_of_zero_le i3
          have hjl : j < bk.trips.length := by omega
          have hjG : j < G.length := by rw [hG.out.len]; omega
          have hcl : callsOf bk rs[k].trip = bk.trips[j].calls := by rw [hj]; exact callsOf_at bk j hjl
          have hcc : c < bk.trips[j].calls.length := by rw [hcl, hc] at i4; omega
          have hG20 : G[j].length = 20 := hG.out.at j hjG
          have hcG : c < G[j].length := by rw [hG20]; have := H20.out j hjl; omega
          have hnum : rs[k].op = 1 ∨ rs[k].op = 2 → 0 ≤ rs[k].n ∧ rs[k].n ≤ 1000000 := fun ho => by
            have hrp := hrep
            rw [reportB_yes (reportB_head hrep)] at hrp
            rcases ho with ho | ho
            · rw [numB_1 ho] at hrp; have := of_decide_eq_true hrp; omega
            · rw [numB_2 ho] at hrp; have := of_decide_eq_true hrp; omega
          obtain ⟨tc1, tc2, hjN, hNj⟩ := tell_counts hG.out h40 H20.out hcut.out hrep hj hjl hc hjG hcG s
          have htk : TrackOk (newsTo bk lastTick (rs.take k)) := track_to bk lastTick (rs.take k) (fun t ht i hi => by obtain ⟨q, hq, rfl⟩ := List.getElem_of_mem ht; exact (tripB_st (HTR.out q hq) i hi).2) (fun r hr => HRS.out r (List.mem_of_mem_take hr))
          have htk2 : ∀ x ∈ G[j].take bk.trips[j].calls.length, 1 ≤ x.track ∧ x.track ≤ 20 := fun x hx => htk _ (List.getElem_mem hjN) x (by rw [hNj]; exact hx)
          have HSTP : Hid (∀ al : Bool, al = allowsX G[j] c (lastB bk rs[k]) G[j][c] rs[k] → Grid (G.set j (if al then doRow rs[k] G[j] else G[j])) ∧ cutRows bk.trips (G.set j (if al then doRow rs[k] G[j] else G[j])) = newsTo bk lastTick (rs.take (k + 1)) ∧ saidAt bk rs s frm till k = if tellS bk G rs[k] s j al ≠ ⟨#[]⟩ ∧ frm ≤ rs[k].tick ∧ rs[k].tick ≤ till then [⟨rs[k].tick, tellS bk G rs[k] s j al⟩] else []) := fun al hal => by
            refine ⟨hG.out.set j _ ?_, ?_, ?_⟩
            · split
              · rw [doRow_length]; exact hG20
              · exact hG20
            · rw [newsTo_take bk lastTick rs k hlt, hal]
              exact cut_step hG.out h40 H20.out hcut.out hrep ht1 hj hjl hc hjG hcG
            · refine said_if bk rs s frm till k hlt _ _ rfl ?_
              rw [tellS_at hjl hjG, hal, tc1, tc2]
          obtain ⟨ti, mv, hmv, _, _⟩ := msgV_where rs[k] (lastB bk rs[k])
          have HST : Hid (saidTo bk rs s frm till (k + 1) = saidTo bk rs s frm till k ++ saidAt bk rs s frm till k) := rfl
          have hsl := saidTo_length bk rs s frm till k
          have hmc' : wr.cell? ⟨b, k, none⟩ = some (.iface ti mv) := by rw [hmc, hmv]
          have HTL : Hid (Calls Tryz.prog 61 #[.iface ti mv, .agg #[.int .i64 rs[k].tick, .int .i64 rs[k].op, .int .i64 rs[k].trip, .int .i64 rs[k].call, .int .i64 rs[k].n], .pointer (some ⟨Bk, 0, none⟩), .pointer (some ⟨Bb, 0, none⟩), .pointer (some ⟨Bs, 0, none⟩)] wr fun e w' => ∃ al : Bool, al = allowsX G[j] c (lastB bk rs[k]) G[j][c] rs[k] ∧ e = .returned (.string (tellS bk G rs[k] s j al)) ∧ w'.heap[Bk]? = some (.cells (gridCells (G.set j (if al then doRow rs[k] G[j] else G[j]))).toArray 71 (0, 0)) ∧ wr.grownBy w' (some Bk)) := by
            have h0 := tell_any hit bk G rs[k] s j c Bk Bb Bs sa ta sc tc w wr hG.out h40 hjl hj hc hcc ho hnum (HTR.out j hjl) (fun i h => HWF.out _ (List.getElem_mem hjl) i h) HWS.out hjG htk2 HSN.out hB hBkw HSA.out HTA.out HTAB.out hgr.out hbx.out.1 hbx.out.2.1 hbx.out.2.2 hne1 hne2
            rw [hmv] at h0
            exact h0.mono fun e w' ⟨al, h1, h2, h3, h4⟩ => ⟨al, h1 hcG, h2, h3, h4⟩
          clear hmv hmc hj hc hcl hcc hnum tc1 tc2 hjN hNj htk htk2 i1 i2 i3 i4 ho hrep ht1
          generalize rs[k] = r at *
          go_wp2_with fail
          refine HTL.out.mono ?_
          rintro e w3 ⟨al, hal, rfl, hg3, hgr3⟩
          obtain ⟨hG3, hcut3, hsa3⟩ := HSTP.out al hal
          have HG3 : Hid (w3.heap[Bk]? = some (.cells (gridCells (G.set j (if al then doRow r G[j] else G[j]))).toArray 71 (0, 0))) := hg3
          have HGG : Hid (Grid (G.set j (if al then doRow r G[j] else G[j]))) := hG3
          have HCT : Hid (cutRows bk.trips (G.set j (if al then doRow r G[j] else G[j])) = newsTo bk lastTick (rs.take (k + 1))) := hcut3
          have hbel3 : Below w1.heap.size w1 w3 := Below.grown hbel hgr3 (by omega) (fun x hx => by cases hx; exact hBk)
          have hz3 : w2.heap.size ≤ w3.heap.size := Nat.le_trans hz hgr3.size
          have HOW : Hid (SaidsOwn w2.heap.size w3 u14 (saidTo bk rs s frm till k)) := by
            have h0 : wr.ownsRow w2.heap.size 101 2 u14 (saidTo bk rs s frm till k).length (twos (saidTo bk rs s frm till k)) := hout.out
            refine h0.kept hgr3 ?_
            cases hb : u14.ownBlock with
            | none => exact Or.inl rfl
            | some g =>
              refine Or.inr fun e2 => ?_
              have := (h0.lt g hb).1
              cases e2
              omega
          have hcb : ∀ {bb oo : Nat} {vv : Value}, bb ≠ Bk → wr.cell? ⟨bb, oo, none⟩ = some vv → w3.cell? ⟨bb, oo, none⟩ = some vv := fun {bb oo vv} hne hcx => by
            rw [World.cell?_of_block (w := wr) (hgr3.block _ (cell_lt hcx) (fun e => hne (by cases e; rfl)))]; exact hcx
          have HBX3 : Hid (w3.cell? ⟨Bb, 0, none⟩ = some (.slice sa bk.sts.length sc) ∧ w3.cell? ⟨Bb, 1, none⟩ = some (.slice ta bk.trips.length tc) ∧ w3.cell? ⟨Bs, 0, none⟩ = some (.int .i64 s)) := ⟨hcb hne1 hbx.out.1, hcb hne1 hbx.out.2.1, hcb hne2 hbx.out.2.2⟩
          have hrlt : rb < w.heap.size := by
            have h1 := HRA.out k hlt
            obtain ⟨rb', ro', e', c', _⟩ := h1
            cases e'
            exact cell_lt c'
          have d0 := hcb (by omega) c0
          generalize tellS bk G r s j al = TT at *
          clear hg3 hG3 hcut3 hal hcb hgr3 c0 c1 c2 c3 c4 hmc' HTL HSTP hgr hG hcut hbx hout
          by_cases hte : TT = ⟨#[]⟩
          · have HS2 : Hid (saidTo bk rs s frm till (k + 1) = saidTo bk rs s frm till k) := by unfold Hid; rw [HST.out, hsa3, if_neg (fun h => h.1 hte), List.append_nil]
            subst hte
            clear hsa3
            go_wp2_with fail
            go_roundw
            case rel => exact ⟨k + 1, _, by omega, by go_num, HG3, HGG, HCT, HBX3, by rw [HS2.out]; exact HOW, hbel3, hz3⟩
            case measure => simp [intOf]; omega
          · obtain ⟨bte, btf⟩ := text_toList hte
            by_cases hf : frm ≤ r.tick
            · by_cases ht : r.tick ≤ till
              · have HS2 : Hid (saidTo bk rs s frm till (k + 1) = saidTo bk rs s frm till k ++ [⟨r.tick, TT⟩]) := by unfold Hid; rw [HST.out, hsa3, if_pos ⟨hte, hf, ht⟩]
                clear hsa3 hte
                go_wp2_with (first
                  | (at_builtin; refine wpList_append_own_at _ rfl _ _ 39 rfl w2.heap.size 101 ii (.agg #[.int .i64 0, .string ⟨#[]⟩]) 2 24 uSaid HJ0.out HI0.out.1 HI0.out.2.1 HI0.out.2.2 rfl (by decide) _ _ _ rfl (HOW.out.alloc _) ⟨w3.heap.size, 0, none⟩ 1 1 (twoOf ⟨r.tick, TT⟩) rfl rfl (cells_two_at _ ⟨r.tick, TT⟩ _) ?c2 ?c3 ?c4 ?c5 ?_)
                  | fail)
                case c2 => intro u hu; simp only [twoOf, List.mem_cons, List.not_mem_nil, or_false] at hu; rcases hu with rfl | rfl <;> rfl
                case c3 => unfold maxLen; omega
                case c4 => omega
                case c5 => simp; omega
                intro v' w5 hown' hgrow _ _
                have HO5 : Hid (SaidsOwn w2.heap.size w5 v' (saidTo bk rs s frm till (k + 1))) := by
                  unfold Hid SaidsOwn; rw [HS2.out, twos_snoc, List.length_append]
                  exact hown'
                have hag : Below w3.heap.size w3 (w3.alloc (.cells #[.int .i64 r.tick, .string TT] 101)) := (Below.refl _ _).alloc (Nat.le_refl _) _
                have hol : ∀ g, u14.ownBlock = some g → w2.heap.size ≤ g := fun g hgg => (World.ownsRow.lt (show w3.ownsRow w2.heap.size 101 2 u14 _ _ from HOW.out) g hgg).1
                have hbel5 : Below w1.heap.size w1 w5 := Below.grown (hbel3.alloc (by omega) _) hgrow (by simp; omega) fun g hgg => by have := hol g hgg; omega
                have hblk : ∀ bb : Nat, bb < w2.heap.size → w5.heap[bb]? = w3.heap[bb]? := fun bb hbb => by
                  rw [hgrow.block bb (by simp; omega) (fun e => by have := hol bb e.symm; omega), hag.block bb (by omega)]
                have HG5 : Hid (w5.heap[Bk]? = some (.cells (gridCells (G.set j (if al then doRow r G[j] else G[j]))).toArray 71 (0, 0))) := by unfold Hid; rw [hblk Bk lk]; exact HG3.out
                have HBX5 : Hid (w5.cell? ⟨Bb, 0, none⟩ = some (.slice sa bk.sts.length sc) ∧ w5.cell? ⟨Bb, 1, none⟩ = some (.slice ta bk.trips.length tc) ∧ w5.cell? ⟨Bs, 0, none⟩ = some (.int .i64 s)) := by
                  refine ⟨?_, ?_, ?_⟩
                  · rw [World.cell?_of_block (w := w3) (hblk Bb lb)]; exact HBX3.out.1
                  · rw [World.cell?_of_block (w := w3) (hblk Bb lb)]; exact HBX3.out.2.1
                  · rw [World.cell?_of_block (w := w3) (hblk Bs ls)]; exact HBX3.out.2.2
                have hz5 : w2.heap.size ≤ w5.heap.size := by have := hgrow.size; simp at this; omega
                clear hown' hgrow hol hblk HG3 HBX3 HOW
                go_wp2_with fail
                go_roundw
                case rel => exact ⟨k + 1, _, by omega, by go_num, HG5, HGG, HCT, HBX5, HO5, hbel5, hz5⟩
                case measure => simp [intOf]; omega
              · have HS2 : Hid (saidTo bk rs s frm till (k + 1) = saidTo bk rs s frm till k) := by unfold Hid; rw [HST.out, hsa3, if_neg (fun h => ht h.2.2), List.append_nil]
                clear hsa3 hte
                go_wp2_with fail
                go_roundw
                case rel => exact ⟨k + 1, _, by omega, by go_num, HG3, HGG, HCT, HBX3, by rw [HS2.out]; exact HOW, hbel3, hz3⟩
                case measure => simp [intOf]; omega
            · have HS2 : Hid (saidTo bk rs s frm till (k + 1) = saidTo bk rs s frm till k) := by unfold Hid; rw [HST.out, hsa3, if_neg (fun h => hf h.2.1), List.append_nil]
              clear hsa3 hte
              go_wp2_with fail
              go_roundw
              case rel => exact ⟨k + 1, _, by omega, by go_num, HG3, HGG, HCT, HBX3, by rw [HS2.out]; exact HOW, hbel3, hz3⟩
              case measure => simp [intOf]; omega
        · have hk' : k = rs.length := by omega
          subst hk'
          go_wp2_with fail
          go_ret
          refine ⟨_, rfl, ?_, hB⟩
          rw [HK.out]
          exact owns_mono hout.out (by have := hB2.size; omega)
    · have HK : Hid (sayD bk rs s frm till = []) := sayD_no (fun h => hin h.2)
      by_cases h0 : s < 0
      · clear hin
        go_wp2_with fail
        go_ret
        refine ⟨_, rfl, ?_, hB1⟩
        rw [HK.out]
        exact World.ownsRow_nil _ _ _ _
      · have h1 : (bk.sts.length : Int) ≤ s := by omega
        clear hin
        go_wp2_with fail
        go_ret
        refine ⟨_, rfl, ?_, hB1⟩
        rw [HK.out]
        exact World.ownsRow_nil _ _ _ _

end Go.Proofs.YtjioingdpfgadaaGreatDoor
