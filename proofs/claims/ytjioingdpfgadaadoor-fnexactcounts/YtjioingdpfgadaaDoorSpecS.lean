import Derived.Test.YtjioingdpfgadaaDoorProg
import Derived.Test.YtjioingdpfgadaaDoorSpecR
import Derived.Test.YtjioingdpfgadaaDoorSpecK
namespace Go.Proofs.YtjioingdpfgadaaDoor
open Go Go.RowKit Go.Deep

/-- The news have a row for each trip, a place for each call. -/
def shapeB (bk : BookD) (nss : List (List NewsD)) : Bool := nss.map (·.length) == bk.trips.map (fun t => t.calls.length)
theorem shapeB_len {bk : BookD} {nss : List (List NewsD)} (h : nss.length ≠ bk.trips.length) : shapeB bk nss = false := by
  unfold shapeB
  apply Bool.eq_false_iff.2
  intro e
  have := congrArg List.length (eq_of_beq e)
  simp at this; exact h this
theorem shapeB_at {bk : BookD} {nss : List (List NewsD)} {i : Nat} (h1 : i < nss.length) (h2 : i < bk.trips.length) (h : nss[i].length ≠ bk.trips[i].calls.length) : shapeB bk nss = false := by
  unfold shapeB
  apply Bool.eq_false_iff.2
  intro e
  have e' := eq_of_beq e
  have : (nss.map (·.length))[i]? = (bk.trips.map (fun t => t.calls.length))[i]? := by rw [e']
  simp [List.getElem?_eq_getElem h1, List.getElem?_eq_getElem h2] at this
  exact h this
theorem shapeB_yes {bk : BookD} {nss : List (List NewsD)} (hl : nss.length = bk.trips.length) (h : ∀ i (h1 : i < nss.length) (h2 : i < bk.trips.length), nss[i].length = bk.trips[i].calls.length) : shapeB bk nss = true := by
  unfold shapeB
  rw [beq_iff_eq]
  apply List.ext_getElem
  · simpa using hl
  · intro i h1 h2
    simp at h1 h2 ⊢
    exact h i h1 h2
theorem shapeB_inv {bk : BookD} {nss : List (List NewsD)} (h : shapeB bk nss = true) : nss.length = bk.trips.length ∧ ∀ i (h1 : i < nss.length) (h2 : i < bk.trips.length), nss[i].length = bk.trips[i].calls.length := by
  refine ⟨Classical.byContradiction fun hn => ?_, fun i h1 h2 => Classical.byContradiction fun hn => ?_⟩
  · rw [shapeB_len hn] at h; exact absurd h (by decide)
  · rw [shapeB_at h1 h2 hn] at h; exact absurd h (by decide)

set_option maxRecDepth 100000 in
set_option maxHeartbeats 1000000 in
theorem l2shape_any (v : Value) (bk : BookD) (na : Option Addr) (nc : Nat) (nss : List (List NewsD)) (w : World) (hn : bookSize bk ≤ 1048576) (hm : newsSize nss ≤ 1048576) (hat : BookAt w v bk) (hna : NewsSSAt w na nss) :
    Calls Tryd.prog 77 #[v, .slice na nss.length nc] w fun e w' => e = .returned (.bool (shapeB bk nss)) ∧ Below w.heap.size w w' := by
  obtain ⟨sa, sc, ta, tc, rfl, hsa, hta⟩ := hat
  have hb0 := bx_below w (.cells #[.slice sa bk.sts.length sc, .slice ta bk.trips.length tc] 26)
  have n2 : bk.trips.length ≤ 1048576 := by unfold bookSize tripsSize at hn; omega
  have n3 : ∀ i (h : i < bk.trips.length), bk.trips[i].calls.length ≤ 1048576 := by
    intro i h
    have := sumTrips_get bk.trips i h
    unfold bookSize tripsSize at hn; unfold tripSize at this; omega
  have m2 : nss.length ≤ 1048576 := by unfold newsSize at hm; omega
  have m3 : ∀ i (h : i < nss.length), nss[i].length ≤ 1048576 := by
    intro i h
    have := sumLens_get nss i h
    unfold newsSize at hm; omega
  have HTA : Hid (TripsAt (w.alloc (.cells #[.slice sa bk.sts.length sc, .slice ta bk.trips.length tc] 26)) ta bk.trips) := hta.keep hb0
  have HNA : Hid (NewsSSAt (w.alloc (.cells #[.slice sa bk.sts.length sc, .slice ta bk.trips.length tc] 26)) na nss) := hna.keep hb0
  clear hsa hta hna hn hm
  by_cases hl : nss.length = bk.trips.length
  · have hlb : ((nss.length : Int) != (bk.trips.length : Int)) = false := by simp [hl]
    have HL : Hid (nss.length = bk.trips.length) := hl
    have hle : nss.length ≤ bk.trips.length := by omega
    clear hl
    go_enter Tryd.func77, Tryd.ntmps77
    go_wp2
    go_loop [15] (fun i => ∃ k : Nat, k ≤ nss.length ∧ i = .int .i64 k ∧ Hid (∀ j (h1 : j < nss.length) (h2 : j < bk.trips.length), j < k → nss[j].length = bk.trips[j].calls.length)) (fun i => nss.length - (intOf i).toNat)
    case atStart => exact ⟨0, Nat.zero_le _, rfl, fun j _ _ hj => by omega⟩
    case round =>
      obtain ⟨k, hk, rfl, hgood⟩ := hrel
      by_cases hlt : k < nss.length
      · have hlt2 : k < bk.trips.length := by omega
        obtain ⟨b, o, ca, cc, rfl, c0, _⟩ := HNA.out k hlt
        obtain ⟨b', o', ca', cc', rfl, d0, d1, _⟩ := HTA.out k hlt2
        have x1 := m3 k hlt
        have x2 := n3 k hlt2
        have hi1 : (k : Int) < (nss.length : Int) := by omega
        have hi2 : (k : Int) < (bk.trips.length : Int) := by omega
        generalize hp : nss[k].length = p at *
        generalize hq : bk.trips[k].calls.length = q at *
        have Hp : Hid (nss[k].length = p) := hp
        have Hq : Hid (bk.trips[k].calls.length = q) := hq
        clear hp hq n3 m3 d0 HTA HNA
        by_cases hpq : p = q
        · have hb : ((p : Int) != (q : Int)) = false := by simp [hpq]
          have HPQ : Hid (p = q) := hpq
          clear hpq
          go_wp2
          go_round
          case rel =>
            refine ⟨k + 1, by omega, by go_num, fun j h1 h2 hj => ?_⟩
            by_cases e : j = k
            · subst e; rw [Hp.out, Hq.out]; exact HPQ.out
            · exact hgood.out j h1 h2 (by omega)
          case measure => simp [intOf]; omega
        · have hb : ((p : Int) != (q : Int)) = true := by simp; omega
          have HF : Hid (shapeB bk nss = false) := shapeB_at hlt hlt2 (by rw [Hp.out, Hq.out]; exact hpq)
          clear hpq
          go_wp2
          go_ret
          exact ⟨ret_bool HF.out.symm, hb0⟩
      · have HF : Hid (shapeB bk nss = true) := shapeB_yes HL.out (fun i h1 h2 => hgood.out i h1 h2 (by omega))
        go_wp2
        go_ret
        exact ⟨ret_bool HF.out.symm, hb0⟩
  · have hlb : ((nss.length : Int) != (bk.trips.length : Int)) = true := by simp; omega
    have HF : Hid (shapeB bk nss = false) := shapeB_len hl
    clear hl
    go_enter Tryd.func77, Tryd.ntmps77
    go_wp2
    go_ret
    exact ⟨ret_bool HF.out.symm, hb0⟩

/-- What Counts answers. -/
def countsB (bk : BookD) (nss : List (List NewsD)) (r : RepD) : Bool :=
  reportB bk r && shapeB bk nss && countsX (nss.getD r.trip.toNat []) r.call.toNat ((nss.getD r.trip.toNat []).getD r.call.toNat ⟨0, 0, false, false, false⟩) r
theorem countsB_no1 {bk : BookD} {nss : List (List NewsD)} {r : RepD} (h : reportB bk r = false) : countsB bk nss r = false := by simp [countsB, h]
theorem countsB_no2 {bk : BookD} {nss : List (List NewsD)} {r : RepD} (h : shapeB bk nss = false) : countsB bk nss r = false := by simp [countsB, h]
theorem countsB_yes {bk : BookD} {nss : List (List NewsD)} {r : RepD} {j k : Nat} (h1 : reportB bk r = true) (h2 : shapeB bk nss = true) (hj : j < nss.length) (ej : r.trip = (j : Int)) (hk : k < nss[j].length) (ek : r.call = (k : Int)) :
    countsB bk nss r = countsX nss[j] k nss[j][k] r := by
  unfold countsB; rw [h1, h2, ej, ek]
  simp [List.getD, List.getElem?_eq_getElem hj, List.getElem?_eq_getElem hk]

set_option maxRecDepth 100000 in
set_option maxHeartbeats 1000000 in
theorem specCounts_any (v : Value) (bk : BookD) (na : Option Addr) (nc : Nat) (nss : List (List NewsD)) (r : RepD) (w : World) (hn : bookSize bk ≤ 1048576) (hm : newsSize nss ≤ 1048576) (hat : BookAt w v bk) (hna : NewsSSAt w na nss) :
    Calls Tryd.prog 37 #[v, .slice na nss.length nc, repV r] w fun e w' => e = .returned (.bool (countsB bk nss r)) ∧ Below w.heap.size w w' := by
  obtain ⟨sa, sc, ta, tc, rfl, hsa, hta⟩ := hat
  have HBK : Hid (BookAt w (.agg #[.slice sa bk.sts.length sc, .slice ta bk.trips.length tc]) bk) := ⟨sa, sc, ta, tc, rfl, hsa, hta⟩
  have HNA : Hid (NewsSSAt w na nss) := hna
  have hb0 : Below w.heap.size w ((w.alloc (.cells #[.slice sa bk.sts.length sc, .slice ta bk.trips.length tc] 26)).alloc (.cells #[.int .i64 r.tick, .int .i64 r.op, .int .i64 r.trip, .int .i64 r.call, .int .i64 r.n] 45)) := (bx_below _ _).alloc (by simp) _
  obtain ⟨W, hW⟩ : ∃ W, ((w.alloc (.cells #[.slice sa bk.sts.length sc, .slice ta bk.trips.length tc] 26)).alloc (.cells #[.int .i64 r.tick, .int .i64 r.op, .int .i64 r.trip, .int .i64 r.call, .int .i64 r.n] 45)) = W := ⟨_, rfl⟩
  have hb0' : Below w.heap.size w W := hW ▸ hb0
  have hbx := repBox hW
  have HW : Hid (_ = W) := hW
  clear hsa hta hna hb0 hW
  have H1 : Hid (repV r = .agg #[.int .i64 r.tick, .int .i64 r.op, .int .i64 r.trip, .int .i64 r.call, .int .i64 r.n]) := rfl
  cases hr : reportB bk r
  · have HF : Hid (countsB bk nss r = false) := countsB_no1 hr
    rw [H1.out]
    go_enter Tryd.func37, Tryd.ntmps37
    go_wp2_with fail
    rw [HW.out]
    rw [← H1.out]
    refine (specReportOk_any _ bk r _ hn (by exact HBK.out.keep hb0')).mono ?_
    rintro e w1 ⟨rfl, hb1⟩
    rw [hr]
    go_wp2_with fail
    go_ret
    exact ⟨ret_bool HF.out.symm, hb0'.trans (hb1.mono hb0'.size)⟩
  · obtain ⟨c0, c1, r0, r1, r2, r3, r4⟩ := hbx
    cases hs : shapeB bk nss
    · have HF : Hid (countsB bk nss r = false) := countsB_no2 hs
      rw [H1.out]
      go_enter Tryd.func37, Tryd.ntmps37
      go_wp2_with fail
      rw [HW.out]
      rw [← H1.out]
      refine (specReportOk_any _ bk r _ hn (by exact HBK.out.keep hb0')).mono ?_
      rintro e w1 ⟨rfl, hb1⟩
      rw [hr]
      have q0 := c0 ⟨w1, hb1⟩
      have q1 := c1 ⟨w1, hb1⟩
      have hB1 : Below w.heap.size w w1 := hb0'.trans (hb1.mono hb0'.size)
      simp only [] at q0 q1
      clear c0 c1 r0 r1 r2 r3 r4
      go_wp2_with fail
      refine (l2shape_any _ bk _ _ _ _ hn hm (by exact HBK.out.keep hB1) (by exact HNA.out.keep hB1)).mono ?_
      rintro e w2 ⟨rfl, hb2⟩
      rw [hs]
      go_wp2_with fail
      go_ret
      exact ⟨ret_bool HF.out.symm, hB1.trans (hb2.mono hB1.size)⟩
    · obtain ⟨_, _, _, ⟨p1, p2⟩, l1, l2⟩ := reportB_head hr
      obtain ⟨sl, sh⟩ := shapeB_inv hs
      obtain ⟨j, hj⟩ := Int.eq_ofNat_of_zero_le p1
      obtain ⟨k, hk⟩ := Int.eq_ofNat_of_zero_le l1
      have hjl : j < bk.trips.length := by omega
      have hjn : j < nss.length := by omega
      rw [hj, callsOf_at bk j hjl] at l2
      have hkn : k < nss[j].length := by rw [sh j hjn hjl]; omega
      have hm2 : nss[j].length ≤ 1048576 := by
        have := sumLens_get nss j hjn
        unfold newsSize at hm; omega
      have HF : Hid (countsB bk nss r = countsX nss[j] k nss[j][k] r) := countsB_yes hr hs hjn hj hkn hk
      have HJ : Hid (r.trip = (j : Int)) := hj
      have HK : Hid (r.call = (k : Int)) := hk
      clear sl sh l1 l2 p1 p2 hj hk
      rw [H1.out]
      go_enter Tryd.func37, Tryd.ntmps37
      go_wp2_with fail
      rw [HW.out]
      rw [← H1.out]
      refine (specReportOk_any _ bk r _ hn (by exact HBK.out.keep hb0')).mono ?_
      rintro e w1 ⟨rfl, hb1⟩
      rw [hr]
      have q0 := c0 ⟨w1, hb1⟩
      have q1 := c1 ⟨w1, hb1⟩
      have x0 := r0 ⟨w1, hb1⟩
      have x1 := r1 ⟨w1, hb1⟩
      have x2 := r2 ⟨w1, hb1⟩
      have x3 := r3 ⟨w1, hb1⟩
      have x4 := r4 ⟨w1, hb1⟩
      have hB1 : Below w.heap.size w w1 := hb0'.trans (hb1.mono hb0'.size)
      simp only [] at q0 q1 x0 x1 x2 x3 x4
      clear c0 c1 r0 r1 r2 r3 r4
      go_wp2_with fail
      refine (l2shape_any _ bk _ _ _ _ hn hm (by exact HBK.out.keep hB1) (by exact HNA.out.keep hB1)).mono ?_
      rintro e w2 ⟨rfl, hb2⟩
      rw [hs]
      have hB2 : Below w.heap.size w w2 := hB1.trans (hb2.mono hB1.size)
      have y0 := cell_keep hb2 x0
      have y1 := cell_keep hb2 x1
      have y2 := cell_keep hb2 x2
      have y3 := cell_keep hb2 x3
      have y4 := cell_keep hb2 x4
      clear x0 x1 x2 x3 x4 q0 q1
      go_wp2_with fail
      rw [← H1.out]
      refine (l2counts_any _ _ nss r j k _ hjn HJ.out hkn HK.out hm2 (by exact HNA.out.keep hB2)).mono ?_
      rintro e w3 ⟨rfl, hb3⟩
      go_wp2_with fail
      go_ret
      exact ⟨ret_bool HF.out.symm, hB2.trans (hb3.mono hB2.size)⟩

end Go.Proofs.YtjioingdpfgadaaDoor
