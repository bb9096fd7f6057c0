import Derived.Test.YtjioingdpfgadaaDoorDrwNM
import Derived.Test.YtjioingdpfgadaaDoorPurePM
import Derived.Test.YtjioingdpfgadaaDoorBrdJM
import Derived.Test.YtjioingdpfgadaaDoorOnwIM
import Derived.Test.YtjioingdpfgadaaDoorOnwAM
namespace Go.Proofs.YtjioingdpfgadaaDoor
open Go Go.RowKit Go.Deep

theorem Scene.tripsN {w0 w : World} {X : Nat} {sa ta ra ma : Option Addr} {sc tc : Nat} {bk : BookD} {rs : List RepD} {ms : List Int} (h : Scene w0 w X sa ta ra ma sc tc bk rs ms) : TripsAt w ta bk.trips := by
  obtain ⟨a, b, c, d, e, _, h2⟩ := h.book
  simp only [Value.agg.injEq, Array.mk.injEq, List.cons.injEq, Value.slice.injEq] at e
  obtain ⟨_, ⟨rfl, _⟩, _⟩ := e
  exact h2
theorem five_block {w : World} {g : Nat} {r : RepD} (h : w.heap[g]? = some (.cells #[.int .i64 r.tick, .int .i64 r.op, .int .i64 r.trip, .int .i64 r.call, .int .i64 r.n] 45 (0, 0))) : RepsAt w (some ⟨g, 0, none⟩) [r] := fun i hi => by
  have : i = 0 := by simpa using hi
  subst this
  refine ⟨g, 0, rfl, ?_, ?_, ?_, ?_, ?_⟩ <;> simp [World.cell?, h]

set_option maxRecDepth 100000 in
set_option maxHeartbeats 3000000 in
theorem lawOnward_any (ca ma : Option Addr) (bs ms : List Int) (cc mc : Nat) (w : World) (hcode : BytesAt w ca bs) (hlow : ∀ b o, ca = some ⟨b, o, none⟩ → b < w.heap.size) (hmore : BytesAt w ma ms) (hev : ErrVars w) :
    Calls Tryd.prog 6 #[.slice ca bs.length cc, .slice ma ms.length mc] w fun e w' => e = .returned (.bool true) ∧ Below w.heap.size w w' := by
  by_cases h1 : 1048576 < bs.length
  · have h1i : (1048576 : Int) < (bs.length : Int) := by omega
    go_enter Tryd.func6, Tryd.ntmps6
    go_wp2_with fail
    go_ret
    exact ⟨rfl, Below.refl _ _⟩
  by_cases h2 : 1048576 < ms.length
  · have h1i : ¬ (1048576 : Int) < (bs.length : Int) := by omega
    have h2i : (1048576 : Int) < (ms.length : Int) := by omega
    go_enter Tryd.func6, Tryd.ntmps6
    go_wp2_with fail
    go_ret
    exact ⟨rfl, Below.refl _ _⟩
  have h1i : ¬ (1048576 : Int) < (bs.length : Int) := by omega
  have h2i : ¬ (1048576 : Int) < (ms.length : Int) := by omega
  have HDR := drawn_any ca bs cc w hcode hlow
  have HEV : Hid (ErrVars w) := hev
  have HMO : Hid (BytesAt w ma ms) := hmore
  have HD : Hid (BookDrawn (drawnF bs).1) := drawnF_book bs
  have HR : Hid (reportsB (drawnF bs).1 (drawnF bs).2 = true ∧ (drawnF bs).2.length ≤ 20) := drawnF_reports bs
  clear hcode hlow hmore hev
  go_enter Tryd.func6, Tryd.ntmps6
  go_wp2_with fail
  refine HDR.mono ?_
  rintro e w1 ⟨v, rv, rfl, hbk, hrs, hb1⟩
  obtain ⟨sa, sc, ta, tc, ra, rc, rfl, rfl, hsc⟩ := scene_of hbk hrs hb1 HEV.out HMO.out
  generalize (drawnF bs).1 = bk at *
  generalize (drawnF bs).2 = rs at *
  have hn6 := HD.out.sts6
  have hn2 := HD.out.sts2
  have HSML : Hid (bookSize bk ≤ 1048576) := by have := HD.out.small; unfold Hid; omega
  have HRL : Hid (rs.length ≤ 1048576) := by have := HR.out.2; unfold Hid; omega
  have HWF : Hid (∀ t ∈ bk.trips, ∀ i (h : i < t.calls.length), (Lit.int .i64 t.calls[i].st).wf = true) := HD.out.wf
  by_cases hT : bk.trips.length = 0
  · have hTi : ((bk.trips.length : Int) == 0) = true := by simp [hT]
    have HO0 : Hid (onwardD bk rs 0 5 = []) := onwardD_no (fun h => by omega)
    have HS : Hid (Scene w (w1.alloc (.cells #[.slice sa bk.sts.length sc, .slice ta bk.trips.length tc] 26)) w1.heap.size sa ta ra ma sc tc bk rs ms) := hsc
    clear hT hsc hbk hrs hb1 HDR
    go_wp2_with fail
    refine (implOnward_any _ bk ra rc rs 0 5 _ HSML.out HRL.out HWF.out HS.out.book HS.out.reps HS.out.errs).mono ?_
    rintro e w3 ⟨v3, rfl, ho3, hb3⟩
    rw [HO0.out] at ho3
    obtain ⟨a3, c3, rfl, _⟩ := ints_at ho3
    have HBE : Hid (Below w.heap.size w w3) := HS.out.since.trans (hb3.mono HS.out.since.size)
    clear ho3 hb3
    go_wp2_with fail
    go_ret
    exact ⟨rfl, HBE.out⟩
  have hnz : ¬ (bk.trips.length : Int) = 0 := by omega
  have hnz2 : ¬ bk.trips.length = 0 := by omega
  have hnz3 : ¬ bk.trips = [] := fun e => by rw [e] at hnz2; simp at hnz2
  have hnz4 : ((bk.trips.length : Int) == 0) = false := beq_eq_false_iff_ne.2 hnz
  go_wp2_with fail
  obtain ⟨X, hX⟩ : ∃ X, w1.heap.size = X := ⟨_, rfl⟩
  obtain ⟨w2, hw2⟩ : ∃ w2, w1.alloc (.cells #[.slice sa bk.sts.length sc, .slice ta bk.trips.length tc] 26) = w2 := ⟨_, rfl⟩
  rw [hw2, hX] at hsc
  rw [hw2, hX]
  have HS2 : Hid (Scene w w2 X sa ta ra ma sc tc bk rs ms) := hsc
  obtain ⟨⟨c0, c1⟩, _⟩ := two_cells hsc.box
  clear hsc hbk hrs hb1 hw2 hX HDR
  have hbl5 : bk.trips.length ≤ 5 := HD.out.trips5
  have HSC : Hid (∀ w', Below w2.heap.size w2 w' → Scene w w' X sa ta ra ma sc tc bk rs ms) := fun w' hb => HS2.out.keep hb
  have HONW : Hid (∀ w', Below w2.heap.size w2 w' → ∀ trip tick : Int, Calls Tryd.prog 24 #[.agg #[.slice sa bk.sts.length sc, .slice ta bk.trips.length tc], .slice ra rs.length rc, .int .i64 trip, .int .i64 tick] w' fun e w'' => ∃ v', e = .returned v' ∧ IntsOwn w'.heap.size w'' v' (onwardD bk rs trip tick) ∧ Below w'.heap.size w' w'') := fun w' hb trip tick =>
    implOnward_any _ bk ra rc rs trip tick w' HSML.out HRL.out HWF.out (HSC.out w' hb).book (HSC.out w' hb).reps (HSC.out w' hb).errs
  go_region_held3 (fun w' => w'.cell? ⟨X, 1, none⟩ = some (.slice ta bk.trips.length tc))
    (go_keep)
    (first | (go_at_call 13; refine (wByte_any ma ms mc 0 _ (by omega) (by omega) (by exact HS2.out.more.keep (Below.refl _ _).drew)).mono ?_; rintro e w3 ⟨r3, hr3, rfl, rfl⟩; obtain ⟨i, hs⟩ : ∃ i : Nat, r3 % bk.trips.length = i := ⟨_, rfl⟩; have hsi : (r3 : Int).tmod (bk.trips.length : Int) = (i : Int) := (by rw [Int.tmod_eq_emod_of_nonneg (by omega), ← hs]; simp); have hil : i < bk.trips.length := (by rw [← hs]; exact Nat.mod_lt _ (by omega)); clear hs))
  clear hsi hr3
  have HB4 : Hid (Below w2.heap.size w2 w2.drew) := (Below.refl _ _).drew
  obtain ⟨w4, hw4⟩ : ∃ w4, w2.drew = w4 := ⟨_, rfl⟩
  rw [hw4] at HB4 ⊢
  clear hw4 c0 c1
  obtain ⟨⟨c0, c1⟩, _⟩ := two_cells (HSC.out _ HB4.out).box
  go_wp2_with fail
  refine (wByte_any ma ms mc 1 _ (by omega) (by omega) (HSC.out _ HB4.out).more).mono ?_
  rintro e w4' ⟨m, hm, rfl, rfl⟩
  rename World => w4
  have hin : i < (newsTo bk m rs).length := by rw [(shape_to bk m rs).length]; exact hil
  have HGE : Hid (onwardD bk rs i m = onwardTo bk.trips[i].calls (newsTo bk m rs)[i] bk.trips[i].calls.length) := onward_yes HR.out.1 hil m hin
  have hnl : (newsTo bk m rs)[i].length = bk.trips[i].calls.length := by
    rw [(shape_to bk m rs).at i hin, callsOf_nat bk i hil]
  have HKD : Hid (knownD bk rs m = newsTo bk m rs) := by unfold Hid knownD; rw [HR.out.1]; rfl
  have HSK : Hid (∀ w', Below w2.heap.size w2 w' → Calls Tryd.prog 15 #[.agg #[.slice sa bk.sts.length sc, .slice ta bk.trips.length tc], .slice ra rs.length rc, .int .i64 m] w' fun e w'' => ∃ v', e = .returned v' ∧ NewsOwn w'.heap.size w'' v' (newsTo bk m rs) ∧ Below w'.heap.size w' w'') := fun w' hb => by
    have := specKnown_any (.agg #[.slice sa bk.sts.length sc, .slice ta bk.trips.length tc]) bk ra rc rs m w' HSML.out HRL.out (HSC.out w' hb).book (HSC.out w' hb).reps
    rwa [HKD.out] at this
  have hnsl : (newsTo bk m rs).length = bk.trips.length := (shape_to bk m rs).length
  clear HKD
  generalize newsTo bk m rs = nss at *
  go_wp2_with fail
  refine (HONW.out _ HB4.out i m).mono ?_
  rintro e w5 ⟨v5, rfl, ho5, hb5⟩
  rw [HGE.out] at ho5
  have hlen8 : bk.trips[i].calls.length ≤ 8 := (HD.out.calls i hil).len
  have hlen2 : 2 ≤ bk.trips[i].calls.length := (tripB_len' ((faultD_zero HD.out.fault).2 i hil)).1
  obtain ⟨G, hG⟩ : ∃ G, onwardTo bk.trips[i].calls nss[i] bk.trips[i].calls.length = G := ⟨_, rfl⟩
  have hGl : G.length ≤ 8 := by rw [← hG]; exact Nat.le_trans (onwardTo_length _ _ _) hlen8
  rw [hG] at ho5
  obtain ⟨a5, c5, rfl, hi5⟩ := ints_at ho5
  have HI5 : Hid (IntsAt w5 a5 G) := hi5
  have HB5 : Hid (Below w2.heap.size w2 w5) := HB4.out.trans (hb5.mono HB4.out.size)
  have d0 := cell_keep hb5 c0
  have d1 := cell_keep hb5 c1
  clear ho5 hb5 hi5 c0 c1 HGE
  go_wp2_with fail
  refine (HSK.out _ HB5.out).mono ?_
  rintro e w6 ⟨v6, rfl, ⟨vs6, ho6⟩, hb6⟩
  obtain ⟨a6, c6, rfl, hn6'⟩ := ho6.at
  have HN6 : Hid (NewsSSAt w6 a6 nss) := hn6'
  have HI6 : Hid (IntsAt w6 a5 G) := HI5.out.keep hb6
  have HB6 : Hid (Below w2.heap.size w2 w6) := HB5.out.trans (hb6.mono HB5.out.size)
  have e0 := cell_keep hb6 d0
  have e1 := cell_keep hb6 d1
  clear ho6 hn6' hb6 d0 d1 HI5 HSK
  obtain ⟨tb, to', ca', cc', rfl, t0, t1, hca⟩ := (HSC.out _ HB6.out).tripsN i hil
  have HCA : Hid (CallsAt w6 ca' bk.trips[i].calls) := hca
  obtain ⟨nb, no, na, nc, rfl, n0, hna⟩ := HN6.out i hin
  have HNA : Hid (NewsAt w6 na nss[i]) := hna
  have HT6 : Hid (w6.cell? ⟨tb, to' + i * 2 + 1, none⟩ = some (.slice ca' bk.trips[i].calls.length cc')) := t1
  have HC6 : Hid (w6.cell? ⟨X, 0, none⟩ = some (.slice sa bk.sts.length sc) ∧ w6.cell? ⟨X, 1, none⟩ = some (.slice (some ⟨tb, to', none⟩) bk.trips.length tc)) := ⟨e0, e1⟩
  have HN0 : Hid (w6.cell? ⟨nb, no + i, none⟩ = some (.slice na nss[i].length nc)) := n0
  have HNX : Hid (∀ k (h : k < bk.trips[i].calls.length) (h' : k < nss[i].length), nss[i][k].gone = false → nss[i][k].off = false → ∃ h : (onwardTo bk.trips[i].calls nss[i] k).length < G.length, G[(onwardTo bk.trips[i].calls nss[i] k).length] = bk.trips[i].calls[k].st ∧ (onwardTo bk.trips[i].calls nss[i] (k + 1)).length = (onwardTo bk.trips[i].calls nss[i] k).length + 1) := fun k h h' hg ho => by
    have := onward_next bk.trips[i].calls nss[i] k h h' hg ho
    simp only [hG] at this
    exact this
  have HNS : Hid (∀ k (h : k < bk.trips[i].calls.length) (h' : k < nss[i].length), (nss[i][k].gone = true ∨ nss[i][k].off = true) → (onwardTo bk.trips[i].calls nss[i] (k + 1)).length = (onwardTo bk.trips[i].calls nss[i] k).length) := fun k h h' hg => onward_skip _ _ k h h' hg
  have HNE : Hid ((onwardTo bk.trips[i].calls nss[i] bk.trips[i].calls.length).length = G.length) := by unfold Hid; rw [hG]
  have HNU : Hid (∀ k, (onwardTo bk.trips[i].calls nss[i] k).length ≤ k) := fun k => onwardTo_length _ _ _
  have hii : (i : Int) < (bk.trips.length : Int) := by omega
  have hii2 : (i : Int) < (nss.length : Int) := by omega
  have hi0 : (0 : Int) ≤ (i : Int) := by omega
  have HST0 : Hid (∃ h : 0 < bk.trips[i].calls.length, (0 ≤ bk.trips[i].calls[0].st ∧ bk.trips[i].calls[0].st < bk.sts.length) ∧ (0 ≤ bk.trips[i].calls[0].go ∧ bk.trips[i].calls[0].go ≤ 300)) := by
    have h0 : 0 < bk.trips[i].calls.length := by omega
    have h1 := (HD.out.calls i hil).calls 0 h0
    have h2 := (tripB_go ((faultD_zero HD.out.fault).2 i hil) 0 h0).1
    exact ⟨h0, by omega, by omega⟩
  have HOB : Hid (∀ t : Int, 0 ≤ t ∧ t ≤ 1000000 → ∀ h0 : 0 < bk.trips[i].calls.length, ((∃ r ∈ boardD bk [offRep i] bk.trips[i].calls[0].st t 40, r.trip = (i : Int) ∧ r.state = 3) ↔ t - 10 ≤ bk.trips[i].calls[0].go)) := fun t ht h0 => off_board HD.out hil h0 ht
  have HOO : Hid (onwardD bk [offRep i] i 0 = []) := off_onward HD.out.fault hil
  clear hca hna t0 n0 hG t1
  have HPACK : ∃ (cs : List CallD) (ns : List NewsD), ns.length = cs.length ∧ cs.length ≤ 8 ∧ 2 ≤ cs.length ∧ Hid (CallsAt w6 ca' cs) ∧ Hid (NewsAt w6 na ns) ∧ Hid (w6.cell? ⟨tb, to' + i * 2 + 1, none⟩ = some (.slice ca' cs.length cc')) ∧ Hid (w6.cell? ⟨nb, no + i, none⟩ = some (.slice na ns.length nc)) ∧ Hid (∀ k (h : k < cs.length) (h' : k < ns.length), ns[k].gone = false → ns[k].off = false → ∃ h : (onwardTo cs ns k).length < G.length, G[(onwardTo cs ns k).length] = cs[k].st ∧ (onwardTo cs ns (k + 1)).length = (onwardTo cs ns k).length + 1) ∧ Hid (∀ k (h : k < cs.length) (h' : k < ns.length), (ns[k].gone = true ∨ ns[k].off = true) → (onwardTo cs ns (k + 1)).length = (onwardTo cs ns k).length) ∧ Hid ((onwardTo cs ns cs.length).length = G.length) ∧ Hid (∀ k, (onwardTo cs ns k).length ≤ k) ∧ Hid (∃ h : 0 < cs.length, (0 ≤ cs[0].st ∧ cs[0].st < bk.sts.length) ∧ (0 ≤ cs[0].go ∧ cs[0].go ≤ 300)) ∧ Hid (∀ t : Int, 0 ≤ t ∧ t ≤ 1000000 → ∀ h0 : 0 < cs.length, ((∃ r ∈ boardD bk [offRep i] cs[0].st t 40, r.trip = (i : Int) ∧ r.state = 3) ↔ t - 10 ≤ cs[0].go)) :=
    ⟨bk.trips[i].calls, nss[i], hnl, hlen8, hlen2, HCA, HNA, HT6, HN0, HNX, HNS, HNE, HNU, HST0, HOB⟩
  clear hnl hlen8 hlen2 HCA HNA HT6 HN0 HNX HNS HNE HNU HST0 HOB
  obtain ⟨cs, ns, hnl, hlen8, hlen2, HCA, HNA, HT6, HN0, HNX, HNS, HNE, HNU, HST0, HOB⟩ := HPACK
  have tt := HT6.out
  go_wp2_with fail
  go_loopw [11, 67] (fun n q wr => ∃ k : Nat, k ≤ cs.length ∧ q = .int .i64 k ∧ n = .int .i64 ((onwardTo cs ns k).length : Nat) ∧ Hid (Below w6.heap.size w6 wr)) (fun _ q _ => cs.length - (intOf q).toNat)
  case atStart => exact ⟨0, Nat.zero_le _, rfl, rfl, Below.refl _ _⟩
  case round =>
    obtain ⟨k, hk, rfl, rfl, hB⟩ := hrel
    by_cases hlt : k < cs.length
    · have hltn : k < ns.length := by omega
      have hki : (k : Int) < (cs.length : Int) := by omega
      have hki2 : (k : Int) < (ns.length : Int) := by omega
      have HX1 := HNX.out k hlt hltn
      have HX2 := HNS.out k hlt hltn
      have hnu := HNU.out k
      obtain ⟨cb, co, rfl, u0, u1, u2, u3⟩ := (HCA.out.keep hB.out) k hlt
      obtain ⟨xb, xo, rfl, x0, x1, x2, x3, x4⟩ := (HNA.out.keep hB.out) k hltn
      have n0 := cell_keep hB.out HN0.out
      have l1 := cell_lt u0
      have l2 := cell_lt x0
      have l3 := cell_lt n0
      have hzr := hB.out.size
      generalize cs[k] = c at *
      generalize ns[k] = x at *
      generalize (onwardTo cs ns k).length = nn at *
      cases hgo : x.gone
      · cases hof : x.off
        · obtain ⟨hnlt, hge, hsu⟩ := HX1 hgo hof
          obtain ⟨ib, io, rfl, i0⟩ := (HI6.out.keep hB.out) nn hnlt
          rw [hge] at i0
          have l4 := cell_lt i0
          rw [hgo] at x4
          rw [hof] at x2
          have hg1 : decide ((G.length : Int) ≤ (nn : Int)) = false := decide_eq_false (by omega)
          have hg2 : ¬ (G.length : Int) ≤ (nn : Int) := by omega
          have hni : (nn : Int) < (G.length : Int) := by omega
          have HSU : Hid ((onwardTo cs ns (k + 1)).length = nn + 1) := hsu
          clear HX1 HX2 hgo hof hsu hge
          go_wp2_with fail
          go_quiet (fail)
          go_wp2_with fail
          go_roundw
          case rel => exact ⟨k + 1, by omega, by go_num, by rw [HSU.out]; go_num, below_drewN (hB.out.alloc hzr _) _⟩
          case measure => simp [intOf]; omega
        · have HSU : Hid ((onwardTo cs ns (k + 1)).length = nn) := HX2 (Or.inr hof)
          rw [hgo] at x4
          rw [hof] at x2
          clear HX1 HX2 hgo hof
          go_wp2_with fail
          go_roundw
          case rel => exact ⟨k + 1, by omega, by go_num, by rw [HSU.out], hB.out.alloc hzr _⟩
          case measure => simp [intOf]; omega
      · have HSU : Hid ((onwardTo cs ns (k + 1)).length = nn) := HX2 (Or.inl hgo)
        rw [hgo] at x4
        clear HX1 HX2 hgo
        go_wp2_with fail
        go_roundw
        case rel => exact ⟨k + 1, by omega, by go_num, by rw [HSU.out], hB.out.alloc hzr _⟩
        case measure => simp [intOf]; omega
    · have hke : k = cs.length := by omega
      subst hke
      rw [HNE.out]
      obtain ⟨h0, ⟨hs0, hs1⟩, hg0, hg3⟩ := HST0.out
      obtain ⟨cb, co, rfl, u0, u1, u2, u3⟩ := (HCA.out.keep hB.out) 0 h0
      simp only [Nat.zero_mul, Nat.add_zero] at u0 u1 u2 u3
      have HOB1 : Hid (∀ t : Int, 0 ≤ t ∧ t ≤ 1000000 → ((∃ r ∈ boardD bk [offRep i] cs[0].st t 40, r.trip = (i : Int) ∧ r.state = 3) ↔ t - 10 ≤ cs[0].go)) := fun t ht => HOB.out t ht h0
      have l1 := cell_lt u0
      have f0 := cell_keep hB.out e0
      have f1 := cell_keep hB.out e1
      have l2 := cell_lt f0
      have ft := cell_keep hB.out tt
      have l3 := cell_lt ft
      have hzr := hB.out.size
      have hl0 : (0 : Int) < (cs.length : Int) := by omega
      generalize cs[0] = c at *
      have HB0 : Hid (Below w2.heap.size w2 wr) := HB6.out.trans (hB.out.mono HB6.out.size)
      rename World => W0
      obtain ⟨W2, hW2⟩ : ∃ W2, (W0.alloc (.cells #[.int .i64 0, .int .i64 3, .int .i64 i, .int .i64 0, .int .i64 0] 45)).alloc (.cells #[.int .i64 c.st, .int .i64 c.co, .int .i64 c.go, .int .i64 c.tr] 56) = W2 := ⟨_, rfl⟩
      have hb2 : Below W0.heap.size W0 W2 := by subst hW2; exact ((Below.refl _ _).alloc (Nat.le_refl _) _).alloc (by simp) _
      have hx1 : W2.heap[W0.heap.size]? = some (.cells #[.int .i64 (offRep i).tick, .int .i64 (offRep i).op, .int .i64 (offRep i).trip, .int .i64 (offRep i).call, .int .i64 (offRep i).n] 45 (0, 0)) := by
        subst hW2
        rw [Below.heap_alloc _ _ _ (by simp)]
        exact heap_alloc_last W0 _
      have hx2 : W2.heap[W0.heap.size + 1]? = some (.cells #[.int .i64 c.st, .int .i64 c.co, .int .i64 c.go, .int .i64 c.tr] 56 (0, 0)) := by
        subst hW2
        have := heap_alloc_last (W0.alloc (.cells #[.int .i64 0, .int .i64 3, .int .i64 i, .int .i64 0, .int .i64 0] 45)) (.cells #[.int .i64 c.st, .int .i64 c.co, .int .i64 c.go, .int .i64 c.tr] 56)
        rw [World.size_alloc] at this
        exact this
      have HRO : Hid (RepsAt W2 (some ⟨W0.heap.size, 0, none⟩) [offRep i]) := five_block hx1
      obtain ⟨CB, hCB⟩ : ∃ CB, W0.heap.size + 1 = CB := ⟨_, rfl⟩
      have HC0 : Hid (W2.cell? ⟨CB, 0, none⟩ = some (.int .i64 c.st) ∧ W2.cell? ⟨CB, 2, none⟩ = some (.int .i64 c.go)) := by
        rw [hCB] at hx2
        constructor <;> simp [World.cell?, hx2]
      have HX0 : Hid (W2.cell? ⟨X, 0, none⟩ = some (.slice sa bk.sts.length sc) ∧ W2.cell? ⟨X, 1, none⟩ = some (.slice (some ⟨tb, to', none⟩) bk.trips.length tc)) := ⟨cell_keep hb2 f0, cell_keep hb2 f1⟩
      have HBW : Hid (Below w2.heap.size w2 W2) := HB0.out.trans (hb2.mono HB0.out.size)
      have HBRD : Hid (∀ w', Below W2.heap.size W2 w' → ∀ tk : Int, Calls Tryd.prog 14 #[.agg #[.slice sa bk.sts.length sc, .slice (some ⟨tb, to', none⟩) bk.trips.length tc], .slice (some ⟨W0.heap.size, 0, none⟩) 1 1, .int .i64 c.st, .int .i64 tk, .int .i64 40] w' fun e w'' => ∃ v', e = .returned v' ∧ w''.ownsRow w'.heap.size 38 6 v' (boardD bk [offRep i] c.st tk 40).length (sixes (boardD bk [offRep i] c.st tk 40)) ∧ Below w'.heap.size w' w'') := fun w' hb tk => by
        have hs := HSC.out w' (HBW.out.trans (hb.mono HBW.out.size))
        exact implBoard_any _ bk (some ⟨W0.heap.size, 0, none⟩) 1 [offRep i] c.st tk 40 w' HSML.out (by simp) HWF.out (wf_small (by omega) (by omega)) hs.book (HRO.out.keep hb) hs.errs
      have HONO : Hid (∀ w', Below W2.heap.size W2 w' → Calls Tryd.prog 24 #[.agg #[.slice sa bk.sts.length sc, .slice (some ⟨tb, to', none⟩) bk.trips.length tc], .slice (some ⟨W0.heap.size, 0, none⟩) 1 1, .int .i64 i, .int .i64 0] w' fun e w'' => ∃ v', e = .returned v' ∧ IntsOwn w'.heap.size w'' v' [] ∧ Below w'.heap.size w' w'') := fun w' hb => by
        have hs := HSC.out w' (HBW.out.trans (hb.mono HBW.out.size))
        have := implOnward_any (.agg #[.slice sa bk.sts.length sc, .slice (some ⟨tb, to', none⟩) bk.trips.length tc]) bk (some ⟨W0.heap.size, 0, none⟩) 1 [offRep i] i 0 w' HSML.out (by simp) HWF.out hs.book (HRO.out.keep hb) hs.errs
        rw [HOO.out] at this
        exact this
      clear hb2 hx1 hx2 HOB HNX HNS HNU HNE HONW
      go_wp2_with fail
      clear hW2 hCB
      go_loopw [16] (fun q wr => ∃ z : Int, -1 ≤ z ∧ z ≤ 2 ∧ q = .int .i64 z ∧ Hid (Below W2.heap.size W2 wr)) (fun q _ => (2 - intOf q).toNat)
      case atStart => exact ⟨-1, by omega, by omega, rfl, Below.refl _ _⟩
      case round =>
        obtain ⟨z, hz0, hz2, rfl, hBi⟩ := hrel
        have k0 := cell_keep hBi.out HX0.out.1
        have k1 := cell_keep hBi.out HX0.out.2
        have k2 := cell_keep hBi.out HC0.out.1
        have k3 := cell_keep hBi.out HC0.out.2
        by_cases hz : z ≤ 1
        · have HRR := HOB1.out (c.go + 10 + z) (by omega)
          go_wp2_with fail
          refine (HBRD.out _ hBi.out (c.go + 10 + z)).mono ?_
          rintro e w30 ⟨v30, rfl, ho30, hb30⟩
          obtain ⟨R, hR⟩ : ∃ R, boardD bk [offRep i] c.st (c.go + 10 + z) 40 = R := ⟨_, rfl⟩
          have hRl : R.length ≤ 40 := by
            rw [← hR]; unfold boardD
            split
            · exact Nat.le_trans (pick_length _ _) (by simp)
            · simp
          rw [hR] at ho30 HRR
          have HR2 : Hid ((∃ r ∈ R, r.trip = (i : Int) ∧ r.state = 3) ↔ z ≤ 0) := ⟨fun h => by have := HRR.1 h; omega, fun h => HRR.2 (by omega)⟩
          obtain ⟨a30, c30, rfl, hr30⟩ := rows_at ho30
          have HR30 : Hid (RowsAt w30 a30 R) := hr30
          have HB30 : Hid (Below W2.heap.size W2 w30) := hBi.out.trans (hb30.mono hBi.out.size)
          clear ho30 hb30 hr30 HRR hR k0 k1 k2 k3
          go_wp2_with fail
          go_loopw [18, 137] (fun mt q wr => ∃ (p : Nat) (mb : Bool), p ≤ R.length ∧ q = .int .i64 p ∧ mt = .bool mb ∧ Hid (mb = true ↔ ∃ r ∈ R.take p, r.trip = (i : Int) ∧ r.state = 3) ∧ Hid (Below w30.heap.size w30 wr)) (fun _ q _ => R.length - (intOf q).toNat)
          case atStart => exact ⟨0, false, Nat.zero_le _, rfl, rfl, by unfold Hid; simp, Below.refl _ _⟩
          case round =>
            obtain ⟨p, mb, hp, rfl, rfl, hmb, hBj⟩ := hrel
            have hzj := hBj.out.size
            by_cases hpl : p < R.length
            · have hpi : (p : Int) < (R.length : Int) := by omega
              obtain ⟨rb, ro, rfl, r0, r1, r2, r3, r4, r5⟩ := (HR30.out.keep hBj.out) p hpl
              have l5 := cell_lt r0
              have HTK : Hid (R.take (p + 1) = R.take p ++ [R[p]]) := take_snoc R p hpl
              generalize R[p] = r at *
              cases mb
              · have hno : ¬ ∃ r ∈ R.take p, r.trip = (i : Int) ∧ r.state = 3 := fun h => by have := hmb.out.2 h; simp at this
                by_cases h1 : r.trip = (i : Int)
                · have hb1 : (r.trip == (i : Int)) = true := beq_iff_eq.2 h1
                  by_cases h2 : r.state = 3
                  · have hb2 : (r.state == 3) = true := beq_iff_eq.2 h2
                    have HM : Hid (true = true ↔ ∃ r ∈ R.take (p + 1), r.trip = (i : Int) ∧ r.state = 3) := ⟨fun _ => by rw [HTK.out]; exact ⟨r, by simp, h1, h2⟩, fun _ => rfl⟩
                    clear hmb h1 h2 hno
                    go_wp2_with fail
                    go_roundw
                    case rel => exact ⟨p + 1, true, by omega, by go_num, rfl, HM, hBj.out.alloc hzj _⟩
                    case measure => simp [intOf]; omega
                  · have hb2 : (r.state == 3) = false := beq_eq_false_iff_ne.2 h2
                    have HM : Hid (false = true ↔ ∃ r ∈ R.take (p + 1), r.trip = (i : Int) ∧ r.state = 3) := ⟨fun h => by simp at h, fun ⟨y, hy, g1, g2⟩ => by
                      rw [HTK.out] at hy
                      rcases List.mem_append.1 hy with hy | hy
                      · exact absurd ⟨y, hy, g1, g2⟩ hno
                      · simp only [List.mem_singleton] at hy; subst hy; exact absurd g2 h2⟩
                    clear hmb h1 h2 hno
                    go_wp2_with fail
                    go_roundw
                    case rel => exact ⟨p + 1, false, by omega, by go_num, rfl, HM, hBj.out.alloc hzj _⟩
                    case measure => simp [intOf]; omega
                · have hb1 : (r.trip == (i : Int)) = false := beq_eq_false_iff_ne.2 h1
                  have HM : Hid (false = true ↔ ∃ r ∈ R.take (p + 1), r.trip = (i : Int) ∧ r.state = 3) := ⟨fun h => by simp at h, fun ⟨y, hy, g1, g2⟩ => by
                    rw [HTK.out] at hy
                    rcases List.mem_append.1 hy with hy | hy
                    · exact absurd ⟨y, hy, g1, g2⟩ hno
                    · simp only [List.mem_singleton] at hy; subst hy; exact absurd g1 h1⟩
                  clear hmb h1 hno
                  go_wp2_with fail
                  go_roundw
                  case rel => exact ⟨p + 1, false, by omega, by go_num, rfl, HM, hBj.out.alloc hzj _⟩
                  case measure => simp [intOf]; omega
              · have HM : Hid (true = true ↔ ∃ r ∈ R.take (p + 1), r.trip = (i : Int) ∧ r.state = 3) := ⟨fun h => by
                  obtain ⟨y, hy, g⟩ := hmb.out.1 h
                  rw [HTK.out]
                  exact ⟨y, List.mem_append.2 (Or.inl hy), g⟩, fun _ => rfl⟩
                clear hmb
                go_wp2_with fail
                go_roundw
                case rel => exact ⟨p + 1, true, by omega, by go_num, rfl, HM, hBj.out.alloc hzj _⟩
                case measure => simp [intOf]; omega
            · have hpe : p = R.length := by omega
              subst hpe
              have HBN : Hid (Below W2.heap.size W2 wr) := HB30.out.trans (hBj.out.mono HB30.out.size)
              have hmz : mb = true ↔ z ≤ 0 := by have := hmb.out; rw [List.take_length] at this; exact this.trans HR2.out
              clear hmb
              by_cases hzz : z ≤ 0
              · obtain rfl := hmz.2 hzz
                clear hmz
                go_wp2_with fail
                go_roundw
                case rel => exact ⟨z + 1, by omega, by omega, by go_num, HBN⟩
                case measure => simp [intOf]; omega
              · have : mb = false := by
                  cases mb
                  · rfl
                  · exact absurd (hmz.1 rfl) hzz
                subst this
                clear hmz
                go_wp2_with fail
                go_roundw
                case rel => exact ⟨z + 1, by omega, by omega, by go_num, HBN⟩
                case measure => simp [intOf]; omega
        · go_wp2_with fail
          refine (HONO.out _ hBi.out).mono ?_
          rintro e w40 ⟨v40, rfl, ho40, hb40⟩
          obtain ⟨a40, c40, rfl, _⟩ := ints_at ho40
          have HBE : Hid (Below w.heap.size w w40) := by
            have h1 := HBW.out.trans ((hBi.out.trans (hb40.mono hBi.out.size)).mono HBW.out.size)
            exact HS2.out.since.trans (h1.mono HS2.out.since.size)
          clear ho40 hb40
          go_wp2_with fail
          go_ret
          exact ⟨rfl, HBE.out⟩


end Go.Proofs.YtjioingdpfgadaaDoor
