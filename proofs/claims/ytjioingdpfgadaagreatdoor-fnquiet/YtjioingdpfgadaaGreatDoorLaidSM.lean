import Derived.Test.YtjioingdpfgadaaGreatDoorRows
import Derived.Test.YtjioingdpfgadaaGreatDoorLaw1M
import Derived.Test.YtjioingdpfgadaaGreatDoorSayIM
import Derived.Test.YtjioingdpfgadaaGreatDoorProg
import Derived.Test.YtjioingdpfgadaaGreatDoorSayCM
import Derived.Test.YtjioingdpfgadaaGreatDoorSayBM
import Derived.Maps.AppendAt
namespace Go.Proofs.YtjioingdpfgadaaGreatDoor
open Go Go.RowKit Go.Deep Go.ChangeShapes Go.WideShapes Go.ChangeAt

theorem tPow10 : (Tryz.prog.globals[4]?).map (·.type) = some 190 := by kernel_rfl
theorem uPow10 : Tryz.prog.underlying 190 = some (.array 20 56) := by kernel_rfl
theorem uU64 : Tryz.prog.underlying 56 = some (.int .u64) := by kernel_rfl
theorem cU64 : Tryz.prog.cellsOf 56 = 1 := by kernel_rfl
theorem cPow10 : Tryz.prog.cellsOf 190 = 20 := by kernel_rfl
/-- The row's condition: the errors' and the table's. -/
theorem laidT_of {W : World} (h : laidMetH Tryz.prog Rows.fnTopRow.laid W) : ErrsLaid W ∧ TabW W := by
  have h' : laidMet Tryz.prog [("math/bits.deBruijn32tab", Rows.laid_math_bits_deBruijn32tab), ("math/bits.deBruijn64tab", Rows.laid_math_bits_deBruijn64tab), ("internal/strconv.uint64pow10", Rows.laid_internal_strconv_uint64pow10), ("loop.example/tannoy/impl.errTooMany", Rows.laid_loop_example_tannoy_impl_errTooMany), ("loop.example/tannoy/impl.errNoName", Rows.laid_loop_example_tannoy_impl_errNoName), ("loop.example/tannoy/impl.errNameTwice", Rows.laid_loop_example_tannoy_impl_errNameTwice), ("loop.example/tannoy/impl.errCallCount", Rows.laid_loop_example_tannoy_impl_errCallCount), ("loop.example/tannoy/impl.errNoStation", Rows.laid_loop_example_tannoy_impl_errNoStation), ("loop.example/tannoy/impl.errStationTwice", Rows.laid_loop_example_tannoy_impl_errStationTwice), ("loop.example/tannoy/impl.errTime", Rows.laid_loop_example_tannoy_impl_errTime), ("loop.example/tannoy/impl.errTrack", Rows.laid_loop_example_tannoy_impl_errTrack)] W
      ∧ handlesMet Tryz.prog [("errors.errorType", Rows.laid_errors_errorType)] W := h
  obtain ⟨l1, hh⟩ := h'
  have l2 := l1.tail
  have l3 := l2.tail
  have l4 := l3.tail
  refine ⟨⟨l4, hh⟩, ?_⟩
  exact Lib.tabIs_of_head gPow10 tPow10 uPow10 uU64 cU64 cPow10 (show laidMet Tryz.prog (("internal/strconv.uint64pow10", Lib.tabData .u64 Lib.pow10Tab) :: _) W from l3)

end Go.Proofs.YtjioingdpfgadaaGreatDoor
namespace Go.Proofs.YtjioingdpfgadaaGreatDoor
open Go Go.RowKit Go.Deep

theorem uSaid : Tryz.prog.underlying 39 = some (.slice 101) := by kernel_rfl
theorem infSaid : (Tryz.prog.info? 101).map (fun i => (i.zero, i.size, i.bytes)) = some (some (.agg #[.int .i64 0, .string ⟨#[]⟩]), 2, 24) := by kernel_rfl
theorem cells_two_at (w : World) (x : SaidD) (t : TypeId) : ∀ j u, (twoOf x)[j]? = some u → (w.alloc (.cells #[.int .i64 x.tick, .string x.text] t)).cell? ((⟨w.heap.size, 0, none⟩ : Addr).add j) = some u := by
  intro j u hj
  have hadd : (⟨w.heap.size, 0, none⟩ : Addr).add j = ⟨w.heap.size, j, none⟩ := by unfold Addr.add; split <;> simp_all
  rw [hadd, cell_of_row _ _ _ _ _ _ (heap_alloc_last w _)]
  simpa [twoOf] using hj
/-- l2do writes into the news alone. -/
theorem l2do_said (B : Nat) (v : Value) (nss : List (List NewsD)) (vs : List Value) (r : RepD) (j k : Nat) (w : World) (hj : j < nss.length) (hjk : r.trip = (j : Int)) (hk : k < nss[j].length) (hkk : r.call = (k : Int)) (hm2 : nss[j].length ≤ 1048576) (hop : 1 ≤ r.op ∧ r.op ≤ 5) (hB : B ≤ w.heap.size) (hat : NewsOwnAt B w v nss vs) :
    Calls Tryz.prog 26 #[v, repV r] w fun e w' => e = .returned (.tuple #[]) ∧ NewsOwnAt B w' v (nss.set j (doRow r nss[j])) vs ∧ Below B w w' ∧ ∀ B' u K, SaidsOwn B' w u K → SaidsOwn B' w' u K := by
  have hj' : j < vs.length := by rw [hat.len]; exact hj
  have hr := hat.rows j hj hj'
  obtain ⟨gv, cv, rfl, _, _⟩ := hat.outer.form (by omega)
  obtain ⟨g, cap, e, hg1, _⟩ := hr.form (by omega)
  have hv : w.cell? ⟨gv, j, none⟩ = some vs[j] := by rw [hat.outer.cellAt j (by omega), List.getElem?_eq_getElem hj']
  rw [e] at hr
  have fin : ∀ w', w'.ownsRow B 43 5 (.slice (some ⟨g, 0, none⟩) nss[j].length cap) nss[j].length (rowCells (doRow r nss[j])) → w.grownBy w' (some g) → NewsOwnAt B w' (.slice (some ⟨gv, 0, none⟩) nss.length cv) (nss.set j (doRow r nss[j])) vs ∧ Below B w w' ∧ ∀ B' u K, SaidsOwn B' w u K → SaidsOwn B' w' u K := fun w' h1 h2 => by
    refine ⟨hat.stored j hj hj' (by rw [e, doRow_length]; exact h1) (by rw [e]; exact h2), Below.grown (Below.refl _ _) h2 hB fun x hx => ?_, fun B' u K hu => ?_⟩
    · cases hx
      exact hg1
    · have hu0 : w.ownsRow B' 101 2 u K.length (twos K) := hu
      refine hu0.kept h2 ?_
      cases hb : u.ownBlock with
      | none => exact Or.inl rfl
      | some g' =>
        refine Or.inr fun e2 => ?_
        have := owns_types hr hu0 e2.symm hb
        exact absurd this (by decide)
  rw [e] at hv
  rcases (by omega : r.op = 1 ∨ r.op = 2 ∨ r.op = 3 ∨ r.op = 4 ∨ r.op = 5) with h | h | h | h | h
  · exact (l2do_1 B gv cv g cap _ _ r j k w hj hjk hk hkk hm2 h hv hr).mono fun _ w' ⟨e, h1, h2⟩ => ⟨e, fin w' h1 h2⟩
  · exact (l2do_2 B gv cv g cap _ _ r j k w hj hjk hk hkk h hv hr).mono fun _ w' ⟨e, h1, h2⟩ => ⟨e, fin w' h1 h2⟩
  · exact (l2do_3 B gv cv g cap _ _ r j k w hj hjk hk hkk hm2 h hv hr).mono fun _ w' ⟨e, h1, h2⟩ => ⟨e, fin w' h1 h2⟩
  · exact (l2do_4 B gv cv g cap _ _ r j k w hj hjk hk hkk h hv hr).mono fun _ w' ⟨e, h1, h2⟩ => ⟨e, fin w' h1 h2⟩
  · exact (l2do_5 B gv cv g cap _ _ r j k w hj hjk hk hkk h hv hr).mono fun _ w' ⟨e, h1, h2⟩ => ⟨e, fin w' h1 h2⟩
/-- An append to what was said keeps the news. -/
theorem news_said {B B' : Nat} {w w' : World} {v u : Value} {nss : List (List NewsD)} {vs : List Value} {K : List SaidD} (h : NewsOwnAt B w v nss vs) (hu : SaidsOwn B' w u K) (hg : w.grownBy w' u.ownBlock) : NewsOwnAt B w' v nss vs := by
  have hu0 : w.ownsRow B' 101 2 u K.length (twos K) := hu
  refine ⟨h.outer.kept hg ?_, h.len, fun i h1 h2 => (h.rows i h1 h2).kept hg ?_, h.apart⟩
  · cases hb : v.ownBlock with
    | none => exact Or.inl rfl
    | some g =>
      refine Or.inr fun e => ?_
      have := owns_types hu0 h.outer e.symm hb
      exact absurd this (by decide)
  · cases hb : (vs[i]'h2).ownBlock with
    | none => exact Or.inl rfl
    | some g =>
      refine Or.inr fun e => ?_
      have := owns_types hu0 (h.rows i h1 h2) e.symm hb
      exact absurd this (by decide)
theorem text_toList {s : ByteArray} (h : ¬ s = ⟨#[]⟩) : ¬ s.toList = [] ∧ s.toList.isEmpty = false := by
  have e : s.toList = s.data.toList := ByteArray.toList_eq s
  have h1 : ¬ s.toList = [] := fun h0 => h (by
    rw [e] at h0
    have h2 : s.data = #[] := Array.toList_eq_nil_iff.1 h0
    cases s; simp at h2; rw [h2])
  exact ⟨h1, by cases hl : s.toList with
    | nil => exact absurd hl h1
    | cons a l => rfl⟩
theorem news_alloc {B : Nat} {w : World} {v : Value} {nss : List (List NewsD)} {vs : List Value} (h : NewsOwnAt B w v nss vs) (o : Obj) : NewsOwnAt B (w.alloc o) v nss vs := h.below ((Below.refl _ _).alloc (Nat.le_refl _) _)

set_option maxRecDepth 100000 in
set_option maxHeartbeats 8000000 in
theorem specSay_any (v : Value) (bk : BookD) (ra : Option Addr) (rc : Nat) (rs : List RepD) (s frm till : Int) (w : World) (hn : bookSize bk ≤ 1048576) (hm : rs.length ≤ 1048576) (hat : BookAt w v bk) (hra : RepsAt w ra rs) :
    Calls Tryz.prog 18 #[v, .slice ra rs.length rc, .int .i64 s, .int .i64 frm, .int .i64 till] w fun e w' => ∃ v', e = .returned v' ∧ SaidsOwn w.heap.size w' v' (sayD bk rs s frm till) ∧ Below w.heap.size w w' := by
  obtain ⟨sa, sc, ta, tc, rfl, hsa, hta⟩ := hat
  have HBK : Hid (BookAt w (.agg #[.slice sa bk.sts.length sc, .slice ta bk.trips.length tc]) bk) := ⟨sa, sc, ta, tc, rfl, hsa, hta⟩
  have hb0 := bx_below w (.cells #[.slice sa bk.sts.length sc, .slice ta bk.trips.length tc] 26)
  have n1 : bk.sts.length ≤ 1048576 := by unfold bookSize strsSize at hn; omega
  clear hsa hta
  cases hrep : reportsB bk rs
  · have HK : Hid (sayD bk rs s frm till = []) := sayD_no (fun h => by rw [hrep] at h; exact absurd h.1 (by decide))
    go_enter Tryz.func18, Tryz.ntmps18
    go_wp2_with fail
    refine (l2reports_any _ bk _ _ rs _ hn hm (by exact HBK.out.keep hb0) (by exact hra.keep hb0)).mono ?_
    rintro e w1 ⟨rfl, hb1⟩
    rw [hrep]
    go_wp2_with fail
    go_ret
    refine ⟨_, rfl, ?_, hb0.trans (hb1.mono (by simp))⟩
    rw [HK.out]
    exact World.ownsRow_nil _ _ _ _
  · by_cases hin : 0 ≤ s ∧ s < bk.sts.length
    · have HK : Hid (sayD bk rs s frm till = saidTo bk rs s frm till rs.length) := sayD_yes ⟨hrep, hin⟩
      obtain ⟨s0, s1⟩ := hin
      obtain ⟨r0, _, hall⟩ := reportsB_inv hrep
      have HALL : Hid (∀ k (hk : k < rs.length), reportB bk rs[k] = true ∧ prevTick rs k ≤ rs[k].tick) := hall
      have HRS : Hid (∀ r ∈ rs, reportB bk r = true) := fun r hr => by obtain ⟨i, hi, rfl⟩ := List.getElem_of_mem hr; exact (hall i hi).1
      have HTR : Hid (∀ i (h : i < bk.trips.length), tripB bk.sts.length bk.trips[i] = true) := (faultD_zero r0).2
      have HSN : Hid (∀ i (h : i < bk.sts.length), bk.sts[i].size ≤ 20) := fun i h => nameB_size (sts_named r0 (List.getElem?_eq_getElem h))
      have HRA : Hid (RepsAt w ra rs) := hra
      have n3 : ∀ i (h : i < bk.trips.length), bk.trips[i].calls.length ≤ 1048576 := by
        intro i h
        have := sumTrips_get bk.trips i h
        unfold bookSize tripsSize at hn; unfold tripSize at this; omega
      have HN3 : Hid (∀ i (h : i < bk.trips.length), bk.trips[i].calls.length ≤ 1048576) := n3
      obtain ⟨ii, hi0, he0⟩ := Option.map_eq_some_iff.1 infSaid
      simp only [Prod.mk.injEq] at he0
      have HI0 : Hid (ii.zero = some (.agg #[.int .i64 0, .string ⟨#[]⟩]) ∧ ii.size = 2 ∧ ii.bytes = 24) := he0
      have HJ0 : Hid (Tryz.prog.info? 101 = some ii) := hi0
      clear hall n3 r0 hi0 he0
      go_enter Tryz.func18, Tryz.ntmps18
      go_wp2_with fail
      refine (l2reports_any _ bk _ _ rs _ hn hm (by exact HBK.out.keep hb0) (by exact hra.keep hb0)).mono ?_
      rintro e w1 ⟨rfl, hb1⟩
      rw [hrep]
      have hB1 : Below w.heap.size w w1 := hb0.trans (hb1.mono (by simp))
      have z1 := hb1.size
      simp at z1
      have q0 : w1.cell? ⟨w.heap.size, 0, none⟩ = some (.slice sa bk.sts.length sc) := cell_keep hb1 (by simp [go_sem])
      have q1 : w1.cell? ⟨w.heap.size, 1, none⟩ = some (.slice ta bk.trips.length tc) := cell_keep hb1 (by simp [go_sem])
      clear hra hrep hb1
      go_wp2_with fail
      refine (l1in_yes _ _ _ _ (by omega) (by omega)).mono ?_
      rintro e W1 ⟨rfl, rfl⟩
      go_wp2_with fail
      refine (l2news_any _ bk _ hn (by exact HBK.out.keep hB1)).mono ?_
      rintro e w2 ⟨nv, rfl, ⟨vs, hvs⟩, hb2⟩
      have hB2 : Below w.heap.size w w2 := hB1.trans (hb2.mono (by omega))
      have z2 := hb2.size
      have HV : Hid (NewsOwnAt W1.heap.size w2 nv (startNews bk) vs) := hvs
      have a0 := cell_keep hb2 q0
      have a1 := cell_keep hb2 q1
      have HA0 : Hid (w2.cell? ⟨w.heap.size, 0, none⟩ = some (.slice sa bk.sts.length sc) ∧ w2.cell? ⟨w.heap.size, 1, none⟩ = some (.slice ta bk.trips.length tc)) := ⟨a0, a1⟩
      have hz00 : w.heap.size < W1.heap.size := by omega
      clear hvs q0 q1 a0 a1 hb2 hB1
      go_wp2_with fail
      have hz0 : w.heap.size ≤ W1.heap.size := by omega
      go_loopw [12, 33] (fun out i wr => ∃ k : Nat, k ≤ rs.length ∧ i = .int .i64 k ∧ Hid (NewsOwnAt W1.heap.size wr nv (newsTo bk lastTick (rs.take k)) vs) ∧ Hid (SaidsOwn W1.heap.size wr out (saidTo bk rs s frm till k)) ∧ Below W1.heap.size w2 wr) (fun _ i _ => rs.length - (intOf i).toNat)
      case atStart => exact ⟨0, Nat.zero_le _, rfl, HV, World.ownsRow_nil _ _ _ _, Below.refl _ _⟩
      case round =>
        obtain ⟨k, hk, rfl, HNk, HOk, hbel⟩ := hrel
        have hB : Below w.heap.size w wr := hB2.trans (hbel.mono hz0)
        have hz : W1.heap.size ≤ wr.heap.size := by have := hbel.size; omega
        have e0 : wr.cell? ⟨w.heap.size, 0, none⟩ = some (.slice sa bk.sts.length sc) := by rw [hbel.cell (p := ⟨w.heap.size, 0, none⟩) hz00]; exact HA0.out.1
        have e1 : wr.cell? ⟨w.heap.size, 1, none⟩ = some (.slice ta bk.trips.length tc) := by rw [hbel.cell (p := ⟨w.heap.size, 1, none⟩) hz00]; exact HA0.out.2
        clear HV z1 hb0
        by_cases hlt : k < rs.length
        · obtain ⟨b, o, rfl, c0, c1, c2, c3, c4⟩ := HRA.out.keep hB k hlt
          have hrp := (HALL.out k hlt).1
          have HT := newsTo_take bk lastTick rs k hlt
          have hsh := shape_to bk lastTick (rs.take k)
          have HSA := saidAt_at bk rs s frm till k hlt
          have HST : Hid (saidTo bk rs s frm till (k + 1) = saidTo bk rs s frm till k ++ saidAt bk rs s frm till k) := rfl
          have htk : TrackOk (newsTo bk lastTick (rs.take k)) := track_to bk lastTick (rs.take k) (fun t ht i hi => by obtain ⟨q, hq, rfl⟩ := List.getElem_of_mem ht; exact (tripB_st (HTR.out q hq) i hi).2) (fun r hr => HRS.out r (List.mem_of_mem_take hr))
          have hsl := saidTo_length bk rs s frm till k
          generalize rs[k] = r at *
          generalize newsTo bk lastTick (rs.take k) = nss at *
          obtain ⟨_, ⟨ht0, ht1⟩, hop, ⟨hj0, hj1⟩, hc0, hc1⟩ := reportB_head hrp
          have hnum : r.op = 1 ∨ r.op = 2 → 0 ≤ r.n ∧ r.n ≤ 1000000 := fun ho => by
            rw [reportB_yes (reportB_head hrp)] at hrp
            rcases ho with ho | ho
            · rw [numB_1 ho] at hrp; have := of_decide_eq_true hrp; omega
            · rw [numB_2 ho] at hrp; have := of_decide_eq_true hrp; omega
          obtain ⟨j, hj⟩ := Int.eq_ofNat_of_zero_le hj0
          obtain ⟨m, hmm⟩ := Int.eq_ofNat_of_zero_le hc0
          have hj2 : j < bk.trips.length := by omega
          have hjl : j < nss.length := by rw [hsh.length]; omega
          have hjc : nss[j].length = bk.trips[j].calls.length := by rw [hsh.at j hjl, callsOf_at bk j hj2]
          have hml : m < nss[j].length := by rw [hsh.at j hjl, ← hj]; omega
          have hm2 : nss[j].length ≤ 1048576 := by rw [hjc]; exact HN3.out j hj2
          have htl : r.tick ≤ lastTick := ht1
          have hY := stepNews_yes lastTick nss r j hjl hj htl
          have hN := stepNews_no lastTick nss r
          have hC := countsN_at nss r j m hjl hj hml hmm
          have HTX : Hid (textD bk nss r s = textT bk bk.trips[j] nss[j] r s) := textD_at bk nss r s j hj2 hjl hj
          have H1 : Hid (repV r = .agg #[.int .i64 r.tick, .int .i64 r.op, .int .i64 r.trip, .int .i64 r.call, .int .i64 r.n]) := rfl
          have HL4 : Hid (∀ (w : World) (v : Value) (na : Option Addr) (nc : Nat), BookAt w v bk → NewsSSAt w na nss → Calls Tryz.prog 43 #[v, .slice na nss.length nc, repV r, .int .i64 s] w fun e w' => e = .returned (.string (textT bk bk.trips[j] nss[j] r s)) ∧ Below w.heap.size w w') := fun w v na nc h1 h2 => l4text_any v bk na nc nss r s j w hj2 hj hjl hjc (HTR.out j hj2) hn hop hnum (htk _ (List.getElem_mem hjl)) (nameB_size (tripB_named (HTR.out j hj2))) HSN.out h1 h2
          obtain ⟨na, nc, rfl, hss⟩ := HNk.out.at
          have HSS : Hid (NewsSSAt wr na nss) := hss
          have hba : Below wr.heap.size wr (wr.alloc (.cells #[.int .i64 r.tick, .int .i64 r.op, .int .i64 r.trip, .int .i64 r.call, .int .i64 r.n] 45)) := (Below.refl _ _).alloc (Nat.le_refl _) _
          have HOP : Hid (1 ≤ r.op ∧ r.op ≤ 5) := hop
          have HJ : Hid (r.trip = (j : Int)) := hj
          have HM : Hid (r.call = (m : Int)) := hmm
          clear hss hsh hrp ht0 ht1 hc0 hc1 hop hj hmm hj0 hj1 htk hnum htl
          cases hcn : countsN nss r
          · have HE : Hid (newsTo bk lastTick (rs.take (k + 1)) = nss) := by unfold Hid; rw [HT, hN (by rw [hcn]; simp)]
            have HS2 : Hid (saidTo bk rs s frm till (k + 1) = saidTo bk rs s frm till k) := by unfold Hid; rw [HST.out, HSA, if_neg (by rw [hcn]; simp), List.append_nil]
            rw [hcn] at hC
            have HC : Hid (false = countsX nss[j] m nss[j][m] r) := hC
            clear HT hY hN hC hcn HSA
            go_wp2_with fail
            rw [← H1.out]
            refine (l2counts_any _ _ nss r j m _ hjl HJ.out hml HM.out hm2 (by exact HSS.out.keep hba)).mono ?_
            rintro e w3 ⟨rfl, hb3⟩
            rw [← HC.out]
            have hb3' := hba.trans (hb3.mono (by simp))
            go_wp2_with fail
            go_roundw
            case rel => exact ⟨k + 1, by omega, by go_num, by rw [HE.out]; exact HNk.out.below hb3', by rw [HS2.out]; exact HOk.out.below hb3', hbel.trans (hb3'.mono hz)⟩
            case measure => simp [intOf]; omega
          · have HE : Hid (newsTo bk lastTick (rs.take (k + 1)) = nss.set j (doRow r nss[j])) := by unfold Hid; rw [HT, hY hcn]
            rw [hcn] at hC
            have HC : Hid (true = countsX nss[j] m nss[j][m] r) := hC
            rw [HTX.out] at HSA
            have HSA' : Hid (saidAt bk rs s frm till k = if true = true ∧ textT bk bk.trips[j] nss[j] r s ≠ ⟨#[]⟩ ∧ frm ≤ r.tick ∧ r.tick ≤ till then [⟨r.tick, textT bk bk.trips[j] nss[j] r s⟩] else []) := by rw [hcn] at HSA; exact HSA
            clear HT hY hN hC hcn HSA HTX
            go_wp2_with fail
            rw [← H1.out]
            refine (l2counts_any _ _ nss r j m _ hjl HJ.out hml HM.out hm2 (by exact HSS.out.keep hba)).mono ?_
            rintro e w3 ⟨rfl, hb3⟩
            rw [← HC.out]
            have x0 : w3.cell? ⟨wr.heap.size, 0, none⟩ = some (.int .i64 r.tick) := cell_keep hb3 (by simp [go_sem])
            have x1 : w3.cell? ⟨wr.heap.size, 1, none⟩ = some (.int .i64 r.op) := cell_keep hb3 (by simp [go_sem])
            have x2 : w3.cell? ⟨wr.heap.size, 2, none⟩ = some (.int .i64 r.trip) := cell_keep hb3 (by simp [go_sem])
            have x3 : w3.cell? ⟨wr.heap.size, 3, none⟩ = some (.int .i64 r.call) := cell_keep hb3 (by simp [go_sem])
            have x4 : w3.cell? ⟨wr.heap.size, 4, none⟩ = some (.int .i64 r.n) := cell_keep hb3 (by simp [go_sem])
            have hb3' := hba.trans (hb3.mono (by simp))
            have f0 := cell_keep hb3' e0
            have f1 := cell_keep hb3' e1
            have hB3 : Below w.heap.size w w3 := hB.trans (hb3'.mono hB.size)
            clear hb3 e0 e1
            go_wp2_with fail
            rw [← H1.out]
            refine (HL4.out _ _ _ _ (by exact HBK.out.keep hB3) (by exact HSS.out.keep hb3')).mono ?_
            rintro e w4 ⟨rfl, hb4⟩
            have hb4' := hb3'.trans (hb4.mono hb3'.size)
            have y0 := cell_keep hb4 x0
            have y1 := cell_keep hb4 x1
            have y2 := cell_keep hb4 x2
            have y3 := cell_keep hb4 x3
            have y4 := cell_keep hb4 x4
            have HN4 : Hid (NewsOwnAt W1.heap.size w4 (.slice na nss.length nc) nss vs) := HNk.out.below hb4'
            have HO4 : Hid (SaidsOwn W1.heap.size w4 u12 (saidTo bk rs s frm till k)) := HOk.out.below hb4'
            have HOW : Hid (SaidsOwn W1.heap.size wr u12 (saidTo bk rs s frm till k)) := HOk
            have hbel4 : Below W1.heap.size w2 w4 := hbel.trans (hb4'.mono hz)
            have z4 : W1.heap.size ≤ w4.heap.size := by have := hbel4.size; have := hB2.size; omega
            clear hb4 x0 x1 x2 x3 x4 f0 f1 hb3' hb4' hba HNk HOk HL4 HSS
            generalize textT bk bk.trips[j] nss[j] r s = TT at *
            have FIN : Hid (saidTo bk rs s frm till (k + 1) = saidTo bk rs s frm till k → ∀ w5, NewsOwnAt W1.heap.size w5 (.slice na nss.length nc) (nss.set j (doRow r nss[j])) vs ∧ Below W1.heap.size w4 w5 ∧ (∀ B' u K, SaidsOwn B' w4 u K → SaidsOwn B' w5 u K) → Hid (NewsOwnAt W1.heap.size w5 (.slice na nss.length nc) (newsTo bk lastTick (rs.take (k + 1))) vs) ∧ Hid (SaidsOwn W1.heap.size w5 u12 (saidTo bk rs s frm till (k + 1))) ∧ Below W1.heap.size w2 w5) := fun hs w5 ⟨h1, h2, h3⟩ => ⟨by rw [HE.out]; exact h1, by rw [hs]; exact h3 _ _ _ HO4.out, hbel4.trans h2⟩
            by_cases hte : TT = ⟨#[]⟩
            · have HS2 : Hid (saidTo bk rs s frm till (k + 1) = saidTo bk rs s frm till k) := by unfold Hid; rw [HST.out, HSA'.out, if_neg (fun h => h.2.1 hte), List.append_nil]
              subst hte
              clear HSA'
              go_wp2_with fail
              rw [← H1.out]
              refine (l2do_said W1.heap.size _ nss vs r j m _ hjl HJ.out hml HM.out hm2 HOP.out z4 HN4.out).mono ?_
              rintro e w5 ⟨rfl, hdone⟩
              have HDN := FIN.out HS2.out w5 hdone
              have HDN : Hid _ := HDN
              clear hdone
              go_wp2_with fail
              go_roundw
              case rel => exact ⟨k + 1, by omega, by go_num, HDN.out⟩
              case measure => simp [intOf]; omega
            · obtain ⟨bte, btf⟩ := text_toList hte
              by_cases hf : frm ≤ r.tick
              · by_cases ht : r.tick ≤ till
                · have HS2 : Hid (saidTo bk rs s frm till (k + 1) = saidTo bk rs s frm till k ++ [⟨r.tick, TT⟩]) := by unfold Hid; rw [HST.out, HSA'.out, if_pos ⟨by first | rfl | trivial, hte, hf, ht⟩]
                  clear HSA' hte FIN
                  go_wp2_with (first
                    | (at_builtin; refine wpList_append_own_at _ rfl _ _ 39 rfl W1.heap.size 101 ii (.agg #[.int .i64 0, .string ⟨#[]⟩]) 2 24 uSaid HJ0.out HI0.out.1 HI0.out.2.1 HI0.out.2.2 rfl (by decide) _ _ _ rfl (HO4.out.alloc _) ⟨w4.heap.size, 0, none⟩ 1 1 (twoOf ⟨r.tick, TT⟩) rfl rfl (cells_two_at _ ⟨r.tick, TT⟩ _) ?c2 ?c3 ?c4 ?c5 ?_)
                    | fail)
                  case c2 => intro u hu; simp only [twoOf, List.mem_cons, List.not_mem_nil, or_false] at hu; rcases hu with rfl | rfl <;> rfl
                  case c3 => unfold maxLen; omega
                  case c4 => omega
                  case c5 => simp; omega
                  intro v' w5 hown' hgrow _ _
                  have HO5 : Hid (SaidsOwn W1.heap.size w5 v' (saidTo bk rs s frm till (k + 1))) := by
                    unfold Hid SaidsOwn; rw [HS2.out, twos_snoc, List.length_append]
                    exact hown'
                  have hag : Below w4.heap.size w4 (w4.alloc (.cells #[.int .i64 r.tick, .string TT] 101)) := (Below.refl _ _).alloc (Nat.le_refl _) _
                  have HN5 : Hid (NewsOwnAt W1.heap.size w5 (.slice na nss.length nc) nss vs) := news_said (news_alloc HN4.out _) (HO4.out.below hag) hgrow
                  have hbel5 : Below W1.heap.size w2 w5 := Below.grown (hbel4.alloc (by have := hbel4.size; have := hB2.size; omega) _) hgrow (by simp; omega) fun g hgg => (World.ownsRow.lt (show w4.ownsRow W1.heap.size 101 2 u12 _ _ from HO4.out) g hgg).1
                  have hkp : ∀ {c : Nat} {u : Value}, w4.cell? ⟨wr.heap.size, c, none⟩ = some u → w5.cell? ⟨wr.heap.size, c, none⟩ = some u := fun {c u} hc => by
                    have hlt4 := cell_lt hc
                    have hne : u12.ownBlock ≠ some wr.heap.size := fun he => by
                      have := owns_lt (show wr.ownsRow W1.heap.size 101 2 u12 _ _ from HOW.out) _ he
                      exact absurd this (by simp)
                    rw [World.cell?_of_block (w := w4) (by rw [hgrow.block _ (by simp; omega) (fun e => hne e.symm), hag.block _ hlt4])]
                    exact hc
                  have x0 := hkp y0
                  have x1 := hkp y1
                  have x2 := hkp y2
                  have x3 := hkp y3
                  have x4 := hkp y4
                  have z5 : W1.heap.size ≤ w5.heap.size := by have := hbel5.size; have := hB2.size; omega
                  clear hown' hgrow hkp y0 y1 y2 y3 y4 HO4 HN4
                  go_wp2_with fail
                  rw [← H1.out]
                  refine (l2do_said W1.heap.size _ nss vs r j m _ hjl HJ.out hml HM.out hm2 HOP.out z5 HN5.out).mono ?_
                  rintro e w6 ⟨rfl, h1, h2, h3⟩
                  have HN6 : Hid (NewsOwnAt W1.heap.size w6 (.slice na nss.length nc) (newsTo bk lastTick (rs.take (k + 1))) vs) := by unfold Hid; rw [HE.out]; exact h1
                  have HO6 : Hid (SaidsOwn W1.heap.size w6 v' (saidTo bk rs s frm till (k + 1))) := h3 _ _ _ HO5.out
                  clear h1 h3
                  go_wp2_with fail
                  go_roundw
                  case rel => exact ⟨k + 1, by omega, by go_num, HN6, HO6, hbel5.trans h2⟩
                  case measure => simp [intOf]; omega
                · have HS2 : Hid (saidTo bk rs s frm till (k + 1) = saidTo bk rs s frm till k) := by unfold Hid; rw [HST.out, HSA'.out, if_neg (fun h => ht h.2.2.2), List.append_nil]
                  clear HSA' hte
                  go_wp2_with fail
                  rw [← H1.out]
                  refine (l2do_said W1.heap.size _ nss vs r j m _ hjl HJ.out hml HM.out hm2 HOP.out z4 HN4.out).mono ?_
                  rintro e w5 ⟨rfl, hdone⟩
                  have HDN := FIN.out HS2.out w5 hdone
                  have HDN : Hid _ := HDN
                  clear hdone
                  go_wp2_with fail
                  go_roundw
                  case rel => exact ⟨k + 1, by omega, by go_num, HDN.out⟩
                  case measure => simp [intOf]; omega
              · have HS2 : Hid (saidTo bk rs s frm till (k + 1) = saidTo bk rs s frm till k) := by unfold Hid; rw [HST.out, HSA'.out, if_neg (fun h => hf h.2.2.1), List.append_nil]
                clear HSA' hte
                go_wp2_with fail
                rw [← H1.out]
                refine (l2do_said W1.heap.size _ nss vs r j m _ hjl HJ.out hml HM.out hm2 HOP.out z4 HN4.out).mono ?_
                rintro e w5 ⟨rfl, hdone⟩
                have HDN := FIN.out HS2.out w5 hdone
                have HDN : Hid _ := HDN
                clear hdone
                go_wp2_with fail
                go_roundw
                case rel => exact ⟨k + 1, by omega, by go_num, HDN.out⟩
                case measure => simp [intOf]; omega
        · have hk' : k = rs.length := by omega
          subst hk'
          clear e0 e1
          go_wp2_with fail
          go_ret
          refine ⟨_, rfl, ?_, hB⟩
          rw [HK.out]
          exact owns_mono HOk.out hz0
    · have HK : Hid (sayD bk rs s frm till = []) := sayD_no (fun h => hin h.2)
      go_enter Tryz.func18, Tryz.ntmps18
      go_wp2_with fail
      refine (l2reports_any _ bk _ _ rs _ hn hm (by exact HBK.out.keep hb0) (by exact hra.keep hb0)).mono ?_
      rintro e w1 ⟨rfl, hb1⟩
      rw [hrep]
      have hB1 : Below w.heap.size w w1 := hb0.trans (hb1.mono (by simp))
      have q0 : w1.cell? ⟨w.heap.size, 0, none⟩ = some (.slice sa bk.sts.length sc) := cell_keep hb1 (by simp [go_sem])
      clear hb1
      go_wp2_with fail
      refine (l1in_no _ _ _ _ (by omega)).mono ?_
      rintro e w1' ⟨rfl, rfl⟩
      go_wp2_with fail
      go_ret
      refine ⟨_, rfl, ?_, hB1⟩
      rw [HK.out]
      exact World.ownsRow_nil _ _ _ _

end Go.Proofs.YtjioingdpfgadaaGreatDoor
