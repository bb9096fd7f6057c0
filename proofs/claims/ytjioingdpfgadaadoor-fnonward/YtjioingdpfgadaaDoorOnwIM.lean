import Derived.Test.YtjioingdpfgadaaDoorProg
import Derived.Test.YtjioingdpfgadaaDoorOnwAM
import Derived.Test.YtjioingdpfgadaaDoorImplUM
namespace Go.Proofs.YtjioingdpfgadaaDoor
open Go Go.RowKit Go.Deep

set_option maxRecDepth 100000 in
set_option maxHeartbeats 4000000 in
theorem implOnward_any (v : Value) (bk : BookD) (ra : Option Addr) (rc : Nat) (rs : List RepD) (trip tick : Int) (w : World) (hn : bookSize bk ≤ 1048576) (hm : rs.length ≤ 1048576) (hwf : ∀ t ∈ bk.trips, ∀ i (h : i < t.calls.length), (Lit.int .i64 t.calls[i].st).wf = true) (hat : BookAt w v bk) (hra : RepsAt w ra rs) (hev : ErrVars w) :
    Calls Tryd.prog 24 #[v, .slice ra rs.length rc, .int .i64 trip, .int .i64 tick] w fun e w' => ∃ v', e = .returned v' ∧ IntsOwn w.heap.size w' v' (onwardD bk rs trip tick) ∧ Below w.heap.size w w' := by
  obtain ⟨sa, sc, ta, tc, rfl, hsa, hta⟩ := hat
  have HBK : Hid (BookAt w (.agg #[.slice sa bk.sts.length sc, .slice ta bk.trips.length tc]) bk) := ⟨sa, sc, ta, tc, rfl, hsa, hta⟩
  have HTA : Hid (TripsAt w ta bk.trips) := hta
  have HRA : Hid (RepsAt w ra rs) := hra
  have HWF : Hid (∀ t ∈ bk.trips, ∀ i (h : i < t.calls.length), (Lit.int .i64 t.calls[i].st).wf = true) := hwf
  have hb0 := bx_below w (.cells #[.slice sa bk.sts.length sc, .slice ta bk.trips.length tc] 26)
  have n2 : bk.trips.length ≤ 1048576 := by unfold bookSize tripsSize at hn; omega
  have n3 : ∀ i (h : i < bk.trips.length), bk.trips[i].calls.length ≤ 1048576 := by
    intro i h
    have := sumTrips_get bk.trips i h
    unfold bookSize tripsSize at hn; unfold tripSize at this; omega
  have HN3 : Hid (∀ i (h : i < bk.trips.length), bk.trips[i].calls.length ≤ 1048576) := n3
  clear hsa hta hra hwf n3
  go_enter Tryd.func24, Tryd.ntmps24
  go_wp2_with fail
  refine (implKnown_any _ bk _ _ rs tick _ hn hm HWF.out (by exact HBK.out.keep hb0) (by exact HRA.out.keep hb0) (by exact hev.keep hb0)).mono ?_
  rintro e w2 ⟨v2, rfl, ⟨vs2, hown2⟩, hb2⟩
  obtain ⟨na, nc, rfl, hss⟩ := hown2.at
  have B2 : Below (w.heap.size + 1) (w.alloc (.cells #[.slice sa bk.sts.length sc, .slice ta bk.trips.length tc] 26)) w2 := hb2.mono (by simp)
  have hB2 : Below w.heap.size w w2 := hb0.trans (B2.mono (by omega))
  have p0 : w2.cell? ⟨w.heap.size, 0, none⟩ = some (.slice sa bk.sts.length sc) := by rw [B2.cell (p := ⟨w.heap.size, 0, none⟩) (by simp)]; simp [go_sem]
  have p1 : w2.cell? ⟨w.heap.size, 1, none⟩ = some (.slice ta bk.trips.length tc) := by rw [B2.cell (p := ⟨w.heap.size, 1, none⟩) (by simp)]; simp [go_sem]
  have HKL : Hid ((knownD bk rs tick).length ≤ bk.trips.length) := by
    unfold Hid knownD
    split
    · rw [(shape_to bk tick rs).length]; exact Nat.le_refl _
    · simp
  have HSS : Hid (NewsSSAt w2 na (knownD bk rs tick)) := hss
  clear hown2 hb2 B2 hss hb0
  by_cases hin : 0 ≤ trip ∧ trip < (knownD bk rs tick).length
  · obtain ⟨i1, i2⟩ := hin
    obtain ⟨j, rfl⟩ := Int.eq_ofNat_of_zero_le i1
    have hjn : j < (knownD bk rs tick).length := by omega
    have hrep : reportsB bk rs = true := by
      cases h : reportsB bk rs
      · rw [knownD_no h] at hjn; simp at hjn
      · rfl
    have HKD := knownD_yes (tick := tick) hrep
    rw [HKD] at hjn HSS HKL i2 ⊢
    have hj : j < bk.trips.length := by have := HKL.out; omega
    have hsh := shape_to bk tick rs
    have hlen : (newsTo bk tick rs)[j].length = bk.trips[j].calls.length := by rw [hsh.at j hjn, callsOf_at bk j hj]
    have HK : Hid (onwardD bk rs j tick = onwardTo bk.trips[j].calls (newsTo bk tick rs)[j] bk.trips[j].calls.length) := by
      unfold Hid onwardD
      rw [if_pos ⟨hrep, i1, by omega⟩, callsOf_at bk j hj]
      simp [List.getD, List.getElem?_eq_getElem hjn]
    have n4 := HN3.out j hj
    obtain ⟨ii, hi0, he0⟩ := Option.map_eq_some_iff.1 infInt
    simp only [Prod.mk.injEq] at he0
    have HI0 : Hid (ii.zero = some (.int .i64 0) ∧ ii.size = 1 ∧ ii.bytes = 8) := he0
    have HJ0 : Hid (Tryd.prog.info? 3 = some ii) := hi0
    obtain ⟨b, o, ca, cc, rfl, c0, c1, hca⟩ := HTA.out.keep hB2 j hj
    obtain ⟨b', o', na', nc', rfl, e0, hnn⟩ := HSS.out j hjn
    have HCA : Hid (CallsAt w2 ca bk.trips[j].calls) := hca
    have HNN : Hid (NewsAt w2 na' (newsTo bk tick rs)[j]) := hnn
    have HC1 : Hid (w2.cell? ⟨b, o + j * 2 + 1, none⟩ = some (.slice ca bk.trips[j].calls.length cc)) := c1
    have HP1 : Hid (w2.cell? ⟨w.heap.size, 1, none⟩ = some (.slice (some ⟨b, o, none⟩) bk.trips.length tc)) := p1
    have hj0 : (0 : Int) ≤ (j : Int) := by omega
    have hj1 : (j : Int) < (bk.trips.length : Int) := by omega
    have hj2 : (j : Int) < ((newsTo bk tick rs).length : Int) := by omega
    generalize bk.trips[j].calls = cs at *
    generalize (newsTo bk tick rs)[j] = ns at *
    have HLN : Hid (ns.length = cs.length) := hlen
    rw [hlen] at e0
    have b0 : decide ((j : Int) < 0) = false := decide_eq_false (by omega)
    have b1 : decide ((newsTo bk tick rs).length ≤ j) = false := decide_eq_false (by omega)
    clear hsh hi0 he0 HKD HKL HSS hca hnn hrep c0 c1 hlen hjn p0
    go_wp2_with fail
    clear p1 e0
    go_loopw [10, 30] (fun out i wr => ∃ k : Nat, k ≤ cs.length ∧ i = .int .i64 k ∧ wr.ownsRow w2.heap.size 3 1 out (onwardTo cs ns k).length (intCells (onwardTo cs ns k)) ∧ Below w2.heap.size w2 wr) (fun _ i _ => cs.length - (intOf i).toNat)
    case atStart => exact ⟨0, Nat.zero_le _, rfl, World.ownsRow_nil _ _ _ _, Below.refl _ _⟩
    case round =>
      obtain ⟨k, hk, rfl, hrow, hbel⟩ := hrel
      have hB : Below w.heap.size w wr := hB2.trans (hbel.mono hB2.size)
      have hz := hbel.size
      by_cases hlt : k < cs.length
      · have hlt2 : k < ns.length := by have := HLN.out; omega
        obtain ⟨b2, o2, rfl, d0, d1, d2, d3⟩ := HCA.out.keep hbel k hlt
        obtain ⟨b3, o3, rfl, x0, x1, x2, x3, x4⟩ := HNN.out.keep hbel k hlt2
        have f1 := cell_keep hbel HC1.out
        have q1 := cell_keep hbel HP1.out
        have HO : Hid (onwardTo cs ns (k + 1) = onwardTo cs ns k ++ onwardAt cs ns k) := rfl
        have hoa := onwardAt_at cs ns k hlt hlt2
        have hki : (k : Int) < (cs.length : Int) := by omega
        have hk0 : (0 : Int) ≤ (k : Int) := by omega
        have hol := onwardTo_length cs ns k
        have z0 := cell_lt f1
        have z1 := cell_lt q1
        have z2 := cell_lt d0
        generalize cs[k] = c at *
        generalize ns[k] = x at *
        obtain ⟨W4, hW4⟩ : ∃ W4, wr.alloc (.cells #[.int .i64 x.late, .int .i64 x.track, .bool x.off, .bool x.here, .bool x.gone] 41) = W4 := ⟨_, rfl⟩
        have hb4 : Below wr.heap.size wr W4 := by subst hW4; exact bx_below _ _
        have u2 : W4.cell? ⟨wr.heap.size, 2, none⟩ = some (.bool x.off) := by subst hW4; simp [go_sem]
        have u4 : W4.cell? ⟨wr.heap.size, 4, none⟩ = some (.bool x.gone) := by subst hW4; simp [go_sem]
        have v1 := cell_keep hb4 f1
        have v2 := cell_keep hb4 q1
        have v3 := cell_keep hb4 d0
        have hrow4 : W4.ownsRow w2.heap.size 3 1 u10 (onwardTo cs ns k).length (intCells (onwardTo cs ns k)) := owns_below hrow hb4 (owns_lt hrow)
        have hbel4 : Below w2.heap.size w2 W4 := hbel.trans (hb4.mono hbel.size)
        clear f1 q1 d0 d1 d2 d3
        cases hg : x.gone
        · rw [hg] at u4
          cases ho : x.off
          · rw [ho] at u2
            have HO1 : Hid (onwardTo cs ns (k + 1) = onwardTo cs ns k ++ [c.st]) := by unfold Hid; rw [HO.out, hoa, if_neg (by simp [hg, ho])]
            clear hoa hg ho hrow
            go_wp2_with (first
              | (at_builtin; refine wpList_append_own_at _ rfl _ _ 50 rfl w2.heap.size 3 ii (.int .i64 0) 1 8 uInts HJ0.out HI0.out.1 HI0.out.2.1 HI0.out.2.2 rfl (by decide) _ _ _ rfl (hrow4.alloc _) ⟨W4.heap.size, 0, none⟩ 1 1 [.int .i64 c.st] rfl rfl (cell_one_at _ _ _) ?c2 ?c3 ?c4 ?c5 ?_)
              | fail)
            case c2 => intro u hu; simp at hu; subst hu; rfl
            case c3 => unfold maxLen; omega
            case c4 => omega
            case c5 => have := hbel4.size; simp; omega
            intro v' w5 hown' hgrow _ _
            have HR5 : Hid (w5.ownsRow w2.heap.size 3 1 v' (onwardTo cs ns (k + 1)).length (intCells (onwardTo cs ns (k + 1)))) := by
              unfold Hid; rw [HO1.out]
              simpa [intCells] using hown'
            have hbel5 : Below w2.heap.size w2 w5 := Below.grown (hbel4.alloc hbel4.size _) hgrow (by have := hbel4.size; simp; omega) fun g hgg => (hrow4.lt g hgg).1
            clear hown' hgrow hrow4
            go_wp2_with fail
            go_roundw
            case rel => exact ⟨k + 1, by omega, by go_num, HR5.out, hbel5⟩
            case measure => simp [intOf]; omega
          · rw [ho] at u2
            have HO1 : Hid (onwardTo cs ns (k + 1) = onwardTo cs ns k) := by unfold Hid; rw [HO.out, hoa, if_pos (by simp [ho])]; simp
            have HR4 : Hid (W4.ownsRow w2.heap.size 3 1 u10 (onwardTo cs ns (k + 1)).length (intCells (onwardTo cs ns (k + 1)))) := by unfold Hid; rw [HO1.out]; exact hrow4
            clear hoa hg ho hrow hrow4
            go_wp2_with fail
            go_roundw
            case rel => exact ⟨k + 1, by omega, by go_num, HR4.out, hbel4⟩
            case measure => simp [intOf]; omega
        · rw [hg] at u4
          have HO1 : Hid (onwardTo cs ns (k + 1) = onwardTo cs ns k) := by unfold Hid; rw [HO.out, hoa, if_pos (by simp [hg])]; simp
          have HR4 : Hid (W4.ownsRow w2.heap.size 3 1 u10 (onwardTo cs ns (k + 1)).length (intCells (onwardTo cs ns (k + 1)))) := by unfold Hid; rw [HO1.out]; exact hrow4
          clear hoa hg hrow hrow4
          go_wp2_with fail
          go_roundw
          case rel => exact ⟨k + 1, by omega, by go_num, HR4.out, hbel4⟩
          case measure => simp [intOf]; omega
      · have hk' : k = cs.length := by omega
        subst hk'
        have HR : Hid (wr.ownsRow w2.heap.size 3 1 u10 (onwardTo cs ns cs.length).length (intCells (onwardTo cs ns cs.length))) := hrow
        clear hrow
        go_wp2_with fail
        go_ret
        refine ⟨_, rfl, ?_, hB⟩
        rw [HK.out]
        exact owns_mono HR.out hB2.size
  · have HK : Hid (onwardD bk rs trip tick = []) := by
      refine onwardD_no (fun h => hin ⟨h.2.1, ?_⟩)
      rw [knownD_yes h.1, (shape_to bk tick rs).length]; exact h.2.2
    by_cases h0 : trip < 0
    · clear hin
      go_wp2_with fail
      go_ret
      refine ⟨_, rfl, ?_, hB2⟩
      rw [HK.out]
      exact World.ownsRow_nil _ _ _ _
    · have h1 : ((knownD bk rs tick).length : Int) ≤ trip := by omega
      clear hin
      go_wp2_with fail
      go_ret
      refine ⟨_, rfl, ?_, hB2⟩
      rw [HK.out]
      exact World.ownsRow_nil _ _ _ _

end Go.Proofs.YtjioingdpfgadaaDoor
