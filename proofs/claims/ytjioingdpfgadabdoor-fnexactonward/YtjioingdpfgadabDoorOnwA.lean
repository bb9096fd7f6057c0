import Derived.Test.YtjioingdpfgadabDoorProg
import Derived.Test.YtjioingdpfgadabDoorSpecO
namespace Go.Proofs.YtjioingdpfgadabDoor
open Go Go.RowKit Go.Deep

theorem uInts : Tryd.prog.underlying 44 = some (.slice 3) := by kernel_rfl
theorem infInt : (Tryd.prog.info? 3).map (fun i => (i.zero, i.size, i.bytes)) = some (some (.int .i64 0), 1, 8) := by kernel_rfl
def intCells (l : List Int) : List Value := l.map (Value.int .i64)
theorem intCells_length (l : List Int) : (intCells l).length = l.length := by simp [intCells]
/-- The station of a call that has not gone and is not called off. -/
def onwardAt (cs : List CallD) (ns : List NewsD) (k : Nat) : List Int :=
  match cs[k]?, ns[k]? with
  | some c, some x => if x.gone = true ∨ x.off = true then [] else [c.st]
  | _, _ => []
def onwardTo (cs : List CallD) (ns : List NewsD) : Nat → List Int
  | 0 => []
  | k + 1 => onwardTo cs ns k ++ onwardAt cs ns k
theorem onwardAt_at (cs : List CallD) (ns : List NewsD) (k : Nat) (h1 : k < cs.length) (h2 : k < ns.length) : onwardAt cs ns k = if ns[k].gone = true ∨ ns[k].off = true then [] else [cs[k].st] := by
  simp [onwardAt, List.getElem?_eq_getElem h1, List.getElem?_eq_getElem h2]
theorem onwardTo_length (cs : List CallD) (ns : List NewsD) (k : Nat) : (onwardTo cs ns k).length ≤ k := by
  induction k with
  | zero => simp [onwardTo]
  | succ k ih =>
    unfold onwardTo
    rw [List.length_append]
    have : (onwardAt cs ns k).length ≤ 1 := by
      unfold onwardAt
      repeat' split
      all_goals simp
    omega
/-- Onward's answer. -/
def onwardD (bk : BookD) (rs : List RepD) (trip tick : Int) : List Int :=
  if reportsB bk rs = true ∧ (0 ≤ trip ∧ trip < bk.trips.length) then onwardTo (callsOf bk trip) ((newsTo bk tick rs).getD trip.toNat []) (callsOf bk trip).length else []
theorem onwardD_no {bk : BookD} {rs : List RepD} {trip tick : Int} (h : ¬ (reportsB bk rs = true ∧ (0 ≤ trip ∧ trip < bk.trips.length))) : onwardD bk rs trip tick = [] := by unfold onwardD; rw [if_neg h]
theorem onwardD_length (bk : BookD) (rs : List RepD) (trip tick : Int) : (onwardD bk rs trip tick).length ≤ (callsOf bk trip).length := by
  unfold onwardD
  split
  · exact onwardTo_length _ _ _
  · simp

theorem cell_one_at (w : World) (v : Value) (t : TypeId) : ∀ j u, ([v] : List Value)[j]? = some u → (w.alloc (.cells #[v] t)).cell? ((⟨w.heap.size, 0, none⟩ : Addr).add j) = some u := by
  intro j u hj
  cases j with
  | zero =>
    simp at hj
    subst hj
    have hadd : (⟨w.heap.size, 0, none⟩ : Addr).add 0 = ⟨w.heap.size, 0, none⟩ := by unfold Addr.add; split <;> simp_all
    rw [hadd]
    simp [go_sem]
  | succ j => simp at hj

set_option maxRecDepth 100000 in
set_option maxHeartbeats 2000000 in
theorem specOnward_any (v : Value) (bk : BookD) (ra : Option Addr) (rc : Nat) (rs : List RepD) (trip tick : Int) (w : World) (hn : bookSize bk ≤ 1048576) (hm : rs.length ≤ 1048576) (hat : BookAt w v bk) (hra : RepsAt w ra rs) :
    Calls Tryd.prog 18 #[v, .slice ra rs.length rc, .int .i64 trip, .int .i64 tick] w fun e w' => ∃ v', e = .returned v' ∧ w'.ownsRow w.heap.size 3 1 v' (onwardD bk rs trip tick).length (intCells (onwardD bk rs trip tick)) ∧ Below w.heap.size w w' := by
  obtain ⟨sa, sc, ta, tc, rfl, hsa, hta⟩ := hat
  have HBK : Hid (BookAt w (.agg #[.slice sa bk.sts.length sc, .slice ta bk.trips.length tc]) bk) := ⟨sa, sc, ta, tc, rfl, hsa, hta⟩
  have HTA : Hid (TripsAt w ta bk.trips) := hta
  have HRA : Hid (RepsAt w ra rs) := hra
  have hb0 := bx_below w (.cells #[.slice sa bk.sts.length sc, .slice ta bk.trips.length tc] 33)
  have n2 : bk.trips.length ≤ 1048576 := by unfold bookSize tripsSize at hn; omega
  have n3 : ∀ i (h : i < bk.trips.length), bk.trips[i].calls.length ≤ 1048576 := by
    intro i h
    have := sumTrips_get bk.trips i h
    unfold bookSize tripsSize at hn; unfold tripSize at this; omega
  clear hsa hta hra
  cases hrep : reportsB bk rs
  · have HK : Hid (onwardD bk rs trip tick = []) := onwardD_no (fun h => by rw [hrep] at h; exact absurd h.1 (by decide))
    clear n3
    go_enter Tryd.func18, Tryd.ntmps18
    go_wp2_with fail
    refine (l2reports_any _ bk _ _ rs _ hn hm (by exact HBK.out.keep hb0) (by exact HRA.out.keep hb0)).mono ?_
    rintro e w1 ⟨rfl, hb1⟩
    rw [hrep]
    go_wp2_with fail
    go_ret
    refine ⟨_, rfl, ?_, hb0.trans (hb1.mono (by simp))⟩
    rw [HK.out]
    exact World.ownsRow_nil _ _ _ _
  · by_cases hin : 0 ≤ trip ∧ trip < bk.trips.length
    · obtain ⟨i1, i2⟩ := hin
      obtain ⟨j, rfl⟩ := Int.eq_ofNat_of_zero_le i1
      have hj : j < bk.trips.length := by omega
      have hsh := shape_to bk tick rs
      have hjn : j < (newsTo bk tick rs).length := by rw [hsh.length]; exact hj
      have hlen : (newsTo bk tick rs)[j].length = bk.trips[j].calls.length := by rw [hsh.at j hjn, callsOf_at bk j hj]
      have HK : Hid (onwardD bk rs j tick = onwardTo bk.trips[j].calls (newsTo bk tick rs)[j] bk.trips[j].calls.length) := by
        unfold Hid onwardD
        rw [if_pos ⟨hrep, i1, i2⟩, callsOf_at bk j hj]
        simp [List.getD, List.getElem?_eq_getElem hjn]
      have HKD : Hid (knownD bk rs tick = newsTo bk tick rs) := by unfold Hid knownD; rw [hrep]; rfl
      have n4 := n3 j hj
      have HNL : Hid ((newsTo bk tick rs).length = bk.trips.length) := hsh.length
      generalize newsTo bk tick rs = N at *
      obtain ⟨ii, hi0, he0⟩ := Option.map_eq_some_iff.1 infInt
      simp only [Prod.mk.injEq] at he0
      have HI0 : Hid (ii.zero = some (.int .i64 0) ∧ ii.size = 1 ∧ ii.bytes = 8) := he0
      have HJ0 : Hid (Tryd.prog.info? 3 = some ii) := hi0
      clear n3 hsh hi0 he0
      go_enter Tryd.func18, Tryd.ntmps18
      go_wp2_with fail
      refine (l2reports_any _ bk _ _ rs _ hn hm (by exact HBK.out.keep hb0) (by exact HRA.out.keep hb0)).mono ?_
      rintro e w1 ⟨rfl, hb1⟩
      rw [hrep]
      have B1 : Below (w.heap.size + 1) (w.alloc (.cells #[.slice sa bk.sts.length sc, .slice ta bk.trips.length tc] 33)) w1 := hb1.mono (by simp)
      have hB1 : Below w.heap.size w w1 := hb0.trans (B1.mono (by omega))
      have q0 : w1.cell? ⟨w.heap.size, 0, none⟩ = some (.slice sa bk.sts.length sc) := by rw [B1.cell (p := ⟨w.heap.size, 0, none⟩) (by simp)]; simp [go_sem]
      have q1 : w1.cell? ⟨w.heap.size, 1, none⟩ = some (.slice ta bk.trips.length tc) := by rw [B1.cell (p := ⟨w.heap.size, 1, none⟩) (by simp)]; simp [go_sem]
      clear hb1 B1
      go_wp2_with fail
      refine (l1in_yes _ _ _ _ (by omega) (by omega)).mono ?_
      rintro e w1' ⟨rfl, rfl⟩
      go_wp2_with fail
      refine (specKnown_any _ bk _ _ rs tick _ hn hm (by exact HBK.out.keep hB1) (by exact HRA.out.keep hB1)).mono ?_
      rintro e w2 ⟨v2, rfl, ⟨vs2, hown2⟩, hb2⟩
      rw [HKD.out] at hown2
      obtain ⟨na, nc, rfl, hss⟩ := hown2.at
      have hB2 : Below w.heap.size w w2 := hB1.trans (hb2.mono hB1.size)
      have p0 := cell_keep hb2 q0
      have p1 := cell_keep hb2 q1
      obtain ⟨b, o, ca, cc, rfl, c0, c1, hca⟩ := HTA.out.keep hB2 j hj
      obtain ⟨b', o', na', nc', rfl, e0, hnn⟩ := hss j hjn
      have HCA : Hid (CallsAt w2 ca bk.trips[j].calls) := hca
      have HNN : Hid (NewsAt w2 na' N[j]) := hnn
      have HE0 : Hid (w2.cell? ⟨b', o' + j, none⟩ = some (.slice na' N[j].length nc')) := e0
      have hj0 : (0 : Int) ≤ (j : Int) := by omega
      have hj1 : (j : Int) < (bk.trips.length : Int) := by omega
      have hj2 : (j : Int) < (N.length : Int) := by omega
      generalize bk.trips[j].calls = cs at *
      generalize N[j] = ns at *
      clear q0 q1 hown2 hss hca hnn e0 hb2 c0
      go_wp2_with fail
      go_loopw [10, 38] (fun out i wr => ∃ k : Nat, k ≤ cs.length ∧ i = .int .i64 k ∧ wr.ownsRow w2.heap.size 3 1 out (onwardTo cs ns k).length (intCells (onwardTo cs ns k)) ∧ Below w2.heap.size w2 wr) (fun _ i _ => cs.length - (intOf i).toNat)
      case atStart => exact ⟨0, Nat.zero_le _, rfl, World.ownsRow_nil _ _ _ _, Below.refl _ _⟩
      case round =>
        obtain ⟨k, hk, rfl, hrow, hbel⟩ := hrel
        have hB : Below w.heap.size w wr := hB2.trans (hbel.mono hB2.size)
        have hz := hbel.size
        clear p0 p1 c1
        by_cases hlt : k < cs.length
        · have hlt2 : k < ns.length := by omega
          obtain ⟨b2, o2, rfl, d0, d1, d2, d3⟩ := HCA.out.keep hbel k hlt
          obtain ⟨b3, o3, rfl, x0, x1, x2, x3, x4⟩ := HNN.out.keep hbel k hlt2
          have e0 := cell_keep hbel HE0.out
          have HO : Hid (onwardTo cs ns (k + 1) = onwardTo cs ns k ++ onwardAt cs ns k) := rfl
          have hoa := onwardAt_at cs ns k hlt hlt2
          have hki : (k : Int) < (ns.length : Int) := by omega
          have hk0 : (0 : Int) ≤ (k : Int) := by omega
          have hol := onwardTo_length cs ns k
          have z0 := cell_lt e0
          have z2 := cell_lt x0
          generalize cs[k] = c at *
          generalize ns[k] = x at *
          obtain ⟨W4, hW4⟩ : ∃ W4, (wr.alloc (.cells #[.int .i64 c.st, .int .i64 c.co, .int .i64 c.go, .int .i64 c.tr] 89)).alloc (.cells #[.int .i64 x.late, .int .i64 x.track, .bool x.off, .bool x.here, .bool x.gone] 65) = W4 := ⟨_, rfl⟩
          have hb4 : Below wr.heap.size wr W4 := by subst hW4; exact (bx_below _ _).alloc (by simp) _
          have u0 : W4.cell? ⟨wr.heap.size, 0, none⟩ = some (.int .i64 c.st) := by subst hW4; simp [go_sem]
          have u2 : W4.cell? ⟨wr.heap.size + 1, 2, none⟩ = some (.bool x.off) := by subst hW4; simp [go_sem]
          have u4 : W4.cell? ⟨wr.heap.size + 1, 4, none⟩ = some (.bool x.gone) := by subst hW4; simp [go_sem]
          have hrow4 : W4.ownsRow w2.heap.size 3 1 u10 (onwardTo cs ns k).length (intCells (onwardTo cs ns k)) := owns_below hrow hb4 (owns_lt hrow)
          have hbel4 : Below w2.heap.size w2 W4 := hbel.trans (hb4.mono hbel.size)
          cases hg : x.gone
          · rw [hg] at u4
            cases ho : x.off
            · rw [ho] at u2
              have HO1 : Hid (onwardTo cs ns (k + 1) = onwardTo cs ns k ++ [c.st]) := by unfold Hid; rw [HO.out, hoa, if_neg (by simp [hg, ho])]
              clear hoa hg ho hrow
              go_wp2_with (first
                | (at_builtin; refine wpList_append_own_at _ rfl _ _ 44 rfl w2.heap.size 3 ii (.int .i64 0) 1 8 uInts HJ0.out HI0.out.1 HI0.out.2.1 HI0.out.2.2 rfl (by decide) _ _ _ rfl (hrow4.alloc _) ⟨W4.heap.size, 0, none⟩ 1 1 [.int .i64 c.st] rfl rfl (cell_one_at _ _ _) ?c2 ?c3 ?c4 ?c5 ?_)
                | fail)
              case c2 => intro u hu; simp at hu; subst hu; rfl
              case c3 => unfold maxLen; omega
              case c4 => omega
              case c5 => have := hbel4.size; simp; omega
              intro v' w5 hown' hgrow _ _
              have HR5 : Hid (w5.ownsRow w2.heap.size 3 1 v' (onwardTo cs ns (k + 1)).length (intCells (onwardTo cs ns (k + 1)))) := by
                unfold Hid; rw [HO1.out]
                simpa [intCells] using hown'
              have hbel5 : Below w2.heap.size w2 w5 := Below.grown (hbel4.alloc hbel4.size _) hgrow (by have := hbel4.size; simp; omega) fun g hgg => (hrow4.lt g hgg).1
              clear hown' hgrow hrow4
              go_wp2_with fail
              go_roundw
              case rel => exact ⟨k + 1, by omega, by go_num, HR5.out, hbel5⟩
              case measure => simp [intOf]; omega
            · rw [ho] at u2
              have HO1 : Hid (onwardTo cs ns (k + 1) = onwardTo cs ns k) := by unfold Hid; rw [HO.out, hoa, if_pos (by simp [ho])]; simp
              have HR4 : Hid (W4.ownsRow w2.heap.size 3 1 u10 (onwardTo cs ns (k + 1)).length (intCells (onwardTo cs ns (k + 1)))) := by unfold Hid; rw [HO1.out]; exact hrow4
              clear hoa hg ho hrow hrow4
              go_wp2_with fail
              go_roundw
              case rel => exact ⟨k + 1, by omega, by go_num, HR4.out, hbel4⟩
              case measure => simp [intOf]; omega
          · rw [hg] at u4
            have HO1 : Hid (onwardTo cs ns (k + 1) = onwardTo cs ns k) := by unfold Hid; rw [HO.out, hoa, if_pos (by simp [hg])]; simp
            have HR4 : Hid (W4.ownsRow w2.heap.size 3 1 u10 (onwardTo cs ns (k + 1)).length (intCells (onwardTo cs ns (k + 1)))) := by unfold Hid; rw [HO1.out]; exact hrow4
            clear hoa hg hrow hrow4
            go_wp2_with fail
            go_roundw
            case rel => exact ⟨k + 1, by omega, by go_num, HR4.out, hbel4⟩
            case measure => simp [intOf]; omega
        · have hk' : k = cs.length := by omega
          subst hk'
          have HR : Hid (wr.ownsRow w2.heap.size 3 1 u10 (onwardTo cs ns cs.length).length (intCells (onwardTo cs ns cs.length))) := hrow
          clear hrow
          go_wp2_with fail
          go_ret
          refine ⟨_, rfl, ?_, hB⟩
          rw [HK.out]
          exact owns_mono HR.out hB2.size
    · have HK : Hid (onwardD bk rs trip tick = []) := onwardD_no (fun h => hin h.2)
      clear n3
      go_enter Tryd.func18, Tryd.ntmps18
      go_wp2_with fail
      refine (l2reports_any _ bk _ _ rs _ hn hm (by exact HBK.out.keep hb0) (by exact HRA.out.keep hb0)).mono ?_
      rintro e w1 ⟨rfl, hb1⟩
      rw [hrep]
      have B1 : Below (w.heap.size + 1) (w.alloc (.cells #[.slice sa bk.sts.length sc, .slice ta bk.trips.length tc] 33)) w1 := hb1.mono (by simp)
      have hB1 : Below w.heap.size w w1 := hb0.trans (B1.mono (by omega))
      have q0 : w1.cell? ⟨w.heap.size, 0, none⟩ = some (.slice sa bk.sts.length sc) := by rw [B1.cell (p := ⟨w.heap.size, 0, none⟩) (by simp)]; simp [go_sem]
      have q1 : w1.cell? ⟨w.heap.size, 1, none⟩ = some (.slice ta bk.trips.length tc) := by rw [B1.cell (p := ⟨w.heap.size, 1, none⟩) (by simp)]; simp [go_sem]
      clear hb1 B1
      go_wp2_with fail
      refine (l1in_no _ _ _ _ (by omega)).mono ?_
      rintro e w1' ⟨rfl, rfl⟩
      go_wp2_with fail
      go_ret
      refine ⟨_, rfl, ?_, hB1⟩
      rw [HK.out]
      exact World.ownsRow_nil _ _ _ _

end Go.Proofs.YtjioingdpfgadabDoor
