import Derived.Test.YtjioingdpfgadaaDoorProg
import Derived.Test.YtjioingdpfgadaaDoorSpecRM
namespace Go.Proofs.YtjioingdpfgadaaDoor
open Go Go.RowKit Go.Deep

/-- A report says something that can still be. -/
def countsN (nss : List (List NewsD)) (r : RepD) : Bool :=
  match nss[r.trip.toNat]? with
  | none => false
  | some ns =>
    match ns[r.call.toNat]? with
    | none => false
    | some x => countsX ns r.call.toNat x r
theorem countsN_at (nss : List (List NewsD)) (r : RepD) (j k : Nat) (hj : j < nss.length) (hjk : r.trip = (j : Int)) (hk : k < nss[j].length) (hkk : r.call = (k : Int)) : countsN nss r = countsX nss[j] k nss[j][k] r := by
  unfold countsN; simp [hjk, hkk, List.getElem?_eq_getElem hj, List.getElem?_eq_getElem hk]
/-- What is known behind a report. -/
def stepNews (tick : Int) (nss : List (List NewsD)) (r : RepD) : List (List NewsD) :=
  if r.tick ≤ tick ∧ countsN nss r = true then nss.modify r.trip.toNat (doRow r) else nss
theorem stepNews_yes (tick : Int) (nss : List (List NewsD)) (r : RepD) (j : Nat) (hj : j < nss.length) (hjk : r.trip = (j : Int)) (h1 : r.tick ≤ tick) (h2 : countsN nss r = true) : stepNews tick nss r = nss.set j (doRow r nss[j]) := by
  unfold stepNews; rw [if_pos ⟨h1, h2⟩, hjk]
  simp [List.modify_eq_set, List.getElem?_eq_getElem hj]
theorem stepNews_no (tick : Int) (nss : List (List NewsD)) (r : RepD) (h : ¬ (r.tick ≤ tick ∧ countsN nss r = true)) : stepNews tick nss r = nss := by unfold stepNews; rw [if_neg h]
def newsTo (bk : BookD) (tick : Int) (rs : List RepD) : List (List NewsD) := rs.foldl (stepNews tick) (startNews bk)
theorem newsTo_take (bk : BookD) (tick : Int) (rs : List RepD) (k : Nat) (h : k < rs.length) : newsTo bk tick (rs.take (k + 1)) = stepNews tick (newsTo bk tick (rs.take k)) rs[k] := by
  unfold newsTo; rw [take_snoc rs k h, List.foldl_append]; rfl
/-- Known's answer. -/
def knownD (bk : BookD) (rs : List RepD) (tick : Int) : List (List NewsD) := if reportsB bk rs then newsTo bk tick rs else []
/-- A row for each trip, a place for each call. -/
def ShapeOf (bk : BookD) (nss : List (List NewsD)) : Prop := nss.map (·.length) = bk.trips.map (fun t => t.calls.length)
theorem ShapeOf.length {bk : BookD} {nss : List (List NewsD)} (h : ShapeOf bk nss) : nss.length = bk.trips.length := by
  have := congrArg List.length h; simpa using this
theorem ShapeOf.at {bk : BookD} {nss : List (List NewsD)} (h : ShapeOf bk nss) (j : Nat) (hj : j < nss.length) : nss[j].length = (callsOf bk j).length := by
  have h2 : j < bk.trips.length := by rw [← h.length]; exact hj
  have e : (nss.map (·.length))[j]? = (bk.trips.map (fun t => t.calls.length))[j]? := by rw [h]
  rw [callsOf_at bk j h2]
  simpa [List.getElem?_eq_getElem hj, List.getElem?_eq_getElem h2] using e
theorem shape_start (bk : BookD) : ShapeOf bk (startNews bk) := by simp [ShapeOf, startNews, startRow, Function.comp_def]
theorem shape_step {bk : BookD} {nss : List (List NewsD)} (h : ShapeOf bk nss) (tick : Int) (r : RepD) : ShapeOf bk (stepNews tick nss r) := by
  unfold stepNews
  split
  · unfold ShapeOf at h ⊢
    rw [← h]
    apply List.ext_getElem?
    intro i
    simp only [List.getElem?_map, List.getElem?_modify]
    cases nss[i]? with
    | none => simp
    | some x => by_cases e : r.trip.toNat = i <;> simp [e, doRow_length]
  · exact h
theorem shape_to (bk : BookD) (tick : Int) (rs : List RepD) : ShapeOf bk (newsTo bk tick rs) := by
  unfold newsTo
  generalize hs : startNews bk = s
  have : ShapeOf bk s := by rw [← hs]; exact shape_start bk
  clear hs
  induction rs generalizing s with
  | nil => exact this
  | cons r rs ih => exact ih _ (shape_step this tick r)

set_option maxRecDepth 100000 in
set_option maxHeartbeats 2000000 in
theorem specKnown_any (v : Value) (bk : BookD) (ra : Option Addr) (rc : Nat) (rs : List RepD) (tick : Int) (w : World) (hn : bookSize bk ≤ 1048576) (hm : rs.length ≤ 1048576) (hat : BookAt w v bk) (hra : RepsAt w ra rs) :
    Calls Tryd.prog 15 #[v, .slice ra rs.length rc, .int .i64 tick] w fun e w' => ∃ v', e = .returned v' ∧ NewsOwn w.heap.size w' v' (knownD bk rs tick) ∧ Below w.heap.size w w' := by
  obtain ⟨sa, sc, ta, tc, rfl, hsa, hta⟩ := hat
  have HBK : Hid (BookAt w (.agg #[.slice sa bk.sts.length sc, .slice ta bk.trips.length tc]) bk) := ⟨sa, sc, ta, tc, rfl, hsa, hta⟩
  have hb0 := bx_below w (.cells #[.slice sa bk.sts.length sc, .slice ta bk.trips.length tc] 26)
  clear hsa hta
  cases hrep : reportsB bk rs
  · have HK : Hid (knownD bk rs tick = []) := by unfold Hid knownD; rw [hrep]; rfl
    go_enter Tryd.func15, Tryd.ntmps15
    go_wp2_with fail
    refine (l2reports_any _ bk _ _ rs _ hn hm (by exact HBK.out.keep hb0) (by exact hra.keep hb0)).mono ?_
    rintro e w1 ⟨rfl, hb1⟩
    rw [hrep]
    go_wp2_with fail
    go_ret
    refine ⟨_, rfl, ?_, hb0.trans (hb1.mono (by simp))⟩
    rw [HK.out]
    exact ⟨[], World.ownsRow_nil _ _ _ _, rfl, fun i h => by simp at h, fun i j hi => by simp at hi⟩
  · have HK : Hid (knownD bk rs tick = newsTo bk tick rs) := by unfold Hid knownD; rw [hrep]; rfl
    obtain ⟨_, _, hall⟩ := reportsB_inv hrep
    have HALL : Hid (∀ k (hk : k < rs.length), reportB bk rs[k] = true ∧ prevTick rs k ≤ rs[k].tick) := hall
    have HRA : Hid (RepsAt w ra rs) := hra
    have n3 : ∀ i (h : i < bk.trips.length), bk.trips[i].calls.length ≤ 1048576 := by
      intro i h
      have := sumTrips_get bk.trips i h
      unfold bookSize tripsSize at hn; unfold tripSize at this; omega
    have HN3 : Hid (∀ i (h : i < bk.trips.length), bk.trips[i].calls.length ≤ 1048576) := n3
    clear hall n3
    go_enter Tryd.func15, Tryd.ntmps15
    go_wp2_with fail
    refine (l2reports_any _ bk _ _ rs _ hn hm (by exact HBK.out.keep hb0) (by exact hra.keep hb0)).mono ?_
    rintro e w1 ⟨rfl, hb1⟩
    rw [hrep]
    have hB1 : Below w.heap.size w w1 := hb0.trans (hb1.mono (by simp))
    have z1 := hb1.size
    simp at z1
    have q0 : w1.cell? ⟨w.heap.size, 0, none⟩ = some (.slice sa bk.sts.length sc) := cell_keep hb1 (by simp [go_sem])
    have q1 : w1.cell? ⟨w.heap.size, 1, none⟩ = some (.slice ta bk.trips.length tc) := cell_keep hb1 (by simp [go_sem])
    clear hra hrep
    go_wp2_with fail
    refine (l2news_any _ bk _ hn (by exact HBK.out.keep hB1)).mono ?_
    rintro e w2 ⟨nv, rfl, ⟨vs, hvs⟩, hb2⟩
    have hB2 : Below w.heap.size w w2 := hB1.trans (hb2.mono (by omega))
    have z2 := hb2.size
    have HV : Hid (NewsOwnAt w1.heap.size w2 nv (startNews bk) vs) := hvs
    clear hvs q0 q1 hb1 hb2 hB1
    go_wp2_with fail
    have hz0 : w.heap.size ≤ w1.heap.size := by omega
    go_loopw [18] (fun i wr => ∃ k : Nat, k ≤ rs.length ∧ i = .int .i64 k ∧ Hid (NewsOwnAt w1.heap.size wr nv (newsTo bk tick (rs.take k)) vs) ∧ Below w.heap.size w wr ∧ w1.heap.size ≤ wr.heap.size) (fun i _ => rs.length - (intOf i).toNat)
    case atStart => exact ⟨0, Nat.zero_le _, rfl, HV, hB2, z2⟩
    case round =>
      obtain ⟨k, hk, rfl, HNk, hB, hz⟩ := hrel
      clear HV hB2 z2 z1 hb0
      by_cases hlt : k < rs.length
      · obtain ⟨b, o, rfl, c0, c1, c2, c3, c4⟩ := HRA.out.keep hB k hlt
        have hrp := (HALL.out k hlt).1
        have HT := newsTo_take bk tick rs k hlt
        have hsh := shape_to bk tick (rs.take k)
        generalize rs[k] = r at *
        generalize newsTo bk tick (rs.take k) = nss at *
        obtain ⟨_, _, hop, ⟨ht0, ht1⟩, hc0, hc1⟩ := reportB_head hrp
        obtain ⟨j, hj⟩ := Int.eq_ofNat_of_zero_le ht0
        obtain ⟨m, hmm⟩ := Int.eq_ofNat_of_zero_le hc0
        have hjl : j < nss.length := by rw [hsh.length]; omega
        have hml : m < nss[j].length := by rw [hsh.at j hjl, ← hj]; omega
        have hm2 : nss[j].length ≤ 1048576 := by
          have hj2 : j < bk.trips.length := by omega
          rw [hsh.at j hjl, callsOf_at bk j hj2]; exact HN3.out j hj2
        have hY := stepNews_yes tick nss r j hjl hj
        have hN := stepNews_no tick nss r
        have hC := countsN_at nss r j m hjl hj hml hmm
        have H1 : Hid (repV r = .agg #[.int .i64 r.tick, .int .i64 r.op, .int .i64 r.trip, .int .i64 r.call, .int .i64 r.n]) := rfl
        obtain ⟨na, nc, rfl, hss⟩ := HNk.out.at
        have HSS : Hid (NewsSSAt wr na nss) := hss
        have hba : Below wr.heap.size wr (wr.alloc (.cells #[.int .i64 r.tick, .int .i64 r.op, .int .i64 r.trip, .int .i64 r.call, .int .i64 r.n] 45)) := (Below.refl _ _).alloc (Nat.le_refl _) _
        have HZ : Hid _ := hsh
        have HOP : Hid (1 ≤ r.op ∧ r.op ≤ 5) := hop
        have HJ : Hid (r.trip = (j : Int)) := hj
        have HM : Hid (r.call = (m : Int)) := hmm
        clear hss hsh hrp ht0 ht1 hc0 hc1 hop hj hmm
        by_cases htk : r.tick ≤ tick
        · cases hcn : countsN nss r
          · have HE : Hid (newsTo bk tick (rs.take (k + 1)) = nss) := by unfold Hid; rw [HT, hN (by rw [hcn]; simp)]
            rw [hcn] at hC
            have HC : Hid (false = countsX nss[j] m nss[j][m] r) := hC
            clear HT hY hN hC hcn
            go_wp2_with fail
            rw [← H1.out]
            refine (l2counts_any _ _ nss r j m _ hjl HJ.out hml HM.out hm2 (by exact HSS.out.keep hba)).mono ?_
            rintro e w3 ⟨rfl, hb3⟩
            rw [← HC.out]
            have hb3' := hba.trans (hb3.mono (by simp))
            go_wp2_with fail
            go_roundw
            case rel => exact ⟨k + 1, by omega, by go_num, by rw [HE.out]; exact HNk.out.below hb3', hB.trans (hb3'.mono hB.size), by have := hb3'.size; omega⟩
            case measure => simp [intOf]; omega
          · have HE : Hid (newsTo bk tick (rs.take (k + 1)) = nss.set j (doRow r nss[j])) := by unfold Hid; rw [HT, hY htk hcn]
            rw [hcn] at hC
            have HC : Hid (true = countsX nss[j] m nss[j][m] r) := hC
            clear HT hY hN hC hcn
            go_wp2_with fail
            rw [← H1.out]
            refine (l2counts_any _ _ nss r j m _ hjl HJ.out hml HM.out hm2 (by exact HSS.out.keep hba)).mono ?_
            rintro e w3 ⟨rfl, hb3⟩
            rw [← HC.out]
            have x0 : w3.cell? ⟨wr.heap.size, 0, none⟩ = some (.int .i64 r.tick) := cell_keep hb3 (by simp [go_sem])
            have x1 : w3.cell? ⟨wr.heap.size, 1, none⟩ = some (.int .i64 r.op) := cell_keep hb3 (by simp [go_sem])
            have x2 : w3.cell? ⟨wr.heap.size, 2, none⟩ = some (.int .i64 r.trip) := cell_keep hb3 (by simp [go_sem])
            have x3 : w3.cell? ⟨wr.heap.size, 3, none⟩ = some (.int .i64 r.call) := cell_keep hb3 (by simp [go_sem])
            have x4 : w3.cell? ⟨wr.heap.size, 4, none⟩ = some (.int .i64 r.n) := cell_keep hb3 (by simp [go_sem])
            have hb3' := hba.trans (hb3.mono (by simp))
            have z3 := hb3'.size
            have HN3' : Hid (NewsOwnAt w1.heap.size w3 (.slice na nss.length nc) nss vs) := HNk.out.below hb3'
            clear hb3
            go_wp2_with fail
            rw [← H1.out]
            refine (l2do_any w1.heap.size _ nss vs r j m _ hjl HJ.out hml HM.out hm2 HOP.out (by omega) HN3'.out).mono ?_
            rintro e w4 ⟨rfl, hown4, hb4⟩
            have HN4 : Hid (NewsOwnAt w1.heap.size w4 (.slice na nss.length nc) (nss.set j (doRow r nss[j])) vs) := hown4
            clear hown4
            go_wp2_with fail
            go_roundw
            case rel => exact ⟨k + 1, by omega, by go_num, by rw [HE.out]; exact HN4, (hB.trans (hb3'.mono hB.size)).trans (hb4.mono hz0), by have := hb4.size; omega⟩
            case measure => simp [intOf]; omega
        · have HE : Hid (newsTo bk tick (rs.take (k + 1)) = nss) := by unfold Hid; rw [HT, hN (by simp [htk])]
          clear HT hY hN hC
          go_wp2_with fail
          go_roundw
          case rel => exact ⟨k + 1, by omega, by go_num, by rw [HE.out]; exact HNk.out.below hba, hB.alloc hB.size _, by simp; omega⟩
          case measure => simp [intOf]; omega
      · have hk' : k = rs.length := by omega
        subst hk'
        rw [List.take_length] at HNk
        have HF : Hid (NewsOwn w.heap.size wr nv (knownD bk rs tick)) := by
          unfold Hid
          rw [HK.out]
          exact ⟨vs, owns_mono HNk.out.outer hz0, HNk.out.len, fun i h1 h2 => owns_mono (HNk.out.rows i h1 h2) hz0, HNk.out.apart⟩
        go_wp2_with fail
        go_ret
        exact ⟨_, rfl, HF.out, hB⟩

end Go.Proofs.YtjioingdpfgadaaDoor
namespace Go.Proofs.YtjioingdpfgadaaDoor
open Go Go.RowKit Go.Deep

/-- A row of a board. -/
structure RowD where
  trip : Int
  to : Int
  due : Int
  expect : Int
  track : Int
  state : Int
def rowV (r : RowD) : Value := .agg #[.int .i64 r.trip, .int .i64 r.to, .int .i64 r.due, .int .i64 r.expect, .int .i64 r.track, .int .i64 r.state]
/-- By when it is expected, then by when it is due, then by trip. -/
def lessD (a b : RowD) : Bool := if a.expect ≠ b.expect then decide (a.expect < b.expect) else if a.due ≠ b.due then decide (a.due < b.due) else decide (a.trip < b.trip)

set_option maxRecDepth 100000 in
set_option maxHeartbeats 1000000 in
theorem l3less_any (a b : RowD) (w : World) :
    Calls Tryd.prog 53 #[rowV a, rowV b] w fun e w' => e = .returned (.bool (lessD a b)) ∧ Below w.heap.size w w' := by
  unfold rowV
  by_cases h1 : a.expect = b.expect
  · have HL : Hid (lessD a b = if a.due ≠ b.due then decide (a.due < b.due) else decide (a.trip < b.trip)) := by unfold Hid lessD; rw [if_neg (by simp [h1])]
    have h1b : (a.expect != b.expect) = false := by simp [h1]
    clear h1
    by_cases h2 : a.due = b.due
    · have HL2 : Hid (lessD a b = decide (a.trip < b.trip)) := by unfold Hid; rw [HL.out, if_neg (by simp [h2])]
      have h2b : (a.due != b.due) = false := by simp [h2]
      clear h2
      go_enter Tryd.func53, Tryd.ntmps53
      go_wp2
      go_ret
      exact ⟨ret_bool HL2.out.symm, (((Below.refl _ _).alloc (Nat.le_refl _) _).alloc (by simp) _)⟩
    · have HL2 : Hid (lessD a b = decide (a.due < b.due)) := by unfold Hid; rw [HL.out, if_pos h2]
      have h2b : (a.due != b.due) = true := by simp [h2]
      clear h2
      go_enter Tryd.func53, Tryd.ntmps53
      go_wp2
      go_ret
      exact ⟨ret_bool HL2.out.symm, (((Below.refl _ _).alloc (Nat.le_refl _) _).alloc (by simp) _)⟩
  · have HL2 : Hid (lessD a b = decide (a.expect < b.expect)) := by unfold Hid lessD; rw [if_pos h1]
    have h1b : (a.expect != b.expect) = true := by simp [h1]
    clear h1
    go_enter Tryd.func53, Tryd.ntmps53
    go_wp2
    go_ret
    exact ⟨ret_bool HL2.out.symm, (((Below.refl _ _).alloc (Nat.le_refl _) _).alloc (by simp) _)⟩

/-- The station of the last of the first k calls that is not called off; -1 when all are. -/
def endTo (cs : List CallD) (ns : List NewsD) : Nat → Int
  | 0 => -1
  | k + 1 => if ((ns[k]?.map (·.off)).getD true) then endTo cs ns k else ((cs[k]?.map (·.st)).getD (-1))
theorem endTo_succ (cs : List CallD) (ns : List NewsD) (k : Nat) (h1 : k < cs.length) (h2 : k < ns.length) : endTo cs ns (k + 1) = if ns[k].off then endTo cs ns k else cs[k].st := by
  simp [endTo, List.getElem?_eq_getElem h1, List.getElem?_eq_getElem h2]
def endD (cs : List CallD) (ns : List NewsD) : Int := endTo cs ns cs.length

set_option maxRecDepth 100000 in
set_option maxHeartbeats 2000000 in
theorem l3to_any (v : Value) (bk : BookD) (na : Option Addr) (nc : Nat) (nss : List (List NewsD)) (j : Nat) (w : World) (hj : j < bk.trips.length) (hjn : j < nss.length) (hlen : nss[j].length = bk.trips[j].calls.length) (hm : bk.trips[j].calls.length ≤ 1048576) (hat : BookAt w v bk) (hna : NewsSSAt w na nss) :
    Calls Tryd.prog 90 #[v, .slice na nss.length nc, .int .i64 j] w fun e w' => e = .returned (.int .i64 (endD bk.trips[j].calls nss[j])) ∧ Below w.heap.size w w' := by
  obtain ⟨sa, sc, ta, tc, rfl, hsa, hta⟩ := hat
  obtain ⟨b, o, ca, cc, rfl, c0, c1, hca⟩ := hta j hj
  obtain ⟨b', o', na', nc', rfl, e0, hn⟩ := hna j hjn
  have hj1 : (j : Int) < (bk.trips.length : Int) := by omega
  have hj2 : (j : Int) < (nss.length : Int) := by omega
  have hb0 : Below w.heap.size w (w.alloc (.cells #[.slice sa bk.sts.length sc, .slice (some ⟨b, o, none⟩) bk.trips.length tc] 26)) := (Below.refl _ _).alloc (Nat.le_refl _) _
  have l0 := cell_lt c0
  have l1 := cell_lt e0
  generalize bk.trips[j] = t at *
  generalize nss[j] = ns at *
  have HCA : Hid (CallsAt w ca t.calls) := hca
  have HN : Hid (NewsAt w na' ns) := hn
  have HE : Hid (w.cell? ⟨b', o' + j, none⟩ = some (.slice na' ns.length nc')) := e0
  unfold endD
  clear hca hn hsa hta hna e0
  go_enter Tryd.func90, Tryd.ntmps90
  go_wp2
  go_loopw [7, 17] (fun q i wr => ∃ k : Nat, k ≤ t.calls.length ∧ i = .int .i64 k ∧ q = .int .i64 (endTo t.calls ns k) ∧ Below w.heap.size w wr) (fun _ i _ => t.calls.length - (intOf i).toNat)
  case atStart => exact ⟨0, Nat.zero_le _, rfl, rfl, hb0⟩
  case round =>
    obtain ⟨k, hk, rfl, rfl, hB⟩ := hrel
    clear c0 c1 hb0
    by_cases hlt : k < t.calls.length
    · have hlt2 : k < ns.length := by omega
      have hk1 : (k : Int) < (ns.length : Int) := by omega
      obtain ⟨b2, o2, rfl, d0, d1, d2, d3⟩ := HCA.out.keep hB k hlt
      obtain ⟨b3, o3, rfl, x0, x1, x2, x3, x4⟩ := HN.out.keep hB k hlt2
      have e0 := cell_keep hB HE.out
      have hs := endTo_succ t.calls ns k hlt hlt2
      generalize t.calls[k] = c at *
      generalize ns[k] = x at *
      have z0 := cell_lt e0
      have z2 := cell_lt x0
      cases ho : x.off
      · rw [ho] at x2
        have HS : Hid (endTo t.calls ns (k + 1) = c.st) := by unfold Hid; rw [hs, ho]; rfl
        clear hs ho
        go_wp2_with fail
        go_roundw
        case rel => exact ⟨k + 1, by omega, by go_num, by rw [HS.out], hB.alloc hB.size _⟩
        case measure => simp [intOf]; omega
      · rw [ho] at x2
        have HS : Hid (endTo t.calls ns (k + 1) = endTo t.calls ns k) := by unfold Hid; rw [hs, ho]; rfl
        clear hs ho
        go_wp2_with fail
        go_roundw
        case rel => exact ⟨k + 1, by omega, by go_num, by rw [HS.out], hB.alloc hB.size _⟩
        case measure => simp [intOf]; omega
    · have hk' : k = t.calls.length := by omega
      subst hk'
      go_wp2_with fail
      go_ret
      exact ⟨rfl, hB⟩

end Go.Proofs.YtjioingdpfgadaaDoor
