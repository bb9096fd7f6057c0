import Derived.Test.YtjioingdpfgadaaDoorProg
import Derived.Test.YtjioingdpfgadaaDoorBoardGM
import Derived.Test.YtjioingdpfgadaaDoorBoardCM
import Derived.Deep.RegionHeld3
import Derived.Test.YtjioingdpfgadaaDoorBaseM
namespace Go.Proofs.YtjioingdpfgadaaDoor
open Go Go.RowKit Go.Deep

set_option maxRecDepth 100000 in
set_option maxHeartbeats 2000000 in
theorem specBoard_any (v : Value) (bk : BookD) (ra : Option Addr) (rc : Nat) (rs : List RepD) (s tick rows : Int) (w : World) (hn : bookSize bk ≤ 1048576) (hm : rs.length ≤ 1048576) (hat : BookAt w v bk) (hra : RepsAt w ra rs) :
    Calls Tryd.prog 17 #[v, .slice ra rs.length rc, .int .i64 s, .int .i64 tick, .int .i64 rows] w fun e w' => ∃ v', e = .returned v' ∧ w'.ownsRow w.heap.size 38 6 v' (boardD bk rs s tick rows).length (sixes (boardD bk rs s tick rows)) ∧ Below w.heap.size w w' := by
  have hat0 := hat
  obtain ⟨sa, sc, ta, tc, rfl, hsa, hta⟩ := hat
  have HBK : Hid (BookAt w (.agg #[.slice sa bk.sts.length sc, .slice ta bk.trips.length tc]) bk) := ⟨sa, sc, ta, tc, rfl, hsa, hta⟩
  have HRA : Hid (RepsAt w ra rs) := hra
  have hb0 := bx_below w (.cells #[.slice sa bk.sts.length sc, .slice ta bk.trips.length tc] 26)
  have n1 : bk.sts.length ≤ 1048576 := by unfold bookSize strsSize at hn; omega
  cases hrep : reportsB bk rs
  · have HK : Hid (boardD bk rs s tick rows = []) := boardD_no (fun h => by rw [hrep] at h; exact absurd h.1 (by decide))
    clear hsa hta hra hat0
    go_enter Tryd.func17, Tryd.ntmps17
    go_wp2_with fail
    refine (l2reports_any _ bk _ _ rs _ hn hm (by exact HBK.out.keep hb0) (by exact HRA.out.keep hb0)).mono ?_
    rintro e w1 ⟨rfl, hb1⟩
    rw [hrep]
    go_wp2_with fail
    go_ret
    refine ⟨_, rfl, ?_, hb0.trans (hb1.mono (by simp))⟩
    rw [HK.out]
    exact World.ownsRow_nil _ _ _ _
  · by_cases h1 : 0 ≤ s ∧ s < bk.sts.length
    · by_cases h2 : 0 ≤ tick ∧ tick ≤ 1000000
      · by_cases h3 : 0 ≤ rows ∧ rows ≤ 40
        · have HK : Hid (boardD bk rs s tick rows = pick rows.toNat (collect bk (newsTo bk tick rs) s tick bk.trips.length)) := by unfold Hid boardD; rw [if_pos ⟨hrep, h1, h2, h3⟩]
          rw [HK.out]
          exact specBoard_yes bk sa sc ta tc ra rc rs s tick rows w hn hm hat0 hra hrep h1 h2 h3
        · have HK : Hid (boardD bk rs s tick rows = []) := boardD_no (fun h => h3 h.2.2.2)
          clear hsa hta hra hat0
          go_enter Tryd.func17, Tryd.ntmps17
          go_wp2_with fail
          refine (l2reports_any _ bk _ _ rs _ hn hm (by exact HBK.out.keep hb0) (by exact HRA.out.keep hb0)).mono ?_
          rintro e w1 ⟨rfl, hb1⟩
          rw [hrep]
          have B1 : Below (w.heap.size + 1) (w.alloc (.cells #[.slice sa bk.sts.length sc, .slice ta bk.trips.length tc] 26)) w1 := hb1.mono (by simp)
          have q0 : w1.cell? ⟨w.heap.size, 0, none⟩ = some (.slice sa bk.sts.length sc) := by rw [B1.cell (p := ⟨w.heap.size, 0, none⟩) (by simp)]; simp [go_sem]
          have hB1 : Below w.heap.size w w1 := hb0.trans (B1.mono (by omega))
          clear hb1 B1
          go_wp2_with fail
          refine (l1in_yes _ _ _ _ (by omega) (by omega)).mono ?_
          rintro e w1' ⟨rfl, rfl⟩
          go_wp2_with fail
          refine (l1in_yes _ _ _ _ (by omega) (by omega)).mono ?_
          rintro e w1' ⟨rfl, rfl⟩
          go_wp2_with fail
          refine (l1in_no _ _ _ _ (by omega)).mono ?_
          rintro e w1' ⟨rfl, rfl⟩
          go_wp2_with fail
          go_ret
          refine ⟨_, rfl, ?_, hB1⟩
          rw [HK.out]
          exact World.ownsRow_nil _ _ _ _
      · have HK : Hid (boardD bk rs s tick rows = []) := boardD_no (fun h => h2 h.2.2.1)
        clear hsa hta hra hat0
        go_enter Tryd.func17, Tryd.ntmps17
        go_wp2_with fail
        refine (l2reports_any _ bk _ _ rs _ hn hm (by exact HBK.out.keep hb0) (by exact HRA.out.keep hb0)).mono ?_
        rintro e w1 ⟨rfl, hb1⟩
        rw [hrep]
        have B1 : Below (w.heap.size + 1) (w.alloc (.cells #[.slice sa bk.sts.length sc, .slice ta bk.trips.length tc] 26)) w1 := hb1.mono (by simp)
        have q0 : w1.cell? ⟨w.heap.size, 0, none⟩ = some (.slice sa bk.sts.length sc) := by rw [B1.cell (p := ⟨w.heap.size, 0, none⟩) (by simp)]; simp [go_sem]
        have hB1 : Below w.heap.size w w1 := hb0.trans (B1.mono (by omega))
        clear hb1 B1
        go_wp2_with fail
        refine (l1in_yes _ _ _ _ (by omega) (by omega)).mono ?_
        rintro e w1' ⟨rfl, rfl⟩
        go_wp2_with fail
        refine (l1in_no _ _ _ _ (by omega)).mono ?_
        rintro e w1' ⟨rfl, rfl⟩
        go_wp2_with fail
        go_ret
        refine ⟨_, rfl, ?_, hB1⟩
        rw [HK.out]
        exact World.ownsRow_nil _ _ _ _
    · have HK : Hid (boardD bk rs s tick rows = []) := boardD_no (fun h => h1 h.2.1)
      clear hsa hta hra hat0
      go_enter Tryd.func17, Tryd.ntmps17
      go_wp2_with fail
      refine (l2reports_any _ bk _ _ rs _ hn hm (by exact HBK.out.keep hb0) (by exact HRA.out.keep hb0)).mono ?_
      rintro e w1 ⟨rfl, hb1⟩
      rw [hrep]
      have B1 : Below (w.heap.size + 1) (w.alloc (.cells #[.slice sa bk.sts.length sc, .slice ta bk.trips.length tc] 26)) w1 := hb1.mono (by simp)
      have q0 : w1.cell? ⟨w.heap.size, 0, none⟩ = some (.slice sa bk.sts.length sc) := by rw [B1.cell (p := ⟨w.heap.size, 0, none⟩) (by simp)]; simp [go_sem]
      have hB1 : Below w.heap.size w w1 := hb0.trans (B1.mono (by omega))
      clear hb1 B1
      go_wp2_with fail
      refine (l1in_no _ _ _ _ (by omega)).mono ?_
      rintro e w1' ⟨rfl, rfl⟩
      go_wp2_with fail
      go_ret
      refine ⟨_, rfl, ?_, hB1⟩
      rw [HK.out]
      exact World.ownsRow_nil _ _ _ _

end Go.Proofs.YtjioingdpfgadaaDoor
namespace Go.Proofs.YtjioingdpfgadaaDoor
open Go Go.RowKit Go.Deep

/-- The last of the first k calls that is not called off; -1 when all are. -/
def endIdx (ns : List NewsD) : Nat → Int
  | 0 => -1
  | k + 1 => if ((ns[k]?.map (·.off)).getD true) then endIdx ns k else k
theorem endIdx_succ (ns : List NewsD) (k : Nat) (h : k < ns.length) : endIdx ns (k + 1) = if ns[k].off then endIdx ns k else k := by
  simp [endIdx, List.getElem?_eq_getElem h]
theorem endIdx_lt (ns : List NewsD) (k : Nat) : -1 ≤ endIdx ns k ∧ endIdx ns k < k := by
  induction k with
  | zero => simp [endIdx]
  | succ k ih => unfold endIdx; split <;> omega
theorem endIdx_ge (ns : List NewsD) (k n : Nat) (hk : k < n) (hn : n ≤ ns.length) (ho : (ns[k]'(by omega)).off = false) : (k : Int) ≤ endIdx ns n := by
  induction n with
  | zero => omega
  | succ n ih =>
    rw [endIdx_succ ns n (by omega)]
    split
    · rename_i h
      by_cases e : k = n
      · subst e; rw [ho] at h; simp at h
      · exact ih (by omega) (by omega) ho
    · omega
def callV (c : CallD) : Value := .agg #[.int .i64 c.st, .int .i64 c.co, .int .i64 c.go, .int .i64 c.tr]
/-- Where the trip is bound for from a call. -/
def boundD (ns : List NewsD) (x : NewsD) : Int := if x.off then (ns.length : Int) - 1 else endIdx ns ns.length
/-- Whether a call stands on a board. -/
def shownD (ns : List NewsD) (k : Nat) (c : CallD) (x : NewsD) (tick : Int) : Bool :=
  if x.gone = true ∨ (k : Int) = boundD ns x then false else !x.off || decide (tick - 10 ≤ c.go)
def stateD (x : NewsD) : Int := if x.off then 3 else if x.here then 2 else if 0 < x.late then 1 else 0
def rowD (cs : List CallD) (ns : List NewsD) (trip : Int) (c : CallD) (x : NewsD) : RowD := ⟨trip, (cs[(boundD ns x).toNat]?.map (·.st)).getD 0, c.go, c.go + x.late, x.track, stateD x⟩

set_option maxRecDepth 100000 in
set_option maxHeartbeats 2000000 in
theorem endOf_any (na : Option Addr) (nc : Nat) (ns : List NewsD) (w : World) (hm : ns.length ≤ 1048576) (hna : NewsAt w na ns) :
    Calls Tryd.prog 95 #[.slice na ns.length nc] w fun e w' => e = .returned (.int .i64 (endIdx ns ns.length)) ∧ w' = w := by
  have HN : Hid (NewsAt w na ns) := hna
  clear hna
  go_enter Tryd.func95, Tryd.ntmps95
  go_wp2
  go_loopw [3] (fun i wr => ∃ k : Nat, k ≤ ns.length ∧ i = .int .i64 ((k : Int) - 1) ∧ Hid (endIdx ns ns.length = endIdx ns k) ∧ Hid (wr = w)) (fun i _ => (intOf i + 1).toNat)
  case atStart => exact ⟨ns.length, Nat.le_refl _, by first | rfl | go_num, rfl, rfl⟩
  case round =>
    obtain ⟨k, hk, rfl, he, hw⟩ := hrel
    obtain rfl : wr = w := hw.out
    cases k with
    | zero =>
      have HE : Hid (endIdx ns ns.length = -1) := he.out
      go_wp2_with fail
      go_ret
      exact ⟨ret_int (by rw [HE.out]), rfl⟩
    | succ k =>
      obtain ⟨b, o, rfl, x0, x1, x2, x3, x4⟩ := HN.out k (by omega)
      have hk0 : (0 : Int) ≤ (k : Int) := by omega
      have hk1 : (k : Int) < (ns.length : Int) := by omega
      have hes := endIdx_succ ns k (by omega)
      have hkk : ((k + 1 : Nat) : Int) - 1 = (k : Int) := by omega
      rw [hkk]
      cases ho : ns[k].off
      · rw [ho] at x2 hes
        have HE : Hid (endIdx ns ns.length = k) := by unfold Hid; rw [he.out, hes]; rfl
        clear ho hes he
        go_wp2_with fail
        go_ret
        exact ⟨ret_int HE.out.symm, rfl⟩
      · rw [ho] at x2 hes
        have HE : Hid (endIdx ns ns.length = endIdx ns k) := by unfold Hid; rw [he.out, hes]; rfl
        clear ho hes he
        go_wp2_with fail
        go_roundw
        case rel => exact ⟨k, by omega, by go_num, HE, by first | exact rfl | exact trivial⟩
        case measure => simp [intOf]

set_option maxRecDepth 100000 in
set_option maxHeartbeats 2000000 in
theorem boundFor_any (k : Nat) (na : Option Addr) (nc : Nat) (ns : List NewsD) (w : World) (hk : k < ns.length) (hm : ns.length ≤ 1048576) (hna : NewsAt w na ns) :
    Calls Tryd.prog 112 #[.int .i64 k, .slice na ns.length nc] w fun e w' => e = .returned (.int .i64 (boundD ns ns[k])) ∧ w' = w := by
  obtain ⟨b, o, rfl, x0, x1, x2, x3, x4⟩ := hna k hk
  have HN : Hid (NewsAt w (some ⟨b, o, none⟩) ns) := hna
  have hk0 : (0 : Int) ≤ (k : Int) := by omega
  have hk1 : (k : Int) < (ns.length : Int) := by omega
  clear hna
  cases ho : ns[k].off
  · rw [ho] at x2
    have HB : Hid (boundD ns ns[k] = endIdx ns ns.length) := by unfold Hid boundD; rw [ho]; rfl
    clear ho
    generalize ns[k] = x at *
    go_enter Tryd.func112, Tryd.ntmps112
    go_wp2_with (go_at_call 95; refine (endOf_any _ _ ns _ hm (by exact HN.out)).mono ?_; rintro e w1 ⟨rfl, rfl⟩)
    go_ret
    exact ⟨ret_int HB.out.symm, rfl⟩
  · rw [ho] at x2
    have HB : Hid (boundD ns ns[k] = (ns.length : Int) - 1) := by unfold Hid boundD; rw [ho]; rfl
    clear ho
    generalize ns[k] = x at *
    go_enter Tryd.func112, Tryd.ntmps112
    go_wp2_with fail
    go_ret
    exact ⟨ret_int (by rw [HB.out]), rfl⟩

theorem shownD_gone {ns : List NewsD} {k : Nat} {c : CallD} {x : NewsD} {tick : Int} (h : x.gone = true) : shownD ns k c x tick = false := by unfold shownD; rw [if_pos (.inl h)]
theorem shownD_end {ns : List NewsD} {k : Nat} {c : CallD} {x : NewsD} {tick : Int} (h : (k : Int) = boundD ns x) : shownD ns k c x tick = false := by unfold shownD; rw [if_pos (.inr h)]
theorem shownD_else {ns : List NewsD} {k : Nat} {c : CallD} {x : NewsD} {tick : Int} (h : x.gone = false) (h2 : (k : Int) ≠ boundD ns x) : shownD ns k c x tick = (!x.off || decide (tick - 10 ≤ c.go)) := by
  unfold shownD; rw [if_neg (fun e => e.elim (fun e => absurd (h.symm.trans e) (by simp)) h2)]

set_option maxRecDepth 100000 in
set_option maxHeartbeats 4000000 in
theorem isShown_any (c : CallD) (k : Nat) (na : Option Addr) (nc : Nat) (ns : List NewsD) (tick : Int) (w : World) (hk : k < ns.length) (hm : ns.length ≤ 1048576) (htk : 0 ≤ tick ∧ tick ≤ 1000000) (hna : NewsAt w na ns) :
    Calls Tryd.prog 86 #[callV c, .int .i64 k, .slice na ns.length nc, .int .i64 tick] w fun e w' => e = .returned (.bool (shownD ns k c ns[k] tick)) ∧ Below w.heap.size w w' := by
  unfold callV
  have hb0 : Below w.heap.size w (w.alloc (.cells #[.int .i64 c.st, .int .i64 c.co, .int .i64 c.go, .int .i64 c.tr] 56)) := (Below.refl _ _).alloc (Nat.le_refl _) _
  obtain ⟨b, o, rfl, x0, x1, x2, x3, x4⟩ := hna k hk
  have HN : Hid (NewsAt w (some ⟨b, o, none⟩) ns) := hna
  have hk0 : (0 : Int) ≤ (k : Int) := by omega
  have hk1 : (k : Int) < (ns.length : Int) := by omega
  have HBF : Hid (∀ w, NewsAt w (some ⟨b, o, none⟩) ns → Calls Tryd.prog 112 #[.int .i64 k, .slice (some ⟨b, o, none⟩) ns.length nc] w fun e w' => e = .returned (.int .i64 (boundD ns ns[k])) ∧ w' = w) := fun w h => boundFor_any k _ nc ns w hk hm h
  clear hna
  have l0 := cell_lt x0
  generalize ns[k] = x at *
  cases hg : x.gone
  · rw [hg] at x4
    by_cases he : (k : Int) = boundD ns x
    · have HS : Hid (shownD ns k c x tick = false) := shownD_end he
      have heb : ((k : Int) == boundD ns x) = true := by simp [he]
      clear he
      go_enter Tryd.func86, Tryd.ntmps86
      go_wp2_with (go_at_call 112; refine (HBF.out _ (by exact HN.out.keep hb0)).mono ?_; rintro e w1 ⟨rfl, rfl⟩)
      go_ret
      exact ⟨ret_bool HS.out.symm, hb0⟩
    · have HS := shownD_else (c := c) (tick := tick) hg he
      have heb : ((k : Int) == boundD ns x) = false := by simp [he]
      clear he
      cases ho : x.off
      · rw [ho] at x2 HS
        have HS' : Hid (shownD ns k c x tick = true) := HS
        clear HS
        go_enter Tryd.func86, Tryd.ntmps86
        go_wp2_with (go_at_call 112; refine (HBF.out _ (by exact HN.out.keep hb0)).mono ?_; rintro e w1 ⟨rfl, rfl⟩)
        go_ret
        exact ⟨ret_bool HS'.out.symm, hb0⟩
      · rw [ho] at x2 HS
        have HS' : Hid (shownD ns k c x tick = decide (tick - 10 ≤ c.go)) := by unfold Hid; rw [HS]; simp
        clear HS
        go_enter Tryd.func86, Tryd.ntmps86
        go_wp2_with (go_at_call 112; refine (HBF.out _ (by exact HN.out.keep hb0)).mono ?_; rintro e w1 ⟨rfl, rfl⟩)
        go_ret
        exact ⟨ret_bool HS'.out.symm, hb0⟩
  · rw [hg] at x4
    have HS : Hid (shownD ns k c x tick = false) := shownD_gone hg
    go_enter Tryd.func86, Tryd.ntmps86
    go_wp2_with fail
    go_ret
    exact ⟨ret_bool HS.out.symm, hb0⟩

set_option maxRecDepth 100000 in
set_option maxHeartbeats 2000000 in
theorem stateOf_any (x : NewsD) (w : World) :
    Calls Tryd.prog 113 #[newsV x] w fun e w' => e = .returned (.int .i64 (stateD x)) ∧ Below w.heap.size w w' := by
  unfold newsV
  have hb0 : Below w.heap.size w (w.alloc (.cells #[.int .i64 x.late, .int .i64 x.track, .bool x.off, .bool x.here, .bool x.gone] 41)) := (Below.refl _ _).alloc (Nat.le_refl _) _
  cases ho : x.off
  · cases hh : x.here
    · by_cases hl : 0 < x.late
      · have HS : Hid (stateD x = 1) := by unfold Hid stateD; rw [ho, hh, if_pos hl]; rfl
        rw [ho, hh] at hb0
        clear ho hh
        go_enter Tryd.func113, Tryd.ntmps113
        go_wp2_with fail
        go_ret
        exact ⟨ret_int HS.out.symm, hb0⟩
      · have HS : Hid (stateD x = 0) := by unfold Hid stateD; rw [ho, hh, if_neg hl]; rfl
        rw [ho, hh] at hb0
        clear ho hh
        go_enter Tryd.func113, Tryd.ntmps113
        go_wp2_with fail
        go_ret
        exact ⟨ret_int HS.out.symm, hb0⟩
    · have HS : Hid (stateD x = 2) := by unfold Hid stateD; rw [ho, hh]; rfl
      rw [ho, hh] at hb0
      clear ho hh
      go_enter Tryd.func113, Tryd.ntmps113
      go_wp2_with fail
      go_ret
      exact ⟨ret_int HS.out.symm, hb0⟩
  · have HS : Hid (stateD x = 3) := by unfold Hid stateD; rw [ho]; rfl
    rw [ho] at hb0
    clear ho
    go_enter Tryd.func113, Tryd.ntmps113
    go_wp2_with fail
    go_ret
    exact ⟨ret_int HS.out.symm, hb0⟩

end Go.Proofs.YtjioingdpfgadaaDoor
namespace Go.Proofs.YtjioingdpfgadaaDoor
open Go Go.RowKit Go.Deep

theorem endTo_idx (cs : List CallD) (ns : List NewsD) (n : Nat) (h1 : n ≤ cs.length) (h2 : n ≤ ns.length) : endTo cs ns n = if endIdx ns n < 0 then -1 else (cs[(endIdx ns n).toNat]?.map (·.st)).getD (-1) := by
  induction n with
  | zero => simp [endTo, endIdx]
  | succ n ih =>
    rw [endTo_succ cs ns n (by omega) (by omega), endIdx_succ ns n (by omega)]
    split
    · exact ih (by omega) (by omega)
    · rw [if_neg (by omega), Int.toNat_natCast, List.getElem?_eq_getElem (by omega)]; rfl
theorem boundD_range (ns : List NewsD) (k : Nat) (hk : k < ns.length) : 0 ≤ boundD ns ns[k] ∧ boundD ns ns[k] < ns.length := by
  unfold boundD
  split
  · omega
  · rename_i h
    have h1 := endIdx_ge ns k ns.length hk (Nat.le_refl _) (by simpa using h)
    have h2 := endIdx_lt ns ns.length
    omega
/-- What the program shows is what the document asks. -/
theorem rowAt_shown (cs : List CallD) (ns : List NewsD) (trip : Int) (k : Nat) (tick : Int) (hl : ns.length = cs.length) (hk : k < cs.length) (hkn : k < ns.length) (hnd : (cs.map (·.st)).Nodup) :
    (rowAt cs ns trip k cs[k] ns[k] tick).2 = shownD ns k cs[k] ns[k] tick ∧ (shownD ns k cs[k] ns[k] tick = true → (rowAt cs ns trip k cs[k] ns[k] tick).1 = rowD cs ns trip cs[k] ns[k]) := by
  cases hg : ns[k].gone
  · cases ho : ns[k].off
    · have hb : boundD ns ns[k] = endIdx ns ns.length := by unfold boundD; rw [ho]; rfl
      have hge := endIdx_ge ns k ns.length hkn (Nat.le_refl _) ho
      have hlt := (endIdx_lt ns ns.length).2
      have he : endD cs ns = (cs[(endIdx ns ns.length).toNat]?.map (·.st)).getD (-1) := by
        unfold endD
        rw [← hl, endTo_idx cs ns ns.length (by omega) (Nat.le_refl _), if_neg (by omega)]
      have hq : (endIdx ns ns.length).toNat < cs.length := by omega
      have he2 : endD cs ns = (cs[(endIdx ns ns.length).toNat]'hq).st := by rw [he, List.getElem?_eq_getElem hq]; rfl
      have hne : (endD cs ns != cs[k].st) = !decide ((k : Int) = endIdx ns ns.length) := by
        rw [he2]
        by_cases e : (k : Int) = endIdx ns ns.length
        · have : (endIdx ns ns.length).toNat = k := by omega
          simp [this, e]
        · have e3 : (endIdx ns ns.length).toNat ≠ k := by omega
          have e4 : (cs[(endIdx ns ns.length).toNat]'hq).st ≠ cs[k].st := fun h => e3 (by
            have := (List.getElem_inj (h₀ := by simpa using hq) (h₁ := by simpa using hk) hnd).1 (by simpa using h)
            exact this)
          simp [e4, e]
      by_cases hlast : k + 1 = cs.length
      · have hk2 : (k : Int) = endIdx ns ns.length := by omega
        have hs : shownD ns k cs[k] ns[k] tick = false := shownD_end (by rw [hb]; exact hk2)
        rw [hs]
        unfold rowAt
        rw [if_pos (.inl hlast)]
        exact ⟨rfl, fun h => by simp at h⟩
      · by_cases e : (k : Int) = endIdx ns ns.length
        · have hs : shownD ns k cs[k] ns[k] tick = false := shownD_end (by rw [hb]; exact e)
          rw [hs]
          refine ⟨?_, fun h => by simp at h⟩
          have hne' : (endD cs ns != cs[k].st) = false := by rw [hne]; simp [e]
          unfold rowAt
          rw [if_neg (by simp [hlast, hg]), ho, if_neg (by simp)]
          split
          · exact hne'
          · split
            · exact hne'
            · exact hne'
        · have hs : shownD ns k cs[k] ns[k] tick = true := by rw [shownD_else hg (by rw [hb]; exact e), ho]; rfl
          rw [hs]
          have hne' : (endD cs ns != cs[k].st) = true := by rw [hne]; simp [e]
          have hto : (cs[(boundD ns ns[k]).toNat]?.map (·.st)).getD 0 = endD cs ns := by rw [hb, he2, List.getElem?_eq_getElem hq]; rfl
          unfold rowAt rowD stateD
          rw [if_neg (by simp [hlast, hg]), hto, ho, if_neg (by simp)]
          cases hh : ns[k].here
          · rw [if_neg (by simp)]
            by_cases hla : 0 < ns[k].late
            · simp [hla, hne']
            · simp [hla, hne']
          · simp [hne']
    · have hb : boundD ns ns[k] = (ns.length : Int) - 1 := by unfold boundD; rw [ho]; rfl
      by_cases hlast : k + 1 = cs.length
      · have hs : shownD ns k cs[k] ns[k] tick = false := shownD_end (by rw [hb]; omega)
        rw [hs]
        unfold rowAt
        rw [if_pos (.inl hlast)]
        exact ⟨rfl, fun h => by simp at h⟩
      · have hs : shownD ns k cs[k] ns[k] tick = decide (tick - 10 ≤ cs[k].go) := by rw [shownD_else hg (by rw [hb]; omega), ho]; simp
        have hbn : (boundD ns ns[k]).toNat = cs.length - 1 := by rw [hb]; omega
        rw [hs]
        unfold rowAt rowD stateD
        rw [if_neg (by simp [hlast, hg]), ho, hbn]
        simp
  · have hs : shownD ns k cs[k] ns[k] tick = false := shownD_gone hg
    rw [hs]
    unfold rowAt
    rw [if_pos (.inr hg)]
    exact ⟨rfl, fun h => by simp at h⟩

end Go.Proofs.YtjioingdpfgadaaDoor
namespace Go.Proofs.YtjioingdpfgadaaDoor
open Go Go.RowKit

set_option maxHeartbeats 400000 in
theorem isLetterOrDigit_any (c : Int) (w : World) (h0 : 0 ≤ c) (h1 : c < 256) :
    Calls Tryd.prog 129 #[.int .u8 c] w fun e w' => e = .returned (.bool (ldB c)) ∧ w' = w := by
  go_enter Tryd.func129, Tryd.ntmps129
  go_wp2
  all_goals go_ret
  all_goals exact ⟨ret_bool (by unfold ldB; rw [Bool.eq_iff_iff]; simp; omega), rfl⟩

set_option maxHeartbeats 400000 in
theorem isName_any (s : ByteArray) (w : World) (hs : s.size ≤ 1048576) :
    Calls Tryd.prog 122 #[.string s] w fun e w' => e = .returned (.bool (nameB s)) ∧ w' = w := by
  by_cases h20 : s.size ≤ 20
  · go_enter Tryd.func122, Tryd.ntmps122
    go_wp2
    go_loop [3, 4] (fun bl i => ∃ (k : Nat) (b : Bool), k ≤ s.size ∧ i = .int .i64 k ∧ bl = .bool b ∧ Hid (scanB (s.data.toList.take k) = some b)) (fun _ i => s.size - (intOf i).toNat)
    case atStart => exact ⟨0, true, Nat.zero_le _, rfl, rfl, by unfold Hid; simp [scanB]⟩
    case round =>
      obtain ⟨k, b, hk, rfl, rfl, hsc⟩ := hrel
      by_cases hlt : k < s.size
      · obtain ⟨c0, c1⟩ := byte_lt s[k]
        have HS : Hid (scanB (s.data.toList.take (k + 1)) = stepB s[k].toNat b) := scanB_step s k hlt hsc.out
        by_cases h32 : (s[k].toNat : Int) = 32
        · have H32 : Hid ((s[k].toNat : Int) = 32) := h32
          have hb32 : ((s[k].toNat : Int) == 32) = true := by simp [h32]
          clear h32
          cases b
          · go_wp2_with (go_at_call 129; refine (isLetterOrDigit_any _ _ c0 c1).mono ?_; rintro e w' ⟨rfl, rfl⟩)
            go_round
            case rel => exact ⟨k + 1, true, by omega, by go_num, rfl, by unfold Hid; rw [HS.out, step_blank H32.out]⟩
            case measure => simp [intOf]; omega
          · have hl : ldB (s[k].toNat : Int) = false := ldB_no (by have := H32.out; omega)
            go_wp2_with (go_at_call 129; refine (isLetterOrDigit_any _ _ c0 c1).mono ?_; rintro e w' ⟨rfl, rfl⟩; rw [hl])
            go_ret
            exact ⟨ret_bool (by rw [nameB_dead s (k + 1) (by rw [HS.out, step_blank_bad H32.out])]), rfl⟩
        · have hb32 : ((s[k].toNat : Int) == 32) = false := by simpa using h32
          have H32 : Hid ((s[k].toNat : Int) ≠ 32) := h32
          clear h32
          cases hl : ldB (s[k].toNat : Int)
          · go_wp2_with (go_at_call 129; refine (isLetterOrDigit_any _ _ c0 c1).mono ?_; rintro e w' ⟨rfl, rfl⟩; rw [hl])
            go_ret
            exact ⟨ret_bool (by rw [nameB_dead s (k + 1) (by rw [HS.out, step_bad H32.out hl])]), rfl⟩
          · go_wp2_with (go_at_call 129; refine (isLetterOrDigit_any _ _ c0 c1).mono ?_; rintro e w' ⟨rfl, rfl⟩; rw [hl])
            go_round
            case rel => exact ⟨k + 1, false, by omega, by go_num, rfl, by unfold Hid; rw [HS.out, step_ld H32.out hl]⟩
            case measure => simp [intOf]; omega
      · go_wp2
        go_ret
        exact ⟨ret_bool (by rw [nameB_end s k (by omega) hsc.out]; simp [h20]), rfl⟩
  · go_enter Tryd.func122, Tryd.ntmps122
    go_wp2
    go_ret
    exact ⟨ret_bool (nameB_long h20).symm, rfl⟩

end Go.Proofs.YtjioingdpfgadaaDoor
