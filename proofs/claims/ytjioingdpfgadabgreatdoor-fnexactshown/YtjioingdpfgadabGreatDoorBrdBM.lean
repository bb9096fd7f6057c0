import Derived.Test.YtjioingdpfgadabGreatDoorProg
import Derived.Test.YtjioingdpfgadabGreatDoorBoardCM
import Derived.Deep.RegionHeld3
import Derived.Test.YtjioingdpfgadabGreatDoorPlainM
namespace Go.Proofs.YtjioingdpfgadabGreatDoor
open Go Go.RowKit Go.Deep

/-- The last of the first k calls that is not called off; -1 when all are. -/
def endIdx (ns : List NewsD) : Nat → Int
  | 0 => -1
  | k + 1 => if ((ns[k]?.map (·.off)).getD true) then endIdx ns k else k
theorem endIdx_succ (ns : List NewsD) (k : Nat) (h : k < ns.length) : endIdx ns (k + 1) = if ns[k].off then endIdx ns k else k := by
  simp [endIdx, List.getElem?_eq_getElem h]
theorem endIdx_lt (ns : List NewsD) (k : Nat) : -1 ≤ endIdx ns k ∧ endIdx ns k < k := by
  induction k with
  | zero => simp [endIdx]
  | succ k ih => unfold endIdx; split <;> omega
theorem endIdx_ge (ns : List NewsD) (k n : Nat) (hk : k < n) (hn : n ≤ ns.length) (ho : (ns[k]'(by omega)).off = false) : (k : Int) ≤ endIdx ns n := by
  induction n with
  | zero => omega
  | succ n ih =>
    rw [endIdx_succ ns n (by omega)]
    split
    · rename_i h
      by_cases e : k = n
      · subst e; rw [ho] at h; simp at h
      · exact ih (by omega) (by omega) ho
    · omega
def callV (c : CallD) : Value := .agg #[.int .i64 c.st, .int .i64 c.co, .int .i64 c.go, .int .i64 c.tr]
/-- Where the trip is bound for from a call. -/
def boundD (ns : List NewsD) (x : NewsD) : Int := if x.off then (ns.length : Int) - 1 else endIdx ns ns.length
/-- Whether a call stands on a board. -/
def shownD (ns : List NewsD) (k : Nat) (c : CallD) (x : NewsD) (tick : Int) : Bool :=
  if x.gone = true ∨ (k : Int) = boundD ns x then false else !x.off || decide (tick - 10 ≤ c.go)
def stateD (x : NewsD) : Int := if x.off then 3 else if x.here then 2 else if 0 < x.late then 1 else 0
def rowD (cs : List CallD) (ns : List NewsD) (trip : Int) (c : CallD) (x : NewsD) : RowD := ⟨trip, (cs[(boundD ns x).toNat]?.map (·.st)).getD 0, c.go, c.go + x.late, x.track, stateD x⟩

set_option maxRecDepth 100000 in
set_option maxHeartbeats 2000000 in
theorem endOf_any (na : Option Addr) (nc : Nat) (ns : List NewsD) (w : World) (hm : ns.length ≤ 1048576) (hna : NewsAt w na ns) :
    Calls Tryz.prog 83 #[.slice na ns.length nc] w fun e w' => e = .returned (.int .i64 (endIdx ns ns.length)) ∧ w' = w := by
  have HN : Hid (NewsAt w na ns) := hna
  clear hna
  go_enter Tryz.func83, Tryz.ntmps83
  go_wp2
  go_loopw [3] (fun i wr => ∃ k : Nat, k ≤ ns.length ∧ i = .int .i64 ((k : Int) - 1) ∧ Hid (endIdx ns ns.length = endIdx ns k) ∧ Hid (wr = w)) (fun i _ => (intOf i + 1).toNat)
  case atStart => exact ⟨ns.length, Nat.le_refl _, by first | rfl | go_num, rfl, rfl⟩
  case round =>
    obtain ⟨k, hk, rfl, he, hw⟩ := hrel
    obtain rfl : wr = w := hw.out
    cases k with
    | zero =>
      have HE : Hid (endIdx ns ns.length = -1) := he.out
      go_wp2_with fail
      go_ret
      exact ⟨ret_int (by rw [HE.out]), rfl⟩
    | succ k =>
      obtain ⟨b, o, rfl, x0, x1, x2, x3, x4⟩ := HN.out k (by omega)
      have hk0 : (0 : Int) ≤ (k : Int) := by omega
      have hk1 : (k : Int) < (ns.length : Int) := by omega
      have hes := endIdx_succ ns k (by omega)
      have hkk : ((k + 1 : Nat) : Int) - 1 = (k : Int) := by omega
      rw [hkk]
      cases ho : ns[k].off
      · rw [ho] at x2 hes
        have HE : Hid (endIdx ns ns.length = k) := by unfold Hid; rw [he.out, hes]; rfl
        clear ho hes he
        go_wp2_with fail
        go_ret
        exact ⟨ret_int HE.out.symm, rfl⟩
      · rw [ho] at x2 hes
        have HE : Hid (endIdx ns ns.length = endIdx ns k) := by unfold Hid; rw [he.out, hes]; rfl
        clear ho hes he
        go_wp2_with fail
        go_roundw
        case rel => exact ⟨k, by omega, by go_num, HE, by first | exact rfl | exact trivial⟩
        case measure => simp [intOf]

set_option maxRecDepth 100000 in
set_option maxHeartbeats 2000000 in
theorem boundFor_any (k : Nat) (na : Option Addr) (nc : Nat) (ns : List NewsD) (w : World) (hk : k < ns.length) (hm : ns.length ≤ 1048576) (hna : NewsAt w na ns) :
    Calls Tryz.prog 89 #[.int .i64 k, .slice na ns.length nc] w fun e w' => e = .returned (.int .i64 (boundD ns ns[k])) ∧ w' = w := by
  obtain ⟨b, o, rfl, x0, x1, x2, x3, x4⟩ := hna k hk
  have HN : Hid (NewsAt w (some ⟨b, o, none⟩) ns) := hna
  have hk0 : (0 : Int) ≤ (k : Int) := by omega
  have hk1 : (k : Int) < (ns.length : Int) := by omega
  clear hna
  cases ho : ns[k].off
  · rw [ho] at x2
    have HB : Hid (boundD ns ns[k] = endIdx ns ns.length) := by unfold Hid boundD; rw [ho]; rfl
    clear ho
    generalize ns[k] = x at *
    go_enter Tryz.func89, Tryz.ntmps89
    go_wp2_with (go_at_call 83; refine (endOf_any _ _ ns _ hm (by exact HN.out)).mono ?_; rintro e w1 ⟨rfl, rfl⟩)
    go_ret
    exact ⟨ret_int HB.out.symm, rfl⟩
  · rw [ho] at x2
    have HB : Hid (boundD ns ns[k] = (ns.length : Int) - 1) := by unfold Hid boundD; rw [ho]; rfl
    clear ho
    generalize ns[k] = x at *
    go_enter Tryz.func89, Tryz.ntmps89
    go_wp2_with fail
    go_ret
    exact ⟨ret_int (by rw [HB.out]), rfl⟩

theorem shownD_gone {ns : List NewsD} {k : Nat} {c : CallD} {x : NewsD} {tick : Int} (h : x.gone = true) : shownD ns k c x tick = false := by unfold shownD; rw [if_pos (.inl h)]
theorem shownD_end {ns : List NewsD} {k : Nat} {c : CallD} {x : NewsD} {tick : Int} (h : (k : Int) = boundD ns x) : shownD ns k c x tick = false := by unfold shownD; rw [if_pos (.inr h)]
theorem shownD_else {ns : List NewsD} {k : Nat} {c : CallD} {x : NewsD} {tick : Int} (h : x.gone = false) (h2 : (k : Int) ≠ boundD ns x) : shownD ns k c x tick = (!x.off || decide (tick - 10 ≤ c.go)) := by
  unfold shownD; rw [if_neg (fun e => e.elim (fun e => absurd (h.symm.trans e) (by simp)) h2)]

set_option maxRecDepth 100000 in
set_option maxHeartbeats 4000000 in
theorem isShown_any (c : CallD) (k : Nat) (na : Option Addr) (nc : Nat) (ns : List NewsD) (tick : Int) (w : World) (hk : k < ns.length) (hm : ns.length ≤ 1048576) (htk : 0 ≤ tick ∧ tick ≤ 1000000) (hna : NewsAt w na ns) :
    Calls Tryz.prog 66 #[callV c, .int .i64 k, .slice na ns.length nc, .int .i64 tick] w fun e w' => e = .returned (.bool (shownD ns k c ns[k] tick)) ∧ Below w.heap.size w w' := by
  unfold callV
  have hb0 : Below w.heap.size w (w.alloc (.cells #[.int .i64 c.st, .int .i64 c.co, .int .i64 c.go, .int .i64 c.tr] 113)) := (Below.refl _ _).alloc (Nat.le_refl _) _
  obtain ⟨b, o, rfl, x0, x1, x2, x3, x4⟩ := hna k hk
  have HN : Hid (NewsAt w (some ⟨b, o, none⟩) ns) := hna
  have hk0 : (0 : Int) ≤ (k : Int) := by omega
  have hk1 : (k : Int) < (ns.length : Int) := by omega
  have HBF : Hid (∀ w, NewsAt w (some ⟨b, o, none⟩) ns → Calls Tryz.prog 89 #[.int .i64 k, .slice (some ⟨b, o, none⟩) ns.length nc] w fun e w' => e = .returned (.int .i64 (boundD ns ns[k])) ∧ w' = w) := fun w h => boundFor_any k _ nc ns w hk hm h
  clear hna
  have l0 := cell_lt x0
  generalize ns[k] = x at *
  cases hg : x.gone
  · rw [hg] at x4
    by_cases he : (k : Int) = boundD ns x
    · have HS : Hid (shownD ns k c x tick = false) := shownD_end he
      have heb : ((k : Int) == boundD ns x) = true := by simp [he]
      clear he
      go_enter Tryz.func66, Tryz.ntmps66
      go_wp2_with (go_at_call 89; refine (HBF.out _ (by exact HN.out.keep hb0)).mono ?_; rintro e w1 ⟨rfl, rfl⟩)
      go_ret
      exact ⟨ret_bool HS.out.symm, hb0⟩
    · have HS := shownD_else (c := c) (tick := tick) hg he
      have heb : ((k : Int) == boundD ns x) = false := by simp [he]
      clear he
      cases ho : x.off
      · rw [ho] at x2 HS
        have HS' : Hid (shownD ns k c x tick = true) := HS
        clear HS
        go_enter Tryz.func66, Tryz.ntmps66
        go_wp2_with (go_at_call 89; refine (HBF.out _ (by exact HN.out.keep hb0)).mono ?_; rintro e w1 ⟨rfl, rfl⟩)
        go_ret
        exact ⟨ret_bool HS'.out.symm, hb0⟩
      · rw [ho] at x2 HS
        have HS' : Hid (shownD ns k c x tick = decide (tick - 10 ≤ c.go)) := by unfold Hid; rw [HS]; simp
        clear HS
        go_enter Tryz.func66, Tryz.ntmps66
        go_wp2_with (go_at_call 89; refine (HBF.out _ (by exact HN.out.keep hb0)).mono ?_; rintro e w1 ⟨rfl, rfl⟩)
        go_ret
        exact ⟨ret_bool HS'.out.symm, hb0⟩
  · rw [hg] at x4
    have HS : Hid (shownD ns k c x tick = false) := shownD_gone hg
    go_enter Tryz.func66, Tryz.ntmps66
    go_wp2_with fail
    go_ret
    exact ⟨ret_bool HS.out.symm, hb0⟩

set_option maxRecDepth 100000 in
set_option maxHeartbeats 2000000 in
theorem stateOf_any (x : NewsD) (w : World) :
    Calls Tryz.prog 90 #[newsV x] w fun e w' => e = .returned (.int .i64 (stateD x)) ∧ Below w.heap.size w w' := by
  unfold newsV
  have hb0 : Below w.heap.size w (w.alloc (.cells #[.int .i64 x.late, .int .i64 x.track, .bool x.off, .bool x.here, .bool x.gone] 115)) := (Below.refl _ _).alloc (Nat.le_refl _) _
  cases ho : x.off
  · cases hh : x.here
    · by_cases hl : 0 < x.late
      · have HS : Hid (stateD x = 1) := by unfold Hid stateD; rw [ho, hh, if_pos hl]; rfl
        rw [ho, hh] at hb0
        clear ho hh
        go_enter Tryz.func90, Tryz.ntmps90
        go_wp2_with fail
        go_ret
        exact ⟨ret_int HS.out.symm, hb0⟩
      · have HS : Hid (stateD x = 0) := by unfold Hid stateD; rw [ho, hh, if_neg hl]; rfl
        rw [ho, hh] at hb0
        clear ho hh
        go_enter Tryz.func90, Tryz.ntmps90
        go_wp2_with fail
        go_ret
        exact ⟨ret_int HS.out.symm, hb0⟩
    · have HS : Hid (stateD x = 2) := by unfold Hid stateD; rw [ho, hh]; rfl
      rw [ho, hh] at hb0
      clear ho hh
      go_enter Tryz.func90, Tryz.ntmps90
      go_wp2_with fail
      go_ret
      exact ⟨ret_int HS.out.symm, hb0⟩
  · have HS : Hid (stateD x = 3) := by unfold Hid stateD; rw [ho]; rfl
    rw [ho] at hb0
    clear ho
    go_enter Tryz.func90, Tryz.ntmps90
    go_wp2_with fail
    go_ret
    exact ⟨ret_int HS.out.symm, hb0⟩

end Go.Proofs.YtjioingdpfgadabGreatDoor
namespace Go.Proofs.YtjioingdpfgadabGreatDoor
open Go Go.RowKit Go.Deep

theorem endTo_idx (cs : List CallD) (ns : List NewsD) (n : Nat) (h1 : n ≤ cs.length) (h2 : n ≤ ns.length) : endTo cs ns n = if endIdx ns n < 0 then -1 else (cs[(endIdx ns n).toNat]?.map (·.st)).getD (-1) := by
  induction n with
  | zero => simp [endTo, endIdx]
  | succ n ih =>
    rw [endTo_succ cs ns n (by omega) (by omega), endIdx_succ ns n (by omega)]
    split
    · exact ih (by omega) (by omega)
    · rw [if_neg (by omega), Int.toNat_natCast, List.getElem?_eq_getElem (by omega)]; rfl
theorem boundD_range (ns : List NewsD) (k : Nat) (hk : k < ns.length) : 0 ≤ boundD ns ns[k] ∧ boundD ns ns[k] < ns.length := by
  unfold boundD
  split
  · omega
  · rename_i h
    have h1 := endIdx_ge ns k ns.length hk (Nat.le_refl _) (by simpa using h)
    have h2 := endIdx_lt ns ns.length
    omega
/-- What the program shows is what the document asks. -/
theorem rowAt_shown (cs : List CallD) (ns : List NewsD) (trip : Int) (k : Nat) (tick : Int) (hl : ns.length = cs.length) (hk : k < cs.length) (hkn : k < ns.length) (hnd : (cs.map (·.st)).Nodup) :
    (rowAt cs ns trip k cs[k] ns[k] tick).2 = shownD ns k cs[k] ns[k] tick ∧ (shownD ns k cs[k] ns[k] tick = true → (rowAt cs ns trip k cs[k] ns[k] tick).1 = rowD cs ns trip cs[k] ns[k]) := by
  cases hg : ns[k].gone
  · cases ho : ns[k].off
    · have hb : boundD ns ns[k] = endIdx ns ns.length := by unfold boundD; rw [ho]; rfl
      have hge := endIdx_ge ns k ns.length hkn (Nat.le_refl _) ho
      have hlt := (endIdx_lt ns ns.length).2
      have he : endD cs ns = (cs[(endIdx ns ns.length).toNat]?.map (·.st)).getD (-1) := by
        unfold endD
        rw [← hl, endTo_idx cs ns ns.length (by omega) (Nat.le_refl _), if_neg (by omega)]
      have hq : (endIdx ns ns.length).toNat < cs.length := by omega
      have he2 : endD cs ns = (cs[(endIdx ns ns.length).toNat]'hq).st := by rw [he, List.getElem?_eq_getElem hq]; rfl
      have hne : (endD cs ns != cs[k].st) = !decide ((k : Int) = endIdx ns ns.length) := by
        rw [he2]
        by_cases e : (k : Int) = endIdx ns ns.length
        · have : (endIdx ns ns.length).toNat = k := by omega
          simp [this, e]
        · have e3 : (endIdx ns ns.length).toNat ≠ k := by omega
          have e4 : (cs[(endIdx ns ns.length).toNat]'hq).st ≠ cs[k].st := fun h => e3 (by
            have := (List.getElem_inj (h₀ := by simpa using hq) (h₁ := by simpa using hk) hnd).1 (by simpa using h)
            exact this)
          simp [e4, e]
      by_cases hlast : k + 1 = cs.length
      · have hk2 : (k : Int) = endIdx ns ns.length := by omega
        have hs : shownD ns k cs[k] ns[k] tick = false := shownD_end (by rw [hb]; exact hk2)
        rw [hs]
        unfold rowAt
        rw [if_pos (.inl hlast)]
        exact ⟨rfl, fun h => by simp at h⟩
      · by_cases e : (k : Int) = endIdx ns ns.length
        · have hs : shownD ns k cs[k] ns[k] tick = false := shownD_end (by rw [hb]; exact e)
          rw [hs]
          refine ⟨?_, fun h => by simp at h⟩
          have hne' : (endD cs ns != cs[k].st) = false := by rw [hne]; simp [e]
          unfold rowAt
          rw [if_neg (by simp [hlast, hg]), ho, if_neg (by simp)]
          split
          · exact hne'
          · split
            · exact hne'
            · exact hne'
        · have hs : shownD ns k cs[k] ns[k] tick = true := by rw [shownD_else hg (by rw [hb]; exact e), ho]; rfl
          rw [hs]
          have hne' : (endD cs ns != cs[k].st) = true := by rw [hne]; simp [e]
          have hto : (cs[(boundD ns ns[k]).toNat]?.map (·.st)).getD 0 = endD cs ns := by rw [hb, he2, List.getElem?_eq_getElem hq]; rfl
          unfold rowAt rowD stateD
          rw [if_neg (by simp [hlast, hg]), hto, ho, if_neg (by simp)]
          cases hh : ns[k].here
          · rw [if_neg (by simp)]
            by_cases hla : 0 < ns[k].late
            · simp [hla, hne']
            · simp [hla, hne']
          · simp [hne']
    · have hb : boundD ns ns[k] = (ns.length : Int) - 1 := by unfold boundD; rw [ho]; rfl
      by_cases hlast : k + 1 = cs.length
      · have hs : shownD ns k cs[k] ns[k] tick = false := shownD_end (by rw [hb]; omega)
        rw [hs]
        unfold rowAt
        rw [if_pos (.inl hlast)]
        exact ⟨rfl, fun h => by simp at h⟩
      · have hs : shownD ns k cs[k] ns[k] tick = decide (tick - 10 ≤ cs[k].go) := by rw [shownD_else hg (by rw [hb]; omega), ho]; simp
        have hbn : (boundD ns ns[k]).toNat = cs.length - 1 := by rw [hb]; omega
        rw [hs]
        unfold rowAt rowD stateD
        rw [if_neg (by simp [hlast, hg]), ho, hbn]
        simp
  · have hs : shownD ns k cs[k] ns[k] tick = false := shownD_gone hg
    rw [hs]
    unfold rowAt
    rw [if_pos (.inr hg)]
    exact ⟨rfl, fun h => by simp at h⟩

end Go.Proofs.YtjioingdpfgadabGreatDoor
