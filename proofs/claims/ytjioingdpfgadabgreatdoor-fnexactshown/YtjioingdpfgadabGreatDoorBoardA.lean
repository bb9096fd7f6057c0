import Derived.Test.YtjioingdpfgadabGreatDoorProg
import Derived.Test.YtjioingdpfgadabGreatDoorSpecMM
namespace Go.Proofs.YtjioingdpfgadabGreatDoor
open Go Go.RowKit Go.Deep

/-- A row of a board. -/
structure RowD where
  trip : Int
  to : Int
  due : Int
  expect : Int
  track : Int
  state : Int
def rowV (r : RowD) : Value := .agg #[.int .i64 r.trip, .int .i64 r.to, .int .i64 r.due, .int .i64 r.expect, .int .i64 r.track, .int .i64 r.state]
/-- By when it is expected, then by when it is due, then by trip. -/
def lessD (a b : RowD) : Bool := if a.expect ≠ b.expect then decide (a.expect < b.expect) else if a.due ≠ b.due then decide (a.due < b.due) else decide (a.trip < b.trip)

set_option maxRecDepth 100000 in
set_option maxHeartbeats 1000000 in
theorem l3less_any (a b : RowD) (w : World) :
    Calls Tryz.prog 33 #[rowV a, rowV b] w fun e w' => e = .returned (.bool (lessD a b)) ∧ Below w.heap.size w w' := by
  unfold rowV
  by_cases h1 : a.expect = b.expect
  · have HL : Hid (lessD a b = if a.due ≠ b.due then decide (a.due < b.due) else decide (a.trip < b.trip)) := by unfold Hid lessD; rw [if_neg (by simp [h1])]
    have h1b : (a.expect != b.expect) = false := by simp [h1]
    clear h1
    by_cases h2 : a.due = b.due
    · have HL2 : Hid (lessD a b = decide (a.trip < b.trip)) := by unfold Hid; rw [HL.out, if_neg (by simp [h2])]
      have h2b : (a.due != b.due) = false := by simp [h2]
      clear h2
      go_enter Tryz.func33, Tryz.ntmps33
      go_wp2
      go_ret
      exact ⟨ret_bool HL2.out.symm, (((Below.refl _ _).alloc (Nat.le_refl _) _).alloc (by simp) _)⟩
    · have HL2 : Hid (lessD a b = decide (a.due < b.due)) := by unfold Hid; rw [HL.out, if_pos h2]
      have h2b : (a.due != b.due) = true := by simp [h2]
      clear h2
      go_enter Tryz.func33, Tryz.ntmps33
      go_wp2
      go_ret
      exact ⟨ret_bool HL2.out.symm, (((Below.refl _ _).alloc (Nat.le_refl _) _).alloc (by simp) _)⟩
  · have HL2 : Hid (lessD a b = decide (a.expect < b.expect)) := by unfold Hid lessD; rw [if_pos h1]
    have h1b : (a.expect != b.expect) = true := by simp [h1]
    clear h1
    go_enter Tryz.func33, Tryz.ntmps33
    go_wp2
    go_ret
    exact ⟨ret_bool HL2.out.symm, (((Below.refl _ _).alloc (Nat.le_refl _) _).alloc (by simp) _)⟩

/-- The station of the last of the first k calls that is not called off; -1 when all are. -/
def endTo (cs : List CallD) (ns : List NewsD) : Nat → Int
  | 0 => -1
  | k + 1 => if ((ns[k]?.map (·.off)).getD true) then endTo cs ns k else ((cs[k]?.map (·.st)).getD (-1))
theorem endTo_succ (cs : List CallD) (ns : List NewsD) (k : Nat) (h1 : k < cs.length) (h2 : k < ns.length) : endTo cs ns (k + 1) = if ns[k].off then endTo cs ns k else cs[k].st := by
  simp [endTo, List.getElem?_eq_getElem h1, List.getElem?_eq_getElem h2]
def endD (cs : List CallD) (ns : List NewsD) : Int := endTo cs ns cs.length

set_option maxRecDepth 100000 in
set_option maxHeartbeats 2000000 in
theorem l3to_any (v : Value) (bk : BookD) (na : Option Addr) (nc : Nat) (nss : List (List NewsD)) (j : Nat) (w : World) (hj : j < bk.trips.length) (hjn : j < nss.length) (hlen : nss[j].length = bk.trips[j].calls.length) (hm : bk.trips[j].calls.length ≤ 1048576) (hat : BookAt w v bk) (hna : NewsSSAt w na nss) :
    Calls Tryz.prog 62 #[v, .slice na nss.length nc, .int .i64 j] w fun e w' => e = .returned (.int .i64 (endD bk.trips[j].calls nss[j])) ∧ Below w.heap.size w w' := by
  obtain ⟨sa, sc, ta, tc, rfl, hsa, hta⟩ := hat
  obtain ⟨b, o, ca, cc, rfl, c0, c1, hca⟩ := hta j hj
  obtain ⟨b', o', na', nc', rfl, e0, hn⟩ := hna j hjn
  have hj1 : (j : Int) < (bk.trips.length : Int) := by omega
  have hj2 : (j : Int) < (nss.length : Int) := by omega
  have hb0 : Below w.heap.size w (w.alloc (.cells #[.slice sa bk.sts.length sc, .slice (some ⟨b, o, none⟩) bk.trips.length tc] 33)) := (Below.refl _ _).alloc (Nat.le_refl _) _
  have l0 := cell_lt c0
  have l1 := cell_lt e0
  generalize bk.trips[j] = t at *
  generalize nss[j] = ns at *
  have HCA : Hid (CallsAt w ca t.calls) := hca
  have HN : Hid (NewsAt w na' ns) := hn
  have HE : Hid (w.cell? ⟨b', o' + j, none⟩ = some (.slice na' ns.length nc')) := e0
  unfold endD
  clear hca hn hsa hta hna e0
  go_enter Tryz.func62, Tryz.ntmps62
  go_wp2
  go_loopw [7, 17] (fun q i wr => ∃ k : Nat, k ≤ t.calls.length ∧ i = .int .i64 k ∧ q = .int .i64 (endTo t.calls ns k) ∧ Below w.heap.size w wr) (fun _ i _ => t.calls.length - (intOf i).toNat)
  case atStart => exact ⟨0, Nat.zero_le _, rfl, rfl, hb0⟩
  case round =>
    obtain ⟨k, hk, rfl, rfl, hB⟩ := hrel
    clear c0 c1 hb0
    by_cases hlt : k < t.calls.length
    · have hlt2 : k < ns.length := by omega
      have hk1 : (k : Int) < (ns.length : Int) := by omega
      obtain ⟨b2, o2, rfl, d0, d1, d2, d3⟩ := HCA.out.keep hB k hlt
      obtain ⟨b3, o3, rfl, x0, x1, x2, x3, x4⟩ := HN.out.keep hB k hlt2
      have e0 := cell_keep hB HE.out
      have hs := endTo_succ t.calls ns k hlt hlt2
      generalize t.calls[k] = c at *
      generalize ns[k] = x at *
      have z0 := cell_lt e0
      have z2 := cell_lt x0
      cases ho : x.off
      · rw [ho] at x2
        have HS : Hid (endTo t.calls ns (k + 1) = c.st) := by unfold Hid; rw [hs, ho]; rfl
        clear hs ho
        go_wp2_with fail
        go_roundw
        case rel => exact ⟨k + 1, by omega, by go_num, by rw [HS.out], hB.alloc hB.size _⟩
        case measure => simp [intOf]; omega
      · rw [ho] at x2
        have HS : Hid (endTo t.calls ns (k + 1) = endTo t.calls ns k) := by unfold Hid; rw [hs, ho]; rfl
        clear hs ho
        go_wp2_with fail
        go_roundw
        case rel => exact ⟨k + 1, by omega, by go_num, by rw [HS.out], hB.alloc hB.size _⟩
        case measure => simp [intOf]; omega
    · have hk' : k = t.calls.length := by omega
      subst hk'
      go_wp2_with fail
      go_ret
      exact ⟨rfl, hB⟩

end Go.Proofs.YtjioingdpfgadabGreatDoor
