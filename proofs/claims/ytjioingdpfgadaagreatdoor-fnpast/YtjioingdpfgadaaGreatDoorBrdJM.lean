import Derived.Test.YtjioingdpfgadaaGreatDoorProg
import Derived.Test.YtjioingdpfgadaaGreatDoorBrdCM
import Derived.Test.YtjioingdpfgadaaGreatDoorChkDM
import Derived.Test.YtjioingdpfgadaaGreatDoorBoardDM
import Derived.Deep.RegionHeld3
import Derived.BigQuiet
import Derived.RangeFuncNested
import Derived.RangeFuncBound
import Derived.RangeFuncCalls
import Derived.RangeFuncLeaves
import Derived.Shelf.Abstract
import Derived.Shelf.RegionOpen
import Derived.WalkKit
import Derived.OwnWalkIn
import Derived.TacticsInMore
import Derived.LoopNIn
import Derived.LoopIn
import Derived.Test.YtjioingdpfgadaaGreatDoorSzM
namespace Go.Proofs.YtjioingdpfgadaaGreatDoor
open Go Go.RowKit Go.Deep

/-- What a round keeps: all below n0 but block B. -/
structure KpB (B n0 : Nat) (w w' : World) : Prop where
  os : w'.os = w.os
  tape : w'.tape = w.tape
  output : w'.output = w.output
  size : w.heap.size ≤ w'.heap.size
  block : ∀ k, k < n0 → k ≠ B → w'.heap[k]? = w.heap[k]?
theorem KpB.refl (B n0 : Nat) (w : World) : KpB B n0 w w := ⟨rfl, rfl, rfl, Nat.le_refl _, fun _ _ _ => rfl⟩
theorem KpB.trans {B n0 : Nat} {a b c : World} (h : KpB B n0 a b) (k : KpB B n0 b c) : KpB B n0 a c :=
  ⟨k.os.trans h.os, k.tape.trans h.tape, k.output.trans h.output, Nat.le_trans h.size k.size, fun i hi hB => (k.block i hi hB).trans (h.block i hi hB)⟩
theorem KpB.below {B n0 : Nat} {w w' : World} (h : Below n0 w w') : KpB B n0 w w' := ⟨h.os, h.tape, h.output, h.size, fun i hi _ => h.block i hi⟩
theorem grown_of_below {w w' : World} (h : Below w.heap.size w w') : w.grownBy w' none := ⟨h.os, h.tape, h.output, h.size, fun k hk _ => h.block k hk⟩

theorem collect_none {bk : BookD} {nss : List (List NewsD)} {s tick : Int} {k : Nat} (h : rowOfTrip bk nss s tick k = none) : collect bk nss s tick (k + 1) = collect bk nss s tick k := by rw [collect, h]; simp
theorem collect_some {bk : BookD} {nss : List (List NewsD)} {s tick : Int} {k : Nat} {r : RowD} (h : rowOfTrip bk nss s tick k = some r) : collect bk nss s tick (k + 1) = collect bk nss s tick k ++ [r] := by rw [collect, h]; rfl
theorem rowOfTrip_none {bk : BookD} {nss : List (List NewsD)} {s tick : Int} {k : Nat} (hk : k < bk.trips.length) (hkn : k < nss.length) (h : firstIdx (atStation bk.trips[k].calls s) bk.trips[k].calls.length = none) : rowOfTrip bk nss s tick k = none := by
  unfold rowOfTrip; rw [List.getElem?_eq_getElem hk, List.getElem?_eq_getElem hkn]; simp only; rw [h]
theorem rowOfTrip_some {bk : BookD} {nss : List (List NewsD)} {s tick : Int} {k q : Nat} (hk : k < bk.trips.length) (hkn : k < nss.length) (h : firstIdx (atStation bk.trips[k].calls s) bk.trips[k].calls.length = some q) (hq : q < bk.trips[k].calls.length) (hqn : q < nss[k].length) :
    rowOfTrip bk nss s tick k = if (rowAt bk.trips[k].calls nss[k] k q bk.trips[k].calls[q] nss[k][q] tick).2 then some (rowAt bk.trips[k].calls nss[k] k q bk.trips[k].calls[q] nss[k][q] tick).1 else none := by
  unfold rowOfTrip; rw [List.getElem?_eq_getElem hk, List.getElem?_eq_getElem hkn]; simp only; rw [h]; simp only; rw [List.getElem?_eq_getElem hq, List.getElem?_eq_getElem hqn]

set_option maxRecDepth 100000 in
set_option maxHeartbeats 1000000 in
theorem rowsAt_any (sa : Option Addr) (sn sc : Nat) (ta : Option Addr) (tn tc : Nat) (na : Option Addr) (n nc : Nat) (s tick : Int) (w : World) :
    Calls Tryz.prog 31 #[.agg #[.slice sa sn sc, .slice ta tn tc], .slice na n nc, .int .i64 s, .int .i64 tick] w fun e w' =>
      e = .returned (.func (.func 53) #[] #[.pointer (some ⟨w.heap.size + 1, 0, none⟩), .pointer (some ⟨w.heap.size, 0, none⟩), .pointer (some ⟨w.heap.size + 1 + 1, 0, none⟩), .pointer (some ⟨w.heap.size + 1 + 1 + 1, 0, none⟩)]) ∧
      w' = (((w.alloc (.cells #[.slice sa sn sc, .slice ta tn tc] 26)).alloc (.cells #[.slice na n nc] 31)).alloc (.cells #[.int .i64 s] 3)).alloc (.cells #[.int .i64 tick] 3) := by
  go_enter Tryz.func31, Tryz.ntmps31
  go_wp2
  go_ret
  exact ⟨rfl, rfl⟩

/-- What the iterator's closure holds and reads, as it lies at a world. -/
structure IterAt (W : World) (bk : BookD) (nss : List (List NewsD)) (s tick : Int) (kb bb sb tb : Nat) (sa : Option Addr) (sc : Nat) (ta : Option Addr) (tc : Nat) (na : Option Addr) (nc : Nat) : Prop where
  known : W.cell? ⟨kb, 0, none⟩ = some (.slice na nss.length nc)
  book0 : W.cell? ⟨bb, 0, none⟩ = some (.slice sa bk.sts.length sc)
  book1 : W.cell? ⟨bb, 1, none⟩ = some (.slice ta bk.trips.length tc)
  st : W.cell? ⟨sb, 0, none⟩ = some (.int .i64 s)
  tick : W.cell? ⟨tb, 0, none⟩ = some (.int .i64 tick)
  book : BookAt W (.agg #[.slice sa bk.sts.length sc, .slice ta bk.trips.length tc]) bk
  news : NewsSSAt W na nss
/-- What is known of a right book and of what is told of it. -/
structure IterOk (bk : BookD) (nss : List (List NewsD)) (s tick : Int) : Prop where
  len : nss.length ≤ bk.trips.length
  rows : ∀ j (h : j < bk.trips.length) (hn : j < nss.length), nss[j].length = bk.trips[j].calls.length
  m40 : nss.length ≤ 40
  m20 : ∀ j (h : j < bk.trips.length), j < nss.length → bk.trips[j].calls.length ≤ 20
  nodup : ∀ j (h : j < bk.trips.length), j < nss.length → (stationsOf bk.trips[j].calls).Nodup
  wf : ∀ t ∈ bk.trips, ∀ i (h : i < t.calls.length), (Lit.int .i64 t.calls[i].st).wf = true
  go : ∀ j (h : j < bk.trips.length), j < nss.length → ∀ k (hk : k < bk.trips[j].calls.length), 0 ≤ bk.trips[j].calls[k].go ∧ bk.trips[j].calls[k].go ≤ 1000000
  late : LateOk nss
  tk : 0 ≤ tick ∧ tick ≤ 1000000
  sw : (Lit.int .i64 s).wf = true

set_option maxRecDepth 100000 in
set_option maxHeartbeats 8000000 in
theorem rowsAt1_stops (n : Nat) (hn1 : 1 ≤ n) (bk : BookD) (nss : List (List NewsD)) (s tick : Int) (B n0 kb bb sb tb : Nat) (sa : Option Addr) (sc : Nat) (ta : Option Addr) (tc : Nat) (na : Option Addr) (nc : Nat) (w : World) (hn0 : n0 ≤ w.heap.size)
    (hok : IterOk bk nss s tick) (hat : ∀ W, KpB B n0 w W → IterAt W bk nss s tick kb bb sb tb sa sc ta tc na nc) :
    SeqStopsK Fence.wide n Tryz.prog 53 #[.pointer (some ⟨kb, 0, none⟩), .pointer (some ⟨bb, 0, none⟩), .pointer (some ⟨sb, 0, none⟩), .pointer (some ⟨tb, 0, none⟩)] (fun r : RowD => #[rowV r]) (KpB B n0) (fun ys => ys = collect bk nss s tick nss.length) (fun _ => True) nss.length w := fun l J Jx W hW hJ _ hY h0 => by
  have HAT : Hid (∀ W, KpB B n0 w W → IterAt W bk nss s tick kb bb sb tb sa sc ta tc na nc) := hat
  have HOK : Hid (IterOk bk nss s tick) := hok
  have hb0 : KpB B n0 w W := KpB.below (hW.mono hn0)
  have c0 := (hat W hb0).known
  have HJ : Hid (∀ s W W', J s W → Below W.heap.size W W' → J s W') := fun s W W' h hb => hJ s W W' none h (grown_of_below hb) (fun r e => by cases e)
  have hlen := hok.len
  have hm40 := hok.m40
  have hl1 : (nss.length : Int) ≤ 40 := by omega
  have HLN : Hid (nss.length ≤ bk.trips.length) := hlen
  clear hok hat hlen
  refine callsIn_wide.2 ?_
  show Calls Tryz.prog 53 #[.func (.yield l) #[] #[], .pointer (some ⟨kb, 0, none⟩), .pointer (some ⟨bb, 0, none⟩), .pointer (some ⟨sb, 0, none⟩), .pointer (some ⟨tb, 0, none⟩)] W _
  go_enter Tryz.func53, Tryz.ntmps53
  go_wp2_with fail
  go_loopw [11] (fun i wr => ∃ k : Nat, k ≤ nss.length ∧ i = .int .i64 k ∧ Hid (J (collect bk nss s tick k) wr) ∧ Hid (KpB B n0 w wr)) (fun i _ => nss.length - (intOf i).toNat)
  case atStart => exact ⟨0, Nat.zero_le _, rfl, h0, hb0⟩
  case round =>
    obtain ⟨k, hk, rfl, hJr, hKr⟩ := hrel
    by_cases hlt : k < nss.length
    · have hltT : k < bk.trips.length := by have := HLN.out; omega
      obtain ⟨e0, e1, e2, e3, e4, hbk, hns⟩ := HAT.out wr hKr.out
      obtain ⟨_, _, ta', tc', eqv, _, hta⟩ := hbk
      simp only [Value.agg.injEq, Array.mk.injEq, List.cons.injEq, Value.slice.injEq, and_true, true_and] at eqv
      obtain ⟨⟨rfl, rfl⟩, rfl, rfl⟩ := eqv
      obtain ⟨b, o, ca, cc, eqt, t0, t1, hca⟩ := hta k hltT
      obtain ⟨b', o', na', nc', eqn, x0, hnA⟩ := hns k hlt
      subst eqt
      subst eqn
      have hrl := HOK.out.rows k hltT hlt
      have h20 := HOK.out.m20 k hltT hlt
      have HSW : Hid ((Lit.int .i64 s).wf = true) := HOK.out.sw
      have HWF : Hid (∀ i (h : i < bk.trips[k].calls.length), (Lit.int .i64 bk.trips[k].calls[i].st).wf = true) := HOK.out.wf _ (List.getElem_mem hltT)
      have HND : Hid ((stationsOf bk.trips[k].calls).Nodup) := HOK.out.nodup k hltT hlt
      have HCA : Hid (CallsAt wr ca bk.trips[k].calls) := hca
      have HNA : Hid (NewsAt wr na' nss[k]) := hnA
      have hk0 : (0 : Int) ≤ (k : Int) := by omega
      have hk1 : (k : Int) < (nss.length : Int) := by omega
      have hk2 : (k : Int) < (bk.trips.length : Int) := by omega
      cases hfi : firstIdx (atStation bk.trips[k].calls s) bk.trips[k].calls.length with
      | none =>
        have HRN : Hid (collect bk nss s tick (k + 1) = collect bk nss s tick k) := collect_none (rowOfTrip_none hltT hlt hfi)
        have HCO : Hid (callAtC bk.trips[k].calls s = -1) := callAtC_none hfi
        generalize bk.trips[k].calls = cs at *
        generalize bk.trips[k].name = nm at *
        generalize nss[k] = ns at *
        clear hfi hca hnA hta hns hrl
        go_wp2_with fail
        go_region_held3 (fun w' => w'.cell? ⟨bb, 1, none⟩ = some (.slice (some ⟨b, o, none⟩) bk.trips.length tc) ∧ w'.cell? ⟨b, o + k * 2, none⟩ = some (.string nm) ∧ w'.cell? ⟨b, o + k * 2 + 1, none⟩ = some (.slice ca cs.length cc) ∧ w'.cell? ⟨sb, 0, none⟩ = some (.int .i64 s))
          (first | exact ⟨cell_keep hb1 (by exact e2), cell_keep hb1 (by exact t0), cell_keep hb1 (by exact t1), cell_keep hb1 (by exact e3)⟩ | go_keep)
          (first | (go_at_call 45; refine (callOf_any nm ca cc cs s _ (by omega) HSW.out HWF.out HND.out (by exact HCA.out)).mono ?_; rintro e w1 ⟨rfl, hb1⟩; rw [HCO.out]))
        have B1 : Below wr.heap.size wr w1 := (Below.refl _ _).drew.trans (by exact hb1)
        clear hb1
        go_wp2_with fail
        go_quiet (fail)
        go_wp2_with fail
        go_roundw
        case rel => exact ⟨k + 1, by omega, by go_num, by rw [HRN.out]; exact HJ.out _ _ _ hJr.out (below_drewN B1 _), hKr.out.trans (KpB.below ((below_drewN B1 _).mono (Nat.le_trans hn0 hKr.out.size)))⟩
        case measure => simp [intOf]; omega
      | some q =>
        have hq : q < bk.trips[k].calls.length := firstIdx_lt hfi
        have hqn : q < nss[k].length := by omega
        have HCO : Hid (callAtC bk.trips[k].calls s = q) := callAtC_some hfi
        obtain ⟨b2, o2, eqc, d0, d1, d2, d3⟩ := hca q hq
        subst eqc
        have hsr := rowAt_shown bk.trips[k].calls nss[k] k q tick hrl hq hqn HND.out
        have HRS := rowOfTrip_some (s := s) (tick := tick) hltT hlt hfi hq hqn
        have HSH : Hid (∀ w, NewsAt w na' nss[k] → Calls Tryz.prog 54 #[.agg #[.int .i64 bk.trips[k].calls[q].st, .int .i64 bk.trips[k].calls[q].co, .int .i64 bk.trips[k].calls[q].go, .int .i64 bk.trips[k].calls[q].tr], .int .i64 q, .slice na' nss[k].length nc', .int .i64 tick] w fun e w' => e = .returned (.bool (shownD nss[k] q bk.trips[k].calls[q] nss[k][q] tick)) ∧ Below w.heap.size w w') := fun w h => isShown_any bk.trips[k].calls[q] q na' nc' nss[k] tick w hqn (by omega) HOK.out.tk h
        have HRO : Hid (∀ v w, BookAt w v bk → NewsAt w na' nss[k] → Calls Tryz.prog 55 #[v, .int .i64 k, .int .i64 q, .slice na' nss[k].length nc'] w fun e w' => e = .returned (rowV (rowD bk.trips[k].calls nss[k] k bk.trips[k].calls[q] nss[k][q])) ∧ Below w.heap.size w w') := fun v w h1 h2 => rowOf_any v bk k q na' nc' nss[k] w hltT hq hqn hrl (by omega) (HOK.out.go k hltT hlt q hq) (HOK.out.late _ (List.getElem_mem hlt) _ (List.getElem_mem hqn)) h1 h2
        have hq0 : (0 : Int) ≤ (q : Int) := by omega
        have hq1 : (q : Int) < (bk.trips[k].calls.length : Int) := by omega
        have hqd : decide ((q : Int) < 0) = false := decide_eq_false (by omega)
        cases hsh : shownD nss[k] q bk.trips[k].calls[q] nss[k][q] tick
        · have HRN : Hid (collect bk nss s tick (k + 1) = collect bk nss s tick k) := collect_none (by rw [HRS, hsr.1, hsh]; rfl)
          generalize bk.trips[k].calls[q] = c at *
          generalize nss[k][q] = x at *
          generalize bk.trips[k].calls = cs at *
          generalize bk.trips[k].name = nm at *
          generalize nss[k] = ns at *
          generalize hca0 : some (⟨b2, o2, none⟩ : Addr) = ca at *
          clear hfi hca hnA hta hns hsr HRS HRO hrl
          go_wp2_with fail
          go_region_held3 (fun w' => w'.cell? ⟨bb, 1, none⟩ = some (.slice (some ⟨b, o, none⟩) bk.trips.length tc) ∧ w'.cell? ⟨b, o + k * 2, none⟩ = some (.string nm) ∧ w'.cell? ⟨b, o + k * 2 + 1, none⟩ = some (.slice ca cs.length cc) ∧ w'.cell? ⟨sb, 0, none⟩ = some (.int .i64 s))
            (first | exact ⟨cell_keep hb1 (by exact e2), cell_keep hb1 (by exact t0), cell_keep hb1 (by exact t1), cell_keep hb1 (by exact e3)⟩ | go_keep)
            (first | (go_at_call 45; refine (callOf_any nm ca cc cs s _ (by omega) HSW.out HWF.out HND.out (by exact HCA.out)).mono ?_; rintro e w1 ⟨rfl, hb1⟩; rw [HCO.out]))
          have B1 : Below wr.heap.size wr w1 := (Below.refl _ _).drew.trans (by exact hb1)
          have g2 := cell_keep B1 e2
          have g1 := cell_keep B1 t1
          have g4 := cell_keep B1 e4
          have k0 := cell_keep B1 d0
          have k1 := cell_keep B1 d1
          have k2 := cell_keep B1 d2
          have k3 := cell_keep B1 d3
          have HNA1 : Hid (NewsAt w1 na' ns) := HNA.out.keep B1
          subst hca0
          clear hb1 e0 e1 e2 e3 e4 t0 t1 x0 d0 d1 d2 d3
          go_wp2_with fail
          go_region_held3 (fun w' => w'.cell? ⟨bb, 1, none⟩ = some (.slice (some ⟨b, o, none⟩) bk.trips.length tc) ∧ w'.cell? ⟨b, o + k * 2 + 1, none⟩ = some (.slice (some ⟨b2, o2, none⟩) cs.length cc) ∧ w'.cell? ⟨b2, o2 + q * 4, none⟩ = some (.int .i64 c.st) ∧ w'.cell? ⟨b2, o2 + q * 4 + 1, none⟩ = some (.int .i64 c.co) ∧ w'.cell? ⟨b2, o2 + q * 4 + 2, none⟩ = some (.int .i64 c.go) ∧ w'.cell? ⟨b2, o2 + q * 4 + 3, none⟩ = some (.int .i64 c.tr) ∧ w'.cell? ⟨tb, 0, none⟩ = some (.int .i64 tick))
            (first | exact ⟨cell_keep hb2 (by exact g2), cell_keep hb2 (by exact g1), cell_keep hb2 (by exact k0), cell_keep hb2 (by exact k1), cell_keep hb2 (by exact k2), cell_keep hb2 (by exact k3), cell_keep hb2 (by exact g4)⟩ | go_keep)
            (first | (go_at_call 54; refine (HSH.out _ (by exact HNA1.out)).mono ?_; rintro e w2 ⟨rfl, hb2⟩; rw [hsh]))
          have B2 : Below wr.heap.size wr w2 := B1.trans ((Below.refl _ _).drew.trans (by exact hb2) |>.mono B1.size)
          clear hb2
          go_wp2_with fail
          go_roundw
          case rel => exact ⟨k + 1, by omega, by go_num, by rw [HRN.out]; exact HJ.out _ _ _ hJr.out B2, hKr.out.trans (KpB.below (B2.mono (Nat.le_trans hn0 hKr.out.size)))⟩
          case measure => simp [intOf]; omega
        · have HRN : Hid (collect bk nss s tick (k + 1) = collect bk nss s tick k ++ [rowD bk.trips[k].calls nss[k] k bk.trips[k].calls[q] nss[k][q]]) := collect_some (by rw [HRS, hsr.1, hsh, hsr.2 hsh]; rfl)
          have HLC : Hid ((collect bk nss s tick k).length < nss.length) := Nat.lt_of_le_of_lt (collect_length bk nss s tick k) hlt
          have HBK : Hid (BookAt wr (.agg #[.slice sa bk.sts.length sc, .slice (some ⟨b, o, none⟩) bk.trips.length tc]) bk) := (HAT.out wr hKr.out).book
          generalize bk.trips[k].calls[q] = c at *
          generalize nss[k][q] = x at *
          generalize bk.trips[k].calls = cs at *
          generalize bk.trips[k].name = nm at *
          generalize nss[k] = ns at *
          generalize hca0 : some (⟨b2, o2, none⟩ : Addr) = ca at *
          clear hfi hca hnA hta hns hsr HRS hrl
          go_wp2_with fail
          go_region_held3 (fun w' => w'.cell? ⟨bb, 1, none⟩ = some (.slice (some ⟨b, o, none⟩) bk.trips.length tc) ∧ w'.cell? ⟨b, o + k * 2, none⟩ = some (.string nm) ∧ w'.cell? ⟨b, o + k * 2 + 1, none⟩ = some (.slice ca cs.length cc) ∧ w'.cell? ⟨sb, 0, none⟩ = some (.int .i64 s))
            (first | exact ⟨cell_keep hb1 (by exact e2), cell_keep hb1 (by exact t0), cell_keep hb1 (by exact t1), cell_keep hb1 (by exact e3)⟩ | go_keep)
            (first | (go_at_call 45; refine (callOf_any nm ca cc cs s _ (by omega) HSW.out HWF.out HND.out (by exact HCA.out)).mono ?_; rintro e w1 ⟨rfl, hb1⟩; rw [HCO.out]))
          have B1 : Below wr.heap.size wr w1 := (Below.refl _ _).drew.trans (by exact hb1)
          have g2 := cell_keep B1 e2
          have g1 := cell_keep B1 t1
          have g4 := cell_keep B1 e4
          have k0 := cell_keep B1 d0
          have k1 := cell_keep B1 d1
          have k2 := cell_keep B1 d2
          have k3 := cell_keep B1 d3
          have HNA1 : Hid (NewsAt w1 na' ns) := HNA.out.keep B1
          subst hca0
          have HE1 : Hid _ := e1
          have HE2 : Hid _ := e2
          clear hb1 e0 e1 e2 e3 e4 t0 t1 x0 d0 d1 d2 d3
          go_wp2_with fail
          go_region_held3 (fun w' => w'.cell? ⟨bb, 1, none⟩ = some (.slice (some ⟨b, o, none⟩) bk.trips.length tc) ∧ w'.cell? ⟨b, o + k * 2 + 1, none⟩ = some (.slice (some ⟨b2, o2, none⟩) cs.length cc) ∧ w'.cell? ⟨b2, o2 + q * 4, none⟩ = some (.int .i64 c.st) ∧ w'.cell? ⟨b2, o2 + q * 4 + 1, none⟩ = some (.int .i64 c.co) ∧ w'.cell? ⟨b2, o2 + q * 4 + 2, none⟩ = some (.int .i64 c.go) ∧ w'.cell? ⟨b2, o2 + q * 4 + 3, none⟩ = some (.int .i64 c.tr) ∧ w'.cell? ⟨tb, 0, none⟩ = some (.int .i64 tick))
            (first | exact ⟨cell_keep hb2 (by exact g2), cell_keep hb2 (by exact g1), cell_keep hb2 (by exact k0), cell_keep hb2 (by exact k1), cell_keep hb2 (by exact k2), cell_keep hb2 (by exact k3), cell_keep hb2 (by exact g4)⟩ | go_keep)
            (first | (go_at_call 54; refine (HSH.out _ (by exact HNA1.out)).mono ?_; rintro e w2 ⟨rfl, hb2⟩; rw [hsh]))
          have B2 : Below wr.heap.size wr w2 := B1.trans ((Below.refl _ _).drew.trans (by exact hb2) |>.mono B1.size)
          have f1 := cell_keep B2 HE1.out
          have f2 := cell_keep B2 HE2.out
          have HNA2 : Hid (NewsAt w2 na' ns) := HNA.out.keep B2
          have HBK2 : Hid (BookAt w2 (.agg #[.slice sa bk.sts.length sc, .slice (some ⟨b, o, none⟩) bk.trips.length tc]) bk) := HBK.out.keep B2
          clear hb2 g2 g1 g4 k0 k1 k2 k3
          generalize hX : rowD cs ns (k : Int) c x = X at *
          clear hX
          go_upto_region 5 with fail
          refine (wpIn_wide (n := n)).1 ?_
          gi_wp2_with fail
          refine ⟨trivial, ?_⟩
          refine (callsIn_wide.2 (HRO.out _ _ (by exact HBK2.out) (by exact HNA2.out))).mono ?_
          rintro e w3 ⟨rfl, hb3⟩
          have B3 : Below wr.heap.size wr w3 := B2.trans (hb3.mono B2.size)
          obtain ⟨fn, tmps, assign, body, hy, hR⟩ := hY _ X w3 (HJ.out _ _ _ hJr.out B3) HLC.out
          gi_wp2
          refine hR.mono ?_
          rintro e W3 (⟨rfl, hJ3, hk3⟩ | ⟨rfl, hJx3⟩)
          · have HJ3 : Hid (J (collect bk nss s tick (k + 1)) W3) := by unfold Hid; rw [HRN.out]; exact hJ3
            have HK3 : Hid (KpB B n0 w W3) := (hKr.out.trans (KpB.below (B3.mono (Nat.le_trans hn0 hKr.out.size)))).trans hk3
            gi_wp2
            go_wp2_with fail
            go_roundw
            case rel => exact ⟨k + 1, by omega, by go_num, HJ3, HK3⟩
            case measure => simp [intOf]; omega
          · gi_wp2
            go_wp2_with fail
            refine bodyPost_ret (results_none rfl _ _ _) rfl ?_
            exact ⟨⟨_, rfl⟩, .inr ⟨_, trivial, hJx3⟩⟩
    · have hk' : k = nss.length := by omega
      go_wp2_with fail
      go_end0
      exact ⟨⟨_, rfl⟩, .inl ⟨_, by rw [← hk'], hJr.out⟩⟩

end Go.Proofs.YtjioingdpfgadaaGreatDoor
namespace Go.Proofs.YtjioingdpfgadaaGreatDoor
open Go Go.RowKit

theorem ibox (w : World) (o : Obj) : Below w.heap.size w (w.alloc o) := (Below.refl _ _).alloc (Nat.le_refl _) _

/-- There are such a trip and such a call. -/
def hasCallB (bk : BookD) (trip call : Int) : Bool := decide ((0 ≤ trip ∧ trip < bk.trips.length) ∧ (0 ≤ call ∧ call < (callsOf bk trip).length))
theorem hasCallB_no {bk : BookD} {trip call : Int} (h : ¬ ((0 ≤ trip ∧ trip < bk.trips.length) ∧ (0 ≤ call ∧ call < (callsOf bk trip).length))) : hasCallB bk trip call = false := decide_eq_false h

set_option maxRecDepth 100000 in
set_option maxHeartbeats 1000000 in
theorem hasCall_any (v : Value) (bk : BookD) (trip call : Int) (w : World) (hn : bookSize bk ≤ 1048576) (hat : BookAt w v bk) :
    Calls Tryz.prog 70 #[v, .int .i64 trip, .int .i64 call] w fun e w' => e = .returned (.bool (hasCallB bk trip call)) ∧ Below w.heap.size w w' := by
  obtain ⟨sa, sc, ta, tc, rfl, hsa, hta⟩ := hat
  have hb0 := ibox w (.cells #[.slice sa bk.sts.length sc, .slice ta bk.trips.length tc] 26)
  have n2 : bk.trips.length ≤ 1048576 := by unfold bookSize tripsSize at hn; omega
  have n3 : ∀ i (h : i < bk.trips.length), bk.trips[i].calls.length ≤ 1048576 := by
    intro i h
    have := sumTrips_get bk.trips i h
    unfold bookSize tripsSize at hn; unfold tripSize at this; omega
  have hta' := hta.keep hb0
  clear hsa hta
  by_cases h1 : 0 ≤ trip
  · by_cases h2 : trip < (bk.trips.length : Int)
    · by_cases h3 : 0 ≤ call
      · obtain ⟨k, rfl⟩ := Int.eq_ofNat_of_zero_le h1
        have hk : k < bk.trips.length := by omega
        have HC : Hid (callsOf bk k = bk.trips[k].calls) := callsOf_at bk k hk
        obtain ⟨b, o, ca, cc, rfl, hc0, hc1, _⟩ := hta' k hk
        have n4 := n3 k hk
        have HL : Hid (hasCallB bk k call = decide (call < (bk.trips[k].calls.length : Int))) := by
          unfold Hid hasCallB; rw [HC.out]; simp [h3, hk]
        generalize bk.trips[k].calls = cs at *
        clear n3 hta' HC
        go_enter Tryz.func70, Tryz.ntmps70
        go_wp2_with fail
        go_ret
        exact ⟨ret_bool HL.out.symm, hb0⟩
      · have HL : Hid (hasCallB bk trip call = false) := hasCallB_no (fun h => h3 h.2.1)
        clear n3 hta'
        go_enter Tryz.func70, Tryz.ntmps70
        go_wp2_with fail
        go_ret
        exact ⟨ret_bool HL.out.symm, hb0⟩
    · have HL : Hid (hasCallB bk trip call = false) := hasCallB_no (fun h => h2 h.1.2)
      clear n3 hta'
      go_enter Tryz.func70, Tryz.ntmps70
      go_wp2_with fail
      go_ret
      exact ⟨ret_bool HL.out.symm, hb0⟩
  · have HL : Hid (hasCallB bk trip call = false) := hasCallB_no (fun h => h1 h.1.1)
    clear n3 hta'
    go_enter Tryz.func70, Tryz.ntmps70
    go_wp2_with fail
    go_ret
    exact ⟨ret_bool HL.out.symm, hb0⟩

end Go.Proofs.YtjioingdpfgadaaGreatDoor
namespace Go.Proofs.YtjioingdpfgadaaGreatDoor
open Go Go.RowKit

/-- The report's call is its trip's last. -/
def lastB (bk : BookD) (r : RepD) : Bool := r.call == ((callsOf bk r.trip).length : Int) - 1
/-- The message of a report. -/
def msgV (r : RepD) (last : Bool) : Value :=
  if r.op = 1 then .iface 112 (.agg #[.int .i64 r.trip, .int .i64 r.call, .bool last, .int .i64 r.n])
  else if r.op = 2 then .iface 114 (.agg #[.int .i64 r.trip, .int .i64 r.call, .bool last, .int .i64 r.n])
  else if r.op = 3 then .iface 116 (.agg #[.int .i64 r.trip, .int .i64 r.call, .bool last])
  else if r.op = 4 then .iface 117 (.agg #[.int .i64 r.trip, .int .i64 r.call, .bool last])
  else .iface 118 (.agg #[.int .i64 r.trip, .int .i64 r.call, .bool last])
def readV (bk : BookD) (r : RepD) : Value := if reportB bk r then msgV r (lastB bk r) else .nilIface
theorem readV_no {bk : BookD} {r : RepD} (h : reportB bk r = false) : readV bk r = .nilIface := by unfold readV; rw [h]; rfl
theorem readV_yes {bk : BookD} {r : RepD} (h : reportB bk r = true) : readV bk r = msgV r (lastB bk r) := by unfold readV; rw [h]; rfl
theorem reportB_num {bk : BookD} {r : RepD} (h : (1 ≤ r.op ∧ r.op ≤ 5) → numB r = false) : reportB bk r = false := by
  unfold reportB
  by_cases ho : 1 ≤ r.op ∧ r.op ≤ 5
  · rw [h ho, Bool.and_false]
  · rw [decide_eq_false (fun g => ho g.2.2.1), Bool.false_and]

theorem ret_same {a b : Value} (h : a = b) : Ending.returned a = .returned b := by rw [h]

end Go.Proofs.YtjioingdpfgadaaGreatDoor
