import Derived.Test.YtjioingdpfgadaaDoorProg
import Derived.Test.YtjioingdpfgadaaDoorBrdCM
import Derived.Test.YtjioingdpfgadaaDoorChkDM
import Derived.Test.YtjioingdpfgadaaDoorBoardCM
import Derived.Deep.RegionHeld3
import Derived.BigQuiet
import Derived.RangeFuncNested
import Derived.RangeFuncBound
import Derived.RangeFuncCalls
import Derived.RangeFuncLeaves
import Derived.Shelf.Abstract
import Derived.Shelf.RegionOpen
import Derived.WalkKit
import Derived.OwnWalkIn
import Derived.TacticsInMore
import Derived.LoopNIn
import Derived.LoopIn
import Derived.Test.YtjioingdpfgadaaDoorBrdIM
import Derived.Test.YtjioingdpfgadaaDoorImplUM
import Derived.Maps.AppendAt
namespace Go.Proofs.YtjioingdpfgadaaDoor
open Go Go.RowKit Go.Deep

/-- What a round keeps: all below n0 but block B. -/
structure KpB (B n0 : Nat) (w w' : World) : Prop where
  os : w'.os = w.os
  tape : w'.tape = w.tape
  output : w'.output = w.output
  size : w.heap.size ≤ w'.heap.size
  block : ∀ k, k < n0 → k ≠ B → w'.heap[k]? = w.heap[k]?
theorem KpB.refl (B n0 : Nat) (w : World) : KpB B n0 w w := ⟨rfl, rfl, rfl, Nat.le_refl _, fun _ _ _ => rfl⟩
theorem KpB.trans {B n0 : Nat} {a b c : World} (h : KpB B n0 a b) (k : KpB B n0 b c) : KpB B n0 a c :=
  ⟨k.os.trans h.os, k.tape.trans h.tape, k.output.trans h.output, Nat.le_trans h.size k.size, fun i hi hB => (k.block i hi hB).trans (h.block i hi hB)⟩
theorem KpB.below {B n0 : Nat} {w w' : World} (h : Below n0 w w') : KpB B n0 w w' := ⟨h.os, h.tape, h.output, h.size, fun i hi _ => h.block i hi⟩
theorem grown_of_below {w w' : World} (h : Below w.heap.size w w') : w.grownBy w' none := ⟨h.os, h.tape, h.output, h.size, fun k hk _ => h.block k hk⟩

theorem collect_none {bk : BookD} {nss : List (List NewsD)} {s tick : Int} {k : Nat} (h : rowOfTrip bk nss s tick k = none) : collect bk nss s tick (k + 1) = collect bk nss s tick k := by rw [collect, h]; simp
theorem collect_some {bk : BookD} {nss : List (List NewsD)} {s tick : Int} {k : Nat} {r : RowD} (h : rowOfTrip bk nss s tick k = some r) : collect bk nss s tick (k + 1) = collect bk nss s tick k ++ [r] := by rw [collect, h]; rfl
theorem rowOfTrip_none {bk : BookD} {nss : List (List NewsD)} {s tick : Int} {k : Nat} (hk : k < bk.trips.length) (hkn : k < nss.length) (h : firstIdx (atStation bk.trips[k].calls s) bk.trips[k].calls.length = none) : rowOfTrip bk nss s tick k = none := by
  unfold rowOfTrip; rw [List.getElem?_eq_getElem hk, List.getElem?_eq_getElem hkn]; simp only; rw [h]
theorem rowOfTrip_some {bk : BookD} {nss : List (List NewsD)} {s tick : Int} {k q : Nat} (hk : k < bk.trips.length) (hkn : k < nss.length) (h : firstIdx (atStation bk.trips[k].calls s) bk.trips[k].calls.length = some q) (hq : q < bk.trips[k].calls.length) (hqn : q < nss[k].length) :
    rowOfTrip bk nss s tick k = if (rowAt bk.trips[k].calls nss[k] k q bk.trips[k].calls[q] nss[k][q] tick).2 then some (rowAt bk.trips[k].calls nss[k] k q bk.trips[k].calls[q] nss[k][q] tick).1 else none := by
  unfold rowOfTrip; rw [List.getElem?_eq_getElem hk, List.getElem?_eq_getElem hkn]; simp only; rw [h]; simp only; rw [List.getElem?_eq_getElem hq, List.getElem?_eq_getElem hqn]

set_option maxRecDepth 100000 in
set_option maxHeartbeats 1000000 in
theorem rowsAt_any (sa : Option Addr) (sn sc : Nat) (ta : Option Addr) (tn tc : Nat) (na : Option Addr) (n nc : Nat) (s tick : Int) (w : World) :
    Calls Tryd.prog 43 #[.agg #[.slice sa sn sc, .slice ta tn tc], .slice na n nc, .int .i64 s, .int .i64 tick] w fun e w' =>
      e = .returned (.func (.func 85) #[] #[.pointer (some ⟨w.heap.size + 1, 0, none⟩), .pointer (some ⟨w.heap.size, 0, none⟩), .pointer (some ⟨w.heap.size + 1 + 1, 0, none⟩), .pointer (some ⟨w.heap.size + 1 + 1 + 1, 0, none⟩)]) ∧
      w' = (((w.alloc (.cells #[.slice sa sn sc, .slice ta tn tc] 26)).alloc (.cells #[.slice na n nc] 33)).alloc (.cells #[.int .i64 s] 3)).alloc (.cells #[.int .i64 tick] 3) := by
  go_enter Tryd.func43, Tryd.ntmps43
  go_wp2
  go_ret
  exact ⟨rfl, rfl⟩

/-- What the iterator's closure holds and reads, as it lies at a world. -/
structure IterAt (W : World) (bk : BookD) (nss : List (List NewsD)) (s tick : Int) (kb bb sb tb : Nat) (sa : Option Addr) (sc : Nat) (ta : Option Addr) (tc : Nat) (na : Option Addr) (nc : Nat) : Prop where
  known : W.cell? ⟨kb, 0, none⟩ = some (.slice na nss.length nc)
  book0 : W.cell? ⟨bb, 0, none⟩ = some (.slice sa bk.sts.length sc)
  book1 : W.cell? ⟨bb, 1, none⟩ = some (.slice ta bk.trips.length tc)
  st : W.cell? ⟨sb, 0, none⟩ = some (.int .i64 s)
  tick : W.cell? ⟨tb, 0, none⟩ = some (.int .i64 tick)
  book : BookAt W (.agg #[.slice sa bk.sts.length sc, .slice ta bk.trips.length tc]) bk
  news : NewsSSAt W na nss
/-- What is known of a right book and of what is told of it. -/
structure IterOk (bk : BookD) (nss : List (List NewsD)) (s tick : Int) : Prop where
  len : nss.length ≤ bk.trips.length
  rows : ∀ j (h : j < bk.trips.length) (hn : j < nss.length), nss[j].length = bk.trips[j].calls.length
  m40 : nss.length ≤ 40
  m20 : ∀ j (h : j < bk.trips.length), j < nss.length → bk.trips[j].calls.length ≤ 20
  nodup : ∀ j (h : j < bk.trips.length), j < nss.length → (stationsOf bk.trips[j].calls).Nodup
  wf : ∀ t ∈ bk.trips, ∀ i (h : i < t.calls.length), (Lit.int .i64 t.calls[i].st).wf = true
  go : ∀ j (h : j < bk.trips.length), j < nss.length → ∀ k (hk : k < bk.trips[j].calls.length), 0 ≤ bk.trips[j].calls[k].go ∧ bk.trips[j].calls[k].go ≤ 1000000
  late : LateOk nss
  tk : 0 ≤ tick ∧ tick ≤ 1000000
  sw : (Lit.int .i64 s).wf = true

set_option maxRecDepth 100000 in
set_option maxHeartbeats 8000000 in
theorem rowsAt1_stops (n : Nat) (hn1 : 1 ≤ n) (bk : BookD) (nss : List (List NewsD)) (s tick : Int) (B n0 kb bb sb tb : Nat) (sa : Option Addr) (sc : Nat) (ta : Option Addr) (tc : Nat) (na : Option Addr) (nc : Nat) (w : World) (hn0 : n0 ≤ w.heap.size)
    (hok : IterOk bk nss s tick) (hat : ∀ W, KpB B n0 w W → IterAt W bk nss s tick kb bb sb tb sa sc ta tc na nc) :
    SeqStopsK Fence.wide n Tryd.prog 85 #[.pointer (some ⟨kb, 0, none⟩), .pointer (some ⟨bb, 0, none⟩), .pointer (some ⟨sb, 0, none⟩), .pointer (some ⟨tb, 0, none⟩)] (fun r : RowD => #[rowV r]) (KpB B n0) (fun ys => ys = collect bk nss s tick nss.length) (fun _ => True) nss.length w := fun l J Jx W hW hJ _ hY h0 => by
  have HAT : Hid (∀ W, KpB B n0 w W → IterAt W bk nss s tick kb bb sb tb sa sc ta tc na nc) := hat
  have HOK : Hid (IterOk bk nss s tick) := hok
  have hb0 : KpB B n0 w W := KpB.below (hW.mono hn0)
  have c0 := (hat W hb0).known
  have HJ : Hid (∀ s W W', J s W → Below W.heap.size W W' → J s W') := fun s W W' h hb => hJ s W W' none h (grown_of_below hb) (fun r e => by cases e)
  have hlen := hok.len
  have hm40 := hok.m40
  have hl1 : (nss.length : Int) ≤ 40 := by omega
  have HLN : Hid (nss.length ≤ bk.trips.length) := hlen
  clear hok hat hlen
  refine callsIn_wide.2 ?_
  show Calls Tryd.prog 85 #[.func (.yield l) #[] #[], .pointer (some ⟨kb, 0, none⟩), .pointer (some ⟨bb, 0, none⟩), .pointer (some ⟨sb, 0, none⟩), .pointer (some ⟨tb, 0, none⟩)] W _
  go_enter Tryd.func85, Tryd.ntmps85
  go_wp2_with fail
  go_loopw [11] (fun i wr => ∃ k : Nat, k ≤ nss.length ∧ i = .int .i64 k ∧ Hid (J (collect bk nss s tick k) wr) ∧ Hid (KpB B n0 w wr)) (fun i _ => nss.length - (intOf i).toNat)
  case atStart => exact ⟨0, Nat.zero_le _, rfl, h0, hb0⟩
  case round =>
    obtain ⟨k, hk, rfl, hJr, hKr⟩ := hrel
    by_cases hlt : k < nss.length
    · have hltT : k < bk.trips.length := by have := HLN.out; omega
      obtain ⟨e0, e1, e2, e3, e4, hbk, hns⟩ := HAT.out wr hKr.out
      obtain ⟨_, _, ta', tc', eqv, _, hta⟩ := hbk
      simp only [Value.agg.injEq, Array.mk.injEq, List.cons.injEq, Value.slice.injEq, and_true, true_and] at eqv
      obtain ⟨⟨rfl, rfl⟩, rfl, rfl⟩ := eqv
      obtain ⟨b, o, ca, cc, eqt, t0, t1, hca⟩ := hta k hltT
      obtain ⟨b', o', na', nc', eqn, x0, hnA⟩ := hns k hlt
      subst eqt
      subst eqn
      have hrl := HOK.out.rows k hltT hlt
      have h20 := HOK.out.m20 k hltT hlt
      have HSW : Hid ((Lit.int .i64 s).wf = true) := HOK.out.sw
      have HWF : Hid (∀ i (h : i < bk.trips[k].calls.length), (Lit.int .i64 bk.trips[k].calls[i].st).wf = true) := HOK.out.wf _ (List.getElem_mem hltT)
      have HND : Hid ((stationsOf bk.trips[k].calls).Nodup) := HOK.out.nodup k hltT hlt
      have HCA : Hid (CallsAt wr ca bk.trips[k].calls) := hca
      have HNA : Hid (NewsAt wr na' nss[k]) := hnA
      have hk0 : (0 : Int) ≤ (k : Int) := by omega
      have hk1 : (k : Int) < (nss.length : Int) := by omega
      have hk2 : (k : Int) < (bk.trips.length : Int) := by omega
      cases hfi : firstIdx (atStation bk.trips[k].calls s) bk.trips[k].calls.length with
      | none =>
        have HRN : Hid (collect bk nss s tick (k + 1) = collect bk nss s tick k) := collect_none (rowOfTrip_none hltT hlt hfi)
        have HCO : Hid (callAtC bk.trips[k].calls s = -1) := callAtC_none hfi
        generalize bk.trips[k].calls = cs at *
        generalize bk.trips[k].name = nm at *
        generalize nss[k] = ns at *
        clear hfi hca hnA hta hns hrl
        go_wp2_with fail
        go_region_held3 (fun w' => w'.cell? ⟨bb, 1, none⟩ = some (.slice (some ⟨b, o, none⟩) bk.trips.length tc) ∧ w'.cell? ⟨b, o + k * 2, none⟩ = some (.string nm) ∧ w'.cell? ⟨b, o + k * 2 + 1, none⟩ = some (.slice ca cs.length cc) ∧ w'.cell? ⟨sb, 0, none⟩ = some (.int .i64 s))
          (first | exact ⟨cell_keep hb1 (by exact e2), cell_keep hb1 (by exact t0), cell_keep hb1 (by exact t1), cell_keep hb1 (by exact e3)⟩ | go_keep)
          (first | (go_at_call 68; refine (callOf_any nm ca cc cs s _ (by omega) HSW.out HWF.out HND.out (by exact HCA.out)).mono ?_; rintro e w1 ⟨rfl, hb1⟩; rw [HCO.out]))
        have B1 : Below wr.heap.size wr w1 := (Below.refl _ _).drew.trans (by exact hb1)
        clear hb1
        go_wp2_with fail
        go_quiet (fail)
        go_wp2_with fail
        go_roundw
        case rel => exact ⟨k + 1, by omega, by go_num, by rw [HRN.out]; exact HJ.out _ _ _ hJr.out (below_drewN B1 _), hKr.out.trans (KpB.below ((below_drewN B1 _).mono (Nat.le_trans hn0 hKr.out.size)))⟩
        case measure => simp [intOf]; omega
      | some q =>
        have hq : q < bk.trips[k].calls.length := firstIdx_lt hfi
        have hqn : q < nss[k].length := by omega
        have HCO : Hid (callAtC bk.trips[k].calls s = q) := callAtC_some hfi
        obtain ⟨b2, o2, eqc, d0, d1, d2, d3⟩ := hca q hq
        subst eqc
        have hsr := rowAt_shown bk.trips[k].calls nss[k] k q tick hrl hq hqn HND.out
        have HRS := rowOfTrip_some (s := s) (tick := tick) hltT hlt hfi hq hqn
        have HSH : Hid (∀ w, NewsAt w na' nss[k] → Calls Tryd.prog 86 #[.agg #[.int .i64 bk.trips[k].calls[q].st, .int .i64 bk.trips[k].calls[q].co, .int .i64 bk.trips[k].calls[q].go, .int .i64 bk.trips[k].calls[q].tr], .int .i64 q, .slice na' nss[k].length nc', .int .i64 tick] w fun e w' => e = .returned (.bool (shownD nss[k] q bk.trips[k].calls[q] nss[k][q] tick)) ∧ Below w.heap.size w w') := fun w h => isShown_any bk.trips[k].calls[q] q na' nc' nss[k] tick w hqn (by omega) HOK.out.tk h
        have HRO : Hid (∀ v w, BookAt w v bk → NewsAt w na' nss[k] → Calls Tryd.prog 87 #[v, .int .i64 k, .int .i64 q, .slice na' nss[k].length nc'] w fun e w' => e = .returned (rowV (rowD bk.trips[k].calls nss[k] k bk.trips[k].calls[q] nss[k][q])) ∧ Below w.heap.size w w') := fun v w h1 h2 => rowOf_any v bk k q na' nc' nss[k] w hltT hq hqn hrl (by omega) (HOK.out.go k hltT hlt q hq) (HOK.out.late _ (List.getElem_mem hlt) _ (List.getElem_mem hqn)) h1 h2
        have hq0 : (0 : Int) ≤ (q : Int) := by omega
        have hq1 : (q : Int) < (bk.trips[k].calls.length : Int) := by omega
        have hqd : decide ((q : Int) < 0) = false := decide_eq_false (by omega)
        cases hsh : shownD nss[k] q bk.trips[k].calls[q] nss[k][q] tick
        · have HRN : Hid (collect bk nss s tick (k + 1) = collect bk nss s tick k) := collect_none (by rw [HRS, hsr.1, hsh]; rfl)
          generalize bk.trips[k].calls[q] = c at *
          generalize nss[k][q] = x at *
          generalize bk.trips[k].calls = cs at *
          generalize bk.trips[k].name = nm at *
          generalize nss[k] = ns at *
          generalize hca0 : some (⟨b2, o2, none⟩ : Addr) = ca at *
          clear hfi hca hnA hta hns hsr HRS HRO hrl
          go_wp2_with fail
          go_region_held3 (fun w' => w'.cell? ⟨bb, 1, none⟩ = some (.slice (some ⟨b, o, none⟩) bk.trips.length tc) ∧ w'.cell? ⟨b, o + k * 2, none⟩ = some (.string nm) ∧ w'.cell? ⟨b, o + k * 2 + 1, none⟩ = some (.slice ca cs.length cc) ∧ w'.cell? ⟨sb, 0, none⟩ = some (.int .i64 s))
            (first | exact ⟨cell_keep hb1 (by exact e2), cell_keep hb1 (by exact t0), cell_keep hb1 (by exact t1), cell_keep hb1 (by exact e3)⟩ | go_keep)
            (first | (go_at_call 68; refine (callOf_any nm ca cc cs s _ (by omega) HSW.out HWF.out HND.out (by exact HCA.out)).mono ?_; rintro e w1 ⟨rfl, hb1⟩; rw [HCO.out]))
          have B1 : Below wr.heap.size wr w1 := (Below.refl _ _).drew.trans (by exact hb1)
          have g2 := cell_keep B1 e2
          have g1 := cell_keep B1 t1
          have g4 := cell_keep B1 e4
          have k0 := cell_keep B1 d0
          have k1 := cell_keep B1 d1
          have k2 := cell_keep B1 d2
          have k3 := cell_keep B1 d3
          have HNA1 : Hid (NewsAt w1 na' ns) := HNA.out.keep B1
          subst hca0
          clear hb1 e0 e1 e2 e3 e4 t0 t1 x0 d0 d1 d2 d3
          go_wp2_with fail
          go_region_held3 (fun w' => w'.cell? ⟨bb, 1, none⟩ = some (.slice (some ⟨b, o, none⟩) bk.trips.length tc) ∧ w'.cell? ⟨b, o + k * 2 + 1, none⟩ = some (.slice (some ⟨b2, o2, none⟩) cs.length cc) ∧ w'.cell? ⟨b2, o2 + q * 4, none⟩ = some (.int .i64 c.st) ∧ w'.cell? ⟨b2, o2 + q * 4 + 1, none⟩ = some (.int .i64 c.co) ∧ w'.cell? ⟨b2, o2 + q * 4 + 2, none⟩ = some (.int .i64 c.go) ∧ w'.cell? ⟨b2, o2 + q * 4 + 3, none⟩ = some (.int .i64 c.tr) ∧ w'.cell? ⟨tb, 0, none⟩ = some (.int .i64 tick))
            (first | exact ⟨cell_keep hb2 (by exact g2), cell_keep hb2 (by exact g1), cell_keep hb2 (by exact k0), cell_keep hb2 (by exact k1), cell_keep hb2 (by exact k2), cell_keep hb2 (by exact k3), cell_keep hb2 (by exact g4)⟩ | go_keep)
            (first | (go_at_call 86; refine (HSH.out _ (by exact HNA1.out)).mono ?_; rintro e w2 ⟨rfl, hb2⟩; rw [hsh]))
          have B2 : Below wr.heap.size wr w2 := B1.trans ((Below.refl _ _).drew.trans (by exact hb2) |>.mono B1.size)
          clear hb2
          go_wp2_with fail
          go_roundw
          case rel => exact ⟨k + 1, by omega, by go_num, by rw [HRN.out]; exact HJ.out _ _ _ hJr.out B2, hKr.out.trans (KpB.below (B2.mono (Nat.le_trans hn0 hKr.out.size)))⟩
          case measure => simp [intOf]; omega
        · have HRN : Hid (collect bk nss s tick (k + 1) = collect bk nss s tick k ++ [rowD bk.trips[k].calls nss[k] k bk.trips[k].calls[q] nss[k][q]]) := collect_some (by rw [HRS, hsr.1, hsh, hsr.2 hsh]; rfl)
          have HLC : Hid ((collect bk nss s tick k).length < nss.length) := Nat.lt_of_le_of_lt (collect_length bk nss s tick k) hlt
          have HBK : Hid (BookAt wr (.agg #[.slice sa bk.sts.length sc, .slice (some ⟨b, o, none⟩) bk.trips.length tc]) bk) := (HAT.out wr hKr.out).book
          generalize bk.trips[k].calls[q] = c at *
          generalize nss[k][q] = x at *
          generalize bk.trips[k].calls = cs at *
          generalize bk.trips[k].name = nm at *
          generalize nss[k] = ns at *
          generalize hca0 : some (⟨b2, o2, none⟩ : Addr) = ca at *
          clear hfi hca hnA hta hns hsr HRS hrl
          go_wp2_with fail
          go_region_held3 (fun w' => w'.cell? ⟨bb, 1, none⟩ = some (.slice (some ⟨b, o, none⟩) bk.trips.length tc) ∧ w'.cell? ⟨b, o + k * 2, none⟩ = some (.string nm) ∧ w'.cell? ⟨b, o + k * 2 + 1, none⟩ = some (.slice ca cs.length cc) ∧ w'.cell? ⟨sb, 0, none⟩ = some (.int .i64 s))
            (first | exact ⟨cell_keep hb1 (by exact e2), cell_keep hb1 (by exact t0), cell_keep hb1 (by exact t1), cell_keep hb1 (by exact e3)⟩ | go_keep)
            (first | (go_at_call 68; refine (callOf_any nm ca cc cs s _ (by omega) HSW.out HWF.out HND.out (by exact HCA.out)).mono ?_; rintro e w1 ⟨rfl, hb1⟩; rw [HCO.out]))
          have B1 : Below wr.heap.size wr w1 := (Below.refl _ _).drew.trans (by exact hb1)
          have g2 := cell_keep B1 e2
          have g1 := cell_keep B1 t1
          have g4 := cell_keep B1 e4
          have k0 := cell_keep B1 d0
          have k1 := cell_keep B1 d1
          have k2 := cell_keep B1 d2
          have k3 := cell_keep B1 d3
          have HNA1 : Hid (NewsAt w1 na' ns) := HNA.out.keep B1
          subst hca0
          have HE1 : Hid _ := e1
          have HE2 : Hid _ := e2
          clear hb1 e0 e1 e2 e3 e4 t0 t1 x0 d0 d1 d2 d3
          go_wp2_with fail
          go_region_held3 (fun w' => w'.cell? ⟨bb, 1, none⟩ = some (.slice (some ⟨b, o, none⟩) bk.trips.length tc) ∧ w'.cell? ⟨b, o + k * 2 + 1, none⟩ = some (.slice (some ⟨b2, o2, none⟩) cs.length cc) ∧ w'.cell? ⟨b2, o2 + q * 4, none⟩ = some (.int .i64 c.st) ∧ w'.cell? ⟨b2, o2 + q * 4 + 1, none⟩ = some (.int .i64 c.co) ∧ w'.cell? ⟨b2, o2 + q * 4 + 2, none⟩ = some (.int .i64 c.go) ∧ w'.cell? ⟨b2, o2 + q * 4 + 3, none⟩ = some (.int .i64 c.tr) ∧ w'.cell? ⟨tb, 0, none⟩ = some (.int .i64 tick))
            (first | exact ⟨cell_keep hb2 (by exact g2), cell_keep hb2 (by exact g1), cell_keep hb2 (by exact k0), cell_keep hb2 (by exact k1), cell_keep hb2 (by exact k2), cell_keep hb2 (by exact k3), cell_keep hb2 (by exact g4)⟩ | go_keep)
            (first | (go_at_call 86; refine (HSH.out _ (by exact HNA1.out)).mono ?_; rintro e w2 ⟨rfl, hb2⟩; rw [hsh]))
          have B2 : Below wr.heap.size wr w2 := B1.trans ((Below.refl _ _).drew.trans (by exact hb2) |>.mono B1.size)
          have f1 := cell_keep B2 HE1.out
          have f2 := cell_keep B2 HE2.out
          have HNA2 : Hid (NewsAt w2 na' ns) := HNA.out.keep B2
          have HBK2 : Hid (BookAt w2 (.agg #[.slice sa bk.sts.length sc, .slice (some ⟨b, o, none⟩) bk.trips.length tc]) bk) := HBK.out.keep B2
          clear hb2 g2 g1 g4 k0 k1 k2 k3
          generalize hX : rowD cs ns (k : Int) c x = X at *
          clear hX
          go_upto_region 5 with fail
          refine (wpIn_wide (n := n)).1 ?_
          gi_wp2_with fail
          refine ⟨trivial, ?_⟩
          refine (callsIn_wide.2 (HRO.out _ _ (by exact HBK2.out) (by exact HNA2.out))).mono ?_
          rintro e w3 ⟨rfl, hb3⟩
          have B3 : Below wr.heap.size wr w3 := B2.trans (hb3.mono B2.size)
          obtain ⟨fn, tmps, assign, body, hy, hR⟩ := hY _ X w3 (HJ.out _ _ _ hJr.out B3) HLC.out
          gi_wp2
          refine hR.mono ?_
          rintro e W3 (⟨rfl, hJ3, hk3⟩ | ⟨rfl, hJx3⟩)
          · have HJ3 : Hid (J (collect bk nss s tick (k + 1)) W3) := by unfold Hid; rw [HRN.out]; exact hJ3
            have HK3 : Hid (KpB B n0 w W3) := (hKr.out.trans (KpB.below (B3.mono (Nat.le_trans hn0 hKr.out.size)))).trans hk3
            gi_wp2
            go_wp2_with fail
            go_roundw
            case rel => exact ⟨k + 1, by omega, by go_num, HJ3, HK3⟩
            case measure => simp [intOf]; omega
          · gi_wp2
            go_wp2_with fail
            refine bodyPost_ret (results_none rfl _ _ _) rfl ?_
            exact ⟨⟨_, rfl⟩, .inr ⟨_, trivial, hJx3⟩⟩
    · have hk' : k = nss.length := by omega
      go_wp2_with fail
      go_end0
      exact ⟨⟨_, rfl⟩, .inl ⟨_, by rw [← hk'], hJr.out⟩⟩

end Go.Proofs.YtjioingdpfgadaaDoor
namespace Go.Proofs.YtjioingdpfgadaaDoor
open Go Go.RowKit Go.Deep

attribute [local go_sem] Oper.semAt_some

/-- Each trip has its own number. -/
theorem rowOfTrip_trip {bk : BookD} {nss : List (List NewsD)} {s tick : Int} {k : Nat} {r : RowD} (h : rowOfTrip bk nss s tick k = some r) : r.trip = k := by
  unfold rowOfTrip at h
  split at h
  · split at h
    · cases h
    · split at h
      · split at h
        · cases h
          unfold rowAt
          repeat' split
          all_goals rfl
        · cases h
      · cases h
  · cases h
theorem collect_trips {bk : BookD} {nss : List (List NewsD)} {s tick : Int} (n : Nat) : (∀ r ∈ collect bk nss s tick n, r.trip < n) ∧ OneEach (collect bk nss s tick n) := by
  induction n with
  | zero => exact ⟨fun r hr => by simp [collect] at hr, by simp [OneEach, collect]⟩
  | succ n ih =>
    cases h : rowOfTrip bk nss s tick n with
    | none =>
      rw [collect_none h]
      exact ⟨fun r hr => by have := ih.1 r hr; omega, ih.2⟩
    | some r =>
      have ht := rowOfTrip_trip h
      rw [collect_some h]
      refine ⟨fun x hx => ?_, ?_⟩
      · rcases List.mem_append.1 hx with hx | hx
        · have := ih.1 x hx; omega
        · rw [List.mem_singleton] at hx; subst hx; omega
      · unfold OneEach
        rw [List.map_append, List.nodup_append]
        refine ⟨ih.2, by simp, fun a ha b hb => ?_⟩
        obtain ⟨x, hx, rfl⟩ := List.mem_map.1 ha
        simp only [List.map_cons, List.map_nil, List.mem_singleton] at hb
        subst hb
        have := ih.1 x hx
        omega

/-- What the loop over the rows holds between two rounds. -/
def HeapI (B n0 : Nat) (W0 : World) (pre : List RowD) (W : World) : Prop := ∃ v L, HeapAt W B n0 L v ∧ IsHeap L ∧ L.Perm pre ∧ KpB B n0 W0 W
theorem HeapI.own {B n0 : Nat} {W0 : World} (hn : n0 = W0.heap.size) : OwnFrom n0 (HeapI B n0 W0) := by
  rintro pre A A' row ⟨v, L, hH, hI, hP, hK⟩ hg hr
  have hrow : ∀ r, row = some r → n0 ≤ r := fun r e => (hr r e).1
  refine ⟨v, L, ⟨?_, ?_, hH.low⟩, hI, hP, hK.trans ?_⟩
  · exact (hg.block B hH.box.lt (fun e => by have := hrow B e.symm; have := hH.low; omega)).trans hH.box
  · refine hH.rows.kept hg ?_
    cases hb : v.ownBlock with
    | none => exact Or.inl rfl
    | some g =>
      refine Or.inr (fun e => ?_)
      obtain ⟨_, o, ho, hc⟩ := hr g e.symm
      rcases hH.rows.2 with ⟨e', _⟩ | ⟨g', cap', cur, e', _, hh, _⟩
      · rw [e'] at hb; cases hb
      · rw [e'] at hb
        cases hb
        rw [hh] at ho
        cases ho
        cases hc
  · refine ⟨hg.os, hg.tape, hg.output, hg.size, fun k hk _ => ?_⟩
    have := hK.size
    exact hg.block k (by omega) (fun e => by have := hrow k e.symm; omega)
theorem KeptBox.kp {B n0 : Nat} {w w' : World} (h : KeptBox B n0 w w') : KpB B n0 w w' := ⟨h.os, h.tape, h.output, h.size, h.block⟩
theorem KeptBox.others' {B n0 : Nat} {w w' : World} (h : KeptBox B n0 w w') : KeepsOthers w w' := ⟨h.size, h.others⟩
theorem kpB_b {B n0 : Nat} {w : World} (hn : n0 ≤ w.heap.size) (W : World) (l : Nat) (o o' : Obj) (hl : w.heap.size ≤ l) (h : W.heap[l]? = some o) (_ : o.isCells = false) (_ : o.isWalk = false) : KpB B n0 W (W.putObj l o') :=
  KpB.below ((Below.refl n0 W).grown (grownBy_putObj' W l o') (by have := (Array.getElem?_eq_some_iff.1 h).1; omega) (fun k e => by cases e; omega))

variable {n : Nat} {P : Program}
/-- The law of the range over a function, where the loop variable is a row in a box of each round's own. -/
theorem range_boxed {g : Operand} {p q : Tmp} {assign body : Code} {Q : Exit → Act → World → Prop} {a : Act} {w : World} {T : TypeId}
    (h1 : 1 ≤ n) {gf : Nat} {lb : Array Value} (hg : a.eval g = .func (.func gf) #[] lb) (eg : ∀ args w, (callFunc gf args).run P w = .ok (.enter gf args) w)
    {B : Nat} {S Sp : List RowD → Prop} {N : Nat} (hseq : SeqStopsK Fence.wide (n - 1) P gf lb (fun r : RowD => #[rowV r]) (KpB B w.heap.size) S Sp N w)
    (h0 : HeapI B w.heap.size w [] w)
    (hassign : ∀ (l : Nat) (pre : List RowD) (x : RowD) (W : World) (K : Act → World → Prop), HeapI B w.heap.size w pre W → (∀ a' W', KeepsFrom w.heap.size W W' → KpB B w.heap.size W W' → HeapI B w.heap.size w pre W' → (∃ Bx, w.heap.size ≤ Bx ∧ W'.heap[Bx]? = some (.cells (sixOf x).toArray T (0, 0)) ∧ a' = { tmps := (a.tmps.setIfInBounds p (rowV x)).setIfInBounds q (.pointer (some ⟨Bx, 0, none⟩)), defers := [] }) → K a' W') →
      assign.wpIn (Fence.wide.inRound l) (n - 1 - 1) P (Exit.then K (fun _ _ _ => False)) { tmps := a.tmps.setIfInBounds p (rowV x), defers := [] } W)
    (hbody : ∀ (l : Nat) (pre : List RowD) (x : RowD) (Bx : Nat) (W : World), HeapI B w.heap.size w pre W → w.heap.size ≤ Bx → W.heap[Bx]? = some (.cells (sixOf x).toArray T (0, 0)) → pre.length < N → body.wpIn (Fence.wide.inRound l) (n - 1 - 1) P (ownPostG w.heap.size (KpB B w.heap.size) (HeapI B w.heap.size w) (fun _ _ _ => False) (pre ++ [x]) W) { tmps := (a.tmps.setIfInBounds p (rowV x)).setIfInBounds q (.pointer (some ⟨Bx, 0, none⟩)), defers := [] } W)
    (hdone : ∀ (D : Nat) (xs : List RowD) (W : World), w.heap.size ≤ D → S xs → HeapI B w.heap.size w xs W → W.heap[D]? = some (.deferred (some [])) → Q .normal { a with defers := { target := .collected D, args := #[] } :: a.defers } W) :
    (Code.rangeFunc g #[p] assign body).wpIn Fence.wide n P Q a w := by
  refine wpIn_rangeFunc_ownH rfl h1 hg trivial eg hseq KpB.trans (kpB_b (Nat.le_refl _)) (Below.refl _ _) (fun _ => rfl) (HeapI B w.heap.size w) (fun _ _ _ => False) (HeapI.own rfl) (fun _ _ _ _ _ hs _ _ => hs) h0
    (fun x a' W => ∃ Bx, w.heap.size ≤ Bx ∧ W.heap[Bx]? = some (.cells (sixOf x).toArray T (0, 0)) ∧ a' = { tmps := (a.tmps.setIfInBounds p (rowV x)).setIfInBounds q (.pointer (some ⟨Bx, 0, none⟩)), defers := [] })
    ?_ ?_ ?_ hdone ?_
  · rintro x a' _ A A' row ⟨Bx, hB, hx, he⟩ hg hr
    refine ⟨Bx, hB, ?_, he⟩
    rw [hg.block Bx (Array.getElem?_eq_some_iff.1 hx).1 (fun e => ?_)]
    · exact hx
    · obtain ⟨_, o, ho, hc⟩ := hr Bx e.symm
      rw [hx] at ho
      cases ho
      cases hc
  · intro l pre x W K hI hK
    refine Eq.mp (congrArg (fun t => Code.wpIn (Fence.wide.inRound l) (n - 1 - 1) P assign (Exit.then K fun _ _ _ => False) { tmps := t, defers := [] } W) ?_) (hassign l pre x W K hI hK)
    simp
  · rintro l pre x a' W _ _ hI ⟨Bx, hB, hx, rfl⟩ hlt
    exact hbody l pre x Bx W hI hB hx hlt
  · rintro D c pre W _ _ h _
    exact h.elim


theorem alloc4 (w : World) (a b c d : Obj) : Below w.heap.size w ((((w.alloc a).alloc b).alloc c).alloc d) := (((((Below.refl _ _).alloc (Nat.le_refl _) _).alloc (by simp) _).alloc (by simp; omega) _).alloc (by simp; omega) _)
theorem kp_cell {B n0 k o : Nat} {w W : World} {u : Value} (hk : KpB B n0 w W) (h : w.cell? ⟨k, o, none⟩ = some u) (h1 : k < n0) (h2 : k ≠ B) : W.cell? ⟨k, o, none⟩ = some u := (World.cell?_of_block (w := w) (hk.block k h1 h2)).trans h
theorem owns_same {w W : World} {base size n : Nat} {e : TypeId} {v : Value} {xs : List Value} (h : w.ownsRow base e size v n xs) (hb : ∀ g, v.ownBlock = some g → W.heap[g]? = w.heap[g]?) : W.ownsRow base e size v n xs := by
  refine ⟨h.1, ?_⟩
  rcases h.2 with l | ⟨g, cap, cur, e, hb', hh, rest⟩
  · exact .inl l
  · exact .inr ⟨g, cap, cur, e, hb', (hb g (by rw [e]; rfl)).trans hh, rest⟩
theorem NewsOwnAt.kp {B B1 n0 : Nat} {w W : World} {v : Value} {nss : List (List NewsD)} {vs : List Value} (h : NewsOwnAt B1 w v nss vs) (hk : KpB B n0 w W) (hB : B < B1) (hn : w.heap.size ≤ n0) : NewsOwnAt B1 W v nss vs :=
  ⟨owns_same h.outer (fun g hg => hk.block g (by have := (h.outer.lt g hg).2; omega) (by have := (h.outer.lt g hg).1; omega)), h.len, fun i h1 h2 => owns_same (h.rows i h1 h2) (fun g hg => hk.block g (by have := ((h.rows i h1 h2).lt g hg).2; omega) (by have := ((h.rows i h1 h2).lt g hg).1; omega)), h.apart⟩
theorem newsAt_ss {B n c : Nat} {w : World} {a : Option Addr} {nss : List (List NewsD)} {vs : List Value} (h : NewsOwnAt B w (.slice a n c) nss vs) : NewsSSAt w a nss := by
  obtain ⟨na, nc, e, hss⟩ := h.at
  simp only [Value.slice.injEq] at e
  obtain ⟨rfl, _, _⟩ := e
  exact hss
theorem boardD_yes {bk : BookD} {rs : List RepD} {s tick rows : Int} (hs : 0 ≤ s ∧ s < bk.sts.length) (ht : 0 ≤ tick ∧ tick ≤ 1000000) (hr : 0 ≤ rows ∧ rows ≤ 40) : boardD bk rs s tick rows = pick rows.toNat (collect bk (knownD bk rs tick) s tick (knownD bk rs tick).length) := by
  unfold boardD
  cases h : reportsB bk rs
  · rw [if_neg (fun h' => absurd h'.1 (by simp)), knownD_no h]
    simp [collect, pick_nil]
  · rw [if_pos ⟨rfl, hs, ht, hr⟩, knownD_yes h, (shape_to bk tick rs).length]
theorem iter_ok {bk : BookD} {rs : List RepD} {s tick : Int} (hwf : ∀ t ∈ bk.trips, ∀ i (h : i < t.calls.length), (Lit.int .i64 t.calls[i].st).wf = true) (hsw : (Lit.int .i64 s).wf = true) (ht : 0 ≤ tick ∧ tick ≤ 1000000) : IterOk bk (knownD bk rs tick) s tick := by
  cases h : reportsB bk rs
  · rw [knownD_no h]
    exact ⟨by simp, fun j _ hn => by simp at hn, by simp, fun j _ hn => by simp at hn, fun j _ hn => by simp at hn, hwf, fun j _ hn => by simp at hn, fun ns hn => by simp at hn, ht, hsw⟩
  · rw [knownD_yes h]
    obtain ⟨r0, _, rk⟩ := reportsB_inv h
    have hsh := shape_to bk tick rs
    have htr := (faultD_zero r0).2
    have h40 := right_trips r0
    have hl := hsh.length
    refine ⟨by omega, fun j hj hn => ?_, by omega, fun j hj _ => (tripB_len (htr j hj)).2, fun j hj _ => tripB_nodup (htr j hj), hwf, fun j hj _ => tripB_go (htr j hj), late_to bk tick rs (fun r hr => ?_), ht, hsw⟩
    · rw [hsh.at j hn, callsOf_at bk j hj]
    · obtain ⟨i, hi, rfl⟩ := List.getElem_of_mem hr
      exact (rk i hi).1

set_option maxRecDepth 100000 in
set_option maxHeartbeats 8000000 in
theorem implBoard_yes (bk : BookD) (sa : Option Addr) (sc : Nat) (ta : Option Addr) (tc : Nat) (ra : Option Addr) (rc : Nat) (rs : List RepD) (s tick rows : Int) (w : World) (hn : bookSize bk ≤ 1048576) (hm : rs.length ≤ 1048576) (hwf : ∀ t ∈ bk.trips, ∀ i (h : i < t.calls.length), (Lit.int .i64 t.calls[i].st).wf = true) (hsw : (Lit.int .i64 s).wf = true) (hat : BookAt w (.agg #[.slice sa bk.sts.length sc, .slice ta bk.trips.length tc]) bk) (hra : RepsAt w ra rs) (hev : ErrVars w)
    (hs : 0 ≤ s ∧ s < bk.sts.length) (ht : 0 ≤ tick ∧ tick ≤ 1000000) (hr : 0 ≤ rows ∧ rows ≤ 40) :
    Calls Tryd.prog 14 #[.agg #[.slice sa bk.sts.length sc, .slice ta bk.trips.length tc], .slice ra rs.length rc, .int .i64 s, .int .i64 tick, .int .i64 rows] w fun e w' => ∃ v', e = .returned v' ∧ w'.ownsRow w.heap.size 38 6 v' (boardD bk rs s tick rows).length (sixes (boardD bk rs s tick rows)) ∧ Below w.heap.size w w' := by
  have HBK : Hid (BookAt w (.agg #[.slice sa bk.sts.length sc, .slice ta bk.trips.length tc]) bk) := hat
  have HRA : Hid (RepsAt w ra rs) := hra
  have HWF : Hid (∀ t ∈ bk.trips, ∀ i (h : i < t.calls.length), (Lit.int .i64 t.calls[i].st).wf = true) := hwf
  have HIO : Hid (IterOk bk (knownD bk rs tick) s tick) := iter_ok hwf hsw ht
  have HBD : Hid (boardD bk rs s tick rows = pick rows.toNat (collect bk (knownD bk rs tick) s tick (knownD bk rs tick).length)) := boardD_yes hs ht hr
  have n1 : bk.sts.length ≤ 1048576 := by unfold bookSize strsSize at hn; omega
  obtain ⟨s1, s2⟩ := hs
  obtain ⟨t1, t2⟩ := ht
  obtain ⟨r1, r2⟩ := hr
  obtain ⟨W2, hW2⟩ : ∃ W2, (w.alloc (.cells #[.slice sa bk.sts.length sc, .slice ta bk.trips.length tc] 26)).alloc (.cells #[.slice none 0 0] 87) = W2 := ⟨_, rfl⟩
  have hs2 : W2.heap.size = w.heap.size + 1 + 1 := by subst hW2; simp
  have hb2 : Below w.heap.size w W2 := by subst hW2; exact ((Below.refl _ _).alloc (Nat.le_refl _) _).alloc (by simp) _
  have p0 : W2.cell? ⟨w.heap.size, 0, none⟩ = some (.slice sa bk.sts.length sc) := by subst hW2; simp [go_sem]
  have p1 : W2.cell? ⟨w.heap.size, 1, none⟩ = some (.slice ta bk.trips.length tc) := by subst hW2; simp [go_sem]
  have HBX : Hid (Boxed W2 (w.heap.size + 1) 87 (.slice none 0 0)) := by subst hW2; have := Boxed.new (w.alloc (.cells #[.slice sa bk.sts.length sc, .slice ta bk.trips.length tc] 26)) 87 (.slice none 0 0); rw [World.size_alloc] at this; exact this
  have HEV : Hid (ErrVars w) := hev
  clear hat hra hwf hev
  refine (callsIn_wide (n := 10)).1 ?_
  refine callsIn_of_wp_marks Tryd.func14 rfl trivial ?_ rfl
  simp only [Tryd.ntmps14, List.size_toArray, List.length_cons, List.length_nil, Nat.reduceAdd, Nat.reduceSub, Array.replicate_succ, Array.replicate_zero, List.push_toArray, List.append_toArray, List.nil_append, List.cons_append]
  refine wpIn_wide.2 ?_
  go_upto_region 4 with fail
  clear hW2
  go_region_held3 (fun w' => w'.cell? ⟨w.heap.size, 0, none⟩ = some (.slice sa bk.sts.length sc) ∧ w'.cell? ⟨w.heap.size, 1, none⟩ = some (.slice ta bk.trips.length tc))
    (first | exact ⟨cell_keep (alloc4 _ _ _ _ _) (cell_keep hb3 (by exact p0)), cell_keep (alloc4 _ _ _ _ _) (cell_keep hb3 (by exact p1))⟩ | exact ⟨cell_keep hb3 (by exact p0), cell_keep hb3 (by exact p1)⟩ | go_keep)
    (first
      | (go_at_call 18; refine (implKnown_any _ bk _ _ rs tick _ hn hm HWF.out (by exact HBK.out.keep hb2.drew) (by exact HRA.out.keep hb2.drew) (by exact HEV.out.keep hb2.drew)).mono ?_; rintro e w3 ⟨v3, rfl, ⟨vs, hvs⟩, hb3⟩; obtain ⟨na, nc, rfl, _⟩ := hvs.at)
      | (go_at_call 43; refine (rowsAt_any _ _ _ _ _ _ _ _ _ _ _ _).mono ?_; rintro e w4 ⟨rfl, rfl⟩))
  have B3 : Below W2.heap.size W2 w3 := (Below.refl _ _).drew.trans (by exact hb3)
  have hB3 : Below w.heap.size w w3 := hb2.trans (B3.mono hb2.size)
  have HVS : Hid (NewsOwnAt W2.heap.size w3 (.slice na (knownD bk rs tick).length nc) (knownD bk rs tick) vs) := hvs
  have HBX3 : Hid (Boxed w3 (w.heap.size + 1) 87 (.slice none 0 0)) := (B3.block _ (by omega)).trans HBX.out
  have hsz3 := B3.size
  rw [hs2] at hsz3
  clear hb3 hvs p0 p1 HBX HRA HEV HWF
  obtain ⟨W0, hW0⟩ : ∃ W0, (((w3.alloc (.cells #[.slice sa bk.sts.length sc, .slice ta bk.trips.length tc] 26)).alloc (.cells #[.slice na (knownD bk rs tick).length nc] 33)).alloc (.cells #[.int .i64 s] 3)).alloc (.cells #[.int .i64 tick] 3) = W0 := ⟨_, rfl⟩
  have hs0 : W0.heap.size = w3.heap.size + 1 + 1 + 1 + 1 := by subst hW0; simp
  have b0 : Below w3.heap.size w3 W0 := by subst hW0; exact alloc4 _ _ _ _ _
  have HB0 : Hid (Below w.heap.size w W0) := hB3.trans (b0.mono hB3.size)
  have q0 : W0.cell? ⟨w3.heap.size, 0, none⟩ = some (.slice sa bk.sts.length sc) := by subst hW0; simp [go_sem]
  have q1 : W0.cell? ⟨w3.heap.size, 1, none⟩ = some (.slice ta bk.trips.length tc) := by subst hW0; simp [go_sem]
  have q2 : W0.cell? ⟨w3.heap.size + 1, 0, none⟩ = some (.slice na (knownD bk rs tick).length nc) := by subst hW0; simp [go_sem]
  have q3 : W0.cell? ⟨w3.heap.size + 1 + 1, 0, none⟩ = some (.int .i64 s) := by subst hW0; simp [go_sem]
  have q4 : W0.cell? ⟨w3.heap.size + 1 + 1 + 1, 0, none⟩ = some (.int .i64 tick) := by subst hW0; simp [go_sem]
  have HBX0 : Hid (Boxed W0 (w.heap.size + 1) 87 (.slice none 0 0)) := (b0.block _ (by omega)).trans HBX3.out
  have HV0 : Hid (NewsOwnAt W2.heap.size W0 (.slice na (knownD bk rs tick).length nc) (knownD bk rs tick) vs) := HVS.out.below b0
  have HSEQ : Hid (SeqStopsK Fence.wide (10 - 1) Tryd.prog 85 #[.pointer (some ⟨w3.heap.size + 1, 0, none⟩), .pointer (some ⟨w3.heap.size, 0, none⟩), .pointer (some ⟨w3.heap.size + 1 + 1, 0, none⟩), .pointer (some ⟨w3.heap.size + 1 + 1 + 1, 0, none⟩)] (fun r : RowD => #[rowV r]) (KpB (w.heap.size + 1) W0.heap.size) (fun ys => ys = collect bk (knownD bk rs tick) s tick (knownD bk rs tick).length) (fun _ => True) (knownD bk rs tick).length W0) :=
    rowsAt1_stops (10 - 1) (by omega) bk (knownD bk rs tick) s tick (w.heap.size + 1) W0.heap.size (w3.heap.size + 1) w3.heap.size (w3.heap.size + 1 + 1) (w3.heap.size + 1 + 1 + 1) sa sc ta tc na nc W0 (Nat.le_refl _) HIO.out (fun W hk =>
      ⟨kp_cell hk q2 (by omega) (by omega), kp_cell hk q0 (by omega) (by omega), kp_cell hk q1 (by omega) (by omega), kp_cell hk q3 (by omega) (by omega), kp_cell hk q4 (by omega) (by omega),
       HBK.out.keep (HB0.out.trans ⟨hk.os, hk.tape, hk.output, hk.size, fun k h => hk.block k (by omega) (by omega)⟩), newsAt_ss (HV0.out.kp hk (by omega) (Nat.le_refl _))⟩)
  have HT40 : Hid (∀ n, n < (knownD bk rs tick).length → n < 900) := fun n h => by have := HIO.out.m40; omega
  have HI0 : Hid (HeapI (w.heap.size + 1) W0.heap.size W0 [] W0) := ⟨.slice none 0 0, [], ⟨HBX0.out, World.ownsRow_nil _ _ _ _, by omega⟩, IsHeap.nil, List.Perm.refl _, KpB.refl _ _ _⟩
  clear q0 q1 q2 q3 q4 HBX0 HV0 HBX3 HVS HBK b0
  go_wp2_with fail
  rw [hW0]
  clear hW0
  refine (wpIn_wide (n := 10)).1 ?_
  refine range_boxed (T := 38) (q := 12) (by omega) rfl (enters_of Tryd.func85 (by kernel_rfl) rfl) HSEQ.out HI0.out ?assign ?body ?done
  case assign =>
    rintro l pre x W K hI hK
    have hsz : W0.heap.size ≤ W.heap.size := by obtain ⟨_, _, _, _, _, h⟩ := hI; exact h.size
    unfold rowV
    gi_wp2
    exact hK _ _ ((KeepsOthers.alloc _ _).from _) (KpB.below ((Below.refl _ W).alloc hsz _)) (HeapI.own rfl pre W _ none hI (World.grownBy_alloc W _ none) (fun r e => by cases e)) ⟨W.heap.size, hsz, heap_alloc_last W _, by simp [rowV]⟩
  case body =>
    rintro l pre x Bx W ⟨v, L, hH, hI, hP, hK⟩ hBx hX hlt
    obtain ⟨⟨u0, u1, u2, u3, u4, u5⟩, _⟩ := six_cells (by exact hX)
    have hll : L.length < 1000 := by have := hP.length_eq; have := HT40.out pre.length hlt; omega
    gi_wp2_with fail
    refine ⟨trivial, ?_⟩
    refine (CallsIn.inRound l (callsIn_wide.2 (push_any (w.heap.size + 1) W0.heap.size L v x W hll hK.size hH hI))).mono ?_
    rintro e W' ⟨⟨u, rfl⟩, v', L', hH', hI', hP', hK'⟩
    gi_wp2
    exact ⟨hK'.others'.from _, hK'.kp, v', L', hH', hI', hP'.trans ((hP.cons x).trans (List.perm_append_singleton x pre).symm), hK.trans hK'.kp⟩
  case done =>
    rintro D xs W hD rfl ⟨v, L, hH, hI, hP, hK⟩ hKD
    have HP1 : Hid (OneEach L) := (collect_trips _).2.perm hP.symm
    have hL40 : L.length ≤ 40 := by
      have h1 := hP.length_eq
      have h2 := collect_length bk (knownD bk rs tick) s tick (knownD bk rs tick).length
      have h3 := HIO.out.m40
      omega
    have HPK : Hid (boardD bk rs s tick rows = pick rows.toNat L) := by unfold Hid; rw [HBD.out]; exact pick_perm _ (collect_trips _).2 hP.symm
    obtain ⟨a, c, rfl, _⟩ := rows_at hH.rows
    have hc := hH.box.cell
    have HH : Hid (HeapAt W (w.heap.size + 1) W0.heap.size L (.slice a L.length c)) := hH
    have HHI : Hid (IsHeap L) := hI
    have HOB : Hid (∀ g, (Value.slice a L.length c).ownBlock = some g → g < W.heap.size) := fun g hg => (hH.rows.lt g hg).2
    have HKW : Hid (Below w.heap.size w W) := HB0.out.trans ⟨hK.os, hK.tape, hK.output, hK.size, fun k h => hK.block k (by have := HB0.out.size; omega) (by omega)⟩
    have HSZ : Hid (W0.heap.size ≤ W.heap.size) := hK.size
    have HD : Hid (W.heap[D]? = some (.deferred (some []))) := hKD
    have hW2 : w.heap.size + 1 + 1 ≤ W0.heap.size := by omega
    obtain ⟨R, rfl⟩ := Int.eq_ofNat_of_zero_le r1
    have hR40 : R ≤ 40 := by omega
    rw [Int.toNat_natCast] at HPK
    obtain ⟨KK, hKK⟩ : ∃ KK, boardD bk rs s tick (R : Int) = KK := ⟨_, rfl⟩
    have HKE : Hid (boardD bk rs s tick (R : Int) = KK) := hKK
    rw [hKK] at HPK
    clear hKK
    obtain ⟨ii, hi0, he0⟩ := Option.map_eq_some_iff.1 infRows
    simp only [Prod.mk.injEq] at he0
    have HI1 : Hid (ii.zero = some (.agg #[.int .i64 0, .int .i64 0, .int .i64 0, .int .i64 0, .int .i64 0, .int .i64 0]) ∧ ii.size = 6 ∧ ii.bytes = 48) := he0
    have HJ1 : Hid (Tryd.prog.info? 38 = some ii) := hi0
    clear hi0 he0 hP hI hH hK hKD HB0 HSEQ HI0 HT40 HBD HIO hB3 hb2 B3
    have HR1 : Hid (∃ m : Nat, (m = R ∧ R ≤ L.length) ∨ (m = L.length ∧ L.length < R)) := by
      rcases Nat.lt_or_ge L.length R with h | h
      · exact ⟨L.length, .inr ⟨rfl, h⟩⟩
      · exact ⟨R, .inl ⟨rfl, h⟩⟩
    obtain ⟨m, hm'⟩ := HR1.out
    have HMR : Hid (m ≤ R) := by unfold Hid; omega
    have HML : Hid (m ≤ L.length) := by unfold Hid; omega
    have HMM : Hid (m = R ∨ m = L.length) := by unfold Hid; omega
    have hm40 : m ≤ 40 := by omega
    have HLL : Hid (L.length ≤ 40) := hL40
    have HRR : Hid (R ≤ 40) := hR40
    rcases hm' with ⟨hmd, hle⟩ | ⟨hmd, hle⟩
    · subst hmd
      have hmle : (m : Int) ≤ (L.length : Int) := by omega
      clear hle
      gi_wp2_with fail
      go_wp2_with fail
      go_loopw [13, 55] (fun vo i wr => ∃ (k : Nat) (M out : List RowD) (vM : Value), k ≤ m ∧ i = .int .i64 k ∧ Hid (out.length = k) ∧ Hid (M.length + k = L.length) ∧ Hid (HeapAt wr (w.heap.size + 1) W0.heap.size M vM) ∧ Hid (∀ g, vM.ownBlock = some g → g < W.heap.size) ∧ Hid (IsHeap M) ∧ Hid (OneEach M) ∧ Hid (out ++ pick (m - k) M = KK) ∧ wr.ownsRow W.heap.size 38 6 vo out.length (sixes out) ∧ Hid (KeptBox (w.heap.size + 1) W0.heap.size W wr)) (fun _ i _ => m - (intOf i).toNat)
      case atStart => exact ⟨0, L, [], _, Nat.zero_le _, rfl, rfl, rfl, HH, HOB, HHI, HP1, HPK.out.symm, World.ownsRow_nil _ _ _ _, KeptBox.refl _ _ _⟩
      case round =>
        obtain ⟨k, M, out, vM, hk, rfl, hol, hMl, hHM, hgM, hIM, hOM, hpk, hrow, hKM⟩ := hrel
        by_cases hlt : k < m
        · have hM0 : Hid (0 < M.length) := by have := HML.out; have := hMl.out; unfold Hid; omega
          have hMm : Hid (M.length ≤ 1000) := by have := HLL.out; have := hMl.out; unfold Hid; omega
          obtain ⟨g, cap, rfl, hg0, hg1⟩ := heap_slice hHM.out hM0.out
          have hgW : Hid (g < W.heap.size) := hgM.out g rfl
          have hks := hKM.out.size
          have HRW : Hid (wr.ownsRow W.heap.size 38 6 u13 out.length (sixes out)) := hrow
          have HOL : Hid (out.length ≤ 40) := by have := hol.out; unfold Hid; omega
          clear hg0 hg1 hrow
          go_wp2_with fail
          refine (pop_any (w.heap.size + 1) W0.heap.size g cap M wr hM0.out hMm.out (Nat.le_trans HSZ.out hks) hHM.out hIM.out).mono ?_
          rintro e w2 ⟨rfl, M', hH2, hI2, hP2, hl2, hK2, hQ2⟩
          have hrow2 : w2.ownsRow W.heap.size 38 6 u13 out.length (sixes out) := owns_same HRW.out (fun gb hgb => by
            have h1 := HRW.out.lt gb hgb
            have h2 := HSZ.out
            have h3 := hgW.out
            exact hQ2 gb h1.2 (by omega) (by omega))
          have HKK : Hid ((out ++ [rowIn M 0]) ++ pick (m - (k + 1)) M' = KK) := by
            unfold Hid
            have hR : m - k = (m - (k + 1)) + 1 := by have := HMR.out; omega
            rw [← hpk.out, hR, pick_heap _ hIM.out hM0.out hOM.out hP2, List.append_assoc]
            rfl
          have HOM' : Hid (OneEach M') := by
            have := hOM.out.perm hP2
            unfold OneEach at this
            rw [List.map_cons, List.nodup_cons] at this
            exact this.2
          have HH2 : Hid _ := hH2
          have HI2 : Hid _ := hI2
          have HK2 : Hid (KeptBox (w.heap.size + 1) W0.heap.size W w2) := hKM.out.trans hK2
          have HL2 : Hid (M'.length + (k + 1) = L.length) := by have := hMl.out; have := hM0.out; unfold Hid; omega
          have hs22 := HK2.out.size
          generalize rowIn M 0 = X at *
          unfold rowV
          clear hH2 hI2 hK2 hQ2 hP2 hl2 hHM hIM hOM hpk hKM HRW hMl hM0 hMm hks
          go_wp2_with (first
            | (at_builtin; refine wpList_append_own_at _ rfl _ _ 31 rfl W.heap.size 38 ii (.agg #[.int .i64 0, .int .i64 0, .int .i64 0, .int .i64 0, .int .i64 0, .int .i64 0]) 6 48 uRows HJ1.out HI1.out.1 HI1.out.2.1 HI1.out.2.2 rfl (by decide) _ _ _ rfl (hrow2.alloc _) ⟨w2.heap.size, 0, none⟩ 1 1 (sixOf X) rfl rfl (cells_six_at _ X _) (sixOf_one X) ?c3 ?c4 ?c5 ?_)
            | fail)
          case c3 => have := HOL.out; unfold maxLen; omega
          case c4 => have := HOL.out; omega
          case c5 => simp; omega
          intro v' w6 hown' hgrow _ _
          have hHa := HH2.out.keep ((Below.refl _ _).alloc (Nat.le_refl _) (.cells #[.int .i64 X.trip, .int .i64 X.to, .int .i64 X.due, .int .i64 X.expect, .int .i64 X.track, .int .i64 X.state] 38))
          have HH6 : Hid (HeapAt w6 (w.heap.size + 1) W0.heap.size M' (.slice (some ⟨g, 0, none⟩) M'.length cap)) := by
            refine ⟨?_, ?_, hHa.low⟩
            · exact (hgrow.block _ hHa.box.lt (fun e => by have := (hrow2.lt _ e.symm).1; have := HSZ.out; omega)).trans hHa.box
            · refine hHa.rows.kept hgrow (Or.inr (fun e => ?_))
              have h1 := (hrow2.lt g e.symm).1
              have h2 := hgW.out
              omega
          have HK6 : Hid (KeptBox (w.heap.size + 1) W0.heap.size W w6) := (HK2.out.alloc (by have := HSZ.out; omega) _).grown hgrow (by have := HSZ.out; simp; omega) (owns_mono (hrow2.alloc _) HSZ.out)
          have HR6 : Hid (w6.ownsRow W.heap.size 38 6 v' (out ++ [X]).length (sixes (out ++ [X]))) := by
            unfold Hid; rw [sixes_snoc, List.length_append]; exact hown'
          clear hown' hgrow hrow2 hHa
          go_wp2_with fail
          go_roundw
          case rel => exact ⟨k + 1, M', out ++ [X], .slice (some ⟨g, 0, none⟩) M'.length cap, by omega, by go_num, by unfold Hid; rw [List.length_append, hol.out]; rfl, HL2, HH6, fun g' e => by cases e; exact hgW.out, HI2, HOM', HKK, HR6.out, HK6⟩
          case measure => simp [intOf]; omega
        · have HF : Hid (out = KK) := by
            have h1 : k = m := by omega
            unfold Hid
            rw [← hpk.out]
            rcases HMM.out with h | h
            · rw [show m - k = 0 by omega, pick, List.append_nil]
            · have : M = [] := List.length_eq_zero_iff.1 (by have := hMl.out; omega)
              rw [this, pick_nil, List.append_nil]
          have HD' : Hid (wr.heap[D]? = some (.deferred (some []))) := hKM.out.others D _ HD.out rfl
          have HRW : Hid (wr.ownsRow W.heap.size 38 6 u13 out.length (sixes out)) := hrow
          clear hrow
          go_wp2_with fail
          refine ⟨by simp, .inl ⟨_, _, rfl, run_takeDeferred HD'.out, ?_⟩⟩
          refine ⟨_, results_tmp rfl _ _ _, _, rfl, ?_, ?_⟩
          · rw [HKE.out, ← HF.out]
            exact ownsRow_putObj (owns_mono HRW.out HKW.out.size) _ HD'.out rfl
          · have h1 : Below w.heap.size w wr := HKW.out.trans ⟨hKM.out.os, hKM.out.tape, hKM.out.output, hKM.out.size, fun j h => hKM.out.block j (by omega) (by omega)⟩
            exact h1.trans (belowK_b (w := w) (Nat.le_refl _) wr D _ _ (by omega) HD'.out rfl rfl)
    · subst hmd
      generalize hLm : L.length = m at *
      have hmle : (m : Int) < (R : Int) := by omega
      have hmge : ¬ (R : Int) ≤ (m : Int) := by omega
      have hmin : ¬ (R : Int) < (m : Int) := by omega
      have HML : Hid (m ≤ L.length) := by unfold Hid; omega
      have HLL : Hid (L.length ≤ 40) := by unfold Hid; omega
      have HMM : Hid (m = R ∨ m = L.length) := by unfold Hid; omega
      have HMR : Hid (m ≤ R) := Nat.le_of_lt hle
      have HLm : Hid (L.length = m) := hLm
      clear hle hLm
      gi_wp2_with fail
      go_wp2_with fail
      go_loopw [13, 55] (fun vo i wr => ∃ (k : Nat) (M out : List RowD) (vM : Value), k ≤ m ∧ i = .int .i64 k ∧ Hid (out.length = k) ∧ Hid (M.length + k = L.length) ∧ Hid (HeapAt wr (w.heap.size + 1) W0.heap.size M vM) ∧ Hid (∀ g, vM.ownBlock = some g → g < W.heap.size) ∧ Hid (IsHeap M) ∧ Hid (OneEach M) ∧ Hid (out ++ pick (R - k) M = KK) ∧ wr.ownsRow W.heap.size 38 6 vo out.length (sixes out) ∧ Hid (KeptBox (w.heap.size + 1) W0.heap.size W wr)) (fun _ i _ => m - (intOf i).toNat)
      case atStart => exact ⟨0, L, [], _, Nat.zero_le _, rfl, rfl, rfl, HH, HOB, HHI, HP1, HPK.out.symm, World.ownsRow_nil _ _ _ _, KeptBox.refl _ _ _⟩
      case round =>
        obtain ⟨k, M, out, vM, hk, rfl, hol, hMl, hHM, hgM, hIM, hOM, hpk, hrow, hKM⟩ := hrel
        by_cases hlt : k < m
        · have hM0 : Hid (0 < M.length) := by have := HML.out; have := hMl.out; unfold Hid; omega
          have hMm : Hid (M.length ≤ 1000) := by have := HLL.out; have := hMl.out; unfold Hid; omega
          obtain ⟨g, cap, rfl, hg0, hg1⟩ := heap_slice hHM.out hM0.out
          have hgW : Hid (g < W.heap.size) := hgM.out g rfl
          have hks := hKM.out.size
          have HRW : Hid (wr.ownsRow W.heap.size 38 6 u13 out.length (sixes out)) := hrow
          have HOL : Hid (out.length ≤ 40) := by have := hol.out; unfold Hid; omega
          clear hg0 hg1 hrow
          go_wp2_with fail
          refine (pop_any (w.heap.size + 1) W0.heap.size g cap M wr hM0.out hMm.out (Nat.le_trans HSZ.out hks) hHM.out hIM.out).mono ?_
          rintro e w2 ⟨rfl, M', hH2, hI2, hP2, hl2, hK2, hQ2⟩
          have hrow2 : w2.ownsRow W.heap.size 38 6 u13 out.length (sixes out) := owns_same HRW.out (fun gb hgb => by
            have h1 := HRW.out.lt gb hgb
            have h2 := HSZ.out
            have h3 := hgW.out
            exact hQ2 gb h1.2 (by omega) (by omega))
          have HKK : Hid ((out ++ [rowIn M 0]) ++ pick (R - (k + 1)) M' = KK) := by
            unfold Hid
            have hR : R - k = (R - (k + 1)) + 1 := by have := HMR.out; omega
            rw [← hpk.out, hR, pick_heap _ hIM.out hM0.out hOM.out hP2, List.append_assoc]
            rfl
          have HOM' : Hid (OneEach M') := by
            have := hOM.out.perm hP2
            unfold OneEach at this
            rw [List.map_cons, List.nodup_cons] at this
            exact this.2
          have HH2 : Hid _ := hH2
          have HI2 : Hid _ := hI2
          have HK2 : Hid (KeptBox (w.heap.size + 1) W0.heap.size W w2) := hKM.out.trans hK2
          have HL2 : Hid (M'.length + (k + 1) = L.length) := by have := hMl.out; have := hM0.out; unfold Hid; omega
          have hs22 := HK2.out.size
          generalize rowIn M 0 = X at *
          unfold rowV
          clear hH2 hI2 hK2 hQ2 hP2 hl2 hHM hIM hOM hpk hKM HRW hMl hM0 hMm hks
          go_wp2_with (first
            | (at_builtin; refine wpList_append_own_at _ rfl _ _ 31 rfl W.heap.size 38 ii (.agg #[.int .i64 0, .int .i64 0, .int .i64 0, .int .i64 0, .int .i64 0, .int .i64 0]) 6 48 uRows HJ1.out HI1.out.1 HI1.out.2.1 HI1.out.2.2 rfl (by decide) _ _ _ rfl (hrow2.alloc _) ⟨w2.heap.size, 0, none⟩ 1 1 (sixOf X) rfl rfl (cells_six_at _ X _) (sixOf_one X) ?c3 ?c4 ?c5 ?_)
            | fail)
          case c3 => have := HOL.out; unfold maxLen; omega
          case c4 => have := HOL.out; omega
          case c5 => simp; omega
          intro v' w6 hown' hgrow _ _
          have hHa := HH2.out.keep ((Below.refl _ _).alloc (Nat.le_refl _) (.cells #[.int .i64 X.trip, .int .i64 X.to, .int .i64 X.due, .int .i64 X.expect, .int .i64 X.track, .int .i64 X.state] 38))
          have HH6 : Hid (HeapAt w6 (w.heap.size + 1) W0.heap.size M' (.slice (some ⟨g, 0, none⟩) M'.length cap)) := by
            refine ⟨?_, ?_, hHa.low⟩
            · exact (hgrow.block _ hHa.box.lt (fun e => by have := (hrow2.lt _ e.symm).1; have := HSZ.out; omega)).trans hHa.box
            · refine hHa.rows.kept hgrow (Or.inr (fun e => ?_))
              have h1 := (hrow2.lt g e.symm).1
              have h2 := hgW.out
              omega
          have HK6 : Hid (KeptBox (w.heap.size + 1) W0.heap.size W w6) := (HK2.out.alloc (by have := HSZ.out; omega) _).grown hgrow (by have := HSZ.out; simp; omega) (owns_mono (hrow2.alloc _) HSZ.out)
          have HR6 : Hid (w6.ownsRow W.heap.size 38 6 v' (out ++ [X]).length (sixes (out ++ [X]))) := by
            unfold Hid; rw [sixes_snoc, List.length_append]; exact hown'
          clear hown' hgrow hrow2 hHa
          go_wp2_with fail
          go_roundw
          case rel => exact ⟨k + 1, M', out ++ [X], .slice (some ⟨g, 0, none⟩) M'.length cap, by omega, by go_num, by unfold Hid; rw [List.length_append, hol.out]; rfl, HL2, HH6, fun g' e => by cases e; exact hgW.out, HI2, HOM', HKK, HR6.out, HK6⟩
          case measure => simp [intOf]; omega
        · have HF : Hid (out = KK) := by
            have h1 : k = m := by omega
            unfold Hid
            rw [← hpk.out]
            rcases HMM.out with h | h
            · rw [show R - k = 0 by omega, pick, List.append_nil]
            · have : M = [] := List.length_eq_zero_iff.1 (by have := hMl.out; have := HLm.out; omega)
              rw [this, pick_nil, List.append_nil]
          have HD' : Hid (wr.heap[D]? = some (.deferred (some []))) := hKM.out.others D _ HD.out rfl
          have HRW : Hid (wr.ownsRow W.heap.size 38 6 u13 out.length (sixes out)) := hrow
          clear hrow
          go_wp2_with fail
          refine ⟨by simp, .inl ⟨_, _, rfl, run_takeDeferred HD'.out, ?_⟩⟩
          refine ⟨_, results_tmp rfl _ _ _, _, rfl, ?_, ?_⟩
          · rw [HKE.out, ← HF.out]
            exact ownsRow_putObj (owns_mono HRW.out HKW.out.size) _ HD'.out rfl
          · have h1 : Below w.heap.size w wr := HKW.out.trans ⟨hKM.out.os, hKM.out.tape, hKM.out.output, hKM.out.size, fun j h => hKM.out.block j (by omega) (by omega)⟩
            exact h1.trans (belowK_b (w := w) (Nat.le_refl _) wr D _ _ (by omega) HD'.out rfl rfl)

end Go.Proofs.YtjioingdpfgadaaDoor
namespace Go.Proofs.YtjioingdpfgadaaDoor
open Go Go.RowKit Go.Deep

set_option maxRecDepth 100000 in
set_option maxHeartbeats 1000000 in
theorem implBoard_no0 (bk : BookD) (sa : Option Addr) (sc : Nat) (ta : Option Addr) (tc : Nat) (ra : Option Addr) (rc n : Nat) (s tick rows : Int) (w : World)  (hc : s < 0) :
    Calls Tryd.prog 14 #[.agg #[.slice sa bk.sts.length sc, .slice ta bk.trips.length tc], .slice ra n rc, .int .i64 s, .int .i64 tick, .int .i64 rows] w fun e w' => e = .returned (.slice none 0 0) ∧ Below w.heap.size w w' := by
  have hb0 : Below w.heap.size w (w.alloc (.cells #[.slice sa bk.sts.length sc, .slice ta bk.trips.length tc] 26)) := (Below.refl _ _).alloc (Nat.le_refl _) _
  go_enter Tryd.func14, Tryd.ntmps14
  go_wp2_with fail
  go_ret
  exact ⟨rfl, hb0⟩

set_option maxRecDepth 100000 in
set_option maxHeartbeats 1000000 in
theorem implBoard_no1 (bk : BookD) (sa : Option Addr) (sc : Nat) (ta : Option Addr) (tc : Nat) (ra : Option Addr) (rc n : Nat) (s tick rows : Int) (w : World) (h0 : 0 ≤ s) (hc : (bk.sts.length : Int) ≤ s) :
    Calls Tryd.prog 14 #[.agg #[.slice sa bk.sts.length sc, .slice ta bk.trips.length tc], .slice ra n rc, .int .i64 s, .int .i64 tick, .int .i64 rows] w fun e w' => e = .returned (.slice none 0 0) ∧ Below w.heap.size w w' := by
  have hb0 : Below w.heap.size w (w.alloc (.cells #[.slice sa bk.sts.length sc, .slice ta bk.trips.length tc] 26)) := (Below.refl _ _).alloc (Nat.le_refl _) _
  go_enter Tryd.func14, Tryd.ntmps14
  go_wp2_with fail
  go_ret
  exact ⟨rfl, hb0⟩

set_option maxRecDepth 100000 in
set_option maxHeartbeats 1000000 in
theorem implBoard_no2 (bk : BookD) (sa : Option Addr) (sc : Nat) (ta : Option Addr) (tc : Nat) (ra : Option Addr) (rc n : Nat) (s tick rows : Int) (w : World) (h0 : 0 ≤ s) (h1 : s < (bk.sts.length : Int)) (hc : tick < 0) :
    Calls Tryd.prog 14 #[.agg #[.slice sa bk.sts.length sc, .slice ta bk.trips.length tc], .slice ra n rc, .int .i64 s, .int .i64 tick, .int .i64 rows] w fun e w' => e = .returned (.slice none 0 0) ∧ Below w.heap.size w w' := by
  have hb0 : Below w.heap.size w (w.alloc (.cells #[.slice sa bk.sts.length sc, .slice ta bk.trips.length tc] 26)) := (Below.refl _ _).alloc (Nat.le_refl _) _
  go_enter Tryd.func14, Tryd.ntmps14
  go_wp2_with fail
  go_ret
  exact ⟨rfl, hb0⟩

set_option maxRecDepth 100000 in
set_option maxHeartbeats 1000000 in
theorem implBoard_no3 (bk : BookD) (sa : Option Addr) (sc : Nat) (ta : Option Addr) (tc : Nat) (ra : Option Addr) (rc n : Nat) (s tick rows : Int) (w : World) (h0 : 0 ≤ s) (h1 : s < (bk.sts.length : Int)) (h2 : 0 ≤ tick) (hc : 1000000 < tick) :
    Calls Tryd.prog 14 #[.agg #[.slice sa bk.sts.length sc, .slice ta bk.trips.length tc], .slice ra n rc, .int .i64 s, .int .i64 tick, .int .i64 rows] w fun e w' => e = .returned (.slice none 0 0) ∧ Below w.heap.size w w' := by
  have hb0 : Below w.heap.size w (w.alloc (.cells #[.slice sa bk.sts.length sc, .slice ta bk.trips.length tc] 26)) := (Below.refl _ _).alloc (Nat.le_refl _) _
  go_enter Tryd.func14, Tryd.ntmps14
  go_wp2_with fail
  go_ret
  exact ⟨rfl, hb0⟩

set_option maxRecDepth 100000 in
set_option maxHeartbeats 1000000 in
theorem implBoard_no4 (bk : BookD) (sa : Option Addr) (sc : Nat) (ta : Option Addr) (tc : Nat) (ra : Option Addr) (rc n : Nat) (s tick rows : Int) (w : World) (h0 : 0 ≤ s) (h1 : s < (bk.sts.length : Int)) (h2 : 0 ≤ tick) (h3 : tick ≤ 1000000) (hc : rows < 0) :
    Calls Tryd.prog 14 #[.agg #[.slice sa bk.sts.length sc, .slice ta bk.trips.length tc], .slice ra n rc, .int .i64 s, .int .i64 tick, .int .i64 rows] w fun e w' => e = .returned (.slice none 0 0) ∧ Below w.heap.size w w' := by
  have hb0 : Below w.heap.size w (w.alloc (.cells #[.slice sa bk.sts.length sc, .slice ta bk.trips.length tc] 26)) := (Below.refl _ _).alloc (Nat.le_refl _) _
  go_enter Tryd.func14, Tryd.ntmps14
  go_wp2_with fail
  go_ret
  exact ⟨rfl, hb0⟩

set_option maxRecDepth 100000 in
set_option maxHeartbeats 1000000 in
theorem implBoard_no5 (bk : BookD) (sa : Option Addr) (sc : Nat) (ta : Option Addr) (tc : Nat) (ra : Option Addr) (rc n : Nat) (s tick rows : Int) (w : World) (h0 : 0 ≤ s) (h1 : s < (bk.sts.length : Int)) (h2 : 0 ≤ tick) (h3 : tick ≤ 1000000) (h4 : 0 ≤ rows) (hc : 40 < rows) :
    Calls Tryd.prog 14 #[.agg #[.slice sa bk.sts.length sc, .slice ta bk.trips.length tc], .slice ra n rc, .int .i64 s, .int .i64 tick, .int .i64 rows] w fun e w' => e = .returned (.slice none 0 0) ∧ Below w.heap.size w w' := by
  have hb0 : Below w.heap.size w (w.alloc (.cells #[.slice sa bk.sts.length sc, .slice ta bk.trips.length tc] 26)) := (Below.refl _ _).alloc (Nat.le_refl _) _
  go_enter Tryd.func14, Tryd.ntmps14
  go_wp2_with fail
  go_ret
  exact ⟨rfl, hb0⟩

theorem implBoard_any (v : Value) (bk : BookD) (ra : Option Addr) (rc : Nat) (rs : List RepD) (s tick rows : Int) (w : World) (hn : bookSize bk ≤ 1048576) (hm : rs.length ≤ 1048576) (hwf : ∀ t ∈ bk.trips, ∀ i (h : i < t.calls.length), (Lit.int .i64 t.calls[i].st).wf = true) (hsw : (Lit.int .i64 s).wf = true) (hat : BookAt w v bk) (hra : RepsAt w ra rs) (hev : ErrVars w) :
    Calls Tryd.prog 14 #[v, .slice ra rs.length rc, .int .i64 s, .int .i64 tick, .int .i64 rows] w fun e w' => ∃ v', e = .returned v' ∧ w'.ownsRow w.heap.size 38 6 v' (boardD bk rs s tick rows).length (sixes (boardD bk rs s tick rows)) ∧ Below w.heap.size w w' := by
  have hat0 := hat
  obtain ⟨sa, sc, ta, tc, rfl, _, _⟩ := hat
  have hno : ∀ {e : Ending} {w' : World}, ¬ (reportsB bk rs = true ∧ (0 ≤ s ∧ s < bk.sts.length) ∧ (0 ≤ tick ∧ tick ≤ 1000000) ∧ (0 ≤ rows ∧ rows ≤ 40)) → (e = .returned (.slice none 0 0) ∧ Below w.heap.size w w') → ∃ v', e = .returned v' ∧ w'.ownsRow w.heap.size 38 6 v' (boardD bk rs s tick rows).length (sixes (boardD bk rs s tick rows)) ∧ Below w.heap.size w w' := fun h ⟨h1, h2⟩ => ⟨_, h1, by rw [boardD_no h]; exact World.ownsRow_nil _ _ _ _, h2⟩
  by_cases a1 : s < 0
  · exact (implBoard_no0 bk sa sc ta tc ra rc _ s tick rows w a1).mono fun _ _ h => hno (by omega) h
  by_cases a2 : (bk.sts.length : Int) ≤ s
  · exact (implBoard_no1 bk sa sc ta tc ra rc _ s tick rows w (by omega) a2).mono fun _ _ h => hno (by omega) h
  by_cases a3 : tick < 0
  · exact (implBoard_no2 bk sa sc ta tc ra rc _ s tick rows w (by omega) (by omega) a3).mono fun _ _ h => hno (by omega) h
  by_cases a4 : 1000000 < tick
  · exact (implBoard_no3 bk sa sc ta tc ra rc _ s tick rows w (by omega) (by omega) (by omega) a4).mono fun _ _ h => hno (by omega) h
  by_cases a5 : rows < 0
  · exact (implBoard_no4 bk sa sc ta tc ra rc _ s tick rows w (by omega) (by omega) (by omega) (by omega) a5).mono fun _ _ h => hno (by omega) h
  by_cases a6 : 40 < rows
  · exact (implBoard_no5 bk sa sc ta tc ra rc _ s tick rows w (by omega) (by omega) (by omega) (by omega) (by omega) a6).mono fun _ _ h => hno (by omega) h
  exact implBoard_yes bk sa sc ta tc ra rc rs s tick rows w hn hm hwf hsw hat0 hra hev ⟨by omega, by omega⟩ ⟨by omega, by omega⟩ ⟨by omega, by omega⟩

end Go.Proofs.YtjioingdpfgadaaDoor
