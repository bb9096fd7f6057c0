import Derived.Test.YtjioingdpfgadaaDoorProg
import Derived.Test.YtjioingdpfgadaaDoorNamesM
import Derived.Test.YtjioingdpfgadaaDoorToM
import Derived.Test.YtjioingdpfgadaaDoorArrM
import Derived.Test.YtjioingdpfgadaaDoorSzM
namespace Go.Proofs.YtjioingdpfgadaaDoor
open Go Go.RowKit Go.WideMaps Go.Maps Go.Deep

theorem namesOf_length (ts : List TripD) : (namesOf ts).length = ts.length := by simp [namesOf]
theorem namesOf_get (ts : List TripD) (i : Nat) (h : i < (namesOf ts).length) : (namesOf ts)[i] = (ts[i]'(by rw [namesOf_length] at h; exact h)).name := by simp [namesOf]

set_option maxHeartbeats 1000000 in
theorem tripNames_any (a : Option Addr) (ts : List TripD) (c : Nat) (w : World) (hn : ts.length ≤ 1048576) (hat : TripsAt w a ts) :
    Calls Tryd.prog 104 #[.slice a ts.length c] w fun e w' => ∃ b, e = .returned (.slice (some ⟨b, 0, none⟩) (namesOf ts).length (namesOf ts).length) ∧ StrsAt w' (some ⟨b, 0, none⟩) (namesOf ts) ∧ Below w.heap.size w w' := by
  have hmk := run_make_wide 23 9 (.string ByteArray.empty) 1 16 u22 info9 .i64 .i64 ts.length (by omega) (by omega)
  obtain ⟨f0, hf0⟩ := rowIs_wide w #[.string ByteArray.empty] (ts.length * 1) 9
  go_enter Tryd.func104, Tryd.ntmps104
  go_wp2
  go_loopw [11] (fun i wr => ∃ k : Nat, k ≤ ts.length ∧ i = .int .i64 k ∧ (∃ f, wr.rowIs w.heap.size 9 ts.length f ∧ ∀ j (_ : j < k) (h : j < ts.length), f j = .string ts[j].name) ∧ Below w.heap.size w wr) (fun i _ => ts.length - (intOf i).toNat)
  case atStart =>
    rw [Nat.mul_one] at hf0
    exact ⟨0, Nat.zero_le _, rfl, ⟨f0, by simpa using hf0, fun j hj => by omega⟩, (Below.refl _ _).alloc (Nat.le_refl _) _⟩
  case round =>
    obtain ⟨k, hk, rfl, ⟨f, hrow, hf⟩, hbel⟩ := hrel
    clear hf0
    by_cases hlt : k < ts.length
    · obtain ⟨b, o, ca, cc, rfl, hc0, hc1, _⟩ := hat.keep hbel k hlt
      have hrl := hrow.lt
      have hfr := hrow.frozen k
      have hce := hrow.cell hlt
      have H : Hid (∀ j (_ : j < k) (h : j < ts.length), f j = .string ts[j].name) := hf
      clear hmk hat hf
      go_wp2
      go_roundw
      case rel =>
        refine ⟨k + 1, by omega, by go_num, ⟨_, (hrow.set k _).alloc _, fun j hj h => ?_⟩, (hbel.setCell (Nat.le_refl _) _).alloc (by have := hbel.size; simpa [World.setCell] using this) _⟩
        by_cases e : j = k
        · subst e; rw [if_pos rfl]
        · rw [if_neg e]; exact H.out j (by omega) h
      case measure => simp [intOf]; omega
    · go_wp2
      go_ret
      refine ⟨w.heap.size, by rw [namesOf_length]; rfl, fun i hi => ⟨_, _, rfl, ?_⟩, hbel⟩
      have hi' : i < ts.length := by rw [namesOf_length] at hi; exact hi
      rw [Nat.zero_add, hrow.cell hi', hf i (by omega) hi', namesOf_get]

set_option maxRecDepth 100000 in
set_option maxHeartbeats 1000000 in
theorem checkTrips_any (v : Value) (bk : BookD) (w : World) (hn : bookSize bk ≤ 1048576) (hwf : ∀ t ∈ bk.trips, ∀ i (h : i < t.calls.length), (Lit.int .i64 t.calls[i].st).wf = true) (hat : BookAt w v bk) (hev : ErrVars w) :
    Calls Tryd.prog 103 #[v] w fun e w' => FaultIs 3 (firstIdx (badTrip bk.sts.length bk.trips) bk.trips.length) e ∧ Below w.heap.size w w' := by
  obtain ⟨sa, sc, ta, tc, rfl, hsa, hta⟩ := hat
  have n1 : bk.sts.length ≤ 1048576 := by unfold bookSize strsSize at hn; omega
  have n2 : bk.trips.length ≤ 1048576 := by unfold bookSize tripsSize at hn; omega
  have n3 : ∀ i (h : i < bk.trips.length), bk.trips[i].name.size ≤ 1048576 ∧ bk.trips[i].calls.length ≤ 1048576 := by
    intro i h
    have := sumTrips_get bk.trips i h
    unfold bookSize tripsSize at hn; unfold tripSize at this; omega
  have hb0 := box_below w (.cells #[.slice sa bk.sts.length sc, .slice ta bk.trips.length tc] 26)
  clear hn hsa
  go_enter Tryd.func103, Tryd.ntmps103
  go_wp2
  go_loopw [9] (fun i wr => ∃ k : Nat, k ≤ bk.trips.length ∧ i = .int .i64 k ∧ Hid (∀ j, j < k → badTrip bk.sts.length bk.trips j = false) ∧ Below (w.heap.size + 1) (w.alloc (.cells #[.slice sa bk.sts.length sc, .slice ta bk.trips.length tc] 26)) wr) (fun i _ => bk.trips.length - (intOf i).toNat)
  case atStart => exact ⟨0, Nat.zero_le _, rfl, fun j hj => by omega, Below.refl _ _⟩
  case round =>
    obtain ⟨k, hk, rfl, hgood, hbel⟩ := hrel
    have hB : Below w.heap.size w wr := hb0.trans (hbel.mono (by omega))
    have hz := hbel.size
    simp at hz
    have hz' : w.heap.size < wr.heap.size := by omega
    obtain ⟨q0, q1⟩ := box_cell _ _ _ _ _ hbel
    by_cases hlt : k < bk.trips.length
    · obtain ⟨b, o, ca, cc, rfl, hc0, hc1, hca⟩ := hta.keep hB k hlt
      have HW : Hid (∀ i (h : i < bk.trips[k].calls.length), (Lit.int .i64 bk.trips[k].calls[i].st).wf = true) := hwf _ (List.getElem_mem hlt)
      obtain ⟨s1, s2⟩ := n3 k hlt
      have HA : Hid (badTrip bk.sts.length bk.trips k = !tripB bk.sts.length bk.trips[k]) := badTrip_at _ _ k hlt
      have HC : Hid (CallsAt wr ca bk.trips[k].calls) := hca
      have HE : Hid (ErrVars wr) := hev.keep hB
      generalize bk.trips[k] = t at *
      clear hta hev hwf n3 hca
      cases htb : tripB bk.sts.length t
      · have HT : Hid (tripB bk.sts.length t = false) := htb
        clear htb
        go_wp2_with fail
        refine (checkTrip_any t _ _ _ _ s1 s2 HW.out (by exact HC.out.keep (box_below _ _)) (by exact HE.out.keep (box_below _ _))).mono ?_
        rintro e w1 ⟨he, hb1⟩
        rw [HT.out] at he
        obtain ⟨x, rfl⟩ := he
        go_wp2_with fail
        go_ret
        refine ⟨?_, (hB.alloc hB.size _).trans (hb1.mono (by have := hB.size; simp; omega))⟩
        rw [first_some (k := k) hlt (by rw [HA.out, HT.out]; rfl) hgood.out]
        exact ⟨_, rfl, rfl⟩
      · have HT : Hid (tripB bk.sts.length t = true) := htb
        clear htb
        go_wp2_with fail
        refine (checkTrip_any t _ _ _ _ s1 s2 HW.out (by exact HC.out.keep (box_below _ _)) (by exact HE.out.keep (box_below _ _))).mono ?_
        rintro e w1 ⟨he, hb1⟩
        rw [HT.out] at he
        obtain rfl : e = .returned .nilIface := he
        go_wp2_with fail
        go_roundw
        case rel =>
          refine ⟨k + 1, by omega, by go_num, fun j hj => ?_, (hbel.alloc (by omega) _).trans (hb1.mono (by simp; omega))⟩
          by_cases e : j = k
          · subst e; rw [HA.out, HT.out]; rfl
          · exact hgood.out j (by omega)
        case measure => simp [intOf]; omega
    · go_wp2
      go_ret
      refine ⟨?_, hB⟩
      rw [first_none (fun j hj => hgood.out j (by omega))]
      rfl

/-- What checkBook hands back: nil when nothing is wrong, else the fault. -/
def BookErr (f : Int × Int) (e : Ending) : Prop :=
  (f = (0, 0) ∧ e = .returned .nilIface) ∨ (f.1 ≠ 0 ∧ ∃ z, Value.oneCell' z = true ∧ e = .returned (.iface 126 (.agg #[.int .i64 f.1, .int .i64 f.2, z])))

set_option maxRecDepth 100000 in
set_option maxHeartbeats 2000000 in
theorem checkBook_any (v : Value) (bk : BookD) (w : World) (hn : bookSize bk ≤ 1048576) (hwf : ∀ t ∈ bk.trips, ∀ i (h : i < t.calls.length), (Lit.int .i64 t.calls[i].st).wf = true) (hat : BookAt w v bk) (hev : ErrVars w) :
    Calls Tryd.prog 64 #[v] w fun e w' => BookErr (faultD bk) e ∧ Below w.heap.size w w' := by
  obtain ⟨sa, sc, ta, tc, rfl, hsa, hta⟩ := hat
  have n1 : bk.sts.length ≤ 1048576 := by unfold bookSize strsSize at hn; omega
  have n2 : bk.trips.length ≤ 1048576 := by unfold bookSize tripsSize at hn; omega
  have n3 : ∀ i (h : i < (namesOf bk.trips).length), (namesOf bk.trips)[i].size ≤ 1048576 := by
    intro i h
    have h' : i < bk.trips.length := by rw [namesOf_length] at h; exact h
    have := sumTrips_get bk.trips i h'
    rw [namesOf_get]
    unfold bookSize tripsSize at hn; unfold tripSize at this; omega
  have n4 : ∀ i (h : i < bk.sts.length), bk.sts[i].size ≤ 1048576 := by
    intro i h
    have := sumSizes_get bk.sts i h
    unfold bookSize strsSize at hn; omega
  have hb0 := box_below w (.cells #[.slice sa bk.sts.length sc, .slice ta bk.trips.length tc] 26)
  by_cases g1 : 30 < bk.sts.length
  · have HF : Hid (faultD bk = (1, 0)) := faultD_1 (Or.inl g1)
    obtain ⟨x1, h1⟩ := (hev.keep hb0).tooMany
    clear hev hsa hta n3 n4 hwf hn
    go_enter Tryd.func64, Tryd.ntmps64
    go_wp2_with fail
    go_ret
    refine ⟨?_, hb0⟩
    rw [HF.out]
    exact Or.inr ⟨by simp, _, rfl, rfl⟩
  · by_cases g2 : 40 < bk.trips.length
    · have HF : Hid (faultD bk = (1, 0)) := faultD_1 (Or.inr g2)
      obtain ⟨x1, h1⟩ := (hev.keep hb0).tooMany
      clear hev hsa hta n3 n4 hwf hn
      go_enter Tryd.func64, Tryd.ntmps64
      go_wp2_with fail
      go_ret
      refine ⟨?_, hb0⟩
      rw [HF.out]
      exact Or.inr ⟨by simp, _, rfl, rfl⟩
    · have HF : Hid (faultD bk = fault2 bk) := faultD_2 (by omega)
      have HN3 : Hid (∀ i (h : i < (namesOf bk.trips).length), (namesOf bk.trips)[i].size ≤ 1048576) := n3
      have HN4 : Hid (∀ i (h : i < bk.sts.length), bk.sts[i].size ≤ 1048576) := n4
      have HWF : Hid (∀ t ∈ bk.trips, ∀ i (h : i < t.calls.length), (Lit.int .i64 t.calls[i].st).wf = true) := hwf
      clear n3 n4 hwf
      go_enter Tryd.func64, Tryd.ntmps64
      go_wp2_with fail
      refine (checkNames_any _ _ _ _ _ n1 HN4.out (by exact hsa.keep hb0) (by exact hev.keep hb0)).mono ?_
      rintro e w1 ⟨he, hb1⟩
      have hB1 : Below w.heap.size w w1 := hb0.trans (hb1.mono (by simp))
      cases hf1 : firstIdx (badName bk.sts) bk.sts.length with
      | some i =>
        rw [hf1] at he
        obtain ⟨z, hz, rfl⟩ := he
        have HF2 : Hid (faultD bk = (2, (i : Int))) := by unfold Hid; rw [HF.out, fault2_some hf1]
        clear hf1
        go_wp2_with fail
        go_ret
        refine ⟨?_, hB1⟩
        rw [HF2.out]
        exact Or.inr ⟨by simp, z, hz, rfl⟩
      | none =>
        rw [hf1] at he
        obtain rfl : e = .returned .nilIface := he
        have HF2 : Hid (faultD bk = fault3 bk) := by unfold Hid; rw [HF.out, fault2_none hf1]
        clear hf1 HF
        obtain ⟨q0, q1⟩ := box_cell w (.slice sa bk.sts.length sc) (.slice ta bk.trips.length tc) 26 w1 (hb1.mono (by simp))
        go_wp2_with fail
        refine (checkTrips_any _ bk _ hn HWF.out (by exact ⟨sa, sc, ta, tc, rfl, hsa.keep hB1, hta.keep hB1⟩) (by exact hev.keep hB1)).mono ?_
        rintro e w2 ⟨he, hb2⟩
        have hB2 : Below w.heap.size w w2 := hB1.trans (hb2.mono hB1.size)
        cases hf1 : firstIdx (badTrip bk.sts.length bk.trips) bk.trips.length with
        | some i =>
          rw [hf1] at he
          obtain ⟨z, hz, rfl⟩ := he
          have HF3 : Hid (faultD bk = (3, (i : Int))) := by unfold Hid; rw [HF2.out, fault3_some hf1]
          clear hf1
          go_wp2_with fail
          go_ret
          refine ⟨?_, hB2⟩
          rw [HF3.out]
          exact Or.inr ⟨by simp, z, hz, rfl⟩
        | none =>
          rw [hf1] at he
          obtain rfl : e = .returned .nilIface := he
          have HF3 : Hid (faultD bk = fault4 bk) := by unfold Hid; rw [HF2.out, fault3_none hf1]
          clear hf1 HF2
          have p1 := cell_keep hb2 q1
          go_wp2_with fail
          refine (tripNames_any _ _ _ _ n2 (by exact hta.keep hB2)).mono ?_
          rintro e w3 ⟨b3, rfl, hat3, hb3⟩
          have hB3 : Below w.heap.size w w3 := hB2.trans (hb3.mono hB2.size)
          have n5 : (namesOf bk.trips).length ≤ 1048576 := by rw [namesOf_length]; exact n2
          go_wp2_with fail
          refine (checkNames_any _ _ _ _ _ n5 HN3.out (by exact hat3) (by exact hev.keep hB3)).mono ?_
          rintro e w4 ⟨he, hb4⟩
          have hB4 : Below w.heap.size w w4 := hB3.trans (hb4.mono hB3.size)
          rw [namesOf_length] at he
          cases hf1 : firstIdx (badName (namesOf bk.trips)) bk.trips.length with
          | some i =>
            rw [hf1] at he
            obtain ⟨z, hz, rfl⟩ := he
            have HF4 : Hid (faultD bk = (4, (i : Int))) := by unfold Hid; rw [HF3.out, fault4_some hf1]
            clear hf1
            go_wp2_with fail
            go_ret
            refine ⟨?_, hB4⟩
            rw [HF4.out]
            exact Or.inr ⟨by simp, z, hz, rfl⟩
          | none =>
            rw [hf1] at he
            obtain rfl : e = .returned .nilIface := he
            have HF4 : Hid (faultD bk = (0, 0)) := by unfold Hid; rw [HF3.out, fault4_none hf1]
            clear hf1
            go_wp2_with fail
            go_ret
            refine ⟨?_, hB4⟩
            rw [HF4.out]
            exact Or.inl ⟨rfl, rfl⟩

end Go.Proofs.YtjioingdpfgadaaDoor
namespace Go.Proofs.YtjioingdpfgadaaDoor
open Go Go.RowKit Go.Deep

theorem rowIs_triple (w : World) (x y z : Value) (t : TypeId) : (w.alloc (.cells #[x, y, z] t)).rowIs w.heap.size t 3 (fun i => if i = 0 then x else if i = 1 then y else z) :=
  ⟨_, blk_alloc_new _ _, rfl, fun i hi => by
    match i, hi with
    | 0, _ => rfl
    | 1, _ => rfl
    | 2, _ => rfl⟩

set_option maxRecDepth 100000 in
set_option maxHeartbeats 2000000 in
theorem implBookOk_any (v : Value) (bk : BookD) (w : World) (hn : bookSize bk ≤ 1048576) (hwf : ∀ t ∈ bk.trips, ∀ i (h : i < t.calls.length), (Lit.int .i64 t.calls[i].st).wf = true) (hat : BookAt w v bk) (hev : ErrVars w) :
    Calls Tryd.prog 26 #[v] w fun e w' => e = .returned (.agg #[.int .i64 (faultD bk).1, .int .i64 (faultD bk).2]) ∧ Below w.heap.size w w' := by
  obtain ⟨sa, sc, ta, tc, rfl, hsa, hta⟩ := hat
  have hb0 : Below w.heap.size w (((w.alloc (.cells #[.slice sa bk.sts.length sc, .slice ta bk.trips.length tc] 26)).alloc (.cells #[.int .i64 0, .int .i64 0] 59)).alloc (.cells #[.int .i64 0, .int .i64 0, .nilIface] 126)) := (((Below.refl _ _).alloc (Nat.le_refl _) _).alloc (by simp) _).alloc (by simp; omega) _
  have HWF : Hid (∀ t ∈ bk.trips, ∀ i (h : i < t.calls.length), (Lit.int .i64 t.calls[i].st).wf = true) := hwf
  clear hwf
  go_enter Tryd.func26, Tryd.ntmps26
  go_wp2_with fail
  refine (checkBook_any _ bk _ hn HWF.out (by exact ⟨sa, sc, ta, tc, rfl, hsa.keep hb0, hta.keep hb0⟩) (by exact hev.keep hb0)).mono ?_
  rintro e w1 ⟨he, hb1⟩
  have hB1 : Below w.heap.size w w1 := hb0.trans (hb1.mono (by simp; omega))
  have hz : w.heap.size + 1 + 1 + 1 ≤ w1.heap.size := by have := hb1.size; simpa using this
  have r0 : w1.cell? ⟨w.heap.size + 1, 0, none⟩ = some (.int .i64 0) := by
    rw [hb1.cell (p := ⟨w.heap.size + 1, 0, none⟩) (by simp)]; simp [go_sem]
  have r1 : w1.cell? ⟨w.heap.size + 1, 1, none⟩ = some (.int .i64 0) := by
    rw [hb1.cell (p := ⟨w.heap.size + 1, 1, none⟩) (by simp)]; simp [go_sem]
  have fr : ∀ o, w1.frozen? ⟨w.heap.size + 1, o, none⟩ = false := by
    intro o
    rw [hb1.frozen (p := ⟨w.heap.size + 1, o, none⟩) (by simp)]; simp [go_sem]
  have s0 : w1.cell? ⟨w.heap.size + 1 + 1, 0, none⟩ = some (.int .i64 0) := by
    rw [hb1.cell (p := ⟨w.heap.size + 1 + 1, 0, none⟩) (by simp)]; simp [go_sem]
  have s1 : w1.cell? ⟨w.heap.size + 1 + 1, 1, none⟩ = some (.int .i64 0) := by
    rw [hb1.cell (p := ⟨w.heap.size + 1 + 1, 1, none⟩) (by simp)]; simp [go_sem]
  have s2 : w1.cell? ⟨w.heap.size + 1 + 1, 2, none⟩ = some .nilIface := by
    rw [hb1.cell (p := ⟨w.heap.size + 1 + 1, 2, none⟩) (by simp)]; simp [go_sem]
  have fs : ∀ o, w1.frozen? ⟨w.heap.size + 1 + 1, o, none⟩ = false := by
    intro o
    rw [hb1.frozen (p := ⟨w.heap.size + 1 + 1, o, none⟩) (by simp)]; simp [go_sem]
  have hty := (hev.keep hB1).type
  have rr : w1.rowIs (w.heap.size + 1 + 1) 126 3 (fun i => if i = 0 then .int .i64 0 else if i = 1 then .int .i64 0 else .nilIface) := by
    refine World.rowIs.of_block ?_ (hb1.block _ (by simp))
    have h := rowIs_triple ((w.alloc (.cells #[.slice sa bk.sts.length sc, .slice ta bk.trips.length tc] 26)).alloc (.cells #[.int .i64 0, .int .i64 0] 59)) (.int .i64 0) (.int .i64 0) .nilIface 126
    rwa [nblk_alloc, nblk_alloc] at h
  have RR : Hid (w1.rowIs (w.heap.size + 1 + 1) 126 3 (fun i => if i = 0 then .int .i64 0 else if i = 1 then .int .i64 0 else .nilIface)) := rr
  clear rr
  generalize hf : faultD bk = f at *
  have HFF : Hid (faultD bk = f) := hf
  clear hf
  rcases he with ⟨rfl, rfl⟩ | ⟨hne, z, cz, rfl⟩
  · clear hb1 hb0 hsa hta hev hty
    go_wp2_with fail
    refine (as_nil _ _).mono ?_
    rintro e w2 ⟨rfl, rfl⟩
    go_wp2_with fail
    exact bodyPost_ret (v := .agg #[.int .i64 0, .int .i64 0]) (by simp [results, Tryd.results26, go_sem, r0, r1]) rfl ⟨by rw [HFF.out], (hB1.setCell (by simp) _).setCell (by simp) _⟩
  · clear hb1 hb0 hsa hta hev
    go_wp2_with fail
    refine (as_hit _ _ _ _ _ _ _ _ cz hty s0 s1 s2 fs).mono ?_
    rintro e w2 ⟨rfl, hw2⟩
    have hB2 : Below w.heap.size w w2 := by
      subst hw2
      exact ((((((((hB1.alloc hB1.size _).alloc (by have := hB1.size; simp; omega) _).alloc (by have := hB1.size; simp; omega) _).alloc (by have := hB1.size; simp; omega) _).setCell (by simp; omega) _).setCell (by simp; omega) _).setCell (by simp; omega) _))
    have hlt2 : w.heap.size + 1 < w1.heap.size := by omega
    have hlt3 : w.heap.size + 1 + 1 < w1.heap.size := by omega
    have k0 : w2.cell? ⟨w.heap.size + 1, 0, none⟩ = some (.int .i64 0) := by
      subst hw2
      rw [cell_other (by simp), cell_other (by simp), cell_other (by simp), World.cell?_alloc_lt _ _ ⟨_, 0, none⟩ (by simp; omega), World.cell?_alloc_lt _ _ ⟨_, 0, none⟩ (by simp; omega), World.cell?_alloc_lt _ _ ⟨_, 0, none⟩ (by simp; omega), World.cell?_alloc_lt _ _ ⟨_, 0, none⟩ hlt2]; exact r0
    have k1 : w2.cell? ⟨w.heap.size + 1, 1, none⟩ = some (.int .i64 0) := by
      subst hw2
      rw [cell_other (by simp), cell_other (by simp), cell_other (by simp), World.cell?_alloc_lt _ _ ⟨_, 1, none⟩ (by simp; omega), World.cell?_alloc_lt _ _ ⟨_, 1, none⟩ (by simp; omega), World.cell?_alloc_lt _ _ ⟨_, 1, none⟩ (by simp; omega), World.cell?_alloc_lt _ _ ⟨_, 1, none⟩ hlt2]; exact r1
    have kf : ∀ o, w2.frozen? ⟨w.heap.size + 1, o, none⟩ = false := by
      intro o
      subst hw2
      rw [World.frozen?_setCell, World.frozen?_setCell, World.frozen?_setCell, World.frozen?_alloc_old _ _ ⟨_, o, none⟩ (by simp; omega), World.frozen?_alloc_old _ _ ⟨_, o, none⟩ (by simp; omega), World.frozen?_alloc_old _ _ ⟨_, o, none⟩ (by simp; omega), World.frozen?_alloc_old _ _ ⟨_, o, none⟩ (Nat.ne_of_lt hlt2)]; exact fr o
    obtain ⟨m0, m1⟩ : w2.cell? ⟨w.heap.size + 1 + 1, 0, none⟩ = some (.int .i64 f.1) ∧ w2.cell? ⟨w.heap.size + 1 + 1, 1, none⟩ = some (.int .i64 f.2) := by
      subst hw2
      have r := ((((((RR.out.alloc (.cells #[.pointer (some ⟨w.heap.size + 1 + 1, 0, none⟩)] 129)).alloc (.cells #[.pointer (some ⟨12, 129, none⟩), .pointer (some ⟨w1.heap.size, 0, none⟩), .int .u64 150] 174)).alloc (.cells #[.pointer (some ⟨12, 129, none⟩), .pointer (some ⟨w1.heap.size, 0, none⟩), .int .u64 150] 174)).alloc (.cells #[.int .i64 f.1, .int .i64 f.2, z] 126)).set 0 (.int .i64 f.1)).set 1 (.int .i64 f.2)).set 2 z
      have c0 := r.cell (i := 0) (by omega)
      have c1 := r.cell (i := 1) (by omega)
      simp only [] at c0 c1
      exact ⟨by rw [c0]; rfl, by rw [c1]; rfl⟩
    clear hw2
    go_wp2_with fail
    exact bodyPost_ret (v := .agg #[.int .i64 f.1, .int .i64 f.2]) (by simp [results, Tryd.results26, go_sem, k0, k1]) rfl ⟨by rw [HFF.out], (hB2.setCell (by simp) _).setCell (by simp) _⟩

end Go.Proofs.YtjioingdpfgadaaDoor
namespace Go.Proofs.YtjioingdpfgadaaDoor
open Go Go.RowKit Go.Deep

set_option maxRecDepth 100000 in
set_option maxHeartbeats 1000000 in
theorem isRight_any (v : Value) (bk : BookD) (w : World) (hn : bookSize bk ≤ 1048576) (hwf : ∀ t ∈ bk.trips, ∀ i (h : i < t.calls.length), (Lit.int .i64 t.calls[i].st).wf = true) (hat : BookAt w v bk) (hev : ErrVars w) :
    Calls Tryd.prog 67 #[v] w fun e w' => e = .returned (.bool ((faultD bk).1 == 0)) ∧ Below w.heap.size w w' := by
  obtain ⟨sa, sc, ta, tc, rfl, hsa, hta⟩ := hat
  have hb0 := box_below w (.cells #[.slice sa bk.sts.length sc, .slice ta bk.trips.length tc] 26)
  have HBK : Hid (BookAt w (.agg #[.slice sa bk.sts.length sc, .slice ta bk.trips.length tc]) bk) := ⟨sa, sc, ta, tc, rfl, hsa, hta⟩
  have HWF : Hid (∀ t ∈ bk.trips, ∀ i (h : i < t.calls.length), (Lit.int .i64 t.calls[i].st).wf = true) := hwf
  clear hsa hta hwf
  by_cases hok : (faultD bk).1 = 0
  · have hz : Hid (faultD bk = (0, 0)) := (faultD_zero hok).1
    go_enter Tryd.func67, Tryd.ntmps67
    go_wp2_with fail
    refine (implBookOk_any _ bk _ hn HWF.out (by exact HBK.out.keep hb0) (by exact hev.keep hb0)).mono ?_
    rintro e w1 ⟨rfl, hb1⟩
    rw [hz.out]
    clear hok
    go_wp2_with fail
    go_ret
    refine ⟨ret_bool ?_, hb0.trans (hb1.mono (by simp))⟩
    rw [hz.out]; rfl
  · have hne : ((faultD bk).1 == 0) = false := by simpa using hok
    go_enter Tryd.func67, Tryd.ntmps67
    go_wp2_with fail
    refine (implBookOk_any _ bk _ hn HWF.out (by exact HBK.out.keep hb0) (by exact hev.keep hb0)).mono ?_
    rintro e w1 ⟨rfl, hb1⟩
    clear hok
    go_wp2_with fail
    go_ret
    exact ⟨ret_bool hne.symm, hb0.trans (hb1.mono (by simp))⟩

end Go.Proofs.YtjioingdpfgadaaDoor
namespace Go.Proofs.YtjioingdpfgadaaDoor
open Go Go.RowKit Go.Deep Go.WideMaps Go.Maps

set_option maxRecDepth 100000 in
set_option maxHeartbeats 1000000 in
theorem callOf_any (nm : ByteArray) (ca : Option Addr) (cc : Nat) (cs : List CallD) (s : Int) (w : World) (n4 : cs.length ≤ 1048576) (hws : (Lit.int .i64 s).wf = true) (hwf : ∀ i (h : i < cs.length), (Lit.int .i64 cs[i].st).wf = true) (hnd : (stationsOf cs).Nodup) (hca : CallsAt w ca cs) :
    Calls Tryd.prog 68 #[.agg #[.string nm, .slice ca cs.length cc], .int .i64 s] w fun e w' => e = .returned (.int .i64 (callAtC cs s)) ∧ Below w.heap.size w w' := by
  have hb0 := box_below w (.cells #[.string nm, .slice ca cs.length cc] 54)
  have HCA : Hid (CallsAt w ca cs) := hca
  have HND : Hid ((stationsOf cs).Nodup) := hnd
  have HWK : Hid (∀ i (h : i < cs.length), (Lit.int .i64 cs[i].st).wf = true) := hwf
  clear hca hnd hwf
  go_enter Tryd.func68, Tryd.ntmps68
  go_wp2_with fail
  refine (callsByStation_any _ _ _ _ n4 HWK.out (by exact HCA.out.keep hb0)).mono ?_
  rintro e w2 ⟨bm, D, rfl, hbm, hown, him, hb2⟩
  have HO : Hid (w2.ownsMap Tryd.prog 3 (plainElem Tryd.prog 3) bm cs.length D) := hown
  have HIM : Hid (IntsMap (cs.map (·.st)) D) := him
  have hB2 : Below w.heap.size w w2 := hb0.trans (hb2.mono hb0.size)
  clear hown him
  cases hh : Maps.has D (.int .i64 s)
  · have HC : Hid (callAtC cs s = -1) := callAtC_absent HIM.out hh
    go_wp2_with (at_lookup; refine wpList_lookup_own_ok_int _ rfl _ _ 187 rfl 3 3 .i64 lawI um ui (zeroI _) bm cs.length _ rfl HO.out _ _ rfl (keyOf_int_mk ui hws) ?_; intro c hat hwc; rw [hh]; clear hat hwc)
    go_ret
    exact ⟨ret_int (by rw [HC.out]), hB2⟩
  · go_wp2_with (at_lookup; refine wpList_lookup_own_ok_int _ rfl _ _ 187 rfl 3 3 .i64 lawI um ui (zeroI _) bm cs.length _ rfl HO.out _ _ rfl (keyOf_int_mk ui hws) ?_; intro c hat hwc; rw [hh]; have HC : Hid (callAtC cs s = c) := callAtC_of_map HIM.out HND.out hat hh; clear hat hwc)
    go_ret
    exact ⟨ret_int (by rw [HC.out]), hB2⟩

end Go.Proofs.YtjioingdpfgadaaDoor
