import Derived.Test.YtjioingdpfgadabGreatDoorProg
import Derived.Test.YtjioingdpfgadabGreatDoorChkC
import Derived.Test.YtjioingdpfgadabGreatDoorTo
namespace Go.Proofs.YtjioingdpfgadabGreatDoor
open Go Go.RowKit Go.WideMaps Go.Maps Go.Deep

theorem namesOf_length (ts : List TripD) : (namesOf ts).length = ts.length := by simp [namesOf]
theorem namesOf_get (ts : List TripD) (i : Nat) (h : i < (namesOf ts).length) : (namesOf ts)[i] = (ts[i]'(by rw [namesOf_length] at h; exact h)).name := by simp [namesOf]

set_option maxHeartbeats 1000000 in
theorem tripNames_any (a : Option Addr) (ts : List TripD) (c : Nat) (w : World) (hn : ts.length ≤ 1048576) (hat : TripsAt w a ts) :
    Calls Tryz.prog 120 #[.slice a ts.length c] w fun e w' => ∃ b, e = .returned (.slice (some ⟨b, 0, none⟩) (namesOf ts).length (namesOf ts).length) ∧ StrsAt w' (some ⟨b, 0, none⟩) (namesOf ts) ∧ Below w.heap.size w w' := by
  have hmk := run_make_wide 22 9 (.string ByteArray.empty) 1 16 u22 info9 .i64 .i64 ts.length (by omega) (by omega)
  obtain ⟨f0, hf0⟩ := rowIs_wide w #[.string ByteArray.empty] (ts.length * 1) 9
  go_enter Tryz.func120, Tryz.ntmps120
  go_wp2
  go_loopw [11] (fun i wr => ∃ k : Nat, k ≤ ts.length ∧ i = .int .i64 k ∧ (∃ f, wr.rowIs w.heap.size 9 ts.length f ∧ ∀ j (_ : j < k) (h : j < ts.length), f j = .string ts[j].name) ∧ Below w.heap.size w wr) (fun i _ => ts.length - (intOf i).toNat)
  case atStart =>
    rw [Nat.mul_one] at hf0
    exact ⟨0, Nat.zero_le _, rfl, ⟨f0, by simpa using hf0, fun j hj => by omega⟩, (Below.refl _ _).alloc (Nat.le_refl _) _⟩
  case round =>
    obtain ⟨k, hk, rfl, ⟨f, hrow, hf⟩, hbel⟩ := hrel
    clear hf0
    by_cases hlt : k < ts.length
    · obtain ⟨b, o, ca, cc, rfl, hc0, hc1, _⟩ := hat.keep hbel k hlt
      have hrl := hrow.lt
      have hfr := hrow.frozen k
      have hce := hrow.cell hlt
      have H : Hid (∀ j (_ : j < k) (h : j < ts.length), f j = .string ts[j].name) := hf
      clear hmk hat hf
      go_wp2
      go_roundw
      case rel =>
        refine ⟨k + 1, by omega, by go_num, ⟨_, (hrow.set k _).alloc _, fun j hj h => ?_⟩, (hbel.setCell (Nat.le_refl _) _).alloc (by have := hbel.size; simpa [World.setCell] using this) _⟩
        by_cases e : j = k
        · subst e; rw [if_pos rfl]
        · rw [if_neg e]; exact H.out j (by omega) h
      case measure => simp [intOf]; omega
    · go_wp2
      go_ret
      refine ⟨w.heap.size, by rw [namesOf_length]; rfl, fun i hi => ⟨_, _, rfl, ?_⟩, hbel⟩
      have hi' : i < ts.length := by rw [namesOf_length] at hi; exact hi
      rw [Nat.zero_add, hrow.cell hi', hf i (by omega) hi', namesOf_get]

set_option maxRecDepth 100000 in
set_option maxHeartbeats 1000000 in
theorem checkTrips_any (v : Value) (bk : BookD) (w : World) (hn : bookSize bk ≤ 1048576) (hwf : ∀ t ∈ bk.trips, ∀ i (h : i < t.calls.length), (Lit.int .i64 t.calls[i].st).wf = true) (hat : BookAt w v bk) (hev : ErrVars w) :
    Calls Tryz.prog 119 #[v] w fun e w' => FaultIs 3 (firstIdx (badTrip bk.sts.length bk.trips) bk.trips.length) e ∧ Below w.heap.size w w' := by
  obtain ⟨sa, sc, ta, tc, rfl, hsa, hta⟩ := hat
  have n1 : bk.sts.length ≤ 1048576 := by unfold bookSize strsSize at hn; omega
  have n2 : bk.trips.length ≤ 1048576 := by unfold bookSize tripsSize at hn; omega
  have n3 : ∀ i (h : i < bk.trips.length), bk.trips[i].name.size ≤ 1048576 ∧ bk.trips[i].calls.length ≤ 1048576 := by
    intro i h
    have := sumTrips_get bk.trips i h
    unfold bookSize tripsSize at hn; unfold tripSize at this; omega
  have hb0 := box_below w (.cells #[.slice sa bk.sts.length sc, .slice ta bk.trips.length tc] 33)
  clear hn hsa
  go_enter Tryz.func119, Tryz.ntmps119
  go_wp2
  go_loopw [9] (fun i wr => ∃ k : Nat, k ≤ bk.trips.length ∧ i = .int .i64 k ∧ Hid (∀ j, j < k → badTrip bk.sts.length bk.trips j = false) ∧ Below (w.heap.size + 1) (w.alloc (.cells #[.slice sa bk.sts.length sc, .slice ta bk.trips.length tc] 33)) wr) (fun i _ => bk.trips.length - (intOf i).toNat)
  case atStart => exact ⟨0, Nat.zero_le _, rfl, fun j hj => by omega, Below.refl _ _⟩
  case round =>
    obtain ⟨k, hk, rfl, hgood, hbel⟩ := hrel
    have hB : Below w.heap.size w wr := hb0.trans (hbel.mono (by omega))
    have hz := hbel.size
    simp at hz
    have hz' : w.heap.size < wr.heap.size := by omega
    obtain ⟨q0, q1⟩ := box_cell _ _ _ _ _ hbel
    by_cases hlt : k < bk.trips.length
    · obtain ⟨b, o, ca, cc, rfl, hc0, hc1, hca⟩ := hta.keep hB k hlt
      have HW : Hid (∀ i (h : i < bk.trips[k].calls.length), (Lit.int .i64 bk.trips[k].calls[i].st).wf = true) := hwf _ (List.getElem_mem hlt)
      obtain ⟨s1, s2⟩ := n3 k hlt
      have HA : Hid (badTrip bk.sts.length bk.trips k = !tripB bk.sts.length bk.trips[k]) := badTrip_at _ _ k hlt
      have HC : Hid (CallsAt wr ca bk.trips[k].calls) := hca
      have HE : Hid (ErrVars wr) := hev.keep hB
      generalize bk.trips[k] = t at *
      clear hta hev hwf n3 hca
      cases htb : tripB bk.sts.length t
      · have HT : Hid (tripB bk.sts.length t = false) := htb
        clear htb
        go_wp2_with fail
        refine (checkTrip_any t _ _ _ _ s1 s2 HW.out (by exact HC.out.keep (box_below _ _)) (by exact HE.out.keep (box_below _ _))).mono ?_
        rintro e w1 ⟨he, hb1⟩
        rw [HT.out] at he
        obtain ⟨x, rfl⟩ := he
        go_wp2_with fail
        go_ret
        refine ⟨?_, (hB.alloc hB.size _).trans (hb1.mono (by have := hB.size; simp; omega))⟩
        rw [first_some (k := k) hlt (by rw [HA.out, HT.out]; rfl) hgood.out]
        exact ⟨_, rfl, rfl⟩
      · have HT : Hid (tripB bk.sts.length t = true) := htb
        clear htb
        go_wp2_with fail
        refine (checkTrip_any t _ _ _ _ s1 s2 HW.out (by exact HC.out.keep (box_below _ _)) (by exact HE.out.keep (box_below _ _))).mono ?_
        rintro e w1 ⟨he, hb1⟩
        rw [HT.out] at he
        obtain rfl : e = .returned .nilIface := he
        go_wp2_with fail
        go_roundw
        case rel =>
          refine ⟨k + 1, by omega, by go_num, fun j hj => ?_, (hbel.alloc (by omega) _).trans (hb1.mono (by simp; omega))⟩
          by_cases e : j = k
          · subst e; rw [HA.out, HT.out]; rfl
          · exact hgood.out j (by omega)
        case measure => simp [intOf]; omega
    · go_wp2
      go_ret
      refine ⟨?_, hB⟩
      rw [first_none (fun j hj => hgood.out j (by omega))]
      rfl

/-- What checkBook hands back: nil when nothing is wrong, else the fault. -/
def BookErr (f : Int × Int) (e : Ending) : Prop :=
  (f = (0, 0) ∧ e = .returned .nilIface) ∨ (f.1 ≠ 0 ∧ ∃ z, Value.oneCell' z = true ∧ e = .returned (.iface 176 (.agg #[.int .i64 f.1, .int .i64 f.2, z])))

set_option maxRecDepth 100000 in
set_option maxHeartbeats 2000000 in
theorem checkBook_any (v : Value) (bk : BookD) (w : World) (hn : bookSize bk ≤ 1048576) (hwf : ∀ t ∈ bk.trips, ∀ i (h : i < t.calls.length), (Lit.int .i64 t.calls[i].st).wf = true) (hat : BookAt w v bk) (hev : ErrVars w) :
    Calls Tryz.prog 108 #[v] w fun e w' => BookErr (faultD bk) e ∧ Below w.heap.size w w' := by
  obtain ⟨sa, sc, ta, tc, rfl, hsa, hta⟩ := hat
  have n1 : bk.sts.length ≤ 1048576 := by unfold bookSize strsSize at hn; omega
  have n2 : bk.trips.length ≤ 1048576 := by unfold bookSize tripsSize at hn; omega
  have n3 : ∀ i (h : i < (namesOf bk.trips).length), (namesOf bk.trips)[i].size ≤ 1048576 := by
    intro i h
    have h' : i < bk.trips.length := by rw [namesOf_length] at h; exact h
    have := sumTrips_get bk.trips i h'
    rw [namesOf_get]
    unfold bookSize tripsSize at hn; unfold tripSize at this; omega
  have n4 : ∀ i (h : i < bk.sts.length), bk.sts[i].size ≤ 1048576 := by
    intro i h
    have := sumSizes_get bk.sts i h
    unfold bookSize strsSize at hn; omega
  have hb0 := box_below w (.cells #[.slice sa bk.sts.length sc, .slice ta bk.trips.length tc] 33)
  by_cases g1 : 30 < bk.sts.length
  · have HF : Hid (faultD bk = (1, 0)) := faultD_1 (Or.inl g1)
    obtain ⟨x1, h1⟩ := (hev.keep hb0).tooMany
    clear hev hsa hta n3 n4 hwf hn
    go_enter Tryz.func108, Tryz.ntmps108
    go_wp2_with fail
    go_ret
    refine ⟨?_, hb0⟩
    rw [HF.out]
    exact Or.inr ⟨by simp, _, rfl, rfl⟩
  · by_cases g2 : 40 < bk.trips.length
    · have HF : Hid (faultD bk = (1, 0)) := faultD_1 (Or.inr g2)
      obtain ⟨x1, h1⟩ := (hev.keep hb0).tooMany
      clear hev hsa hta n3 n4 hwf hn
      go_enter Tryz.func108, Tryz.ntmps108
      go_wp2_with fail
      go_ret
      refine ⟨?_, hb0⟩
      rw [HF.out]
      exact Or.inr ⟨by simp, _, rfl, rfl⟩
    · have HF : Hid (faultD bk = fault2 bk) := faultD_2 (by omega)
      have HN3 : Hid (∀ i (h : i < (namesOf bk.trips).length), (namesOf bk.trips)[i].size ≤ 1048576) := n3
      have HN4 : Hid (∀ i (h : i < bk.sts.length), bk.sts[i].size ≤ 1048576) := n4
      have HWF : Hid (∀ t ∈ bk.trips, ∀ i (h : i < t.calls.length), (Lit.int .i64 t.calls[i].st).wf = true) := hwf
      clear n3 n4 hwf
      go_enter Tryz.func108, Tryz.ntmps108
      go_wp2_with fail
      refine (checkNames_any _ _ _ _ _ n1 HN4.out (by exact hsa.keep hb0) (by exact hev.keep hb0)).mono ?_
      rintro e w1 ⟨he, hb1⟩
      have hB1 : Below w.heap.size w w1 := hb0.trans (hb1.mono (by simp))
      cases hf1 : firstIdx (badName bk.sts) bk.sts.length with
      | some i =>
        rw [hf1] at he
        obtain ⟨z, hz, rfl⟩ := he
        have HF2 : Hid (faultD bk = (2, (i : Int))) := by unfold Hid; rw [HF.out, fault2_some hf1]
        clear hf1
        go_wp2_with fail
        go_ret
        refine ⟨?_, hB1⟩
        rw [HF2.out]
        exact Or.inr ⟨by simp, z, hz, rfl⟩
      | none =>
        rw [hf1] at he
        obtain rfl : e = .returned .nilIface := he
        have HF2 : Hid (faultD bk = fault3 bk) := by unfold Hid; rw [HF.out, fault2_none hf1]
        clear hf1 HF
        obtain ⟨q0, q1⟩ := box_cell w (.slice sa bk.sts.length sc) (.slice ta bk.trips.length tc) 33 w1 (hb1.mono (by simp))
        go_wp2_with fail
        refine (checkTrips_any _ bk _ hn HWF.out (by exact ⟨sa, sc, ta, tc, rfl, hsa.keep hB1, hta.keep hB1⟩) (by exact hev.keep hB1)).mono ?_
        rintro e w2 ⟨he, hb2⟩
        have hB2 : Below w.heap.size w w2 := hB1.trans (hb2.mono hB1.size)
        cases hf1 : firstIdx (badTrip bk.sts.length bk.trips) bk.trips.length with
        | some i =>
          rw [hf1] at he
          obtain ⟨z, hz, rfl⟩ := he
          have HF3 : Hid (faultD bk = (3, (i : Int))) := by unfold Hid; rw [HF2.out, fault3_some hf1]
          clear hf1
          go_wp2_with fail
          go_ret
          refine ⟨?_, hB2⟩
          rw [HF3.out]
          exact Or.inr ⟨by simp, z, hz, rfl⟩
        | none =>
          rw [hf1] at he
          obtain rfl : e = .returned .nilIface := he
          have HF3 : Hid (faultD bk = fault4 bk) := by unfold Hid; rw [HF2.out, fault3_none hf1]
          clear hf1 HF2
          have p1 := cell_keep hb2 q1
          go_wp2_with fail
          refine (tripNames_any _ _ _ _ n2 (by exact hta.keep hB2)).mono ?_
          rintro e w3 ⟨b3, rfl, hat3, hb3⟩
          have hB3 : Below w.heap.size w w3 := hB2.trans (hb3.mono hB2.size)
          have n5 : (namesOf bk.trips).length ≤ 1048576 := by rw [namesOf_length]; exact n2
          go_wp2_with fail
          refine (checkNames_any _ _ _ _ _ n5 HN3.out (by exact hat3) (by exact hev.keep hB3)).mono ?_
          rintro e w4 ⟨he, hb4⟩
          have hB4 : Below w.heap.size w w4 := hB3.trans (hb4.mono hB3.size)
          rw [namesOf_length] at he
          cases hf1 : firstIdx (badName (namesOf bk.trips)) bk.trips.length with
          | some i =>
            rw [hf1] at he
            obtain ⟨z, hz, rfl⟩ := he
            have HF4 : Hid (faultD bk = (4, (i : Int))) := by unfold Hid; rw [HF3.out, fault4_some hf1]
            clear hf1
            go_wp2_with fail
            go_ret
            refine ⟨?_, hB4⟩
            rw [HF4.out]
            exact Or.inr ⟨by simp, z, hz, rfl⟩
          | none =>
            rw [hf1] at he
            obtain rfl : e = .returned .nilIface := he
            have HF4 : Hid (faultD bk = (0, 0)) := by unfold Hid; rw [HF3.out, fault4_none hf1]
            clear hf1
            go_wp2_with fail
            go_ret
            refine ⟨?_, hB4⟩
            rw [HF4.out]
            exact Or.inl ⟨rfl, rfl⟩

end Go.Proofs.YtjioingdpfgadabGreatDoor
