import Derived.Test.YtjioingdpfgadabGreatDoorProg
import Derived.Test.YtjioingdpfgadabGreatDoorChkAM
namespace Go.Proofs.YtjioingdpfgadabGreatDoor
open Go Go.RowKit Go.WideMaps Go.Maps Go.Deep

/-- nil when 'ok', else one of the package's errors. -/
def ErrIf (ok : Bool) (e : Ending) : Prop :=
  match ok with
  | true => e = .returned .nilIface
  | false => ∃ x, e = .returned (.iface 228 x)

theorem box_below (w : World) (o : Obj) : Below w.heap.size w (w.alloc o) := (Below.refl _ _).alloc (Nat.le_refl _) _
theorem box_cell (w : World) (x y : Value) (t : TypeId) (wr : World) (h : Below (w.heap.size + 1) (w.alloc (.cells #[x, y] t)) wr) :
    wr.cell? ⟨w.heap.size, 0, none⟩ = some x ∧ wr.cell? ⟨w.heap.size, 1, none⟩ = some y := by
  have h0 := h.cell (p := ⟨w.heap.size, 0, none⟩) (Nat.lt_succ_self _)
  have h1 := h.cell (p := ⟨w.heap.size, 1, none⟩) (Nat.lt_succ_self _)
  rw [h0, h1]; simp [go_sem]

set_option maxRecDepth 100000 in
set_option maxHeartbeats 2000000 in
theorem checkTrip_any (t : TripD) (ca : Option Addr) (cc : Nat) (n : Int) (w : World) (hs : t.name.size ≤ 1048576) (hn : t.calls.length ≤ 1048576) (hwf : ∀ i (h : i < t.calls.length), (Lit.int .i64 t.calls[i].st).wf = true) (hat : CallsAt w ca t.calls) (hev : ErrVars w) :
    Calls Tryz.prog 130 #[.agg #[.string t.name, .slice ca t.calls.length cc], .int .i64 n] w fun e w' => ErrIf (tripB n t) e ∧ Below w.heap.size w w' := by
  have hb0 := box_below w (.cells #[.string t.name, .slice ca t.calls.length cc] 81)
  cases hnm : nameB t.name
  · have HF : Hid (tripB n t = false) := tripB_name hnm
    obtain ⟨x2, h2⟩ := (hev.keep hb0).noName
    clear hev
    go_enter Tryz.func130, Tryz.ntmps130
    go_wp2_with fail
    refine (isName_any _ _ hs).mono ?_
    rintro e w1 ⟨rfl, rfl⟩
    rw [hnm]
    go_wp2_with fail
    go_ret
    refine ⟨?_, hb0⟩
    rw [HF.out]
    exact ⟨_, rfl⟩
  · have HN : Hid (nameB t.name = true) := hnm
    by_cases hct : 2 ≤ t.calls.length ∧ t.calls.length ≤ 20
    · obtain ⟨g1, g2⟩ := hct
      go_enter Tryz.func130, Tryz.ntmps130
      go_wp2_with fail
      refine (isName_any _ _ hs).mono ?_
      rintro e w1 ⟨rfl, rfl⟩
      rw [hnm]
      clear hnm
      go_wp2_with fail
      go_loopw [5, 28] (fun gn i wr => ∃ k : Nat, k ≤ t.calls.length ∧ i = .int .i64 k ∧ gn = .int .i64 (prevGo t.calls k) ∧ Hid (∀ j, j < k → callAtB n t.calls j = true) ∧ Below (w.heap.size + 1) (w.alloc (.cells #[.string t.name, .slice ca t.calls.length cc] 81)) wr) (fun _ i _ => t.calls.length - (intOf i).toNat)
      case atStart => exact ⟨0, Nat.zero_le _, rfl, rfl, fun j hj => by omega, Below.refl _ _⟩
      case round =>
        obtain ⟨k, hk, rfl, rfl, hgood, hbel⟩ := hrel
        have hB : Below w.heap.size w wr := hb0.trans (hbel.mono (by omega))
        by_cases hlt : k < t.calls.length
        · obtain ⟨b, o, rfl, hc0, hc1, hc2, hc3⟩ := hat.keep hB k hlt
          have HA : Hid (callAtB n t.calls k = callB n (prevGo t.calls k) t.calls[k]) := callAtB_at n _ k hlt
          have HP : Hid (prevGo t.calls (k + 1) = t.calls[k].go) := prevGo_succ _ k hlt
          have HE : Hid (ErrVars wr) := hev.keep hB
          generalize t.calls[k] = c at *
          generalize prevGo t.calls k = gn at *
          clear hat hev hwf
          cases hcb : callB n gn c
          · have HC : Hid (callB n gn c = false) := hcb
            clear hcb
            go_wp2_with fail
            refine (checkCall_bad _ _ _ _ HC.out (HE.out.keep (box_below _ _))).mono ?_
            rintro e w1 ⟨⟨x, rfl⟩, hb1⟩
            go_wp2_with fail
            go_ret
            have HF : tripB n t = false := tripB_call (callsB_no hlt (by rw [HA.out, HC.out]))
            refine ⟨?_, (hB.alloc hB.size _).trans (hb1.mono (by have := hB.size; simp; omega))⟩
            rw [HF]
            exact ⟨_, rfl⟩
          · have HC : Hid (callB n gn c = true) := hcb
            clear hcb
            go_wp2_with fail
            refine (checkCall_ok _ _ _ _ HC.out).mono ?_
            rintro e w1 ⟨rfl, hb1⟩
            have q := hb1.cell (p := ⟨wr.heap.size, 2, none⟩) (by simp)
            have q2 : w1.cell? ⟨wr.heap.size, 2, none⟩ = some (.int .i64 c.go) := by rw [q]; simp [go_sem]
            clear q
            go_wp2_with fail
            go_roundw
            case rel =>
              refine ⟨k + 1, by omega, by go_num, by rw [HP.out], fun j hj => ?_, ?_⟩
              · by_cases e : j = k
                · subst e; rw [HA.out, HC.out]
                · exact hgood.out j (by omega)
              · have hz := hbel.size
                simp at hz
                exact (hbel.alloc (by omega) _).trans (hb1.mono (by simp; omega))
            case measure => simp [intOf]; omega
        · have HCS : Hid (callsB n t.calls = true) := callsB_yes (fun j hj => hgood.out j (by omega))
          obtain ⟨q0, q1⟩ := box_cell _ _ _ _ _ hbel
          have HAT : Hid (CallsAt wr ca t.calls) := hat.keep hB
          obtain ⟨x5, h5⟩ := (hev.keep hB).stationTwice
          have HWF : Hid (∀ i (h : i < t.calls.length), (Lit.int .i64 t.calls[i].st).wf = true) := hwf
          clear hat hev hwf
          go_wp2_with fail
          go_region_with (go_at_call 88; refine (callsByStation_any _ _ _ _ hn HWF.out (by exact HAT.out)).mono ?_; rintro e w1 ⟨bm, D, rfl, hbm, hown, him, hb1⟩; have hlen := hown.len um 3; have q2 := cell_keep hb1 (by exact q1))
          all_goals
            have hB1 : Below w.heap.size w w1 := hB.drew.trans (by exact hb1.mono hB.size)
            have q5 := cell_keep hb1 (by exact h5)
            have hfull := him.full
            have hsize := him.size
            simp only [List.length_map] at hfull hsize
            by_cases hd : Maps.size D < t.calls.length
            · have HF : Hid (tripB n t = false) := tripB_dup (by
                have : ¬ (stationsOf t.calls).Nodup := fun hnd => by have := hfull.2 hnd; omega
                simp [dupB, this])
              clear hfull hsize him hown hlen
              go_wp2
              go_ret
              refine ⟨?_, hB1⟩
              rw [HF.out]
              exact ⟨_, rfl⟩
            · have HF : Hid (tripB n t = true) := tripB_yes HN.out ⟨g1, g2⟩ HCS.out (by
                have : (stationsOf t.calls).Nodup := hfull.1 (by omega)
                simp [dupB, this])
              clear hfull hsize him hown hlen
              go_wp2
              go_ret
              refine ⟨?_, hB1⟩
              rw [HF.out]
              rfl
    · have HF : Hid (tripB n t = false) := tripB_count hct
      obtain ⟨x4, h4⟩ := (hev.keep hb0).callCount
      clear hev
      by_cases g1 : t.calls.length < 2
      · clear hct
        go_enter Tryz.func130, Tryz.ntmps130
        go_wp2_with fail
        refine (isName_any _ _ hs).mono ?_
        rintro e w1 ⟨rfl, rfl⟩
        rw [hnm]
        go_wp2_with fail
        go_ret
        refine ⟨?_, hb0⟩
        rw [HF.out]
        exact ⟨_, rfl⟩
      · have g2 : 20 < t.calls.length := by omega
        clear hct
        go_enter Tryz.func130, Tryz.ntmps130
        go_wp2_with fail
        refine (isName_any _ _ hs).mono ?_
        rintro e w1 ⟨rfl, rfl⟩
        rw [hnm]
        go_wp2_with fail
        go_ret
        refine ⟨?_, hb0⟩
        rw [HF.out]
        exact ⟨_, rfl⟩

end Go.Proofs.YtjioingdpfgadabGreatDoor
