import Derived.Test.YtjioingdpfgadabDoorRows
import Derived.Test.YtjioingdpfgadabDoorCards
import Derived.Test.YtjioingdpfgadabDoorTie
import Derived.Test.YtjioingdpfgadabDoorLaidM
import Derived.Test.YtjioingdpfgadabDoorOnwBM
import Derived.Test.YtjioingdpfgadabDoorOpenM
import Derived.Test.YtjioingdpfgadabDoorOnwI
namespace Go.Proofs.YtjioingdpfgadabDoor
open Go Go.RowKit Go.Deep Go.ChangeShapes Go.WideShapes Go.ChangeAt

/-- The door's own heap meets the condition. -/
theorem door_met8 (os : Os) (args : Array Value) : laidMetH Tryd.prog Rows.fnExactOnwardRow.laid ((World.doorLaid Tryd.prog 168 os).forCall (fun _ _ => 0) ⟨#[], args, []⟩).memory :=
  laidMetH_of_parts3 (fuel := 8) (laidMet_of_run' 8 (by kernel_rfl) (by kernel_rfl)) (by kernel_rfl) (by kernel_rfl)

set_option maxRecDepth 100000 in
set_option maxHeartbeats 2000000 in
theorem onward_lifted (os : Os) (started : os.Started) (H : Type) (enc : TypeId × Value → H) :
    ReturnsInHanded {} Tryd.checked os 4 .any (fun w args => (Rows.fnExactOnwardSpec.pre enc Tryd.prog Tryd.f4 [] false w args ∧ laidMetH Tryd.prog Rows.fnExactOnwardRow.laid w) ∧ sizedMet enc Tryd.prog Tryd.f4 (OpenSpec.ofChange Rows.fnExactOnwardSpec) false w args)
      (Rows.fnExactOnwardSpec.post enc Tryd.prog Tryd.f4 false true false false) := by
  refine returnsInHanded_of_change_and (C := Tryd.checked) (X := fun w _ => laidMetH Tryd.prog Rows.fnExactOnwardRow.laid w) (fun _ _ _ hh h => h.of_heap hh) ownKnob_none started (by kernel_rfl) Tryd.func4
    (ChangeSpec.witness_shaped (enc := enc) (C := Tryd.checked) (os := os) (X := fun w _ => laidMetH Tryd.prog Rows.fnExactOnwardRow.laid w) false (World.doorLaid Tryd.prog 168 os) #[.agg #[.slice none 0 0, .slice none 0 0], .slice none 0 0, .int .i64 0, .int .i64 0] 8 rfl (World.shaped_of_RefB (by kernel_rfl) (by kernel_rfl)) (by kernel_rfl) (by kernel_rfl) (by kernel_rfl) (door_met8 os _)) ?_
  intro W base args ds gs before hval0 hW _ _ hL _
  have hval : ∀ (j : Nat) t v, Tryd.f4.params[j]? = some t → args[j]? = some v → Value.okWide Tryd.prog W .any base t v := hval0
  have hW' := hW
  obtain ⟨pp, q, hA0, hV0, rfl, hfz, hnd⟩ := hW
  have hA : DataW.TrodAll enc Tryd.prog W 0 (fun _ => true) true Tryd.f4.params.toList args.toList ds pp := hA0
  have hV : DataW.TrodVars enc Tryd.prog W (fun _ => true) errNames gs q := hV0
  rw [Tryd.params4] at hA hval
  obtain ⟨v0, vb, va, va2, d0, db, da, da2, p, pb, pa, pa2, rfl, rfl, rfl, h0, hbb, ha, ha2⟩ := trodAll_four hA
  obtain ⟨st, rfl, rfl, rfl, ws⟩ := open_int Tryd.underlying3 (hval 2 3 va rfl rfl) ha
  obtain ⟨tick, rfl, rfl, rfl, wt⟩ := open_int Tryd.underlying3 (hval 3 3 va2 rfl rfl) ha2
  obtain ⟨xa, xl, xc, rfl⟩ := okWide_slice Tryd.underlying26 (hval 1 26 vb rfl rfl)
  have hbb' := hbb
  obtain ⟨fuel, hbf⟩ := hbb
  obtain ⟨ra, rc, rs, ex, hrl, hra, hrw⟩ := open_repS (by exact hbf)
  simp only [Value.slice.injEq] at ex
  obtain ⟨rfl, rfl, rfl⟩ := ex
  obtain ⟨bk, hat, hlens, hwf⟩ := open_book (hval 0 25 v0 rfl rfl) h0
  have hli := laidIn_of (show laidMetH Tryd.prog Rows.fnExactKnownRow.laid W from hL)
  have hev := hli.errs
  obtain ⟨a1, v1⟩ := hli.tooMany
  obtain ⟨a2, v2⟩ := hli.noName
  obtain ⟨a3, v3⟩ := hli.nameTwice
  obtain ⟨a4, v4⟩ := hli.callCount
  obtain ⟨a5, v5⟩ := hli.stationTwice
  obtain ⟨a6, v6⟩ := hli.noStation
  obtain ⟨a7, v7⟩ := hli.time
  obtain ⟨a8, v8⟩ := hli.track
  obtain ⟨rfl, rfl⟩ := hV.unique (vars_read8 enc v1 v2 v3 v4 v5 v6 v7 v8 trivial trivial trivial trivial trivial trivial trivial trivial _)
  obtain ⟨c1, k1⟩ := hev.tooMany
  obtain ⟨c2, k2⟩ := hev.noName
  obtain ⟨c3, k3⟩ := hev.nameTwice
  obtain ⟨c4, k4⟩ := hev.callCount
  obtain ⟨c5, k5⟩ := hev.stationTwice
  obtain ⟨c6, k6⟩ := hev.noStation
  obtain ⟨c7, k7⟩ := hev.time
  obtain ⟨c8, k8⟩ := hev.track
  have l1 := cell_lt k1
  have l2 := cell_lt k2
  have l3 := cell_lt k3
  have l4 := cell_lt k4
  have l5 := cell_lt k5
  have l6 := cell_lt k6
  have l7 := cell_lt k7
  have l8 := cell_lt k8
  have hlt : ∀ x ∈ p, x.block < W.heap.size := fun x hx => hW'.lt x (by simp [hx])
  have hltb : ∀ x ∈ pb, x.block < W.heap.size := fun x hx => hW'.lt x (by simp [hx])
  have hK : (onwardD bk rs st tick).length ≤ 1048576 := by
    unfold onwardD
    split
    · rename_i h
      obtain ⟨r0, _, _⟩ := reportsB_inv h.1
      obtain ⟨j, hj⟩ := Int.eq_ofNat_of_zero_le h.2.1
      have hjl : j < bk.trips.length := by have := h.2.2; omega
      have h1 := onwardTo_length (callsOf bk st) ((newsTo bk tick rs).getD st.toNat []) (callsOf bk st).length
      have h2 : callsOf bk st = bk.trips[j].calls := by rw [hj]; exact callsOf_at bk j hjl
      have h3 := tripB_len ((faultD_zero r0).2 j hjl)
      have h4 : (callsOf bk st).length ≤ 20 := by rw [h2]; exact h3.2
      omega
    · simp
  refine (lawOnward_by v0 bk xa xc rs st tick (onwardD bk rs st tick) W hK hlens hrl hat hra (fun hn hm w1 hb1 v ra rc hv hra => specOnward_any v bk ra rc rs st tick w1 hn hm hv hra) (fun hn hm w1 hb1 v ra rc hv hra => implOnward_any v bk ra rc rs st tick w1 hn hm hwf hv hra (hev.keep hb1))).mono fun e W' ⟨he, hb⟩ => ?_
  subst he
  refine ⟨_, rfl, _, _, _, [], p ++ (pb ++ ([] ++ [])), errPlaces, hW', ?_, ?_, ?_, hb.frame _, fun h => by cases h⟩
  · exact trodAll_mk1 (shut_bool Tryd.underlying4 true)
  · exact trodAll_mk4 (Below.trod laidOut_ok (by kernel_rfl) (of_decide_eq_true (by kernel_rfl)) h0 hb hlt) (Below.trod laidOut_ok (by kernel_rfl) (of_decide_eq_true (by kernel_rfl)) hbb' hb hltb) (shut_int Tryd.underlying3 ws) (shut_int Tryd.underlying3 wt)
  · exact vars_read8 enc (var?_below hb gTooMany l1 v1) (var?_below hb gNoName l2 v2) (var?_below hb gNameTwice l3 v3) (var?_below hb gCallCount l4 v4) (var?_below hb gStationTwice l5 v5) (var?_below hb gNoStation l6 v6) (var?_below hb gTime l7 v7) (var?_below hb gTrack l8 v8) trivial trivial trivial trivial trivial trivial trivial trivial _

theorem onward_row_holds : Rows.FnExactOnwardSaid :=
  OpenClaim.holds_of_wide 4 Tryd.f4 rfl rfl rfl rfl rfl rfl rfl ⟨rfl, rfl, rfl, rfl, rfl⟩ rfl rfl rfl rfl rfl (by kernel_rfl) Tryd.func4 (by kernel_rfl)
    (of_decide_eq_true (by kernel_rfl)) (by unfold Func.isWrapper; rw [if_neg (of_decide_eq_false (by kernel_rfl))]; exact ⟨rfl, rfl⟩)
    (fun os started H enc _ => onward_lifted os started H enc)

theorem fnExactOnward_holds : Rows.FnExactOnwardCardSaid :=
  Claim7.holds_tied_plain_at .later [] [.handle, .sentinel, .sentinel, .sentinel, .sentinel, .sentinel, .sentinel, .sentinel, .sentinel] true Rows.fnExactOnwardCard.stood.harness true
    onward_row_holds (fun _ h => by cases h) (by kernel_rfl) (fun _ h => by cases h) fnExactOnward_row_tie rfl ⟨rfl, rfl⟩ (by kernel_rfl) rfl
    (fun f fn hf hfn => by
      obtain rfl : f = 4 := Option.some.inj ((show Tryd.prog.funcNamed "loop.example/tannoy/laws.FnExactOnward" = some 4 by kernel_rfl).symm.trans hf) |>.symm
      obtain rfl : fn = Tryd.f4 := (Option.some.inj (Tryd.func4.symm.trans hfn)).symm
      exact ⟨by kernel_rfl, fun j t ht => by
        rw [Tryd.params4] at ht
        have h3 : t = 25 ∨ t = 26 ∨ t = 3 := by
          rcases j with _ | _ | _ | _ | j
          · exact (Or.inl (by simpa using ht.symm))
          · exact (Or.inr (Or.inl (by simpa using ht.symm)))
          · exact (Or.inr (Or.inr (by simpa using ht.symm)))
          · exact (Or.inr (Or.inr (by simpa using ht.symm)))
          · simp at ht
        rcases h3 with rfl | rfl | rfl
        · exact (show Tryd.prog.wantsStandIn 25 = false by kernel_rfl)
        · exact (show Tryd.prog.wantsStandIn 26 = false by kernel_rfl)
        · exact (show Tryd.prog.wantsStandIn 3 = false by kernel_rfl)⟩)
    (by kernel_rfl)
#print axioms fnExactOnward_holds

end Go.Proofs.YtjioingdpfgadabDoor
