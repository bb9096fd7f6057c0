import Derived.Test.YtjioingdpfgadaaDoorRows
import Derived.Test.YtjioingdpfgadaaDoorCards
import Derived.Test.YtjioingdpfgadaaDoorTie
import Derived.Test.YtjioingdpfgadaaDoorLaw1M
import Derived.Test.YtjioingdpfgadaaDoorLwXM
namespace Go.Proofs.YtjioingdpfgadaaDoor
open Go Go.RowKit Go.Deep Go.ChangeShapes Go.WideShapes Go.ChangeAt

/-- The door's own heap meets the condition. -/
theorem door_metX (os : Os) (args : Array Value) : laidMetH Tryd.prog Rows.fnSpoiltRow.laid ((World.doorLaid Tryd.prog 183 os).forCall (fun _ _ => 0) ⟨#[], args, []⟩).memory :=
  laidMetH_of_parts3 (fuel := 8) (laidMet_of_run' 8 (by kernel_rfl) (by kernel_rfl)) (by kernel_rfl) (by kernel_rfl)

set_option maxRecDepth 100000 in
set_option maxHeartbeats 2000000 in
theorem fnSpoilt_lifted (os : Os) (started : os.Started) (H : Type) (enc : TypeId × Value → H) :
    ReturnsInHanded {} Tryd.checked os 7 .any (fun w args => (Rows.fnSpoiltSpec.pre enc Tryd.prog Tryd.f7 [] false w args ∧ laidMetH Tryd.prog Rows.fnSpoiltRow.laid w) ∧ sizedMet enc Tryd.prog Tryd.f7 (OpenSpec.ofChange Rows.fnSpoiltSpec) false w args)
      (Rows.fnSpoiltSpec.post enc Tryd.prog Tryd.f7 false true false false) := by
  refine returnsInHanded_of_change_and (C := Tryd.checked) (X := fun w _ => laidMetH Tryd.prog Rows.fnSpoiltRow.laid w) (fun _ _ _ hh h => h.of_heap hh) ownKnob_none started (by kernel_rfl) Tryd.func7
    (ChangeSpec.witness_shaped (enc := enc) (C := Tryd.checked) (os := os) (X := fun w _ => laidMetH Tryd.prog Rows.fnSpoiltRow.laid w) false (World.doorLaid Tryd.prog 183 os) #[.slice none 0 0] 8 rfl (World.shaped_of_RefB (by kernel_rfl) (by kernel_rfl)) (by kernel_rfl) (by kernel_rfl) (by kernel_rfl) (door_metX os _)) ?_
  intro W base args ds gs before hval0 hW _ _ hL _
  have hval : ∀ (j : Nat) t v, Tryd.f7.params[j]? = some t → args[j]? = some v → Value.okWide Tryd.prog W .any base t v := hval0
  have hW' := hW
  obtain ⟨pp, q, hA0, hV0, rfl, hfz, hnd⟩ := hW
  have hA : DataW.TrodAll enc Tryd.prog W 0 (fun _ => true) true Tryd.f7.params.toList args.toList ds pp := hA0
  have hV : DataW.TrodVars enc Tryd.prog W (fun _ => true) errNames gs q := hV0
  rw [Tryd.params7] at hA hval
  obtain ⟨v0, d0, rfl, rfl, h0⟩ := trodAll_one hA
  have h0' := h0
  obtain ⟨fuel, hbf⟩ := h0
  have hval00 := hval 0 22 v0 rfl rfl
  obtain ⟨xa, xl, xc, rfl⟩ := okWide_slice uBts hval00
  obtain ⟨ca, cc, bs, ex, hcode⟩ := open_bytes (by exact hbf)
  simp only [Value.slice.injEq] at ex
  obtain ⟨rfl, rfl, rfl⟩ := ex
  have hlow := low_bytes hval00
  have hli := laidIn_of (show laidMetH Tryd.prog Rows.fnExactBookOkRow.laid W from hL)
  have hev := hli.errs
  obtain ⟨a1, v1⟩ := hli.tooMany
  obtain ⟨a2, v2⟩ := hli.noName
  obtain ⟨a3, v3⟩ := hli.nameTwice
  obtain ⟨a4, v4⟩ := hli.callCount
  obtain ⟨a5, v5⟩ := hli.stationTwice
  obtain ⟨a6, v6⟩ := hli.noStation
  obtain ⟨a7, v7⟩ := hli.time
  obtain ⟨a8, v8⟩ := hli.track
  obtain ⟨rfl, rfl⟩ := hV.unique (vars_read8 enc v1 v2 v3 v4 v5 v6 v7 v8 trivial trivial trivial trivial trivial trivial trivial trivial _)
  obtain ⟨c1, k1⟩ := hev.tooMany
  obtain ⟨c2, k2⟩ := hev.noName
  obtain ⟨c3, k3⟩ := hev.nameTwice
  obtain ⟨c4, k4⟩ := hev.callCount
  obtain ⟨c5, k5⟩ := hev.stationTwice
  obtain ⟨c6, k6⟩ := hev.noStation
  obtain ⟨c7, k7⟩ := hev.time
  obtain ⟨c8, k8⟩ := hev.track
  have l1 := cell_lt k1
  have l2 := cell_lt k2
  have l3 := cell_lt k3
  have l4 := cell_lt k4
  have l5 := cell_lt k5
  have l6 := cell_lt k6
  have l7 := cell_lt k7
  have l8 := cell_lt k8
  have hlt : ∀ x ∈ pp, x.block < W.heap.size := fun x hx => hW'.lt x (List.mem_append_left _ hx)
  refine (lawSpoilt_any xa bs xc W hcode hlow hev).mono fun e W' ⟨he, hb⟩ => ?_
  subst he
  refine ⟨_, rfl, _, _, _, [], pp, errPlaces, hW', ?_, ?_, ?_, hb.frame _, fun h => by cases h⟩
  · exact trodAll_mk1 (shut_bool Tryd.underlying4 true)
  · exact trodAll_mk1 (Below.trod laidOut_ok (by kernel_rfl) (of_decide_eq_true (by kernel_rfl)) h0' hb hlt)
  · exact vars_read8 enc (var?_below hb gTooMany l1 v1) (var?_below hb gNoName l2 v2) (var?_below hb gNameTwice l3 v3) (var?_below hb gCallCount l4 v4) (var?_below hb gStationTwice l5 v5) (var?_below hb gNoStation l6 v6) (var?_below hb gTime l7 v7) (var?_below hb gTrack l8 v8) trivial trivial trivial trivial trivial trivial trivial trivial _

theorem fnSpoilt_row_holds : Rows.FnSpoiltSaid :=
  OpenClaim.holds_of_wide 7 Tryd.f7 rfl rfl rfl rfl rfl rfl rfl ⟨rfl, rfl, rfl, rfl, rfl⟩ rfl rfl rfl rfl rfl (by kernel_rfl) Tryd.func7 (by kernel_rfl)
    (of_decide_eq_true (by kernel_rfl)) (by unfold Func.isWrapper; rw [if_neg (of_decide_eq_false (by kernel_rfl))]; exact ⟨rfl, rfl⟩)
    (fun os started H enc _ => fnSpoilt_lifted os started H enc)

theorem fnSpoilt_holds : Rows.FnSpoiltCardSaid :=
  Claim7.holds_tied_plain_at .later [] [.handle, .sentinel, .sentinel, .sentinel, .sentinel, .sentinel, .sentinel, .sentinel, .sentinel] true Rows.fnSpoiltCard.stood.harness true
    fnSpoilt_row_holds (fun _ h => by cases h) (by kernel_rfl) (fun _ h => by cases h) fnSpoilt_row_tie rfl ⟨rfl, rfl⟩ (by kernel_rfl) rfl
    (fun f fn hf hfn => by
      obtain rfl : f = 7 := Option.some.inj ((show Tryd.prog.funcNamed "loop.example/tannoy/laws.FnSpoilt" = some 7 by kernel_rfl).symm.trans hf) |>.symm
      obtain rfl : fn = Tryd.f7 := (Option.some.inj (Tryd.func7.symm.trans hfn)).symm
      exact ⟨by kernel_rfl, fun j t ht => by
        rw [Tryd.params7] at ht
        have h3 : t = 22 := by
          rcases j with _ | j
          · exact (by simpa using ht.symm)
          · simp at ht
        subst h3
        exact (show Tryd.prog.wantsStandIn 22 = false by kernel_rfl)⟩)
    (by kernel_rfl)
#print axioms fnSpoilt_holds

end Go.Proofs.YtjioingdpfgadaaDoor
