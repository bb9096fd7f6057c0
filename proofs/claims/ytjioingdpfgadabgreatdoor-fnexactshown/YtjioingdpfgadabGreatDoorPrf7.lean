import Derived.Test.YtjioingdpfgadabGreatDoorRows
import Derived.Test.YtjioingdpfgadabGreatDoorCards
import Derived.Test.YtjioingdpfgadabGreatDoorTie
import Derived.Test.YtjioingdpfgadabGreatDoorLaidM
import Derived.Test.YtjioingdpfgadabGreatDoorShCM
import Derived.Test.YtjioingdpfgadabGreatDoorOpenM
namespace Go.Proofs.YtjioingdpfgadabGreatDoor
open Go Go.RowKit Go.Deep Go.ChangeShapes Go.WideShapes Go.ChangeAt

section
variable {H : Type} {enc : TypeId × Value → H} {P : Program} {w : World} {base : Nat} {spare : Nat → Bool} {held : Bool}
theorem trodAll_fiveT {t t' t'' t3 t4 : TypeId} {args : Array Value} {ds : List (DataW H)} {ps : List MemPlace} (h : DataW.TrodAll enc P w base spare held [t, t', t'', t3, t4] args.toList ds ps) :
    ∃ v v' v'' v3 v4 d d' d'' d3 d4 p p' p'' p3 p4, args = #[v, v', v'', v3, v4] ∧ ds = [d, d', d'', d3, d4] ∧ ps = p ++ (p' ++ (p'' ++ (p3 ++ p4))) ∧ DataW.Trod enc P w base spare held t v d p ∧ DataW.Trod enc P w base spare held t' v' d' p' ∧ DataW.Trod enc P w base spare held t'' v'' d'' p'' ∧ DataW.Trod enc P w base spare held t3 v3 d3 p3 ∧ DataW.Trod enc P w base spare held t4 v4 d4 p4 := by
  obtain ⟨v, vs, d, ds', p, q, hargs, rfl, rfl, hd, hrest⟩ := trodAll_cons h
  obtain ⟨v', vs', d', ds'', p', q', rfl, rfl, rfl, hd', hrest'⟩ := trodAll_cons hrest
  obtain ⟨v'', vs'', d'', ds''', p'', q'', rfl, rfl, rfl, hd'', hrest''⟩ := trodAll_cons hrest'
  obtain ⟨v3, vs3, d3, ds3, p3, q3, rfl, rfl, rfl, hd3, hrest3⟩ := trodAll_cons hrest''
  obtain ⟨v4, vs4, d4, ds4, p4, q4, rfl, rfl, rfl, hd4, hrest4⟩ := trodAll_cons hrest3
  obtain ⟨rfl, rfl, rfl⟩ := trodAll_nil hrest4
  exact ⟨v, v', v'', v3, v4, d, d', d'', d3, d4, p, p', p'', p3, p4, Array.ext' (by simpa using hargs), rfl, by simp, hd, hd', hd'', hd3, hd4⟩
theorem trodAll_mk5T {t t' t'' t3 t4 : TypeId} {v v' v'' v3 v4 : Value} {d d' d'' d3 d4 : DataW H} {p p' p'' p3 p4 : List MemPlace} (h : DataW.Trod enc P w base spare held t v d p) (h' : DataW.Trod enc P w base spare held t' v' d' p')
    (h'' : DataW.Trod enc P w base spare held t'' v'' d'' p'') (h3 : DataW.Trod enc P w base spare held t3 v3 d3 p3) (h4 : DataW.Trod enc P w base spare held t4 v4 d4 p4) : DataW.TrodAll enc P w base spare held [t, t', t'', t3, t4] [v, v', v'', v3, v4] [d, d', d'', d3, d4] (p ++ (p' ++ (p'' ++ (p3 ++ p4)))) := ⟨p, p' ++ (p'' ++ (p3 ++ p4)), h, trodAll_mk4 h' h'' h3 h4, rfl⟩
end

theorem tPow10 : (Tryz.prog.globals[2]?).map (·.type) = some 201 := by kernel_rfl
theorem uPow10 : Tryz.prog.underlying 201 = some (.array 20 181) := by kernel_rfl
theorem uU64 : Tryz.prog.underlying 181 = some (.int .u64) := by kernel_rfl
theorem cU64 : Tryz.prog.cellsOf 181 = 1 := by kernel_rfl
theorem cPow10 : Tryz.prog.cellsOf 201 = 20 := by kernel_rfl
/-- The row's condition: the errors' and the table's. -/
theorem laidT_of {W : World} (h : laidMetH Tryz.prog Rows.fnExactShownRow.laid W) : laidMetH Tryz.prog Rows.fnExactBoardRow.laid W ∧ TabW W := by
  have h' : laidMet Tryz.prog [("math/bits.deBruijn32tab", Rows.laid_math_bits_deBruijn32tab), ("math/bits.deBruijn64tab", Rows.laid_math_bits_deBruijn64tab), ("internal/strconv.uint64pow10", Rows.laid_internal_strconv_uint64pow10), ("loop.example/tannoy/impl.errTooMany", Rows.laid_loop_example_tannoy_impl_errTooMany), ("loop.example/tannoy/impl.errNoName", Rows.laid_loop_example_tannoy_impl_errNoName), ("loop.example/tannoy/impl.errNameTwice", Rows.laid_loop_example_tannoy_impl_errNameTwice), ("loop.example/tannoy/impl.errCallCount", Rows.laid_loop_example_tannoy_impl_errCallCount), ("loop.example/tannoy/impl.errNoStation", Rows.laid_loop_example_tannoy_impl_errNoStation), ("loop.example/tannoy/impl.errStationTwice", Rows.laid_loop_example_tannoy_impl_errStationTwice), ("loop.example/tannoy/impl.errTime", Rows.laid_loop_example_tannoy_impl_errTime), ("loop.example/tannoy/impl.errTrack", Rows.laid_loop_example_tannoy_impl_errTrack)] W
      ∧ handlesMet Tryz.prog [("errors.errorType", Rows.laid_errors_errorType)] W := h
  obtain ⟨l1, hh⟩ := h'
  have l2 := l1.tail
  have l3 := l2.tail
  have l4 := l3.tail
  refine ⟨⟨l4, hh⟩, ?_⟩
  exact Lib.tabIs_of_head gPow10 tPow10 uPow10 uU64 cU64 cPow10 (show laidMet Tryz.prog (("internal/strconv.uint64pow10", Lib.tabData .u64 Lib.pow10Tab) :: _) W from l3)

/-- The door's own heap meets the condition. -/
theorem door_met7 (os : Os) (args : Array Value) : laidMetH Tryz.prog Rows.fnExactShownRow.laid ((World.doorLaid Tryz.prog 183 os).forCall (fun _ _ => 0) ⟨#[], args, []⟩).memory :=
  laidMetH_of_parts3 (fuel := 8) (laidMet_of_run' 8 (by kernel_rfl) (by kernel_rfl)) (by kernel_rfl) (by kernel_rfl)

set_option maxRecDepth 100000 in
set_option maxHeartbeats 2000000 in
theorem shown_lifted (os : Os) (started : os.Started) (H : Type) (enc : TypeId × Value → H) :
    ReturnsInHanded {} Tryz.checked os 4 .any (fun w args => (Rows.fnExactShownSpec.pre enc Tryz.prog Tryz.f4 [] false w args ∧ laidMetH Tryz.prog Rows.fnExactShownRow.laid w) ∧ sizedMet enc Tryz.prog Tryz.f4 (OpenSpec.ofChange Rows.fnExactShownSpec) false w args)
      (Rows.fnExactShownSpec.post enc Tryz.prog Tryz.f4 false true false false) := by
  refine returnsInHanded_of_change_and (C := Tryz.checked) (X := fun w _ => laidMetH Tryz.prog Rows.fnExactShownRow.laid w) (fun _ _ _ hh h => h.of_heap hh) ownKnob_none started (by kernel_rfl) Tryz.func4
    (ChangeSpec.witness_shaped (enc := enc) (C := Tryz.checked) (os := os) (X := fun w _ => laidMetH Tryz.prog Rows.fnExactShownRow.laid w) false (World.doorLaid Tryz.prog 183 os) #[.agg #[.slice none 0 0, .slice none 0 0], .slice none 0 0, .int .i64 0, .int .i64 0, .int .i64 0] 8 rfl (World.shaped_of_RefB (by kernel_rfl) (by kernel_rfl)) (by kernel_rfl) (by kernel_rfl) (by kernel_rfl) (door_met7 os _)) ?_
  intro W base args ds gs before hval0 hW _ _ hL _
  have hval : ∀ (j : Nat) t v, Tryz.f4.params[j]? = some t → args[j]? = some v → Value.okWide Tryz.prog W .any base t v := hval0
  have hW' := hW
  obtain ⟨pp, q, hA0, hV0, rfl, hfz, hnd⟩ := hW
  have hA : DataW.TrodAll enc Tryz.prog W 0 (fun _ => true) true Tryz.f4.params.toList args.toList ds pp := hA0
  have hV : DataW.TrodVars enc Tryz.prog W (fun _ => true) errNames gs q := hV0
  rw [Tryz.params4] at hA hval
  obtain ⟨v0, vb, va, va2, va3, d0, db, da, da2, da3, p, pb, pa, pa2, pa3, rfl, rfl, rfl, h0, hbb, ha, ha2, ha3⟩ := trodAll_fiveT hA
  obtain ⟨st, rfl, rfl, rfl, ws⟩ := open_int Tryz.underlying3 (hval 2 3 va rfl rfl) ha
  obtain ⟨tick, rfl, rfl, rfl, wt⟩ := open_int Tryz.underlying3 (hval 3 3 va2 rfl rfl) ha2
  obtain ⟨rows, rfl, rfl, rfl, wr⟩ := open_int Tryz.underlying3 (hval 4 3 va3 rfl rfl) ha3
  obtain ⟨xa, xl, xc, rfl⟩ := okWide_slice Tryz.underlying26 (hval 1 26 vb rfl rfl)
  have hbb' := hbb
  obtain ⟨fuel, hbf⟩ := hbb
  obtain ⟨ra, rc, rs, ex, hrl, hra, hrw⟩ := open_repS (by exact hbf)
  simp only [Value.slice.injEq] at ex
  obtain ⟨rfl, rfl, rfl⟩ := ex
  obtain ⟨bk, hat, hlens, hwf⟩ := open_book (hval 0 25 v0 rfl rfl) h0
  obtain ⟨hLB, htb⟩ := laidT_of (show laidMetH Tryz.prog Rows.fnExactShownRow.laid W from hL)
  have hli := laidIn_of hLB
  have hev := hli.errs
  obtain ⟨a1, v1⟩ := hli.tooMany
  obtain ⟨a2, v2⟩ := hli.noName
  obtain ⟨a3, v3⟩ := hli.nameTwice
  obtain ⟨a4, v4⟩ := hli.callCount
  obtain ⟨a5, v5⟩ := hli.stationTwice
  obtain ⟨a6, v6⟩ := hli.noStation
  obtain ⟨a7, v7⟩ := hli.time
  obtain ⟨a8, v8⟩ := hli.track
  obtain ⟨rfl, rfl⟩ := hV.unique (vars_read8 enc v1 v2 v3 v4 v5 v6 v7 v8 trivial trivial trivial trivial trivial trivial trivial trivial _)
  obtain ⟨c1, k1⟩ := hev.tooMany
  obtain ⟨c2, k2⟩ := hev.noName
  obtain ⟨c3, k3⟩ := hev.nameTwice
  obtain ⟨c4, k4⟩ := hev.callCount
  obtain ⟨c5, k5⟩ := hev.stationTwice
  obtain ⟨c6, k6⟩ := hev.noStation
  obtain ⟨c7, k7⟩ := hev.time
  obtain ⟨c8, k8⟩ := hev.track
  have l1 := cell_lt k1
  have l2 := cell_lt k2
  have l3 := cell_lt k3
  have l4 := cell_lt k4
  have l5 := cell_lt k5
  have l6 := cell_lt k6
  have l7 := cell_lt k7
  have l8 := cell_lt k8
  have hlt : ∀ x ∈ p, x.block < W.heap.size := fun x hx => hW'.lt x (by simp [hx])
  have hltb : ∀ x ∈ pb, x.block < W.heap.size := fun x hx => hW'.lt x (by simp [hx])
  refine (lawShown_by v0 bk xa xc rs st tick rows (shownS bk (boardD bk rs st tick rows)) W hlens hrl hat hra (fun hn hm w1 hb1 v ra rc hv hra => specShown_any v bk ra rc rs st tick rows w1 hn hm hv hra) (fun hn hm w1 hb1 v ra rc hv hra => implShown_any v bk ra rc rs st tick rows w1 hn hm hwf ws hv hra (hev.keep hb1) (tabW_keep _ _ hb1 htb))).mono fun e W' ⟨he, hb⟩ => ?_
  subst he
  refine ⟨_, rfl, _, _, _, [], p ++ (pb ++ ([] ++ ([] ++ []))), errPlaces, hW', ?_, ?_, ?_, hb.frame _, fun h => by cases h⟩
  · exact trodAll_mk1 (shut_bool Tryz.underlying4 true)
  · exact trodAll_mk5T (Below.trod laidOut_ok (by kernel_rfl) (of_decide_eq_true (by kernel_rfl)) h0 hb hlt) (Below.trod laidOut_ok (by kernel_rfl) (of_decide_eq_true (by kernel_rfl)) hbb' hb hltb) (shut_int Tryz.underlying3 ws) (shut_int Tryz.underlying3 wt) (shut_int Tryz.underlying3 wr)
  · exact vars_read8 enc (var?_below hb gTooMany l1 v1) (var?_below hb gNoName l2 v2) (var?_below hb gNameTwice l3 v3) (var?_below hb gCallCount l4 v4) (var?_below hb gStationTwice l5 v5) (var?_below hb gNoStation l6 v6) (var?_below hb gTime l7 v7) (var?_below hb gTrack l8 v8) trivial trivial trivial trivial trivial trivial trivial trivial _

theorem shown_row_holds : Rows.FnExactShownSaid :=
  OpenClaim.holds_of_wide 4 Tryz.f4 rfl rfl rfl rfl rfl rfl rfl ⟨rfl, rfl, rfl, rfl, rfl⟩ rfl rfl rfl rfl rfl (by kernel_rfl) Tryz.func4 (by kernel_rfl)
    (of_decide_eq_true (by kernel_rfl)) (by unfold Func.isWrapper; rw [if_neg (of_decide_eq_false (by kernel_rfl))]; exact ⟨rfl, rfl⟩)
    (fun os started H enc _ => shown_lifted os started H enc)

theorem fnExactShown_holds : Rows.FnExactShownCardSaid :=
  Claim7.holds_tied_plain_at .later [] [.data, .data, .data, .handle, .sentinel, .sentinel, .sentinel, .sentinel, .sentinel, .sentinel, .sentinel, .sentinel] true Rows.fnExactShownCard.stood.harness true
    shown_row_holds (fun _ h => by cases h) (by kernel_rfl) (fun _ h => by cases h) fnExactShown_row_tie rfl ⟨rfl, rfl⟩ (by kernel_rfl) rfl
    (fun f fn hf hfn => by
      obtain rfl : f = 4 := Option.some.inj ((show Tryz.prog.funcNamed "loop.example/tannoy/laws.FnExactShown" = some 4 by kernel_rfl).symm.trans hf) |>.symm
      obtain rfl : fn = Tryz.f4 := (Option.some.inj (Tryz.func4.symm.trans hfn)).symm
      exact ⟨by kernel_rfl, fun j t ht => by
        rw [Tryz.params4] at ht
        have h3 : t = 25 ∨ t = 26 ∨ t = 3 := by
          rcases j with _ | _ | _ | _ | _ | j
          · exact (Or.inl (by simpa using ht.symm))
          · exact (Or.inr (Or.inl (by simpa using ht.symm)))
          · exact (Or.inr (Or.inr (by simpa using ht.symm)))
          · exact (Or.inr (Or.inr (by simpa using ht.symm)))
          · exact (Or.inr (Or.inr (by simpa using ht.symm)))
          · simp at ht
        rcases h3 with rfl | rfl | rfl
        · exact (show Tryz.prog.wantsStandIn 25 = false by kernel_rfl)
        · exact (show Tryz.prog.wantsStandIn 26 = false by kernel_rfl)
        · exact (show Tryz.prog.wantsStandIn 3 = false by kernel_rfl)⟩)
    (by kernel_rfl)
#print axioms fnExactShown_holds

end Go.Proofs.YtjioingdpfgadabGreatDoor
