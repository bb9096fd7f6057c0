import Derived.Test.YtjioingdpfgadaaDoorSpoBM
import Derived.Test.YtjioingdpfgadaaDoorBrdJM
import Derived.Test.YtjioingdpfgadaaDoorImplUM
import Derived.Test.YtjioingdpfgadaaDoorImplJM
import Derived.Test.YtjioingdpfgadaaDoorSpecDM
import Derived.Test.YtjioingdpfgadaaDoorSpecBM
namespace Go.Proofs.YtjioingdpfgadaaDoor
open Go Go.RowKit Go.Deep

theorem reps_none (w : World) : RepsAt w none [] := fun i h => by simp at h
theorem reports_none (bk : BookD) : reportsB bk [] = ((faultD bk).1 == 0) := by
  rw [reportsB_all (fun k hk => by simp at hk)]
  simp
/-- A law's scene over a book that may be spoilt. -/
structure SceneX (w0 w : World) (X : Nat) (sa ta : Option Addr) (sc tc : Nat) (bk : BookD) : Prop where
  book : BookAt w (.agg #[.slice sa bk.sts.length sc, .slice ta bk.trips.length tc]) bk
  box : w.heap[X]? = some (.cells #[.slice sa bk.sts.length sc, .slice ta bk.trips.length tc] 26 (0, 0))
  errs : ErrVars w
  since : Below w0.heap.size w0 w
theorem SceneX.keep {w0 w w' : World} {X : Nat} {sa ta : Option Addr} {sc tc : Nat} {bk : BookD} (h : SceneX w0 w X sa ta sc tc bk) (hb : Below w.heap.size w w') : SceneX w0 w' X sa ta sc tc bk :=
  ⟨h.book.keep hb, (hb.block X (Array.getElem?_eq_some_iff.1 h.box).1).trans h.box, h.errs.keep hb, h.since.trans (hb.mono h.since.size)⟩

set_option maxRecDepth 100000 in
set_option maxHeartbeats 3000000 in
theorem lawSpoilt_any (ca : Option Addr) (bs : List Int) (cc : Nat) (w : World) (hcode : BytesAt w ca bs) (hlow : ∀ b o, ca = some ⟨b, o, none⟩ → b < w.heap.size) (hev : ErrVars w) :
    Calls Tryd.prog 7 #[.slice ca bs.length cc] w fun e w' => e = .returned (.bool true) ∧ Below w.heap.size w w' := by
  by_cases h1 : 1048576 < bs.length
  · have h1i : (1048576 : Int) < (bs.length : Int) := by omega
    go_enter Tryd.func7, Tryd.ntmps7
    go_wp2_with fail
    go_ret
    exact ⟨rfl, Below.refl _ _⟩
  have h1i : ¬ (1048576 : Int) < (bs.length : Int) := by omega
  have HDR := drawBookOk_any ca bs cc w hcode hlow
  have HEV : Hid (ErrVars w) := hev
  clear hcode hlow hev
  go_enter Tryd.func7, Tryd.ntmps7
  go_wp2_with fail
  refine HDR.mono ?_
  rintro e w1 ⟨bk, sv, tv, vs, rfl, hok, hrows, hb1⟩
  obtain ⟨sa, sc, rfl⟩ := owns_slice hrows.strs
  obtain ⟨ta, tc, rfl⟩ := owns_slice hrows.trips.outer
  have HSML : Hid (bookSize bk ≤ 1048576) := hok.small
  have HWF : Hid (∀ t ∈ bk.trips, ∀ i (h : i < t.calls.length), (Lit.int .i64 t.calls[i].st).wf = true) := hok.wf
  have hA : Below w1.heap.size w1 (w1.alloc (.cells #[.slice sa bk.sts.length sc, .slice ta bk.trips.length tc] 26)) := (Below.refl _ _).alloc (Nat.le_refl _) _
  have HS2 : Hid (SceneX w (w1.alloc (.cells #[.slice sa bk.sts.length sc, .slice ta bk.trips.length tc] 26)) w1.heap.size sa ta sc tc bk) := ⟨(hrows.at).keep hA, heap_alloc_last w1 _, (HEV.out.keep hb1).keep hA, hb1.trans (hA.mono hb1.size)⟩
  clear hok hrows hb1 hA HDR
  go_wp2_with fail
  obtain ⟨X, hX⟩ : ∃ X, w1.heap.size = X := ⟨_, rfl⟩
  obtain ⟨w2, hw2⟩ : ∃ w2, w1.alloc (.cells #[.slice sa bk.sts.length sc, .slice ta bk.trips.length tc] 26) = w2 := ⟨_, rfl⟩
  rw [hw2, hX] at HS2
  rw [hw2, hX]
  clear hw2 hX
  have HSC : Hid (∀ w', Below w2.heap.size w2 w' → SceneX w w' X sa ta sc tc bk) := fun w' hb => HS2.out.keep hb
  obtain ⟨fc, hfc⟩ : ∃ fc, (faultD bk).1 = fc := ⟨_, rfl⟩
  obtain ⟨fa, hfa⟩ : ∃ fa, (faultD bk).2 = fa := ⟨_, rfl⟩
  have HF : Hid ((faultD bk).1 = fc) := hfc
  have HBI : Hid (∀ w', Below w2.heap.size w2 w' → Calls Tryd.prog 26 #[.agg #[.slice sa bk.sts.length sc, .slice ta bk.trips.length tc]] w' fun e w'' => e = .returned (.agg #[.int .i64 fc, .int .i64 fa]) ∧ Below w'.heap.size w' w'') := fun w' hb => by
    have := implBookOk_any (.agg #[.slice sa bk.sts.length sc, .slice ta bk.trips.length tc]) bk w' HSML.out HWF.out (HSC.out w' hb).book (HSC.out w' hb).errs
    rwa [hfc, hfa] at this
  have HBS : Hid (∀ w', Below w2.heap.size w2 w' → Calls Tryd.prog 27 #[.agg #[.slice sa bk.sts.length sc, .slice ta bk.trips.length tc]] w' fun e w'' => e = .returned (.agg #[.int .i64 fc, .int .i64 fa]) ∧ Below w'.heap.size w' w'') := fun w' hb => by
    have := specBookOk_any (.agg #[.slice sa bk.sts.length sc, .slice ta bk.trips.length tc]) bk w' HSML.out (HSC.out w' hb).book
    rwa [hfc, hfa] at this
  have HKN : Hid (∀ w', Below w2.heap.size w2 w' → Calls Tryd.prog 18 #[.agg #[.slice sa bk.sts.length sc, .slice ta bk.trips.length tc], .slice none 0 0, .int .i64 0] w' fun e w'' => ∃ v', e = .returned v' ∧ NewsOwn w'.heap.size w'' v' (knownD bk [] 0) ∧ Below w'.heap.size w' w'') := fun w' hb =>
    implKnown_any _ bk none 0 [] 0 w' HSML.out (by simp) HWF.out (HSC.out w' hb).book (reps_none w') (HSC.out w' hb).errs
  have HBD : Hid (∀ w', Below w2.heap.size w2 w' → Calls Tryd.prog 14 #[.agg #[.slice sa bk.sts.length sc, .slice ta bk.trips.length tc], .slice none 0 0, .int .i64 0, .int .i64 0, .int .i64 9] w' fun e w'' => ∃ v', e = .returned v' ∧ w''.ownsRow w'.heap.size 38 6 v' (boardD bk [] 0 0 9).length (sixes (boardD bk [] 0 0 9)) ∧ Below w'.heap.size w' w'') := fun w' hb =>
    implBoard_any _ bk none 0 [] 0 0 9 w' HSML.out (by simp) HWF.out (wf_small (by omega) (by omega)) (HSC.out w' hb).book (reps_none w') (HSC.out w' hb).errs
  have HCA : Hid (∀ w', Below w2.heap.size w2 w' → Calls Tryd.prog 28 #[.agg #[.slice sa bk.sts.length sc, .slice ta bk.trips.length tc], .int .i64 0, .int .i64 0] w' fun e w'' => e = .returned (.int .i64 (callAtD bk 0 0)) ∧ Below w'.heap.size w' w'') := fun w' hb =>
    implCallAt_any _ bk 0 0 w' HSML.out (wf_small (by omega) (by omega)) HWF.out (HSC.out w' hb).book (HSC.out w' hb).errs
  have HRO : Hid (∀ w', Below w2.heap.size w2 w' → Calls Tryd.prog 29 #[.agg #[.slice sa bk.sts.length sc, .slice ta bk.trips.length tc], .agg #[.int .i64 0, .int .i64 3, .int .i64 0, .int .i64 0, .int .i64 0]] w' fun e w'' => e = .returned (.bool (reportB bk ⟨0, 3, 0, 0, 0⟩)) ∧ Below w'.heap.size w' w'') := fun w' hb =>
    implReportOk_any _ bk ⟨0, 3, 0, 0, 0⟩ w' HSML.out HWF.out (HSC.out w' hb).book (HSC.out w' hb).errs
  obtain ⟨⟨c0, c1⟩, _⟩ := two_cells HS2.out.box
  clear hfc hfa
  refine (HBI.out _ (Below.refl _ _)).mono ?_
  rintro e w3 ⟨rfl, hb3⟩
  have d0 := cell_keep hb3 c0
  have d1 := cell_keep hb3 c1
  have HB3 : Hid (Below w2.heap.size w2 w3) := hb3
  clear hb3 c0 c1
  go_wp2_with fail
  obtain ⟨F, hFe⟩ : ∃ F, w3.heap.size = F := ⟨_, rfl⟩
  obtain ⟨w4, hw4⟩ : ∃ w4, w3.alloc (.cells #[.int .i64 fc, .int .i64 fa] 59) = w4 := ⟨_, rfl⟩
  have hb4 : Below w3.heap.size w3 w4 := by subst hw4; exact (Below.refl _ _).alloc (Nat.le_refl _) _
  have HF4 : Hid (w4.heap[F]? = some (.cells #[.int .i64 fc, .int .i64 fa] 59 (0, 0))) := by subst hw4; subst hFe; exact heap_alloc_last w3 _
  have HB4 : Hid (Below w2.heap.size w2 w4) := HB3.out.trans (hb4.mono HB3.out.size)
  have e0 := cell_keep hb4 d0
  have e1 := cell_keep hb4 d1
  rw [hw4, hFe]
  clear hw4 hFe d0 d1 hb4
  obtain ⟨⟨f0, f1⟩, _⟩ := two_cells HF4.out
  go_region_held3 (fun w' => w'.cell? ⟨F, 0, none⟩ = some (.int .i64 fc) ∧ w'.cell? ⟨F, 1, none⟩ = some (.int .i64 fa) ∧ w'.cell? ⟨X, 0, none⟩ = some (.slice sa bk.sts.length sc) ∧ w'.cell? ⟨X, 1, none⟩ = some (.slice ta bk.trips.length tc))
    (go_keep)
    (first | (go_at_call 27; refine (HBS.out _ (HB4.out.drew)).mono ?_; rintro e w5 ⟨rfl, hb5⟩; have B5 : Below w4.heap.size w4 w5 := (Below.refl _ _).drew.trans hb5; have g0 := cell_keep B5 f0; have g1 := cell_keep B5 f1; have k0 := cell_keep B5 e0; have k1 := cell_keep B5 e1))
  have HB5 : Hid (Below w2.heap.size w2 w5) := HB4.out.trans (B5.mono HB4.out.size)
  clear hb5 B5 e0 e1 f0 f1
  by_cases hz : fc = 0
  · subst hz
    have HKL : Hid ((knownD bk [] 0).length = bk.trips.length) := by
      unfold Hid knownD
      rw [reports_none, HF.out]
      exact (shape_to bk 0 []).length
    go_wp2_with fail
    go_region_held3 (fun w' => w'.cell? ⟨X, 0, none⟩ = some (.slice sa bk.sts.length sc) ∧ w'.cell? ⟨X, 1, none⟩ = some (.slice ta bk.trips.length tc))
      (go_keep)
      (first | (go_at_call 18; refine (HKN.out _ (HB5.out.drew)).mono ?_; rintro e w6 ⟨v6, rfl, ⟨vs6, ho6⟩, hb6⟩; obtain ⟨a6, c6, rfl, H6⟩ := ho6.at; rw [HKL.out]; have B6 : Below w5.heap.size w5 w6 := (Below.refl _ _).drew.trans hb6; have m0 := cell_keep B6 k0; have m1 := cell_keep B6 k1))
    have HBE : Hid (Below w.heap.size w w6) := by
      have h1 := HB5.out.trans (B6.mono HB5.out.size)
      exact HS2.out.since.trans (h1.mono HS2.out.since.size)
    clear H6 ho6 hb6 B6
    go_wp2_with fail
    go_ret
    exact ⟨rfl, HBE.out⟩
  · have hzb : (fc == 0) = false := beq_eq_false_iff_ne.2 hz
    have hrn : reportsB bk [] = false := by rw [reports_none, HF.out]; exact hzb
    have HK0 : Hid (knownD bk [] 0 = []) := by unfold Hid knownD; rw [hrn]; rfl
    have HB0 : Hid (boardD bk [] 0 0 9 = []) := by unfold Hid boardD; rw [if_neg (by rw [hrn]; simp)]
    have HC0 : Hid (callAtD bk 0 0 = -1) := callAtD_no (by rw [HF.out]; exact fun h => hz h.1)
    have HR0 : Hid (reportB bk ⟨0, 3, 0, 0, 0⟩ = false) := reportB_no (by rw [HF.out]; exact fun h => hz h.1)
    clear hrn
    go_wp2_with fail
    refine (HKN.out _ HB5.out).mono ?_
    rintro e w6 ⟨v6, rfl, ⟨vs6, ho6⟩, hb6⟩
    rw [HK0.out] at ho6
    obtain ⟨a6, c6, rfl, -⟩ := ho6.at
    have HB6 : Hid (Below w2.heap.size w2 w6) := HB5.out.trans (hb6.mono HB5.out.size)
    have m0 := cell_keep hb6 k0
    have m1 := cell_keep hb6 k1
    clear ho6 hb6 k0 k1 g0 g1
    go_wp2_with fail
    refine (HBD.out _ HB6.out).mono ?_
    rintro e w7 ⟨v7, rfl, ho7, hb7⟩
    rw [HB0.out] at ho7
    obtain ⟨a7, c7, rfl, -⟩ := rows_at ho7
    have HB7 : Hid (Below w2.heap.size w2 w7) := HB6.out.trans (hb7.mono HB6.out.size)
    have p0 := cell_keep hb7 m0
    have p1 := cell_keep hb7 m1
    clear ho7 hb7 m0 m1
    go_wp2_with fail
    refine (HCA.out _ HB7.out).mono ?_
    rintro e w8 ⟨rfl, hb8⟩
    rw [HC0.out]
    have HB8 : Hid (Below w2.heap.size w2 w8) := HB7.out.trans (hb8.mono HB7.out.size)
    have q0 := cell_keep hb8 p0
    have q1 := cell_keep hb8 p1
    clear hb8 p0 p1
    go_wp2_with fail
    refine (HRO.out _ HB8.out).mono ?_
    rintro e w9 ⟨rfl, hb9⟩
    rw [HR0.out]
    have HBE : Hid (Below w.heap.size w w9) := by
      have h1 := HB8.out.trans (hb9.mono HB8.out.size)
      exact HS2.out.since.trans (h1.mono HS2.out.since.size)
    clear hb9 q0 q1
    go_wp2_with fail
    go_ret
    exact ⟨rfl, HBE.out⟩

end Go.Proofs.YtjioingdpfgadaaDoor
