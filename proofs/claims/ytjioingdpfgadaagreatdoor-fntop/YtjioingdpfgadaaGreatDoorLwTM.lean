import Derived.Test.YtjioingdpfgadaaGreatDoorSayBM
import Derived.Test.YtjioingdpfgadaaGreatDoorLaidSM
import Derived.Test.YtjioingdpfgadaaGreatDoorSayLM
import Derived.Test.YtjioingdpfgadaaGreatDoorSayIM
import Derived.Test.YtjioingdpfgadaaGreatDoorBoardHM
import Derived.Test.YtjioingdpfgadaaGreatDoorBrdJM
import Derived.Test.YtjioingdpfgadaaGreatDoorShCM
import Derived.Test.YtjioingdpfgadaaGreatDoorShDM
namespace Go.Proofs.YtjioingdpfgadaaGreatDoor
open Go Go.RowKit Go.Deep

/-- What a call's news are with another track. -/
def topN (x : NewsD) : NewsD := { x with track := 77 }
def topRow (q : Nat) (ns : List NewsD) : List NewsD := ns.mapIdx fun i x => if i < q then topN x else x
def topTo (k : Nat) (nss : List (List NewsD)) : List (List NewsD) := nss.mapIdx fun i ns => if i < k then ns.map topN else ns
theorem topRow_length (q : Nat) (ns : List NewsD) : (topRow q ns).length = ns.length := by simp [topRow]
theorem topTo_length (k : Nat) (nss : List (List NewsD)) : (topTo k nss).length = nss.length := by simp [topTo]
theorem topRow_zero (ns : List NewsD) : topRow 0 ns = ns := by
  apply List.ext_getElem (topRow_length 0 ns)
  intro i h1 h2
  simp [topRow]
theorem topRow_end (ns : List NewsD) : topRow ns.length ns = ns.map topN := by
  apply List.ext_getElem (by simp [topRow])
  intro i h1 h2
  simp at h2
  simp [topRow, h2]
theorem topRow_get (q : Nat) (ns : List NewsD) (h : q < ns.length) : (topRow q ns)[q]'(by rw [topRow_length]; exact h) = ns[q] := by simp [topRow]
theorem topRow_succ (q : Nat) (ns : List NewsD) (h : q < ns.length) : topRow (q + 1) ns = (topRow q ns).set q (topN ns[q]) := by
  apply List.ext_getElem (by rw [List.length_set, topRow_length, topRow_length])
  intro i h1 h2
  rw [List.getElem_set]
  by_cases e : q = i
  · subst e; simp [topRow]
  · rw [if_neg e]
    simp only [topRow, List.getElem_mapIdx]
    by_cases h' : i < q
    · rw [if_pos (by omega), if_pos h']
    · rw [if_neg (by omega), if_neg h']
theorem topTo_zero (nss : List (List NewsD)) : topTo 0 nss = nss := by
  apply List.ext_getElem (topTo_length 0 nss)
  intro i h1 h2
  simp [topTo]
theorem topTo_get (k i : Nat) (nss : List (List NewsD)) (h : i < nss.length) (hk : k ≤ i) : (topTo k nss)[i]'(by rw [topTo_length]; exact h) = nss[i] := by
  simp [topTo]; omega
theorem topTo_succ (k : Nat) (nss : List (List NewsD)) (h : k < nss.length) : topTo (k + 1) nss = (topTo k nss).set k (nss[k].map topN) := by
  apply List.ext_getElem (by rw [List.length_set, topTo_length, topTo_length])
  intro i h1 h2
  rw [List.getElem_set]
  by_cases e : k = i
  · subst e; simp [topTo]
  · rw [if_neg e]
    simp only [topTo, List.getElem_mapIdx]
    by_cases h' : i < k
    · rw [if_pos (by omega), if_pos h']
    · rw [if_neg (by omega), if_neg h']

set_option maxRecDepth 100000 in
set_option maxHeartbeats 3000000 in
theorem lawTop_any (ca ma : Option Addr) (bs ms : List Int) (cc mc : Nat) (w : World) (hcode : BytesAt w ca bs) (hlow : ∀ b o, ca = some ⟨b, o, none⟩ → b < w.heap.size) (hmore : BytesAt w ma ms) (hev : ErrVars w) (htab : TabW w) :
    Calls Tryz.prog 3 #[.slice ca bs.length cc, .slice ma ms.length mc] w fun e w' => e = .returned (.bool true) ∧ Below w.heap.size w w' := by
  by_cases h1 : 1048576 < bs.length
  · have h1i : (1048576 : Int) < (bs.length : Int) := by omega
    go_enter Tryz.func3, Tryz.ntmps3
    go_wp2_with fail
    go_ret
    exact ⟨rfl, Below.refl _ _⟩
  by_cases h2 : 1048576 < ms.length
  · have h1i : ¬ (1048576 : Int) < (bs.length : Int) := by omega
    have h2i : (1048576 : Int) < (ms.length : Int) := by omega
    go_enter Tryz.func3, Tryz.ntmps3
    go_wp2_with fail
    go_ret
    exact ⟨rfl, Below.refl _ _⟩
  have h1i : ¬ (1048576 : Int) < (bs.length : Int) := by omega
  have h2i : ¬ (1048576 : Int) < (ms.length : Int) := by omega
  have HDR : Hid (∀ w', BytesAt w' ca bs → (∀ b o, ca = some ⟨b, o, none⟩ → b < w'.heap.size) → Calls Tryz.prog 6 #[.slice ca bs.length cc] w' (DrawnOf bs w')) := fun w' a b => drawn_any ca bs cc w' a b
  have HCO : Hid (BytesAt w ca bs) := hcode
  have HLO : Hid (∀ b o, ca = some ⟨b, o, none⟩ → b < w.heap.size) := hlow
  have HEV : Hid (ErrVars w) := hev
  have HMO : Hid (BytesAt w ma ms) := hmore
  have HTB : Hid (TabW w) := htab
  have HD : Hid (BookDrawn (drawnF bs).1) := drawnF_book bs
  have HR : Hid (reportsB (drawnF bs).1 (drawnF bs).2 = true ∧ (drawnF bs).2.length ≤ 20) := drawnF_reports bs
  clear hcode hlow hmore hev htab
  go_enter Tryz.func3, Tryz.ntmps3
  go_wp2_with fail
  refine (HDR.out _ HCO.out HLO.out).mono ?_
  rintro e w1 ⟨v, rv, rfl, hbk, hrs, hb1⟩
  obtain ⟨sa, sc, ta, tc, ra, rc, rfl, rfl, hsc⟩ := scene_of hbk hrs hb1 HEV.out HMO.out
  have HSC1 : Hid (Scene w (w1.alloc (.cells #[.slice sa (drawnF bs).1.sts.length sc, .slice ta (drawnF bs).1.trips.length tc] 26)) w1.heap.size sa ta ra ma sc tc (drawnF bs).1 (drawnF bs).2 ms) := hsc
  clear hsc hbk hrs hb1
  go_wp2_with fail
  obtain ⟨X, hX⟩ : ∃ X, w1.heap.size = X := ⟨_, rfl⟩
  obtain ⟨w2, hw2⟩ : ∃ w2, w1.alloc (.cells #[.slice sa (drawnF bs).1.sts.length sc, .slice ta (drawnF bs).1.trips.length tc] 26) = w2 := ⟨_, rfl⟩
  rw [hw2, hX] at HSC1
  rw [hw2, hX]
  clear hw2 hX
  have HLO2 : Hid (∀ b o, ca = some ⟨b, o, none⟩ → b < w2.heap.size) := fun b o e => Nat.lt_of_lt_of_le (HLO.out b o e) HSC1.out.since.size
  refine (HDR.out _ (HCO.out.keep HSC1.out.since) HLO2.out).mono ?_
  rintro e w3 ⟨v3, rv3, rfl, hbk, hrs, hb3⟩
  obtain ⟨sa2, sc2, ta2, tc2, ra2, rc2, rfl, rfl, hsc⟩ := scene_of hbk hrs hb3 HSC1.out.errs HSC1.out.more
  have HSC2 : Hid (Scene w2 (w3.alloc (.cells #[.slice sa2 (drawnF bs).1.sts.length sc2, .slice ta2 (drawnF bs).1.trips.length tc2] 26)) w3.heap.size sa2 ta2 ra2 ma sc2 tc2 (drawnF bs).1 (drawnF bs).2 ms) := hsc
  clear hsc hbk hrs hb3 HDR HCO HLO HLO2
  generalize (drawnF bs).1 = bk at *
  generalize (drawnF bs).2 = rs at *
  go_wp2_with fail
  obtain ⟨Y, hY⟩ : ∃ Y, w3.heap.size = Y := ⟨_, rfl⟩
  obtain ⟨w4, hw4⟩ : ∃ w4, w3.alloc (.cells #[.slice sa2 bk.sts.length sc2, .slice ta2 bk.trips.length tc2] 26) = w4 := ⟨_, rfl⟩
  rw [hw4, hY] at HSC2
  rw [hw4, hY]
  clear hw4 hY
  have HS4 : Hid (Scene w w4 X sa ta ra ma sc tc bk rs ms) := HSC1.out.keep HSC2.out.since
  have HTB4 : Hid (TabW w4) := tabW_keep _ _ HS4.out.since HTB.out
  have hn6 := HD.out.sts6
  have hn2 := HD.out.sts2
  have HSML : Hid (bookSize bk ≤ 1048576) := by have := HD.out.small; unfold Hid; omega
  have HRL : Hid (rs.length ≤ 1048576) := by have := HR.out.2; unfold Hid; omega
  have HWF : Hid (∀ t ∈ bk.trips, ∀ i (h : i < t.calls.length), (Lit.int .i64 t.calls[i].st).wf = true) := HD.out.wf
  obtain ⟨⟨c0, c1⟩, _⟩ := two_cells HS4.out.box
  have hnz : ¬ (bk.sts.length : Int) = 0 := by omega
  have hnz2 : ¬ bk.sts.length = 0 := by omega
  have hnz3 : ¬ bk.sts = [] := fun e => by rw [e] at hnz2; simp at hnz2
  have hnz4 : ((bk.sts.length : Int) == 0) = false := beq_eq_false_iff_ne.2 hnz
  go_region_held3 (fun w' => w'.cell? ⟨X, 0, none⟩ = some (.slice sa bk.sts.length sc))
    (go_keep)
    (first | (go_at_call 7; refine (wByte_any ma ms mc 0 _ (by omega) (by omega) (by exact HS4.out.more.keep (Below.refl _ _).drew)).mono ?_; rintro e w5 ⟨r3, hr3, rfl, rfl⟩; obtain ⟨s, hs⟩ : ∃ s : Nat, r3 % bk.sts.length = s := ⟨_, rfl⟩; have hsi : (r3 : Int).tmod (bk.sts.length : Int) = (s : Int) := (by rw [Int.tmod_eq_emod_of_nonneg (by omega), ← hs]; simp); have hsl : s < bk.sts.length := (by rw [← hs]; exact Nat.mod_lt _ (by omega)); clear hs))
  clear hsi hr3
  have HSA : Hid (Scene w w4.drew X sa ta ra ma sc tc bk rs ms) := HS4.out.keep (Below.refl _ _).drew
  have HSB : Hid (Scene w2 w4.drew Y sa2 ta2 ra2 ma sc2 tc2 bk rs ms) := HSC2.out.keep (Below.refl _ _).drew
  have HTB6 : Hid (TabW w4.drew) := tabW_keep _ _ (Below.refl _ _).drew HTB4.out
  obtain ⟨w6, hw6⟩ : ∃ w6, w4.drew = w6 := ⟨_, rfl⟩
  rw [hw6] at HSA HSB HTB6 ⊢
  clear hw6 c0 c1 HS4 HSC1 HSC2 HTB4
  obtain ⟨⟨c0, c1⟩, _⟩ := two_cells HSA.out.box
  obtain ⟨⟨e0, e1⟩, _⟩ := two_cells HSB.out.box
  go_wp2_with fail
  refine (wByte_any ma ms mc 1 _ (by omega) (by omega) HSA.out.more).mono ?_
  rintro e w6' ⟨m, hm, rfl, rfl⟩
  rename World => w6
  have HW0 : Hid ((Lit.int .i64 (s : Int)).wf = true) := wf_small (by omega) (by omega)
  obtain ⟨N, hN⟩ : ∃ N, knownD bk rs m = N := ⟨_, rfl⟩
  obtain ⟨R, hR⟩ : ∃ R, boardD bk rs s m 5 = R := ⟨_, rfl⟩
  obtain ⟨L, hL⟩ : ∃ L, sayD bk rs s 0 500 = L := ⟨_, rfl⟩
  obtain ⟨K, hK⟩ : ∃ K, shownS bk R = K := ⟨_, rfl⟩
  have HNS : Hid (newsSize N ≤ 1048576) := by
    unfold Hid; rw [← hN]; unfold knownD; rw [HR.out.1]; exact newsSize_small HD.out (shape_to bk m rs)
  have HLS : Hid (L.length ≤ 1048576) := by unfold Hid; rw [← hL]; exact Nat.le_trans (sayD_length bk rs s 0 500) HRL.out
  have HRS : Hid (R.length ≤ 1048576) := by
    unfold Hid; rw [← hR]; unfold boardD
    split
    · exact Nat.le_trans (pick_length _ _) (by decide)
    · simp
  have HSC : Hid (∀ w', Below w6.heap.size w6 w' → Scene w w' X sa ta ra ma sc tc bk rs ms ∧ Scene w2 w' Y sa2 ta2 ra2 ma sc2 tc2 bk rs ms ∧ TabW w') := fun w' hb => ⟨HSA.out.keep hb, HSB.out.keep hb, tabW_keep _ _ hb HTB6.out⟩
  have HSK : Hid (∀ w', Below w6.heap.size w6 w' → Calls Tryz.prog 8 #[.agg #[.slice sa2 bk.sts.length sc2, .slice ta2 bk.trips.length tc2], .slice ra2 rs.length rc2, .int .i64 m] w' fun e w'' => ∃ v', e = .returned v' ∧ NewsOwn w'.heap.size w'' v' N ∧ Below w'.heap.size w' w'') := fun w' hb => by
    have := specKnown_any (.agg #[.slice sa2 bk.sts.length sc2, .slice ta2 bk.trips.length tc2]) bk ra2 rc2 rs m w' HSML.out HRL.out (HSC.out w' hb).2.1.book (HSC.out w' hb).2.1.reps
    rwa [hN] at this
  have HKN : Hid (∀ w', Below w6.heap.size w6 w' → Calls Tryz.prog 9 #[.agg #[.slice sa bk.sts.length sc, .slice ta bk.trips.length tc], .slice ra rs.length rc, .int .i64 m] w' fun e w'' => ∃ v', e = .returned v' ∧ NewsOwn w'.heap.size w'' v' N ∧ Below w'.heap.size w' w'') := fun w' hb => by
    have := implKnown_any (.agg #[.slice sa bk.sts.length sc, .slice ta bk.trips.length tc]) bk ra rc rs m w' HSML.out HRL.out HWF.out (HSC.out w' hb).1.book (HSC.out w' hb).1.reps (HSC.out w' hb).1.errs
    rwa [hN] at this
  have HBI : Hid (∀ w', Below w6.heap.size w6 w' → Calls Tryz.prog 10 #[.agg #[.slice sa bk.sts.length sc, .slice ta bk.trips.length tc], .slice ra rs.length rc, .int .i64 s, .int .i64 m, .int .i64 5] w' fun e w'' => ∃ v', e = .returned v' ∧ w''.ownsRow w'.heap.size 52 6 v' R.length (sixes R) ∧ Below w'.heap.size w' w'') := fun w' hb => by
    have := implBoard_any (.agg #[.slice sa bk.sts.length sc, .slice ta bk.trips.length tc]) bk ra rc rs s m 5 w' HSML.out HRL.out HWF.out HW0.out (HSC.out w' hb).1.book (HSC.out w' hb).1.reps (HSC.out w' hb).1.errs
    rwa [hR] at this
  have HBS : Hid (∀ w', Below w6.heap.size w6 w' → Calls Tryz.prog 13 #[.agg #[.slice sa2 bk.sts.length sc2, .slice ta2 bk.trips.length tc2], .slice ra2 rs.length rc2, .int .i64 s, .int .i64 m, .int .i64 5] w' fun e w'' => ∃ v', e = .returned v' ∧ w''.ownsRow w'.heap.size 52 6 v' R.length (sixes R) ∧ Below w'.heap.size w' w'') := fun w' hb => by
    have := specBoard_any (.agg #[.slice sa2 bk.sts.length sc2, .slice ta2 bk.trips.length tc2]) bk ra2 rc2 rs s m 5 w' HSML.out HRL.out (HSC.out w' hb).2.1.book (HSC.out w' hb).2.1.reps
    rwa [hR] at this
  have HHI : Hid (∀ w', Below w6.heap.size w6 w' → Calls Tryz.prog 14 #[.agg #[.slice sa bk.sts.length sc, .slice ta bk.trips.length tc], .slice ra rs.length rc, .int .i64 s, .int .i64 m, .int .i64 5] w' fun e w'' => e = .returned (.string K) ∧ Below w'.heap.size w' w'') := fun w' hb => by
    have := implShown_any (.agg #[.slice sa bk.sts.length sc, .slice ta bk.trips.length tc]) bk ra rc rs s m 5 w' HSML.out HRL.out HWF.out HW0.out (HSC.out w' hb).1.book (HSC.out w' hb).1.reps (HSC.out w' hb).1.errs (HSC.out w' hb).2.2
    rwa [hR, hK] at this
  have HHS : Hid (∀ w', Below w6.heap.size w6 w' → Calls Tryz.prog 15 #[.agg #[.slice sa2 bk.sts.length sc2, .slice ta2 bk.trips.length tc2], .slice ra2 rs.length rc2, .int .i64 s, .int .i64 m, .int .i64 5] w' fun e w'' => e = .returned (.string K) ∧ Below w'.heap.size w' w'') := fun w' hb => by
    have := specShown_any (.agg #[.slice sa2 bk.sts.length sc2, .slice ta2 bk.trips.length tc2]) bk ra2 rc2 rs s m 5 w' HSML.out HRL.out (HSC.out w' hb).2.1.book (HSC.out w' hb).2.1.reps
    rwa [hR, hK] at this
  have HYI : Hid (∀ w', Below w6.heap.size w6 w' → Calls Tryz.prog 17 #[.agg #[.slice sa bk.sts.length sc, .slice ta bk.trips.length tc], .slice ra rs.length rc, .int .i64 s, .int .i64 0, .int .i64 500] w' fun e w'' => ∃ v', e = .returned v' ∧ SaidsOwn w'.heap.size w'' v' L ∧ Below w'.heap.size w' w'') := fun w' hb => by
    have := implSay_any itoa_ok (.agg #[.slice sa bk.sts.length sc, .slice ta bk.trips.length tc]) bk ra rc rs s 0 500 w' HSML.out HRL.out HWF.out HW0.out (HSC.out w' hb).1.book (HSC.out w' hb).1.reps (HSC.out w' hb).1.errs (HSC.out w' hb).2.2
    rwa [hL] at this
  have HYS : Hid (∀ w', Below w6.heap.size w6 w' → Calls Tryz.prog 18 #[.agg #[.slice sa2 bk.sts.length sc2, .slice ta2 bk.trips.length tc2], .slice ra2 rs.length rc2, .int .i64 s, .int .i64 0, .int .i64 500] w' fun e w'' => ∃ v', e = .returned v' ∧ SaidsOwn w'.heap.size w'' v' L ∧ Below w'.heap.size w' w'') := fun w' hb => by
    have := specSay_any (.agg #[.slice sa2 bk.sts.length sc2, .slice ta2 bk.trips.length tc2]) bk ra2 rc2 rs s 0 500 w' HSML.out HRL.out (HSC.out w' hb).2.1.book (HSC.out w' hb).2.1.reps
    rwa [hL] at this
  clear hN hR hL hK HTB6
  have HC6 : Hid (w6.cell? ⟨X, 0, none⟩ = some (.slice sa bk.sts.length sc) ∧ w6.cell? ⟨X, 1, none⟩ = some (.slice ta bk.trips.length tc)) := ⟨c0, c1⟩
  go_wp2_with fail
  refine (HSK.out _ (Below.refl _ _)).mono ?_
  rintro e w7 ⟨v7, rfl, ⟨vs7, ho7⟩, hb7⟩
  obtain ⟨a7, c7, rfl, H7⟩ := ho7.at
  have HN7 : Hid (NewsSSAt w7 a7 N) := H7
  have HB7 : Hid (Below w6.heap.size w6 w7) := hb7
  have d0 := cell_keep hb7 c0
  have d1 := cell_keep hb7 c1
  clear ho7 hb7 H7
  go_wp2_with fail
  refine (HKN.out _ HB7.out).mono ?_
  rintro e w8 ⟨v8, rfl, ⟨vs8, ho8⟩, hb8⟩
  obtain ⟨a8, c8, rfl, H8⟩ := ho8.at
  have HG8 : Hid (NewsOwnAt w7.heap.size w8 (.slice a8 N.length c8) N vs8) := ho8
  have HB8 : Hid (Below w7.heap.size w7 w8) := hb8
  have f0 := cell_keep hb8 d0
  have f1 := cell_keep hb8 d1
  clear ho8 hb8 H8 d0 d1
  go_wp2_with fail
  refine (HBI.out _ (HB7.out.trans (HB8.out.mono HB7.out.size))).mono ?_
  rintro e w9 ⟨v9, rfl, ho9, hb9⟩
  obtain ⟨a9, c9, rfl, H9⟩ := rows_at ho9
  have HR9 : Hid (RowsAt w9 a9 R) := H9
  have HG9 : Hid (NewsOwnAt w7.heap.size w9 (.slice a8 N.length c8) N vs8) := HG8.out.below hb9
  have HB9 : Hid (Below w7.heap.size w7 w9) := HB8.out.trans (hb9.mono HB8.out.size)
  have B9 : Below w6.heap.size w6 w9 := HB7.out.trans (HB9.out.mono HB7.out.size)
  have g0 := cell_keep hb9 f0
  have g1 := cell_keep hb9 f1
  have g2 := cell_keep B9 e0
  have g3 := cell_keep B9 e1
  clear ho9 hb9 H9 f0 f1 HG8 HB8 c0 c1 e0 e1
  have HN9 : Hid (NewsSSAt w9 a7 N) := HN7.out.keep HB9.out
  have HGA : Hid (NewsSSAt w9 a8 N) := by
    obtain ⟨x, y, e, hx⟩ := HG9.out.at
    simp only [Value.slice.injEq] at e
    obtain ⟨rfl, -⟩ := e
    exact hx
  go_wp2_with fail
  go_region_held3 (fun w' => w'.cell? ⟨X, 0, none⟩ = some (.slice sa bk.sts.length sc) ∧ w'.cell? ⟨X, 1, none⟩ = some (.slice ta bk.trips.length tc) ∧ w'.cell? ⟨Y, 0, none⟩ = some (.slice sa2 bk.sts.length sc2) ∧ w'.cell? ⟨Y, 1, none⟩ = some (.slice ta2 bk.trips.length tc2))
    (go_keep)
    (first
      | (go_at_call 16; refine (wSaid_same a15 a16 L c15 c16 _ HLS.out H15' H16).mono ?_; rintro e w17 ⟨rfl, hb17⟩; have B17 : Below w9.heap.size w9 w17 := B16.trans (hb17.mono B16.size); have x0_17 := cell_keep B17 g0; have x1_17 := cell_keep B17 g1; have x2_17 := cell_keep B17 g2; have x3_17 := cell_keep B17 g3)
      | (go_at_call 18; refine (HYS.out _ (B9.trans (B15.mono B9.size))).mono ?_; rintro e w16 ⟨v16, rfl, ho16, hb16⟩; obtain ⟨a16, c16, rfl, H16⟩ := saids_at ho16; have B16 : Below w9.heap.size w9 w16 := B15.trans (hb16.mono B15.size); have x0_16 := cell_keep B16 g0; have x1_16 := cell_keep B16 g1; have x2_16 := cell_keep B16 g2; have x3_16 := cell_keep B16 g3; have H15' := H15.keep hb16)
      | (go_at_call 17; refine (HYI.out _ (B9.trans (B14.mono B9.size))).mono ?_; rintro e w15 ⟨v15, rfl, ho15, hb15⟩; obtain ⟨a15, c15, rfl, H15⟩ := saids_at ho15; have B15 : Below w9.heap.size w9 w15 := B14.trans (hb15.mono B14.size); have x0_15 := cell_keep B15 g0; have x1_15 := cell_keep B15 g1; have x2_15 := cell_keep B15 g2; have x3_15 := cell_keep B15 g3)
      | (go_at_call 15; refine (HHS.out _ (B9.trans (B13.mono B9.size))).mono ?_; rintro e w14 ⟨rfl, hb14⟩; have B14 : Below w9.heap.size w9 w14 := B13.trans (hb14.mono B13.size); have x0_14 := cell_keep B14 g0; have x1_14 := cell_keep B14 g1; have x2_14 := cell_keep B14 g2; have x3_14 := cell_keep B14 g3)
      | (go_at_call 14; refine (HHI.out _ (B9.trans (B12.mono B9.size))).mono ?_; rintro e w13 ⟨rfl, hb13⟩; have B13 : Below w9.heap.size w9 w13 := B12.trans (hb13.mono B12.size); have x0_13 := cell_keep B13 g0; have x1_13 := cell_keep B13 g1; have x2_13 := cell_keep B13 g2; have x3_13 := cell_keep B13 g3)
      | (go_at_call 12; refine (wRows_same a9 a11 R c9 c11 _ HRS.out H9' H11).mono ?_; rintro e w12 ⟨rfl, hb12⟩; have B12 : Below w9.heap.size w9 w12 := B11.trans (hb12.mono B11.size); have x0_12 := cell_keep B12 g0; have x1_12 := cell_keep B12 g1; have x2_12 := cell_keep B12 g2; have x3_12 := cell_keep B12 g3)
      | (go_at_call 13; refine (HBS.out _ (B9.trans (B10.mono B9.size))).mono ?_; rintro e w11 ⟨v11, rfl, ho11, hb11⟩; obtain ⟨a11, c11, rfl, H11⟩ := rows_at ho11; have B11 : Below w9.heap.size w9 w11 := B10.trans (hb11.mono B10.size); have x0_11 := cell_keep B11 g0; have x1_11 := cell_keep B11 g1; have x2_11 := cell_keep B11 g2; have x3_11 := cell_keep B11 g3; have H9' := HR9.out.keep B11)
      | (go_at_call 11; refine (wNews_same a8 a7 N c8 c7 _ HNS.out (HGA.out.keep (Below.refl _ _).drew) (HN9.out.keep (Below.refl _ _).drew)).mono ?_; rintro e w10 ⟨rfl, hb10⟩; have B10 : Below w9.heap.size w9 w10 := (Below.refl _ _).drew.trans hb10; have x0_10 := cell_keep B10 g0; have x1_10 := cell_keep B10 g1; have x2_10 := cell_keep B10 g2; have x3_10 := cell_keep B10 g3))
  have HG17 : Hid (NewsOwnAt w7.heap.size w17 (.slice a8 N.length c8) N vs8) := HG9.out.below B17
  have HBW : Hid (Below w7.heap.size w7 w17) := HB9.out.trans (B17.mono HB9.out.size)
  have hn1 : N.length ≤ 1048576 := by have := HNS.out; unfold newsSize at this; omega
  have HN2 : Hid (∀ i (h : i < N.length), N[i].length ≤ 1048576) := fun i h => by have := sumLens_get N i h; have := HNS.out; unfold newsSize at this; omega
  clear HG9 HB9 HGA HN9
  go_wp2_with fail
  go_loopw [97] (fun i wr => ∃ k : Nat, k ≤ N.length ∧ i = .int .i64 k ∧ Hid (NewsOwnAt w7.heap.size wr (.slice a8 N.length c8) (topTo k N) vs8) ∧ Hid (Below w7.heap.size w7 wr)) (fun i _ => N.length - (intOf i).toNat)
  case atStart => exact ⟨0, Nat.zero_le _, rfl, by unfold Hid; rw [topTo_zero]; exact HG17.out, HBW⟩
  case round =>
    obtain ⟨k, hk, rfl, hG, hB⟩ := hrel
    have hl := topTo_length k N
    by_cases hlt : k < N.length
    · have hvl : k < vs8.length := by rw [hG.out.len, hl]; exact hlt
      have hki : (k : Int) < (N.length : Int) := by omega
      have hrow := hG.out.rows k (by rw [hl]; exact hlt) hvl
      have hget := topTo_get k k N hlt (Nat.le_refl _)
      rw [hget] at hrow
      obtain ⟨ra', rc', hv⟩ := owns_slice hrow
      have HV : Hid (vs8[k] = .slice ra' N[k].length rc') := hv
      have hnl := HN2.out k hlt
      obtain ⟨g, hg8⟩ : ∃ g, a8 = some ⟨g, 0, none⟩ := by
        rcases hG.out.outer.2 with ⟨e, e0⟩ | ⟨g, cap, cur, e, _⟩
        · rw [hl] at e0; omega
        · simp only [Value.slice.injEq] at e; exact ⟨g, e.1⟩
      subst hg8
      have HO : Hid (∀ (w' : World) (nss : List (List NewsD)), nss.length = N.length → NewsOwnAt w7.heap.size w' (.slice (some ⟨g, 0, none⟩) N.length c8) nss vs8 → w'.cell? ⟨g, k, none⟩ = some (.slice ra' N[k].length rc')) := fun w' nss hln h => by
        have h1 := h.outer
        rw [hln] at h1
        rw [h1.cellAt k (by omega), List.getElem?_eq_getElem hvl, HV.out]
      have o0 := HO.out wr _ hl hG.out
      have HSETK : Hid ((topTo k N).set k (topRow 0 N[k]) = topTo k N) := by
        unfold Hid; rw [topRow_zero, ← hget]; exact List.set_getElem_self _
      have HG0 : Hid (NewsOwnAt w7.heap.size wr (.slice (some ⟨g, 0, none⟩) N.length c8) ((topTo k N).set k (topRow 0 N[k])) vs8) := by unfold Hid; rw [HSETK.out]; exact hG.out
      have HEND : Hid ((topTo k N).set k (topRow N[k].length N[k]) = topTo (k + 1) N) := by unfold Hid; rw [topRow_end, topTo_succ k N hlt]
      obtain ⟨ns, hns⟩ : ∃ ns, N[k] = ns := ⟨_, rfl⟩
      rw [hns] at HV hnl HO o0 HG0 HEND
      clear hv hrow hget hG HSETK hns
      rename World => W1
      go_wp2_with fail
      go_loopw [105] (fun i wr => ∃ q : Nat, q ≤ ns.length ∧ i = .int .i64 q ∧ Hid (NewsOwnAt w7.heap.size wr (.slice (some ⟨g, 0, none⟩) N.length c8) ((topTo k N).set k (topRow q ns)) vs8) ∧ Hid (Below w7.heap.size w7 wr)) (fun i _ => ns.length - (intOf i).toNat)
      case atStart => exact ⟨0, Nat.zero_le _, rfl, HG0, hB⟩
      case round =>
        obtain ⟨q, hq, rfl, hGi, hBi⟩ := hrel
        have hln : ((topTo k N).set k (topRow q ns)).length = N.length := by rw [List.length_set, hl]
        have o1 := HO.out wr _ hln hGi.out
        by_cases hql : q < ns.length
        · have hqi : (q : Int) < (ns.length : Int) := by omega
          have hrow := hGi.out.rows k (by rw [hln]; exact hlt) hvl
          rw [List.getElem_set_self, HV.out, topRow_length] at hrow
          obtain ⟨rg, hrg, hrB⟩ : ∃ rg, ra' = some ⟨rg, 0, none⟩ ∧ w7.heap.size ≤ rg := by
            rcases hrow.2 with ⟨e, e0⟩ | ⟨rg, cap, cur, e, hb, _⟩
            · omega
            · simp only [Value.slice.injEq] at e; exact ⟨rg, e.1, hb⟩
          subst hrg
          have hlr := topRow_length q ns
          have hrow' := hrow
          rw [← hlr] at hrow'
          have hst := rowCells_set' q 1 (.int .i64 77) (topN ns[q]) (by rw [hlr]; exact hql) (by omega) (by rw [topRow_get q ns hql]; rfl) hrow'
          rw [hlr, ← topRow_succ q ns hql] at hst
          have HST : Hid (NewsOwnAt w7.heap.size (wr.setCell ⟨rg, q * 5 + 1, none⟩ (.int .i64 77)) (.slice (some ⟨g, 0, none⟩) N.length c8) ((topTo k N).set k (topRow (q + 1) ns)) vs8) := by
            have := hGi.out.stored k (by rw [hln]; exact hlt) hvl (ns := topRow (q + 1) ns) (w' := wr.setCell ⟨rg, q * 5 + 1, none⟩ (.int .i64 77)) (by rw [HV.out, topRow_length]; exact hst.1) (by rw [HV.out]; exact hst.2)
            rw [List.set_set] at this
            exact this
          have HBN : Hid (Below w7.heap.size w7 (wr.setCell ⟨rg, q * 5 + 1, none⟩ (.int .i64 77))) := hBi.out.setCell hrB _
          obtain ⟨u1, d1⟩ := row_cell5 hrow' q 1 (by rw [hlr]; exact hql) (by omega)
          have hfr := hrow.frozenAt
          clear hst hrow hrow' hlr hGi hBi HG0
          go_wp2_with fail
          go_roundw
          case rel => exact ⟨q + 1, by omega, by go_num, HST, HBN⟩
          case measure => simp [intOf]; omega
        · have hqe : q = ns.length := by omega
          subst hqe
          rw [HEND.out] at hGi
          obtain ⟨_, _, ee, hrd⟩ := hGi.out.at
          simp only [Value.slice.injEq] at ee
          obtain ⟨rfl, -⟩ := ee
          have HRD : Hid (NewsSSAt wr (some ⟨g, 0, none⟩) (topTo (k + 1) N)) := hrd
          have HWD : Hid (NewsSSAt wr a7 N) := HN7.out.keep hBi.out
          clear hrd
          by_cases hk1 : k + 1 < N.length
          · obtain ⟨b1, p1, na1, nc1, e1, m0, hna1⟩ := HRD.out (k + 1) (by rw [topTo_length]; exact hk1)
            simp only [Option.some.injEq, Addr.mk.injEq, and_true] at e1
            obtain ⟨rfl, rfl⟩ := e1
            rw [topTo_get (k + 1) (k + 1) N hk1 (Nat.le_refl _)] at m0 hna1
            obtain ⟨b2, p2, na2, nc2, rfl, n0, hna2⟩ := HWD.out (k + 1) hk1
            have hnl2 := HN2.out (k + 1) hk1
            generalize N[k + 1] = nx at *
            obtain ⟨K1, hK1⟩ : ∃ K1 : Nat, k + 1 = K1 := ⟨_, rfl⟩
            rw [hK1] at m0 n0
            rw [Nat.zero_add] at m0
            have hg1n : decide (K1 < N.length) = true := decide_eq_true (by omega)
            have hki1 : (k : Int) + 1 = (K1 : Int) := by omega
            have hkw1 : IntKind.i64.wrap (K1 : Int) = (K1 : Int) := by rw [IntKind.wrap_i64]; omega
            have hg1 : decide ((K1 : Int) < (N.length : Int)) = true := decide_eq_true (by omega)
            have hg1' : (K1 : Int) < (N.length : Int) := by omega
            by_cases h0 : 0 < nx.length
            · have hg2 : decide ((0 : Int) < (nx.length : Int)) = true := decide_eq_true (by omega)
              have hg2' : (0 : Int) < (nx.length : Int) := by omega
              have hg2n : decide (0 < nx.length) = true := decide_eq_true h0
              obtain ⟨b3, p3, rfl, s0, s1, s2, s3, s4⟩ := hna1 0 h0
              obtain ⟨b4, p4, rfl, t0, t1, t2, t3, t4⟩ := hna2 0 h0
              generalize nx[0] = x at *
              simp only [Nat.zero_mul, Nat.add_zero] at s0 s1 s2 s3 s4 t0 t1 t2 t3 t4
              clear hna1 hna2
              go_wp2_with fail
              go_quiet (fail)
              go_wp2_with fail
              go_roundw
              case rel => exact ⟨k + 1, by omega, by go_num, NewsOwnAt.below hGi.out (below_drewN (Below.refl _ _) _), below_drewN hBi.out _⟩
              case measure => simp [intOf]; omega
            · have hg2 : decide ((0 : Int) < (nx.length : Int)) = false := decide_eq_false (by omega)
              have hg2' : ¬ (0 : Int) < (nx.length : Int) := by omega
              have hg2n : decide (0 < nx.length) = false := decide_eq_false h0
              clear hna1 hna2
              go_wp2_with fail
              go_quiet (fail)
              go_wp2_with fail
              go_roundw
              case rel => exact ⟨k + 1, by omega, by go_num, NewsOwnAt.below hGi.out (below_drewN (Below.refl _ _) _), below_drewN hBi.out _⟩
              case measure => simp [intOf]; omega
          · obtain ⟨K1, hK1⟩ : ∃ K1 : Nat, k + 1 = K1 := ⟨_, rfl⟩
            have hki1 : (k : Int) + 1 = (K1 : Int) := by omega
            have hkw1 : IntKind.i64.wrap (K1 : Int) = (K1 : Int) := by rw [IntKind.wrap_i64]; omega
            have hg1 : decide ((K1 : Int) < (N.length : Int)) = false := decide_eq_false (by omega)
            have hg1' : ¬ (K1 : Int) < (N.length : Int) := by omega
            have hg1n : decide (K1 < N.length) = false := decide_eq_false (by omega)
            go_wp2_with fail
            go_quiet (fail)
            go_wp2_with fail
            go_roundw
            case rel => exact ⟨k + 1, by omega, by go_num, NewsOwnAt.below hGi.out (below_drewN (Below.refl _ _) _), below_drewN hBi.out _⟩
            case measure => simp [intOf]; omega
    · have HSr : Hid (∀ w', Below w7.heap.size w7 w' → Below w6.heap.size w6 w') := fun w' h => HB7.out.trans (h.mono HB7.out.size)
      have HRA : Hid (RepsAt w7 ra rs) := (HSC.out _ HB7.out).1.reps
      have HRB : Hid (RepsAt w7 ra2 rs) := (HSC.out _ HB7.out).2.1.reps
      have hrl : rs.length ≤ 20 := HR.out.2
      rename World => W1
      have HB1 : Hid (Below w7.heap.size w7 W1) := hB
      clear hG hB
      go_wp2_with fail
      go_loopw [150] (fun i wr => ∃ q : Nat, q ≤ rs.length ∧ i = .int .i64 q ∧ Hid (Below w7.heap.size w7 wr)) (fun i _ => rs.length - (intOf i).toNat)
      case atStart => exact ⟨0, Nat.zero_le _, rfl, HB1⟩
      case round =>
        obtain ⟨q, hq, rfl, hBi⟩ := hrel
        by_cases hql : q < rs.length
        · have hqi : (q : Int) < (rs.length : Int) := by omega
          have hq0 : (0 : Int) ≤ (q : Int) := by omega
          obtain ⟨b1, p1, rfl, s0, s1, s2, s3, s4⟩ := (HRA.out.keep hBi.out) q hql
          obtain ⟨b2, p2, rfl, t0, t1, t2, t3, t4⟩ := (HRB.out.keep hBi.out) q hql
          generalize rs[q] = x at *
          go_wp2_with fail
          go_quiet (fail)
          go_wp2_with fail
          go_roundw
          case rel => exact ⟨q + 1, by omega, by go_num, below_drewN hBi.out _⟩
          case measure => simp [intOf]; omega
        · have k0 := cell_keep hBi.out (cell_keep HB7.out HC6.out.1)
          have k1 := cell_keep hBi.out (cell_keep HB7.out HC6.out.2)
          go_wp2_with fail
          refine (HKN.out _ (HSr.out _ hBi.out)).mono ?_
          rintro e w20 ⟨v20, rfl, ⟨vs20, ho20⟩, hb20⟩
          obtain ⟨a20, c20, rfl, H20⟩ := ho20.at
          have HBE : Hid (Below w7.heap.size w7 w20) := hBi.out.trans (hb20.mono hBi.out.size)
          clear ho20 hb20
          go_wp2_with fail
          refine (wNews_same a20 a7 N c20 c7 _ HNS.out H20 (HN7.out.keep HBE.out)).mono ?_
          rintro e w21 ⟨rfl, hb21⟩
          have HBF : Hid (Below w.heap.size w w21) := by
            have h1 : Below w6.heap.size w6 w21 := HSr.out _ (HBE.out.trans (hb21.mono HBE.out.size))
            exact HSA.out.since.trans (h1.mono HSA.out.since.size)
          clear hb21
          go_wp2_with fail
          go_ret
          exact ⟨rfl, HBF.out⟩


end Go.Proofs.YtjioingdpfgadaaGreatDoor
