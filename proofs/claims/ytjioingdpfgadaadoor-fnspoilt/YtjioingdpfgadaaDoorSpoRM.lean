import Derived.Test.YtjioingdpfgadaaDoorSpoAM
namespace Go.Proofs.YtjioingdpfgadaaDoor
open Go Go.RowKit Go.Deep

set_option maxRecDepth 100000 in
set_option maxHeartbeats 8000000 in
theorem spoil_2 (B C Z : Nat) (zc : Array Value) (ca : Option Addr) (bs : List Int) (cap m : Nat) (s0 : Rd) (w : World) (sv tv : Value) (vs : List Value) (bk : BookD) (hm : m ≤ 1000000) (hok : SpOk bk) (hrows : BookRows B w sv tv vs bk) (hC : C < B) (hB : B ≤ w.heap.size) (hcode : ∀ b o, ca = some ⟨b, o, none⟩ → b < B) (hZC : Z ≠ C) (hZo : w.heap[Z]? = some (.cells zc 26 (0, 0))) (h : CurAt w C ca bs cap s0 m) (hr0 : 2 ≤ (pickF bs 6 s0).1) :
    Calls Tryd.prog 62 #[.pointer (some ⟨C, 0, none⟩), .agg #[sv, tv]] w (SpTo B C Z zc ca bs cap m w) := by
  have HCO : Hid (∀ b o, ca = some ⟨b, o, none⟩ → b < B) := hcode
  obtain ⟨sa, sc, rfl⟩ := owns_slice hrows.strs
  obtain ⟨ta, tc, rfl⟩ := owns_slice hrows.trips.outer
  obtain ⟨W2, hW2⟩ : ∃ W2, (w.alloc (.cells #[.slice sa bk.sts.length sc, .slice ta bk.trips.length tc] 26)).alloc (.cells #[.slice none 0 0, .slice none 0 0] 26) = W2 := ⟨_, rfl⟩
  have hs2 : W2.heap.size = w.heap.size + 1 + 1 := by subst hW2; simp
  have hb2 : Below w.heap.size w W2 := by subst hW2; exact ((Below.refl _ _).alloc (Nat.le_refl _) _).alloc (by simp) _
  have HST2 : Hid (SpSt B C w.heap.size (w.heap.size + 1) Z zc W2 (.slice sa bk.sts.length sc) (.slice ta bk.trips.length tc) vs bk) := by
    have hZl := (Array.getElem?_eq_some_iff.1 hZo).1
    refine ⟨hrows.below hb2, hok, ?_, ?_, ⟨by omega, hC, hB, by omega⟩, (hb2.block Z hZl).trans hZo, hZC, by omega, by omega⟩
    · subst hW2
      rw [Below.heap_alloc _ _ _ (by simp)]
      exact heap_alloc_last w _
    · subst hW2
      have := heap_alloc_last (w.alloc (.cells #[.slice sa bk.sts.length sc, .slice ta bk.trips.length tc] 26)) (.cells #[.slice none 0 0, .slice none 0 0] 26)
      rw [World.size_alloc] at this
      exact this
  have HC2 : Hid (CurAt W2 C ca bs cap s0 m) := h.keep hb2
  have HK2 : Hid (KeepC C B w W2) := KeepC.below (hb2.mono hB)
  have hzB : B ≤ W2.heap.size := by omega
  clear h hcode hrows hb2 hZo
  go_enter Tryd.func62, Tryd.ntmps62
  go_wp2_with fail
  clear hW2
  obtain ⟨Y, hY⟩ : ∃ Y, w.heap.size + 1 = Y := ⟨_, rfl⟩
  rw [hY] at HST2 ⊢
  obtain ⟨X, hX⟩ : ∃ X, w.heap.size = X := ⟨_, rfl⟩
  rw [hX] at HST2 ⊢
  clear hY hX hs2
  refine (pick_any C ca bs cap m 6 s0 _ (by omega) (by omega) HC2.out).mono ?_
  rintro e w3 ⟨r, s3, hp3, hr, rfl, hc3, hg3⟩
  have K3 : KeepC C W2.heap.size W2 w3 := KeepC.cur hg3 (Nat.le_refl _)
  have HST3 : Hid (SpSt B C X Y Z zc w3 (.slice sa bk.sts.length sc) (.slice ta bk.trips.length tc) vs bk) := HST2.out.keepC K3
  have HC3 : Hid (CurAt w3 C ca bs cap s3 (m + 2)) := hc3
  have HK3 : Hid (KeepC C B w w3) := HK2.out.trans (K3.mono hzB)
  have hz3 : B ≤ w3.heap.size := by have := K3.size; omega
  have hCX : X ≠ C := by have := HST2.out.ne; omega
  have hst2 := hok.sts2
  have hst31 := hok.sts31
  have htr5 := hok.trips5
  have HRR := hr0
  rw [hp3] at HRR
  simp only at HRR
  clear HST2 HC2 HK2 K3 hc3 hg3 hp3 hzB hr0
  have h0b : ((r : Int) == 0) = false := beq_eq_false_iff_ne.2 (by omega)
  have h1b : ((r : Int) == 1) = false := beq_eq_false_iff_ne.2 (by omega)
  have h0i : ¬ (r : Int) = 0 := by omega
  have h1i : ¬ (r : Int) = 1 := by omega
  clear hr
  obtain ⟨⟨b0, b1⟩, _⟩ := two_cells HST3.out.box
  by_cases hT : bk.trips.length = 0
  · have hTi : ((bk.trips.length : Int) == 0) = true := by simp [hT]
    clear hT
    obtain ⟨⟨z0, z1⟩, zf⟩ := two_cells HST3.out.res
    have zf0 := zf 0
    have zf1 := zf 1
    have hXY : X ≠ Y := HST3.out.ne.1
    have hYX : Y ≠ X := fun e => hXY e.symm
    clear zf
    go_wp2_with fail
    obtain ⟨fE, fR, fC, fK, fZ⟩ := spoil_fin HST3.out HC3.out HCO.out
    refine bodyPost_ret (v := .agg #[.slice sa bk.sts.length sc, .slice ta bk.trips.length tc]) ?_ rfl ⟨_, _, _, _, _, rfl, HST3.out.ok, fR, fC.more (by omega), HK3.out.trans fK, fZ⟩
    exact results_row Tryd.results62 _ _ Y 26 _ (0, 0) _ rfl fE Tryd.underlying26 rfl infBook
  have hTi : ((bk.trips.length : Int) == 0) = false := beq_eq_false_iff_ne.2 (by omega)
  have hTi2 : ¬ (bk.trips.length : Int) = 0 := by omega
  have hTi3 : ¬ bk.trips = [] := fun e => by rw [e] at hT; simp at hT
  obtain ⟨tg, etg, htB, htl⟩ := own_at HST3.out.rows.trips.outer (by omega)
  subst etg
  have hb1l := cell_lt b1
  go_wp2_with fail
  go_region_held3 (fun w' => w'.cell? ⟨X, 1, none⟩ = some (.slice (some ⟨tg, 0, none⟩) bk.trips.length tc))
    (go_keep)
    (first | (go_at_call 61; refine (pick_any C ca bs cap (m + 2) bk.trips.length s3 _ (by omega) (by omega) (by exact HC3.out.keep (Below.refl _ _).drew)).mono ?_; rintro e w4 ⟨i, s4, hp4, hi4, rfl, hc4, hg4⟩; have K4 : KeepC C w3.heap.size w3 w4 := KeepC.drewCur hg4; have b14 := K4.cell b1 hb1l hCX; have hil : i < bk.trips.length := (by omega); have hii : (i : Int) < (bk.trips.length : Int) := (by omega); have hi0 : (0 : Int) ≤ (i : Int) := (by omega)))
  have HST4 : Hid (SpSt B C X Y Z zc w4 (.slice sa bk.sts.length sc) (.slice (some ⟨tg, 0, none⟩) bk.trips.length tc) vs bk) := HST3.out.keepC K4
  have HC4 : Hid (CurAt w4 C ca bs cap s4 (m + 2 + 2)) := hc4
  have HK4 : Hid (KeepC C B w w4) := HK3.out.trans (K4.mono hz3)
  have hz4 : B ≤ w4.heap.size := by have := K4.size; omega
  clear hp4 hi4 hc4 hg4 K4 b14 b0 b1 hb1l HST3 HC3 HK3
  go_wp2_with fail
  refine (pick_any C ca bs cap (m + 2 + 2) 5 s4 _ (by omega) (by omega) HC4.out).mono ?_
  rintro e w5 ⟨q, s5, hp5, hq5, rfl, hc5, hg5⟩
  have K5 : KeepC C w4.heap.size w4 w5 := KeepC.cur hg5 (Nat.le_refl _)
  have HST5 : Hid (SpSt B C X Y Z zc w5 (.slice sa bk.sts.length sc) (.slice (some ⟨tg, 0, none⟩) bk.trips.length tc) vs bk) := HST4.out.keepC K5
  have HC5 : Hid (CurAt w5 C ca bs cap s5 (m + 2 + 2 + 2)) := hc5
  have HK5 : Hid (KeepC C B w w5) := HK4.out.trans (K5.mono hz4)
  have hz5 : B ≤ w5.heap.size := by have := K5.size; omega
  have hvl : i < vs.length := by rw [HST5.out.rows.trips.len]; exact hil
  obtain ⟨ka, kc, hka⟩ := owns_slice (HST5.out.rows.trips.rows i hil hvl)
  have HKA : Hid (vs[i] = .slice ka bk.trips[i].calls.length kc) := hka
  have t1 : w5.cell? ⟨tg, i * 2 + 1, none⟩ = some (.slice ka bk.trips[i].calls.length kc) := by
    rw [HST5.out.rows.trips.outer.cellAt (i * 2 + 1) (by omega), (tripCells_get _ _ i hil hvl).2, hka]
  have hlen8 : bk.trips[i].calls.length ≤ 8 := (hok.each _ (List.getElem_mem hil)).2.1
  clear hp5 hc5 hg5 K5 HST4 HC4 HK4 hka
  by_cases g0 : q = 0
  · subst g0
    clear hq5
    go_wp2_with fail
    refine (pick_any C ca bs cap (m + 2 + 2 + 2) 3 s5 _ (by omega) (by omega) (HC5.out.keep ((Below.refl _ _).alloc (Nat.le_refl _) _))).mono ?_
    rintro e w9 ⟨j, s9, hp9, hj9, rfl, hc9, hg9⟩
    have X9 := grown_new hg9 (by omega)
    have K9 : KeepC C w5.heap.size w5 w9 := KeepC.allocCur hg9
    have hj3 : j < 3 := by omega
    have hj3i : (j : Int) < 3 := by omega
    have hj0 : (0 : Int) ≤ (j : Int) := by omega
    obtain ⟨nm, hnm, hcell⟩ := lit_str (l := [⟨#[]⟩, ⟨#[84, 49]⟩, ⟨#[84, 50]⟩]) X9 hj3 (by intro x hx; simp only [List.mem_cons, List.not_mem_nil, or_false] at hx; rcases hx with rfl | rfl | rfl <;> decide)
    have HST9 : Hid (SpSt B C X Y Z zc w9 (.slice sa bk.sts.length sc) (.slice (some ⟨tg, 0, none⟩) bk.trips.length tc) vs bk) := HST5.out.keepC K9
    have HC9 : Hid (CurAt w9 C ca bs cap s9 (m + 2 + 2 + 2 + 2)) := hc9
    have HK9 : Hid (KeepC C B w w9) := HK5.out.trans (K9.mono hz5)
    have hz9 : B ≤ w9.heap.size := by have := K9.size; omega
    have hrow := HST9.out.rows.trips.outer
    have HROW : Hid (w9.ownsRow B 54 2 (.slice (some ⟨tg, 0, none⟩) bk.trips.length tc) bk.trips.length (tripCells bk.trips vs)) := hrow
    obtain ⟨⟨u0, c0⟩, cf0⟩ := own_cell (j := i * 2) hrow (by omega)
    obtain ⟨bk', hok', hl1, hl2, hrows'⟩ := HST9.out.rows.tripName (i := i) hok hil hnm
    have HSTU : Hid (SpSt B C X Y Z zc (w9.setCell ⟨tg, i * 2, none⟩ (.string nm)) (.slice sa bk.sts.length sc) (.slice (some ⟨tg, 0, none⟩) bk.trips.length tc) vs bk') := HST9.out.stored hrow (by decide) hok' hrows'
    obtain ⟨hcu, hku⟩ := store_rest (idx := i * 2) (u := .string nm) hrow hC HCO.out HC9.out
    have HCU : Hid (CurAt (w9.setCell ⟨tg, i * 2, none⟩ (.string nm)) C ca bs cap s9 (m + 2 + 2 + 2 + 2)) := hcu
    have HKU : Hid (KeepC C B w (w9.setCell ⟨tg, i * 2, none⟩ (.string nm))) := HK9.out.trans hku
    clear hp9 hj9 hc9 hg9 X9 K9 hrow hcu hku hrows' hl1 hl2 hok' t1
    obtain ⟨⟨y0, y1⟩, ⟨z0, z1⟩, zf0, zf1, hXY, hYX, hXl, hYl⟩ := HST9.out.cells
    have hgX : tg ≠ X := owns_ne_box HROW.out HST9.out.box (by decide)
    have hgY : tg ≠ Y := owns_ne_box HROW.out HST9.out.res (by decide)
    have hXg : X ≠ tg := fun e => hgX e.symm
    have hYg : Y ≠ tg := fun e => hgY e.symm
    have hgl : tg < w9.heap.size := owns_lt HROW.out _ rfl
    go_wp2_with fail
    obtain ⟨fE, fR, fC, fK, fZ⟩ := spoil_fin HSTU.out HCU.out HCO.out
    refine bodyPost_ret (v := .agg #[.slice sa bk.sts.length sc, .slice (some ⟨tg, 0, none⟩) bk.trips.length tc]) ?_ rfl ⟨_, _, _, _, _, rfl, HSTU.out.ok, fR, fC.more (by omega), HKU.out.trans fK, fZ⟩
    exact results_row Tryd.results62 _ _ Y 26 _ (0, 0) _ rfl fE Tryd.underlying26 rfl infBook

  have g0b : ((q : Int) == 0) = false := beq_eq_false_iff_ne.2 (by omega)
  have g0i : ¬ (q : Int) = 0 := by omega
  by_cases g1 : q = 1
  · subst g1
    clear hq5 g0 g0b g0i
    by_cases hn : bk.trips[i].calls.length = 0
    · have hni : ¬ (0 : Int) < (bk.trips[i].calls.length : Int) := by omega
      have HN0 : Hid (bk.trips[i].calls.length = 0) := hn
      clear hn
      obtain ⟨⟨y0, y1⟩, ⟨z0, z1⟩, zf0, zf1, hXY, hYX, hXl, hYl⟩ := HST5.out.cells
      go_wp2_with fail
      obtain ⟨fE, fR, fC, fK, fZ⟩ := spoil_fin HST5.out HC5.out HCO.out
      refine bodyPost_ret (v := .agg #[.slice sa bk.sts.length sc, .slice (some ⟨tg, 0, none⟩) bk.trips.length tc]) ?_ rfl ⟨_, _, _, _, _, rfl, HST5.out.ok, fR, fC.more (by omega), HK5.out.trans fK, fZ⟩
      exact results_row Tryd.results62 _ _ Y 26 _ (0, 0) _ rfl fE Tryd.underlying26 rfl infBook
    · have hni : (0 : Int) < (bk.trips[i].calls.length : Int) := by omega
      have hri := HST5.out.rows.trips.rows i hil hvl
      rw [HKA.out] at hri
      obtain ⟨kg, ekg, hkB, hkl⟩ := own_at hri (by omega)
      subst ekg
      have hcap := own_cap hri
      have hc1 : (1 : Int) ≤ (kc : Int) := by omega
      have hc1n : 1 ≤ kc := by omega
      have hrow := HST5.out.rows.trips.outer
      have HROW : Hid (w5.ownsRow B 54 2 (.slice (some ⟨tg, 0, none⟩) bk.trips.length tc) bk.trips.length (tripCells bk.trips vs)) := hrow
      have cf1 := (own_cell (j := i * 2 + 1) hrow (by omega)).2
      obtain ⟨bk', vs', hok', hl1, hl2, hrows'⟩ := HST5.out.rows.tripCut (i := i) hok hil hvl HKA.out (by omega)
      have HSTU : Hid (SpSt B C X Y Z zc (w5.setCell ⟨tg, i * 2 + 1, none⟩ (.slice (some ⟨kg, 0, none⟩) 1 kc)) (.slice sa bk.sts.length sc) (.slice (some ⟨tg, 0, none⟩) bk.trips.length tc) vs' bk') := HST5.out.stored hrow (by decide) hok' hrows'
      obtain ⟨hcu, hku⟩ := store_rest (idx := i * 2 + 1) (u := .slice (some ⟨kg, 0, none⟩) 1 kc) hrow hC HCO.out HC5.out
      have HCU : Hid (CurAt (w5.setCell ⟨tg, i * 2 + 1, none⟩ (.slice (some ⟨kg, 0, none⟩) 1 kc)) C ca bs cap s5 (m + 2 + 2 + 2)) := hcu
      have HKU : Hid (KeepC C B w (w5.setCell ⟨tg, i * 2 + 1, none⟩ (.slice (some ⟨kg, 0, none⟩) 1 kc))) := HK5.out.trans hku
      clear hri hrow hcu hku hrows' hl1 hl2 hok' hn
      obtain ⟨⟨y0, y1⟩, ⟨z0, z1⟩, zf0, zf1, hXY, hYX, hXl, hYl⟩ := HST5.out.cells
      have hgX : tg ≠ X := owns_ne_box HROW.out HST5.out.box (by decide)
      have hgY : tg ≠ Y := owns_ne_box HROW.out HST5.out.res (by decide)
      have hXg : X ≠ tg := fun e => hgX e.symm
      have hYg : Y ≠ tg := fun e => hgY e.symm
      have hgl : tg < w5.heap.size := owns_lt HROW.out _ rfl
      go_wp2_with fail
      obtain ⟨fE, fR, fC, fK, fZ⟩ := spoil_fin HSTU.out HCU.out HCO.out
      refine bodyPost_ret (v := .agg #[.slice sa bk.sts.length sc, .slice (some ⟨tg, 0, none⟩) bk.trips.length tc]) ?_ rfl ⟨_, _, _, _, _, rfl, HSTU.out.ok, fR, fC.more (by omega), HKU.out.trans fK, fZ⟩
      exact results_row Tryd.results62 _ _ Y 26 _ (0, 0) _ rfl fE Tryd.underlying26 rfl infBook
  have g1b : ((q : Int) == 1) = false := beq_eq_false_iff_ne.2 (by omega)
  have g1i : ¬ (q : Int) = 1 := by omega
  clear g0 g1 hq5
  by_cases hn : bk.trips[i].calls.length = 0
  · have hnb : ((bk.trips[i].calls.length : Int) == 0) = true := by simp [hn]
    clear hn
    obtain ⟨⟨y0, y1⟩, ⟨z0, z1⟩, zf0, zf1, hXY, hYX, hXl, hYl⟩ := HST5.out.cells
    go_wp2_with fail
    obtain ⟨fE, fR, fC, fK, fZ⟩ := spoil_fin HST5.out HC5.out HCO.out
    refine bodyPost_ret (v := .agg #[.slice sa bk.sts.length sc, .slice (some ⟨tg, 0, none⟩) bk.trips.length tc]) ?_ rfl ⟨_, _, _, _, _, rfl, HST5.out.ok, fR, fC.more (by omega), HK5.out.trans fK, fZ⟩
    exact results_row Tryd.results62 _ _ Y 26 _ (0, 0) _ rfl fE Tryd.underlying26 rfl infBook
  have hnb : ((bk.trips[i].calls.length : Int) == 0) = false := beq_eq_false_iff_ne.2 (by omega)
  have hni : ¬ (bk.trips[i].calls.length : Int) = 0 := by omega
  have hri := HST5.out.rows.trips.rows i hil hvl
  rw [HKA.out] at hri
  obtain ⟨kg, ekg, hkB, hkl⟩ := own_at hri (by omega)
  subst ekg
  have HRI : Hid (w5.ownsRow B 56 4 (.slice (some ⟨kg, 0, none⟩) bk.trips[i].calls.length kc) bk.trips[i].calls.length (fours bk.trips[i].calls)) := hri
  have HWC : Hid (∀ c ∈ bk.trips[i].calls, CallWf c) := (hok.each _ (List.getElem_mem hil)).2.2
  have ht1l := cell_lt t1
  have hCt : tg ≠ C := by omega
  have hCk : kg ≠ C := by omega
  clear hri HKA
  obtain ⟨cs, ecs⟩ : ∃ cs, bk.trips[i].calls = cs := ⟨_, rfl⟩
  rw [ecs] at t1 HRI HWC hnb hni hlen8 hn
  clear ecs
  have hcl := own_cap HRI.out
  go_wp2_with fail
  go_region_held3 (fun w' => w'.cell? ⟨tg, i * 2 + 1, none⟩ = some (.slice (some ⟨kg, 0, none⟩) cs.length kc))
    (go_keep)
    (first | (go_at_call 61; refine (pick_any C ca bs cap (m + 2 + 2 + 2) cs.length s5 _ (by omega) (by omega) (by exact HC5.out.keep (Below.refl _ _).drew)).mono ?_; rintro e w6 ⟨j, s6, hp6, hj6, rfl, hc6, hg6⟩; have K6 : KeepC C w5.heap.size w5 w6 := KeepC.drewCur hg6; have b16 := K6.cell t1 ht1l hCt; have hjl : j < cs.length := (by omega); have hji : (j : Int) < (cs.length : Int) := (by omega); have hj0 : (0 : Int) ≤ (j : Int) := (by omega)))
  have HST6 : Hid (SpSt B C X Y Z zc w6 (.slice sa bk.sts.length sc) (.slice (some ⟨tg, 0, none⟩) bk.trips.length tc) vs bk) := HST5.out.keepC K6
  have HC6 : Hid (CurAt w6 C ca bs cap s6 (m + 2 + 2 + 2 + 2)) := hc6
  have HK6 : Hid (KeepC C B w w6) := HK5.out.trans (K6.mono hz5)
  have hz6 : B ≤ w6.heap.size := by have := K6.size; omega
  have HRI6 : Hid (w6.ownsRow B 56 4 (.slice (some ⟨kg, 0, none⟩) cs.length kc) cs.length (fours cs)) := owns_keepC HRI.out K6 hC
  clear hp6 hj6 hc6 hg6 K6 b16 HST5 HC5 HK5 HRI t1 ht1l
  go_wp2_with fail
  refine (pick_any C ca bs cap (m + 2 + 2 + 2 + 2) 4 s6 _ (by omega) (by omega) HC6.out).mono ?_
  rintro e w7 ⟨z, s7, hp7, hz7', rfl, hc7, hg7⟩
  have K7 : KeepC C w6.heap.size w6 w7 := KeepC.cur hg7 (Nat.le_refl _)
  have HST7 : Hid (SpSt B C X Y Z zc w7 (.slice sa bk.sts.length sc) (.slice (some ⟨tg, 0, none⟩) bk.trips.length tc) vs bk) := HST6.out.keepC K7
  have HC7 : Hid (CurAt w7 C ca bs cap s7 (m + 2 + 2 + 2 + 2 + 2)) := hc7
  have HK7 : Hid (KeepC C B w w7) := HK6.out.trans (K7.mono hz6)
  have hz7 : B ≤ w7.heap.size := by have := K7.size; omega
  have HRI7 : Hid (w7.ownsRow B 56 4 (.slice (some ⟨kg, 0, none⟩) cs.length kc) cs.length (fours cs)) := owns_keepC HRI6.out K7 hC
  have HCJ : Hid (CallWf cs[j]) := HWC.out _ (List.getElem_mem hjl)
  have hcc : ∀ c, c < 4 → w7.cell? ⟨kg, j * 4 + c, none⟩ = (fourOf cs[j])[c]? := fun c hc => by
    rw [HRI7.out.cellAt _ (by omega), fours_get _ j c hjl hc]
  have k0 : w7.cell? ⟨kg, j * 4, none⟩ = some (.int .i64 cs[j].st) := hcc 0 (by omega)
  have k1 : w7.cell? ⟨kg, j * 4 + 1, none⟩ = some (.int .i64 cs[j].co) := hcc 1 (by omega)
  have k2 : w7.cell? ⟨kg, j * 4 + 2, none⟩ = some (.int .i64 cs[j].go) := hcc 2 (by omega)
  have k3 : w7.cell? ⟨kg, j * 4 + 3, none⟩ = some (.int .i64 cs[j].tr) := hcc 3 (by omega)
  have hkl7 := cell_lt k0
  clear hp7 hc7 hg7 K7 HST6 HC6 HK6 HRI6 hcc
  by_cases f0 : z = 0
  · subst f0
    clear hz7' k1 k2 k3
    obtain ⟨⟨y0, y1⟩, -⟩ := two_cells HST7.out.box
    obtain ⟨N2, hN2⟩ : ∃ N2 : Nat, bk.sts.length + 2 = N2 := ⟨_, rfl⟩
    have hsi : (bk.sts.length : Int) + 2 = (N2 : Int) := by omega
    have hN33 : N2 ≤ 33 := by omega
    clear hN2
    go_wp2_with fail
    refine (pick_any C ca bs cap (m + 2 + 2 + 2 + 2 + 2) N2 s7 _ (by omega) (by omega) HC7.out).mono ?_
    rintro e w9 ⟨y, s9, hp9, hy9, rfl, hc9, hg9⟩
    have K9 : KeepC C w7.heap.size w7 w9 := KeepC.cur hg9 (Nat.le_refl _)
    have HST9 : Hid (SpSt B C X Y Z zc w9 (.slice sa bk.sts.length sc) (.slice (some ⟨tg, 0, none⟩) bk.trips.length tc) vs bk) := HST7.out.keepC K9
    have HC9 : Hid (CurAt w9 C ca bs cap s9 (m + 2 + 2 + 2 + 2 + 2 + 2)) := hc9
    have HK9 : Hid (KeepC C B w w9) := HK7.out.trans (K9.mono hz7)
    have hz9 : B ≤ w9.heap.size := by have := K9.size; omega
    have hzw : (Lit.int .i64 ((y : Int) - 1)).wf = true := wf_small (by omega) (by omega)
    have HRI9 : Hid (w9.ownsRow B 56 4 (.slice (some ⟨kg, 0, none⟩) cs.length kc) cs.length (fours cs)) := owns_keepC HRI7.out K9 hC
    obtain ⟨⟨u0, c0⟩, cf0⟩ := own_cell (j := j * 4) HRI9.out (by omega)
    obtain ⟨bk', hok', hl1, hl2, hrows'⟩ := HST9.out.rows.call (idx := j * 4) (z := (y : Int) - 1) hok HRI9.out hzw
    have HSTU : Hid (SpSt B C X Y Z zc (w9.setCell ⟨kg, j * 4, none⟩ (.int .i64 ((y : Int) - 1))) (.slice sa bk.sts.length sc) (.slice (some ⟨tg, 0, none⟩) bk.trips.length tc) vs bk') := HST9.out.stored HRI9.out (by decide) hok' hrows'
    obtain ⟨hcu, hku⟩ := store_rest (idx := j * 4) (u := .int .i64 ((y : Int) - 1)) HRI9.out hC HCO.out HC9.out
    have HCU : Hid (CurAt (w9.setCell ⟨kg, j * 4, none⟩ (.int .i64 ((y : Int) - 1))) C ca bs cap s9 (m + 2 + 2 + 2 + 2 + 2 + 2)) := hcu
    have HKU : Hid (KeepC C B w (w9.setCell ⟨kg, j * 4, none⟩ (.int .i64 ((y : Int) - 1)))) := HK9.out.trans hku
    clear hcu hku hrows' hl1 hl2 hok'
    clear hp9 hc9 hg9 K9 y0 y1 hsi k0 HST7
    obtain ⟨⟨y0, y1⟩, ⟨z0, z1⟩, zf0, zf1, hXY, hYX, hXl, hYl⟩ := HST9.out.cells
    have hgX : kg ≠ X := owns_ne_box HRI9.out HST9.out.box (by decide)
    have hgY : kg ≠ Y := owns_ne_box HRI9.out HST9.out.res (by decide)
    have hXg : X ≠ kg := fun e => hgX e.symm
    have hYg : Y ≠ kg := fun e => hgY e.symm
    have hgl : kg < w9.heap.size := owns_lt HRI9.out _ rfl
    go_wp2_with fail
    obtain ⟨fE, fR, fC, fK, fZ⟩ := spoil_fin HSTU.out HCU.out HCO.out
    refine bodyPost_ret (v := .agg #[.slice sa bk.sts.length sc, .slice (some ⟨tg, 0, none⟩) bk.trips.length tc]) ?_ rfl ⟨_, _, _, _, _, rfl, HSTU.out.ok, fR, fC.more (by omega), HKU.out.trans fK, fZ⟩
    exact results_row Tryd.results62 _ _ Y 26 _ (0, 0) _ rfl fE Tryd.underlying26 rfl infBook
  have f0b : ((z : Int) == 0) = false := beq_eq_false_iff_ne.2 (by omega)
  have f0i : ¬ (z : Int) = 0 := by omega
  by_cases f1 : z = 1
  · subst f1
    clear hz7' k0 k3 f0 f0b f0i
    obtain ⟨gv, hgv⟩ : ∃ gv, cs[j].go = gv := ⟨_, rfl⟩
    have hgw : (Lit.int .i64 gv).wf = true := by rw [← hgv]; exact HCJ.out.2.2.1
    rw [hgv] at k2
    clear hgv
    obtain ⟨gw, hgw1⟩ : ∃ gw, IntKind.i64.wrap (gv + 1) = gw := ⟨_, rfl⟩
    have hgw2 : (Lit.int .i64 gw).wf = true := by rw [← hgw1]; exact wf_wrap _
    have HLIT : Hid (∀ x ∈ [-1, 0, gv, gw], (Lit.int .i64 x).wf = true) := by intro x hx; simp only [List.mem_cons, List.not_mem_nil, or_false] at hx; rcases hx with rfl | rfl | rfl | rfl <;> first | assumption | exact wf_small (by decide) (by decide)
    have h7C : w7.heap.size ≠ C := by omega
    go_wp2_with fail
    go_region_with (first | (go_at_call 61; refine (pick_any C ca bs cap (m + 2 + 2 + 2 + 2 + 2) 4 s7 _ (by omega) (by omega) (by first | exact HC7.out.keep (Below.refl _ _).drew | exact HC7.out.keep ((Below.refl _ _).alloc (Nat.le_refl _) _).drew)).mono ?_; rintro e w9 ⟨y, s9, hp9, hy9, rfl, hc9, hg9⟩; have K9 : KeepC C w7.heap.size w7 w9 := (by first | exact KeepC.drewCur hg9 | exact KeepC.allocDrewCur hg9); have hy4 : y < 4 := (by omega); have hy4i : (y : Int) < 4 := (by omega); have hy0 : (0 : Int) ≤ (y : Int) := (by omega); have k29 := K9.cell k2 hkl7 hCk; have hkl9 := cell_lt k29; obtain ⟨nv, hzw, hnv⟩ : ∃ z, (Lit.int .i64 z).wf = true ∧ [(-1 : Int), 0, gv, gw][y]? = some z := ⟨[(-1 : Int), 0, gv, gw][y], HLIT.out _ (List.getElem_mem (by simpa using hy4)), List.getElem?_eq_getElem (by simpa using hy4)⟩; have HNV : Hid ([(-1 : Int), 0, gv, gw][y]? = some nv) := hnv; clear hnv; (first | (have X9 := grown_newD hg9 h7C; have hcell := lit_at X9 HNV.out; have hxl := cell_lt hcell) | (have hcell := lit_new w9 3 HNV.out)); have HST9 : Hid (SpSt B C X Y Z zc w9 (.slice sa bk.sts.length sc) (.slice (some ⟨tg, 0, none⟩) bk.trips.length tc) vs bk) := HST7.out.keepC K9; have HC9 : Hid (CurAt w9 C ca bs cap s9 (m + 2 + 2 + 2 + 2 + 2 + 2)) := hc9; have HK9 : Hid (KeepC C B w w9) := HK7.out.trans (K9.mono hz7); have HRI9 : Hid (w9.ownsRow B 56 4 (.slice (some ⟨kg, 0, none⟩) cs.length kc) cs.length (fours cs)) := owns_keepC HRI7.out K9 hC; obtain ⟨⟨u0, c0⟩, cf0⟩ := own_cell (j := j * 4 + 1) HRI9.out (by omega); have kne : kg ≠ w9.heap.size := (by omega); obtain ⟨⟨u0', c0A⟩, cf0A⟩ := own_cell (j := j * 4 + 1) (HRI9.out.alloc (.cells #[.int .i64 (-1), .int .i64 0, .int .i64 gv, .int .i64 gw] 3)) (by omega); have hcA : ((w9.alloc (.cells #[.int .i64 (-1), .int .i64 0, .int .i64 gv, .int .i64 gw] 3)).cell? ⟨w9.heap.size, y, none⟩ = some (.int .i64 nv)) := lit_new w9 3 HNV.out; clear hp9 hy9 hc9 hg9))
    all_goals
      obtain ⟨bk', hok', hl1, hl2, hrows'⟩ := HST9.out.rows.call (idx := j * 4 + 1) (z := nv) hok HRI9.out hzw
      have HSTU : Hid (SpSt B C X Y Z zc (w9.setCell ⟨kg, j * 4 + 1, none⟩ (.int .i64 nv)) (.slice sa bk.sts.length sc) (.slice (some ⟨tg, 0, none⟩) bk.trips.length tc) vs bk') := HST9.out.stored HRI9.out (by decide) hok' hrows'
      obtain ⟨hcu, hku⟩ := store_rest (idx := j * 4 + 1) (u := .int .i64 nv) HRI9.out hC HCO.out HC9.out
      have HCU : Hid (CurAt (w9.setCell ⟨kg, j * 4 + 1, none⟩ (.int .i64 nv)) C ca bs cap s9 (m + 2 + 2 + 2 + 2 + 2 + 2)) := hcu
      have HKU : Hid (KeepC C B w (w9.setCell ⟨kg, j * 4 + 1, none⟩ (.int .i64 nv))) := HK9.out.trans hku
      clear hcu hku hrows' hl1 hl2 hok' HST7
      obtain ⟨⟨y0, y1⟩, ⟨z0, z1⟩, zf0, zf1, hXY, hYX, hXl, hYl⟩ := HST9.out.cells
      have hgX : kg ≠ X := owns_ne_box HRI9.out HST9.out.box (by decide)
      have hgY : kg ≠ Y := owns_ne_box HRI9.out HST9.out.res (by decide)
      have hXg : X ≠ kg := fun e => hgX e.symm
      have hYg : Y ≠ kg := fun e => hgY e.symm
      go_wp2_with fail
      first
        | (obtain ⟨fE, fR, fC, fK, fZ⟩ := spoil_fin HSTU.out HCU.out HCO.out
           refine bodyPost_ret (v := .agg #[.slice sa bk.sts.length sc, .slice (some ⟨tg, 0, none⟩) bk.trips.length tc]) ?_ rfl ⟨_, _, _, _, _, rfl, HSTU.out.ok, fR, fC.more (by omega), HKU.out.trans fK, fZ⟩
           exact results_row Tryd.results62 _ _ Y 26 _ (0, 0) _ rfl fE Tryd.underlying26 rfl infBook)
        | (obtain ⟨fE, fR, fC, fK, fZ⟩ := spoil_finA (.cells #[.int .i64 (-1), .int .i64 0, .int .i64 gv, .int .i64 gw] 3) HSTU.out HCU.out HCO.out
           refine bodyPost_ret (v := .agg #[.slice sa bk.sts.length sc, .slice (some ⟨tg, 0, none⟩) bk.trips.length tc]) ?_ rfl ⟨_, _, _, _, _, rfl, HSTU.out.ok, fR, fC.more (by omega), HKU.out.trans fK, fZ⟩
           exact results_row Tryd.results62 _ _ Y 26 _ (0, 0) _ rfl fE Tryd.underlying26 rfl infBook)
  have f1b : ((z : Int) == 1) = false := beq_eq_false_iff_ne.2 (by omega)
  have f1i : ¬ (z : Int) = 1 := by omega
  by_cases f2 : z = 2
  · subst f2
    clear hz7' k0 k3 f0 f1 f0b f0i f1b f1i
    obtain ⟨gv, hgv⟩ : ∃ gv, cs[j].co = gv := ⟨_, rfl⟩
    have hgw : (Lit.int .i64 gv).wf = true := by rw [← hgv]; exact HCJ.out.2.1
    rw [hgv] at k1
    clear hgv k2
    have HLIT : Hid (∀ x ∈ [1000000, 1000001, gv], (Lit.int .i64 x).wf = true) := by intro x hx; simp only [List.mem_cons, List.not_mem_nil, or_false] at hx; rcases hx with rfl | rfl | rfl <;> first | assumption | exact wf_small2 (by decide) (by decide)
    have h7C : w7.heap.size ≠ C := by omega
    go_wp2_with fail
    go_region_with (first | (go_at_call 61; refine (pick_any C ca bs cap (m + 2 + 2 + 2 + 2 + 2) 3 s7 _ (by omega) (by omega) (by first | exact HC7.out.keep (Below.refl _ _).drew | exact HC7.out.keep ((Below.refl _ _).alloc (Nat.le_refl _) _).drew)).mono ?_; rintro e w9 ⟨y, s9, hp9, hy9, rfl, hc9, hg9⟩; have K9 : KeepC C w7.heap.size w7 w9 := (by first | exact KeepC.drewCur hg9 | exact KeepC.allocDrewCur hg9); have hy4 : y < 3 := (by omega); have hy4i : (y : Int) < 3 := (by omega); have hy0 : (0 : Int) ≤ (y : Int) := (by omega); have k29 := K9.cell k1 hkl7 hCk; have hkl9 := cell_lt k29; obtain ⟨nv, hzw, hnv⟩ : ∃ z, (Lit.int .i64 z).wf = true ∧ [(1000000 : Int), 1000001, gv][y]? = some z := ⟨[(1000000 : Int), 1000001, gv][y], HLIT.out _ (List.getElem_mem (by simpa using hy4)), List.getElem?_eq_getElem (by simpa using hy4)⟩; have HNV : Hid ([(1000000 : Int), 1000001, gv][y]? = some nv) := hnv; clear hnv; (first | (have X9 := grown_newD hg9 h7C; have hcell := lit_at X9 HNV.out; have hxl := cell_lt hcell) | (have hcell := lit_new w9 3 HNV.out)); have HST9 : Hid (SpSt B C X Y Z zc w9 (.slice sa bk.sts.length sc) (.slice (some ⟨tg, 0, none⟩) bk.trips.length tc) vs bk) := HST7.out.keepC K9; have HC9 : Hid (CurAt w9 C ca bs cap s9 (m + 2 + 2 + 2 + 2 + 2 + 2)) := hc9; have HK9 : Hid (KeepC C B w w9) := HK7.out.trans (K9.mono hz7); have HRI9 : Hid (w9.ownsRow B 56 4 (.slice (some ⟨kg, 0, none⟩) cs.length kc) cs.length (fours cs)) := owns_keepC HRI7.out K9 hC; obtain ⟨⟨u0, c0⟩, cf0⟩ := own_cell (j := j * 4 + 2) HRI9.out (by omega); have kne : kg ≠ w9.heap.size := (by omega); obtain ⟨⟨u0', c0A⟩, cf0A⟩ := own_cell (j := j * 4 + 2) (HRI9.out.alloc (.cells #[.int .i64 1000000, .int .i64 1000001, .int .i64 gv] 3)) (by omega); have hcA : ((w9.alloc (.cells #[.int .i64 1000000, .int .i64 1000001, .int .i64 gv] 3)).cell? ⟨w9.heap.size, y, none⟩ = some (.int .i64 nv)) := lit_new w9 3 HNV.out; clear hp9 hy9 hc9 hg9))
    all_goals
      obtain ⟨bk', hok', hl1, hl2, hrows'⟩ := HST9.out.rows.call (idx := j * 4 + 2) (z := nv) hok HRI9.out hzw
      have HSTU : Hid (SpSt B C X Y Z zc (w9.setCell ⟨kg, j * 4 + 2, none⟩ (.int .i64 nv)) (.slice sa bk.sts.length sc) (.slice (some ⟨tg, 0, none⟩) bk.trips.length tc) vs bk') := HST9.out.stored HRI9.out (by decide) hok' hrows'
      obtain ⟨hcu, hku⟩ := store_rest (idx := j * 4 + 2) (u := .int .i64 nv) HRI9.out hC HCO.out HC9.out
      have HCU : Hid (CurAt (w9.setCell ⟨kg, j * 4 + 2, none⟩ (.int .i64 nv)) C ca bs cap s9 (m + 2 + 2 + 2 + 2 + 2 + 2)) := hcu
      have HKU : Hid (KeepC C B w (w9.setCell ⟨kg, j * 4 + 2, none⟩ (.int .i64 nv))) := HK9.out.trans hku
      clear hcu hku hrows' hl1 hl2 hok' HST7
      obtain ⟨⟨y0, y1⟩, ⟨z0, z1⟩, zf0, zf1, hXY, hYX, hXl, hYl⟩ := HST9.out.cells
      have hgX : kg ≠ X := owns_ne_box HRI9.out HST9.out.box (by decide)
      have hgY : kg ≠ Y := owns_ne_box HRI9.out HST9.out.res (by decide)
      have hXg : X ≠ kg := fun e => hgX e.symm
      have hYg : Y ≠ kg := fun e => hgY e.symm
      go_wp2_with fail
      first
        | (obtain ⟨fE, fR, fC, fK, fZ⟩ := spoil_fin HSTU.out HCU.out HCO.out
           refine bodyPost_ret (v := .agg #[.slice sa bk.sts.length sc, .slice (some ⟨tg, 0, none⟩) bk.trips.length tc]) ?_ rfl ⟨_, _, _, _, _, rfl, HSTU.out.ok, fR, fC.more (by omega), HKU.out.trans fK, fZ⟩
           exact results_row Tryd.results62 _ _ Y 26 _ (0, 0) _ rfl fE Tryd.underlying26 rfl infBook)
        | (obtain ⟨fE, fR, fC, fK, fZ⟩ := spoil_finA (.cells #[.int .i64 1000000, .int .i64 1000001, .int .i64 gv] 3) HSTU.out HCU.out HCO.out
           refine bodyPost_ret (v := .agg #[.slice sa bk.sts.length sc, .slice (some ⟨tg, 0, none⟩) bk.trips.length tc]) ?_ rfl ⟨_, _, _, _, _, rfl, HSTU.out.ok, fR, fC.more (by omega), HKU.out.trans fK, fZ⟩
           exact results_row Tryd.results62 _ _ Y 26 _ (0, 0) _ rfl fE Tryd.underlying26 rfl infBook)
  have f2b : ((z : Int) == 2) = false := beq_eq_false_iff_ne.2 (by omega)
  have f2i : ¬ (z : Int) = 2 := by omega
  clear f0 f1 f2 hz7' k0 k1 k2
  go_wp2_with fail
  refine (pick_any C ca bs cap (m + 2 + 2 + 2 + 2 + 2) 4 s7 _ (by omega) (by omega) (HC7.out.keep ((Below.refl _ _).alloc (Nat.le_refl _) _))).mono ?_
  rintro e w9 ⟨y, s9, hp9, hy9, rfl, hc9, hg9⟩
  have X9 := grown_new hg9 (by omega)
  have K9 : KeepC C w7.heap.size w7 w9 := KeepC.allocCur hg9
  have hy4 : y < 4 := by omega
  have hy4i : (y : Int) < 4 := by omega
  have hy0 : (0 : Int) ≤ (y : Int) := by omega
  obtain ⟨nv, hzw, hcell⟩ := lit_int (l := [0, 1, 20, 21]) X9 hy4 (by intro x hx; simp only [List.mem_cons, List.not_mem_nil, or_false] at hx; rcases hx with rfl | rfl | rfl | rfl <;> exact wf_small (by decide) (by decide))
  have HST9 : Hid (SpSt B C X Y Z zc w9 (.slice sa bk.sts.length sc) (.slice (some ⟨tg, 0, none⟩) bk.trips.length tc) vs bk) := HST7.out.keepC K9
  have HC9 : Hid (CurAt w9 C ca bs cap s9 (m + 2 + 2 + 2 + 2 + 2 + 2)) := hc9
  have HK9 : Hid (KeepC C B w w9) := HK7.out.trans (K9.mono hz7)
  have hz9 : B ≤ w9.heap.size := by have := K9.size; omega
  have HRI9 : Hid (w9.ownsRow B 56 4 (.slice (some ⟨kg, 0, none⟩) cs.length kc) cs.length (fours cs)) := owns_keepC HRI7.out K9 hC
  obtain ⟨⟨u0, c0⟩, cf0⟩ := own_cell (j := j * 4 + 3) HRI9.out (by omega)
  obtain ⟨bk', hok', hl1, hl2, hrows'⟩ := HST9.out.rows.call (idx := j * 4 + 3) (z := nv) hok HRI9.out hzw
  have HSTU : Hid (SpSt B C X Y Z zc (w9.setCell ⟨kg, j * 4 + 3, none⟩ (.int .i64 (nv))) (.slice sa bk.sts.length sc) (.slice (some ⟨tg, 0, none⟩) bk.trips.length tc) vs bk') := HST9.out.stored HRI9.out (by decide) hok' hrows'
  obtain ⟨hcu, hku⟩ := store_rest (idx := j * 4 + 3) (u := .int .i64 (nv)) HRI9.out hC HCO.out HC9.out
  have HCU : Hid (CurAt (w9.setCell ⟨kg, j * 4 + 3, none⟩ (.int .i64 (nv))) C ca bs cap s9 (m + 2 + 2 + 2 + 2 + 2 + 2)) := hcu
  have HKU : Hid (KeepC C B w (w9.setCell ⟨kg, j * 4 + 3, none⟩ (.int .i64 (nv)))) := HK9.out.trans hku
  clear hcu hku hrows' hl1 hl2 hok'
  clear hp9 hy9 hc9 hg9 X9 K9 HST7 k3
  obtain ⟨⟨y0, y1⟩, ⟨z0, z1⟩, zf0, zf1, hXY, hYX, hXl, hYl⟩ := HST9.out.cells
  have hgX : kg ≠ X := owns_ne_box HRI9.out HST9.out.box (by decide)
  have hgY : kg ≠ Y := owns_ne_box HRI9.out HST9.out.res (by decide)
  have hXg : X ≠ kg := fun e => hgX e.symm
  have hYg : Y ≠ kg := fun e => hgY e.symm
  have hgl : kg < w9.heap.size := owns_lt HRI9.out _ rfl
  go_wp2_with fail
  obtain ⟨fE, fR, fC, fK, fZ⟩ := spoil_fin HSTU.out HCU.out HCO.out
  refine bodyPost_ret (v := .agg #[.slice sa bk.sts.length sc, .slice (some ⟨tg, 0, none⟩) bk.trips.length tc]) ?_ rfl ⟨_, _, _, _, _, rfl, HSTU.out.ok, fR, fC.more (by omega), HKU.out.trans fK, fZ⟩
  exact results_row Tryd.results62 _ _ Y 26 _ (0, 0) _ rfl fE Tryd.underlying26 rfl infBook

end Go.Proofs.YtjioingdpfgadaaDoor
