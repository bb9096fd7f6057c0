import Derived.Test.YtjioingdpfgadaaDoorSpoAM
namespace Go.Proofs.YtjioingdpfgadaaDoor
open Go Go.RowKit Go.Deep

set_option maxRecDepth 100000 in
set_option maxHeartbeats 8000000 in
theorem spoil_0 (B C Z : Nat) (zc : Array Value) (ca : Option Addr) (bs : List Int) (cap m : Nat) (s0 : Rd) (w : World) (sv tv : Value) (vs : List Value) (bk : BookD) (hm : m ≤ 1000000) (hok : SpOk bk) (hrows : BookRows B w sv tv vs bk) (hC : C < B) (hB : B ≤ w.heap.size) (hcode : ∀ b o, ca = some ⟨b, o, none⟩ → b < B) (hZC : Z ≠ C) (hZo : w.heap[Z]? = some (.cells zc 26 (0, 0))) (h : CurAt w C ca bs cap s0 m) (hr0 : (pickF bs 6 s0).1 = 0) :
    Calls Tryd.prog 62 #[.pointer (some ⟨C, 0, none⟩), .agg #[sv, tv]] w (SpTo B C Z zc ca bs cap m w) := by
  have HCO : Hid (∀ b o, ca = some ⟨b, o, none⟩ → b < B) := hcode
  obtain ⟨sa, sc, rfl⟩ := owns_slice hrows.strs
  obtain ⟨ta, tc, rfl⟩ := owns_slice hrows.trips.outer
  obtain ⟨W2, hW2⟩ : ∃ W2, (w.alloc (.cells #[.slice sa bk.sts.length sc, .slice ta bk.trips.length tc] 26)).alloc (.cells #[.slice none 0 0, .slice none 0 0] 26) = W2 := ⟨_, rfl⟩
  have hs2 : W2.heap.size = w.heap.size + 1 + 1 := by subst hW2; simp
  have hb2 : Below w.heap.size w W2 := by subst hW2; exact ((Below.refl _ _).alloc (Nat.le_refl _) _).alloc (by simp) _
  have HST2 : Hid (SpSt B C w.heap.size (w.heap.size + 1) Z zc W2 (.slice sa bk.sts.length sc) (.slice ta bk.trips.length tc) vs bk) := by
    have hZl := (Array.getElem?_eq_some_iff.1 hZo).1
    refine ⟨hrows.below hb2, hok, ?_, ?_, ⟨by omega, hC, hB, by omega⟩, (hb2.block Z hZl).trans hZo, hZC, by omega, by omega⟩
    · subst hW2
      rw [Below.heap_alloc _ _ _ (by simp)]
      exact heap_alloc_last w _
    · subst hW2
      have := heap_alloc_last (w.alloc (.cells #[.slice sa bk.sts.length sc, .slice ta bk.trips.length tc] 26)) (.cells #[.slice none 0 0, .slice none 0 0] 26)
      rw [World.size_alloc] at this
      exact this
  have HC2 : Hid (CurAt W2 C ca bs cap s0 m) := h.keep hb2
  have HK2 : Hid (KeepC C B w W2) := KeepC.below (hb2.mono hB)
  have hzB : B ≤ W2.heap.size := by omega
  clear h hcode hrows hb2 hZo
  go_enter Tryd.func62, Tryd.ntmps62
  go_wp2_with fail
  clear hW2
  obtain ⟨Y, hY⟩ : ∃ Y, w.heap.size + 1 = Y := ⟨_, rfl⟩
  rw [hY] at HST2 ⊢
  obtain ⟨X, hX⟩ : ∃ X, w.heap.size = X := ⟨_, rfl⟩
  rw [hX] at HST2 ⊢
  clear hY hX hs2
  refine (pick_any C ca bs cap m 6 s0 _ (by omega) (by omega) HC2.out).mono ?_
  rintro e w3 ⟨r, s3, hp3, hr, rfl, hc3, hg3⟩
  have K3 : KeepC C W2.heap.size W2 w3 := KeepC.cur hg3 (Nat.le_refl _)
  have HST3 : Hid (SpSt B C X Y Z zc w3 (.slice sa bk.sts.length sc) (.slice ta bk.trips.length tc) vs bk) := HST2.out.keepC K3
  have HC3 : Hid (CurAt w3 C ca bs cap s3 (m + 2)) := hc3
  have HK3 : Hid (KeepC C B w w3) := HK2.out.trans (K3.mono hzB)
  have hz3 : B ≤ w3.heap.size := by have := K3.size; omega
  have hCX : X ≠ C := by have := HST2.out.ne; omega
  have hst2 := hok.sts2
  have hst31 := hok.sts31
  have htr5 := hok.trips5
  have HRR := hr0
  rw [hp3] at HRR
  simp only at HRR
  clear HST2 HC2 HK2 K3 hc3 hg3 hp3 hzB hr0
  subst HRR
  clear hr
  obtain ⟨sg, esg, hsB, hsl⟩ := own_at HST3.out.rows.strs (by omega)
  subst esg
  obtain ⟨⟨b0, b1⟩, -⟩ := two_cells HST3.out.box
  have hb0l := cell_lt b0
  have hCs : sg ≠ C := by omega
  have h3C : w3.heap.size ≠ C := by omega
  have HLIT : Hid (∀ x ∈ ([⟨#[]⟩, ⟨#[32, 97]⟩, ⟨#[97, 32]⟩, ⟨#[97, 32, 32, 98]⟩, ⟨#[65, 115, 104]⟩, ⟨#[97, 98, 99, 100, 101, 102, 103, 104, 105, 106, 107, 108, 109, 110, 111, 112, 113, 114, 115, 116]⟩, ⟨#[97, 98, 99, 100, 101, 102, 103, 104, 105, 106, 107, 108, 109, 110, 111, 112, 113, 114, 115, 116, 117]⟩, ⟨#[97, 45, 98]⟩] : List ByteArray), x.size ≤ 1000) := by intro x hx; simp only [List.mem_cons, List.not_mem_nil, or_false] at hx; rcases hx with rfl | rfl | rfl | rfl | rfl | rfl | rfl | rfl <;> decide
  go_wp2_with fail
  go_region_with (first
    | (go_at_call 61; refine (pick_any C ca bs cap (m + 2 + 2) 8 s4 _ (by omega) (by omega) (by first | exact HC4.out | exact HC4.out.keep ((Below.refl _ _).alloc (Nat.le_refl _) _))).mono ?_; rintro e w9 ⟨y, s9, hp9, hy9, rfl, hc9, hg9⟩; have K9 : KeepC C w4.heap.size w4 w9 := (by first | exact KeepC.cur hg9 (Nat.le_refl _) | exact KeepC.allocCur hg9); have hy8 : y < 8 := (by omega); have hy8i : (y : Int) < 8 := (by omega); have hy0 : (0 : Int) ≤ (y : Int) := (by omega); have b09 := K9.cell b04 (by omega) hCX; have hXl9 := cell_lt b09; obtain ⟨nv, hzw, hnv⟩ : ∃ z : ByteArray, z.size ≤ 1000 ∧ ([⟨#[]⟩, ⟨#[32, 97]⟩, ⟨#[97, 32]⟩, ⟨#[97, 32, 32, 98]⟩, ⟨#[65, 115, 104]⟩, ⟨#[97, 98, 99, 100, 101, 102, 103, 104, 105, 106, 107, 108, 109, 110, 111, 112, 113, 114, 115, 116]⟩, ⟨#[97, 98, 99, 100, 101, 102, 103, 104, 105, 106, 107, 108, 109, 110, 111, 112, 113, 114, 115, 116, 117]⟩, ⟨#[97, 45, 98]⟩] : List ByteArray)[y]? = some z := ⟨([⟨#[]⟩, ⟨#[32, 97]⟩, ⟨#[97, 32]⟩, ⟨#[97, 32, 32, 98]⟩, ⟨#[65, 115, 104]⟩, ⟨#[97, 98, 99, 100, 101, 102, 103, 104, 105, 106, 107, 108, 109, 110, 111, 112, 113, 114, 115, 116]⟩, ⟨#[97, 98, 99, 100, 101, 102, 103, 104, 105, 106, 107, 108, 109, 110, 111, 112, 113, 114, 115, 116, 117]⟩, ⟨#[97, 45, 98]⟩] : List ByteArray)[y], HLIT.out _ (List.getElem_mem (by simpa using hy8)), List.getElem?_eq_getElem (by simpa using hy8)⟩; have HNV : Hid (([⟨#[]⟩, ⟨#[32, 97]⟩, ⟨#[97, 32]⟩, ⟨#[97, 32, 32, 98]⟩, ⟨#[65, 115, 104]⟩, ⟨#[97, 98, 99, 100, 101, 102, 103, 104, 105, 106, 107, 108, 109, 110, 111, 112, 113, 114, 115, 116]⟩, ⟨#[97, 98, 99, 100, 101, 102, 103, 104, 105, 106, 107, 108, 109, 110, 111, 112, 113, 114, 115, 116, 117]⟩, ⟨#[97, 45, 98]⟩] : List ByteArray)[y]? = some nv) := hnv; clear hnv; (first | (have X9 := grown_new hg9 h4C; have hcell := lit_atS X9 HNV.out; have hxl := cell_lt hcell) | (have X9 := (K9.block w3.heap.size (by have := (Array.getElem?_eq_some_iff.1 X4).1; omega) h3C).trans X4; have hcell := lit_atS X9 HNV.out; have hxl := cell_lt hcell) | skip); have HST9 : Hid (SpSt B C X Y Z zc w9 (.slice (some ⟨sg, 0, none⟩) bk.sts.length sc) (.slice ta bk.trips.length tc) vs bk) := HST4.out.keepC K9; have HC9 : Hid (CurAt w9 C ca bs cap s9 (m + 2 + 2 + 2)) := hc9; have HK9 : Hid (KeepC C B w w9) := HK4.out.trans (K9.mono hz4); obtain ⟨⟨u0, c0⟩, cf0⟩ := own_cell (j := i) HST9.out.rows.strs (by omega); have sne : sg ≠ w9.heap.size := (by have := cell_lt c0; omega); have sgl := cell_lt c0; obtain ⟨⟨u0', c0A⟩, cf0A⟩ := own_cell (j := i) (HST9.out.rows.strs.alloc (.cells #[.string ⟨#[]⟩, .string ⟨#[32, 97]⟩, .string ⟨#[97, 32]⟩, .string ⟨#[97, 32, 32, 98]⟩, .string ⟨#[65, 115, 104]⟩, .string ⟨#[97, 98, 99, 100, 101, 102, 103, 104, 105, 106, 107, 108, 109, 110, 111, 112, 113, 114, 115, 116]⟩, .string ⟨#[97, 98, 99, 100, 101, 102, 103, 104, 105, 106, 107, 108, 109, 110, 111, 112, 113, 114, 115, 116, 117]⟩, .string ⟨#[97, 45, 98]⟩] 9)) (by omega); have hcA : ((w9.alloc (.cells #[.string ⟨#[]⟩, .string ⟨#[32, 97]⟩, .string ⟨#[97, 32]⟩, .string ⟨#[97, 32, 32, 98]⟩, .string ⟨#[65, 115, 104]⟩, .string ⟨#[97, 98, 99, 100, 101, 102, 103, 104, 105, 106, 107, 108, 109, 110, 111, 112, 113, 114, 115, 116]⟩, .string ⟨#[97, 98, 99, 100, 101, 102, 103, 104, 105, 106, 107, 108, 109, 110, 111, 112, 113, 114, 115, 116, 117]⟩, .string ⟨#[97, 45, 98]⟩] 9)).cell? ⟨w9.heap.size, y, none⟩ = some (.string nv)) := lit_newS w9 9 HNV.out; clear hp9 hy9 hc9 hg9)
    | (go_at_call 61; refine (pick_any C ca bs cap (m + 2) bk.sts.length s3 _ (by omega) (by omega) (by first | exact HC3.out.keep (Below.refl _ _).drew | exact HC3.out.keep ((Below.refl _ _).alloc (Nat.le_refl _) _).drew)).mono ?_; rintro e w4 ⟨i, s4, hp4, hi4, rfl, hc4, hg4⟩; have K4 : KeepC C w3.heap.size w3 w4 := (by first | exact KeepC.drewCur hg4 | exact KeepC.allocDrewCur hg4); have b04 := K4.cell b0 hb0l hCX; have hXl4 := cell_lt b04; have hil : i < bk.sts.length := (by omega); have hii : (i : Int) < (bk.sts.length : Int) := (by omega); have hi0 : (0 : Int) ≤ (i : Int) := (by omega); (first | (have X4 := grown_newD hg4 h3C) | skip); have HST4 : Hid (SpSt B C X Y Z zc w4 (.slice (some ⟨sg, 0, none⟩) bk.sts.length sc) (.slice ta bk.trips.length tc) vs bk) := HST3.out.keepC K4; have HC4 : Hid (CurAt w4 C ca bs cap s4 (m + 2 + 2)) := hc4; have HK4 : Hid (KeepC C B w w4) := HK3.out.trans (K4.mono hz3); have hz4 : B ≤ w4.heap.size := (by have := K4.size; omega); have h4C : w4.heap.size ≠ C := (by omega); clear hp4 hi4 hc4 hg4))
  all_goals
    obtain ⟨bk', hok', hl1, hl2, hrows'⟩ := HST9.out.rows.station (i := i) hok hzw
    have HSTU : Hid (SpSt B C X Y Z zc (w9.setCell ⟨sg, i, none⟩ (.string nv)) (.slice (some ⟨sg, 0, none⟩) bk.sts.length sc) (.slice ta bk.trips.length tc) vs bk') := HST9.out.stored HST9.out.rows.strs (by decide) hok' hrows'
    obtain ⟨hcu, hku⟩ := store_rest (idx := i) (u := .string nv) HST9.out.rows.strs hC HCO.out HC9.out
    have HCU : Hid (CurAt (w9.setCell ⟨sg, i, none⟩ (.string nv)) C ca bs cap s9 (m + 2 + 2 + 2)) := hcu
    have HKU : Hid (KeepC C B w (w9.setCell ⟨sg, i, none⟩ (.string nv))) := HK9.out.trans hku
    clear hcu hku hrows' hl1 hl2 hok'
    obtain ⟨⟨y0, y1⟩, ⟨z0, z1⟩, zf0, zf1, hXY, hYX, hXl, hYl⟩ := HST9.out.cells
    have hgX : sg ≠ X := owns_ne_box HST9.out.rows.strs HST9.out.box (by decide)
    have hgY : sg ≠ Y := owns_ne_box HST9.out.rows.strs HST9.out.res (by decide)
    have hXg : X ≠ sg := fun e => hgX e.symm
    have hYg : Y ≠ sg := fun e => hgY e.symm
    go_wp2_with fail
    first
      | (obtain ⟨fE, fR, fC, fK, fZ⟩ := spoil_fin HSTU.out HCU.out HCO.out
         refine bodyPost_ret (v := .agg #[.slice (some ⟨sg, 0, none⟩) bk.sts.length sc, .slice ta bk.trips.length tc]) ?_ rfl ⟨_, _, _, _, _, rfl, HSTU.out.ok, fR, fC.more (by omega), HKU.out.trans fK, fZ⟩
         exact results_row Tryd.results62 _ _ Y 26 _ (0, 0) _ rfl fE Tryd.underlying26 rfl infBook)
      | (obtain ⟨fE, fR, fC, fK, fZ⟩ := spoil_finA (.cells #[.string ⟨#[]⟩, .string ⟨#[32, 97]⟩, .string ⟨#[97, 32]⟩, .string ⟨#[97, 32, 32, 98]⟩, .string ⟨#[65, 115, 104]⟩, .string ⟨#[97, 98, 99, 100, 101, 102, 103, 104, 105, 106, 107, 108, 109, 110, 111, 112, 113, 114, 115, 116]⟩, .string ⟨#[97, 98, 99, 100, 101, 102, 103, 104, 105, 106, 107, 108, 109, 110, 111, 112, 113, 114, 115, 116, 117]⟩, .string ⟨#[97, 45, 98]⟩] 9) HSTU.out HCU.out HCO.out
         refine bodyPost_ret (v := .agg #[.slice (some ⟨sg, 0, none⟩) bk.sts.length sc, .slice ta bk.trips.length tc]) ?_ rfl ⟨_, _, _, _, _, rfl, HSTU.out.ok, fR, fC.more (by omega), HKU.out.trans fK, fZ⟩
         exact results_row Tryd.results62 _ _ Y 26 _ (0, 0) _ rfl fE Tryd.underlying26 rfl infBook)

end Go.Proofs.YtjioingdpfgadaaDoor
