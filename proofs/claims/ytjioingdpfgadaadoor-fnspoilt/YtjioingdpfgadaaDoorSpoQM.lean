import Derived.Test.YtjioingdpfgadaaDoorSpoAM
namespace Go.Proofs.YtjioingdpfgadaaDoor
open Go Go.RowKit Go.Deep

set_option maxRecDepth 100000 in
set_option maxHeartbeats 8000000 in
theorem spoil_1 (B C Z : Nat) (zc : Array Value) (ca : Option Addr) (bs : List Int) (cap m : Nat) (s0 : Rd) (w : World) (sv tv : Value) (vs : List Value) (bk : BookD) (hm : m ≤ 1000000) (hok : SpOk bk) (hrows : BookRows B w sv tv vs bk) (hC : C < B) (hB : B ≤ w.heap.size) (hcode : ∀ b o, ca = some ⟨b, o, none⟩ → b < B) (hZC : Z ≠ C) (hZo : w.heap[Z]? = some (.cells zc 26 (0, 0))) (h : CurAt w C ca bs cap s0 m) (hr0 : (pickF bs 6 s0).1 = 1) :
    Calls Tryd.prog 62 #[.pointer (some ⟨C, 0, none⟩), .agg #[sv, tv]] w (SpTo B C Z zc ca bs cap m w) := by
  have HCO : Hid (∀ b o, ca = some ⟨b, o, none⟩ → b < B) := hcode
  obtain ⟨sa, sc, rfl⟩ := owns_slice hrows.strs
  obtain ⟨ta, tc, rfl⟩ := owns_slice hrows.trips.outer
  obtain ⟨W2, hW2⟩ : ∃ W2, (w.alloc (.cells #[.slice sa bk.sts.length sc, .slice ta bk.trips.length tc] 26)).alloc (.cells #[.slice none 0 0, .slice none 0 0] 26) = W2 := ⟨_, rfl⟩
  have hs2 : W2.heap.size = w.heap.size + 1 + 1 := by subst hW2; simp
  have hb2 : Below w.heap.size w W2 := by subst hW2; exact ((Below.refl _ _).alloc (Nat.le_refl _) _).alloc (by simp) _
  have HST2 : Hid (SpSt B C w.heap.size (w.heap.size + 1) Z zc W2 (.slice sa bk.sts.length sc) (.slice ta bk.trips.length tc) vs bk) := by
    have hZl := (Array.getElem?_eq_some_iff.1 hZo).1
    refine ⟨hrows.below hb2, hok, ?_, ?_, ⟨by omega, hC, hB, by omega⟩, (hb2.block Z hZl).trans hZo, hZC, by omega, by omega⟩
    · subst hW2
      rw [Below.heap_alloc _ _ _ (by simp)]
      exact heap_alloc_last w _
    · subst hW2
      have := heap_alloc_last (w.alloc (.cells #[.slice sa bk.sts.length sc, .slice ta bk.trips.length tc] 26)) (.cells #[.slice none 0 0, .slice none 0 0] 26)
      rw [World.size_alloc] at this
      exact this
  have HC2 : Hid (CurAt W2 C ca bs cap s0 m) := h.keep hb2
  have HK2 : Hid (KeepC C B w W2) := KeepC.below (hb2.mono hB)
  have hzB : B ≤ W2.heap.size := by omega
  clear h hcode hrows hb2 hZo
  go_enter Tryd.func62, Tryd.ntmps62
  go_wp2_with fail
  clear hW2
  obtain ⟨Y, hY⟩ : ∃ Y, w.heap.size + 1 = Y := ⟨_, rfl⟩
  rw [hY] at HST2 ⊢
  obtain ⟨X, hX⟩ : ∃ X, w.heap.size = X := ⟨_, rfl⟩
  rw [hX] at HST2 ⊢
  clear hY hX hs2
  refine (pick_any C ca bs cap m 6 s0 _ (by omega) (by omega) HC2.out).mono ?_
  rintro e w3 ⟨r, s3, hp3, hr, rfl, hc3, hg3⟩
  have K3 : KeepC C W2.heap.size W2 w3 := KeepC.cur hg3 (Nat.le_refl _)
  have HST3 : Hid (SpSt B C X Y Z zc w3 (.slice sa bk.sts.length sc) (.slice ta bk.trips.length tc) vs bk) := HST2.out.keepC K3
  have HC3 : Hid (CurAt w3 C ca bs cap s3 (m + 2)) := hc3
  have HK3 : Hid (KeepC C B w w3) := HK2.out.trans (K3.mono hzB)
  have hz3 : B ≤ w3.heap.size := by have := K3.size; omega
  have hCX : X ≠ C := by have := HST2.out.ne; omega
  have hst2 := hok.sts2
  have hst31 := hok.sts31
  have htr5 := hok.trips5
  have HRR := hr0
  rw [hp3] at HRR
  simp only at HRR
  clear HST2 HC2 HK2 K3 hc3 hg3 hp3 hzB hr0
  subst HRR
  clear hr
  obtain ⟨ii, hi0, he0⟩ := Option.map_eq_some_iff.1 info9
  simp only [Prod.mk.injEq] at he0
  have HI : Hid (ii.zero = some (.string ByteArray.empty) ∧ ii.size = 1 ∧ ii.bytes = 16) := he0
  have HJ : Hid (Tryd.prog.info? 9 = some ii) := hi0
  clear hi0 he0
  have HS0 : Hid (SpSt B C X Y Z zc w3 (.slice sa bk.sts.length sc) (.slice ta bk.trips.length tc) vs ⟨bk.sts, bk.trips⟩) := HST3.out
  go_wp2_with fail
  go_loopw [] (fun wr => ∃ (ss : List ByteArray) (sa' : Option Addr) (sc' mm : Nat) (s' : Rd), 2 ≤ ss.length ∧ ss.length ≤ 31 ∧ mm + 2 * (31 - ss.length) ≤ m + 2 + 62 ∧ Hid (SpSt B C X Y Z zc wr (.slice sa' ss.length sc') (.slice ta bk.trips.length tc) vs ⟨ss, bk.trips⟩) ∧ Hid (CurAt wr C ca bs cap s' mm) ∧ Hid (KeepC C B w wr) ∧ Hid (B ≤ wr.heap.size)) (fun wr => stLeft X wr)
  case atStart => exact ⟨bk.sts, sa, sc, m + 2, s3, hst2, hst31, by omega, HS0, HC3, HK3, hz3⟩
  case round =>
    obtain ⟨ss, sa', sc', mm, s', h2, h31, hmm, hS, hCu, hK, hZ⟩ := hrel
    obtain ⟨⟨b0, b1⟩, -⟩ := two_cells hS.out.box
    have hb0l := cell_lt b0
    have HB0 : Hid (wr.cell? ⟨X, 0, none⟩ = some (.slice sa' ss.length sc')) := b0
    have hzr := hZ.out
    clear HS0 HST3 HC3 HK3
    go_wp2_with fail
    go_region_held3 (fun w' => w'.cell? ⟨X, 0, none⟩ = some (.slice sa' ss.length sc'))
      (go_keep)
      (first | (go_at_call 61; refine (pick_any C ca bs cap mm 2 s' _ (by omega) (by omega) (by exact hCu.out.keep (Below.refl _ _).drew)).mono ?_; rintro e w4 ⟨y, s4, hp4, hy4, rfl, hc4, hg4⟩; have K4 : KeepC C wr.heap.size wr w4 := KeepC.drewCur hg4; have b04 := K4.cell b0 hb0l hCX; obtain ⟨N, hN⟩ : ∃ N : Nat, 30 + y = N := ⟨_, rfl⟩; have hNi : (30 : Int) + (y : Int) = (N : Int) := (by omega); have hN31 : N ≤ 31 := (by omega); have hNw := wrap_small (n := N) (by omega); clear hN))
    have HST4 : Hid (SpSt B C X Y Z zc w4 (.slice sa' ss.length sc') (.slice ta bk.trips.length tc) vs ⟨ss, bk.trips⟩) := hS.out.keepC K4
    have HC4 : Hid (CurAt w4 C ca bs cap s4 (mm + 2)) := hc4
    have HK4 : Hid (KeepC C B w w4) := hK.out.trans (K4.mono hzr)
    have hz4 : B ≤ w4.heap.size := by have := K4.size; omega
    clear hp4 hy4 hc4 hg4 K4 hS hCu hK b0 b1
    by_cases hlt : ss.length < N
    · have hlti : (ss.length : Int) < (N : Int) := by omega
      have hltd : decide ((ss.length : Int) < (N : Int)) = true := decide_eq_true hlti
      have hDs : (⟨(decL ss.length).toArray⟩ : ByteArray).size ≤ 20 := decL_le ss.length
      have E1 : ∀ w, (Op.stringOp .add ⟨#[83]⟩ ⟨(decL ss.length).toArray⟩).run Tryd.prog w = .ok (.string (⟨#[83]⟩ ++ ⟨(decL ss.length).toArray⟩)) w := fun w => run_string_add_sum w _ _ (by show 1 + (⟨(decL ss.length).toArray⟩ : ByteArray).size ≤ _; omega)
      obtain ⟨nm, hnm⟩ : ∃ nm : ByteArray, (⟨#[83]⟩ : ByteArray) ++ ⟨(decL ss.length).toArray⟩ = nm := ⟨_, rfl⟩
      have HNS : Hid (nm.size ≤ 1000) := by unfold Hid; rw [← hnm, ByteArray.size_append]; show 1 + (⟨(decL ss.length).toArray⟩ : ByteArray).size ≤ 1000; omega
      rw [hnm] at E1
      have b0 := b04
      have hb4l := cell_lt b0
      go_wp2_with fail
      go_region_law (first | (refine step_call rfl 84 #[.int .i64 ss.length] (by first | rfl | kernel_rfl | simp [execOp, resolve, invoke, Act.eval, go_sem]) (l3decimal_any ss.length _ (by omega)) ?_; rintro e w6 ⟨rfl, hb6⟩; have B6 : Below w4.heap.size w4 w6 := (Below.refl _ _).drew.trans (by exact hb6); have HS6 : Hid (SpSt B C X Y Z zc w6 (.slice sa' ss.length sc') (.slice ta bk.trips.length tc) vs ⟨ss, bk.trips⟩) := HST4.out.below B6; have HC6 : Hid (CurAt w6 C ca bs cap s4 (mm + 2)) := HC4.out.keep B6; have d0 := (two_cells HS6.out.box).1.1; have hsz6 := B6.size; have dl := cell_lt d0; have dA : (w6.alloc (.cells #[.string nm] 9)).cell? ⟨X, 0, none⟩ = some (.slice sa' ss.length sc') := cell_keep ((Below.refl _ _).alloc (Nat.le_refl _) _) d0; refine ⟨_, rfl, ?_⟩) | (refine step_append_lies _ (by rfl) _ _ 23 (by rfl) B 9 ii (.string ByteArray.empty) 1 16 Go.Proofs.YtjioingdpfgadaaDoor.u22 HJ.out HI.out.1 HI.out.2.1 HI.out.2.2 rfl (by decide) (.slice sa' ss.length sc') ss.length (ss.map Value.string) (by first | rfl | simp [Act.eval]) (by exact HS6.out.rows.strs.alloc _) ⟨w6.heap.size, 0, none⟩ 1 1 [.string nm] (by first | rfl | simp [Act.eval]) (by rfl) (World.news_of_block (cs := #[.string nm]) (t := 9) (fr := (0, 0)) (heap_alloc_new w6 _)) (by simp [Value.oneCell']) (by decide) (by unfold maxLen; omega) (by omega) (by simp; omega) (w6.heap.size + 1) (by simp) ?_; intro g7 cap7 w7 hown7 hgrow hat7 hlt7; obtain ⟨hbx7, hS7, hC7, hK7⟩ := HS6.out.grow hown7 hgrow HNS.out (by omega) HC6.out HCO.out (by omega); obtain ⟨⟨f0, f1⟩, ff⟩ := two_cells hbx7; have ff0 := ff 0; clear ff))
      all_goals
        obtain ⟨W8, hW8⟩ : ∃ W8, w7.setCell ⟨X, 0, none⟩ (.slice (some ⟨g7, 0, none⟩) (ss.length + 1) cap7) = W8 := ⟨_, rfl⟩
        have HS8 : Hid (SpSt B C X Y Z zc W8 (.slice (some ⟨g7, 0, none⟩) (ss.length + 1) cap7) (.slice ta bk.trips.length tc) vs ⟨ss ++ [nm], bk.trips⟩) := by subst hW8; exact hS7
        have HS9 : Hid (SpSt B C X Y Z zc W8 (.slice (some ⟨g7, 0, none⟩) (ss ++ [nm]).length cap7) (.slice ta bk.trips.length tc) vs ⟨ss ++ [nm], bk.trips⟩) := by unfold Hid; rw [List.length_append]; exact HS8.out
        have HC8 : Hid (CurAt W8 C ca bs cap s4 (mm + 2)) := by subst hW8; exact hC7
        have HK8 : Hid (KeepC C B w W8) := by subst hW8; exact (HK4.out.trans (KeepC.below (B6.mono hz4))).trans hK7
        have HZ8 : Hid (B ≤ W8.heap.size) := by have := HS8.out.ne; have := (Array.getElem?_eq_some_iff.1 HS8.out.box).1; unfold Hid; omega
        have HL8 : Hid (stLeft X W8 = 31 - (ss.length + 1)) := stLeft_eq (two_cells HS8.out.box).1.1
        have HL0 : Hid (stLeft X wr = 31 - ss.length) := stLeft_eq HB0.out
        clear hS7 hC7 hK7 hown7 hgrow hat7 hlt7 hbx7 f0 f1 ff0 B6 d0 hsz6 dl dA E1 HST4 HC4 HK4
        go_wp2_with fail
        go_roundw
        case rel => subst hW8; exact ⟨ss ++ [nm], _, cap7, mm + 2, s4, by simp; omega, by simp; omega, by simp; omega, HS9, HC8, HK8, HZ8⟩
        case measure => subst hW8; rw [HL8.out, HL0.out]; omega
    · have hlti : ¬ (ss.length : Int) < (N : Int) := by omega
      have hltd : decide ((ss.length : Int) < (N : Int)) = false := decide_eq_false hlti
      clear b04
      obtain ⟨⟨y0, y1⟩, ⟨z0, z1⟩, zf0, zf1, hXY, hYX, hXl, hYl⟩ := HST4.out.cells
      go_wp2_with fail
      obtain ⟨fE, fR, fC, fK, fZ⟩ := spoil_fin HST4.out HC4.out HCO.out
      refine bodyPost_ret (v := .agg #[.slice sa' ss.length sc', .slice ta bk.trips.length tc]) ?_ rfl ⟨_, _, _, _, _, rfl, HST4.out.ok, fR, fC.more (by omega), HK4.out.trans fK, fZ⟩
      exact results_row Tryd.results62 _ _ Y 26 _ (0, 0) _ rfl fE Tryd.underlying26 rfl infBook

end Go.Proofs.YtjioingdpfgadaaDoor
