import Derived.Test.YtjioingdpfgadaaDoorSpoPM
import Derived.Test.YtjioingdpfgadaaDoorSpoQM
import Derived.Test.YtjioingdpfgadaaDoorSpoRM
namespace Go.Proofs.YtjioingdpfgadaaDoor
open Go Go.RowKit Go.Deep

theorem spoil_any (B C Z : Nat) (zc : Array Value) (ca : Option Addr) (bs : List Int) (cap m : Nat) (s0 : Rd) (w : World) (sv tv : Value) (vs : List Value) (bk : BookD) (hm : m ≤ 1000000) (hok : SpOk bk) (hrows : BookRows B w sv tv vs bk) (hC : C < B) (hB : B ≤ w.heap.size) (hcode : ∀ b o, ca = some ⟨b, o, none⟩ → b < B) (hZC : Z ≠ C) (hZo : w.heap[Z]? = some (.cells zc 26 (0, 0))) (h : CurAt w C ca bs cap s0 m) :
    Calls Tryd.prog 62 #[.pointer (some ⟨C, 0, none⟩), .agg #[sv, tv]] w (SpTo B C Z zc ca bs cap m w) := by
  by_cases h0 : (pickF bs 6 s0).1 = 0
  · exact spoil_0 B C Z zc ca bs cap m s0 w sv tv vs bk hm hok hrows hC hB hcode hZC hZo h h0
  by_cases h1 : (pickF bs 6 s0).1 = 1
  · exact spoil_1 B C Z zc ca bs cap m s0 w sv tv vs bk hm hok hrows hC hB hcode hZC hZo h h1
  · exact spoil_2 B C Z zc ca bs cap m s0 w sv tv vs bk hm hok hrows hC hB hcode hZC hZo h (by omega)

end Go.Proofs.YtjioingdpfgadaaDoor
namespace Go.Proofs.YtjioingdpfgadaaDoor
open Go Go.RowKit Go.Deep

def DrawnBookOf (w : World) (e : Ending) (w' : World) : Prop := ∃ bk sv tv vs, e = .returned (.agg #[sv, tv]) ∧ SpOk bk ∧ BookRows w.heap.size w' sv tv vs bk ∧ Below w.heap.size w w'
theorem BookRows.mono {B B' : Nat} {w : World} {sv tv : Value} {vs : List Value} {bk : BookD} (h : BookRows B w sv tv vs bk) (hB : B' ≤ B) : BookRows B' w sv tv vs bk :=
  ⟨owns_mono h.strs hB, owns_mono h.trips.outer hB, h.trips.len, fun i a b => owns_mono (h.trips.rows i a b) hB⟩
theorem BookRows.setBox {B Y i : Nat} {w : World} {sv tv u : Value} {vs : List Value} {bk : BookD} {cs : Array Value} (h : BookRows B w sv tv vs bk) (hb : w.heap[Y]? = some (.cells cs 26 (0, 0))) : BookRows B (w.setCell ⟨Y, i, none⟩ u) sv tv vs bk :=
  ⟨owns_setBox h.strs hb (by decide), owns_setBox h.trips.outer hb (by decide), h.trips.len, fun i a b => owns_setBox (h.trips.rows i a b) hb (by decide)⟩
theorem box_set {w : World} {X : Nat} {a b a' b' : Value} (h : w.heap[X]? = some (.cells #[a, b] 26 (0, 0))) : ((w.setCell ⟨X, 0, none⟩ a').setCell ⟨X, 1, none⟩ b').heap[X]? = some (.cells #[a', b'] 26 (0, 0)) := by
  simp [World.setCell, Array.getElem?_modify, h]
theorem box_set1 {w : World} {X : Nat} {a b a' : Value} (h : w.heap[X]? = some (.cells #[a, b] 26 (0, 0))) : (w.setCell ⟨X, 0, none⟩ a').heap[X]? = some (.cells #[a', b] 26 (0, 0)) := by
  simp [World.setCell, Array.getElem?_modify, h]

set_option maxRecDepth 100000 in
set_option maxHeartbeats 4000000 in
theorem drawBookOk_any (ca : Option Addr) (bs : List Int) (cap : Nat) (w : World) (hcode : BytesAt w ca bs) (hlow : ∀ b o, ca = some ⟨b, o, none⟩ → b < w.heap.size) :
    Calls Tryd.prog 25 #[.slice ca bs.length cap] w (DrawnBookOf w) := by
  obtain ⟨W1, hW1⟩ : ∃ W1, (w.alloc (.cells #[.slice none 0 0, .slice none 0 0] 26)).alloc (.cells #[.slice ca bs.length cap, .int .i64 0, .int .u64 0] 83) = W1 := ⟨_, rfl⟩
  have hs1 : W1.heap.size = w.heap.size + 1 + 1 := by subst hW1; simp
  have hb1 : Below w.heap.size w W1 := by subst hW1; exact ((Below.refl _ _).alloc (Nat.le_refl _) _).alloc (by simp) _
  have HR1 : Hid (W1.heap[w.heap.size]? = some (.cells #[.slice none 0 0, .slice none 0 0] 26 (0, 0))) := by
    subst hW1
    unfold Hid
    rw [Below.heap_alloc _ _ _ (by simp)]
    exact heap_alloc_last w _
  have HC1 : Hid (CurAt W1 (w.heap.size + 1) ca bs cap ⟨0, 0⟩ 0) := by
    refine ⟨Nat.le_refl _, by simp, by simp, ?_, hcode.keep hb1, fun b o e => by have := hlow b o e; omega⟩
    subst hW1
    have := heap_alloc_last (w.alloc (.cells #[.slice none 0 0, .slice none 0 0] 26)) (.cells #[.slice ca bs.length cap, .int .i64 0, .int .u64 0] 83)
    rw [World.size_alloc] at this
    exact this
  have HLO : Hid (∀ b o, ca = some ⟨b, o, none⟩ → b < w.heap.size) := hlow
  clear hlow hcode
  go_enter Tryd.func25, Tryd.ntmps25
  go_wp2_with fail
  refine (book_any (w.heap.size + 1) ca bs cap 0 ⟨0, 0⟩ _ (by omega) (by omega) (fun b o e => by have := HLO.out b o e; omega) HC1.out).mono ?_
  rintro e w2 ⟨bk, s2, sv, tv, vs, hbf, rfl, hsv, htv, hc2, hk2⟩
  have HOK2 : Hid (SpOk bk) := (bookF_drawn bs ⟨0, 0⟩ s2 bk hbf).spok
  have HBK : Hid (BookRows W1.heap.size w2 sv tv vs bk) := ⟨hsv, htv⟩
  obtain ⟨sa, sc, rfl⟩ := owns_slice hsv
  obtain ⟨ta, tc, rfl⟩ := owns_slice htv.outer
  have hz2 := hk2.size
  have HR2 : Hid (w2.heap[w.heap.size]? = some (.cells #[.slice none 0 0, .slice none 0 0] 26 (0, 0))) := by unfold Hid; rw [hk2.block _ (by omega) (by omega)]; exact HR1.out
  have HC2 : Hid (CurAt w2 (w.heap.size + 1) ca bs cap s2 10000) := hc2.more (by omega)
  have HK2 : Hid (KeepC (w.heap.size + 1) W1.heap.size W1 w2) := hk2
  clear hbf hsv htv hc2 hk2 HC1 hW1
  go_wp2_with fail
  obtain ⟨w3, hw3⟩ : ∃ w3, w2.alloc (.cells #[.slice sa bk.sts.length sc, .slice ta bk.trips.length tc] 26) = w3 := ⟨_, rfl⟩
  obtain ⟨X, hX⟩ : ∃ X, w2.heap.size = X := ⟨_, rfl⟩
  have hb3 : Below w2.heap.size w2 w3 := by subst hw3; exact (Below.refl _ _).alloc (Nat.le_refl _) _
  have hz3 : w3.heap.size = X + 1 := by subst hw3; subst hX; simp
  have HX3 : Hid (w3.heap[X]? = some (.cells #[.slice sa bk.sts.length sc, .slice ta bk.trips.length tc] 26 (0, 0))) := by subst hw3; subst hX; exact heap_alloc_last w2 _
  have HBK3 : Hid (BookRows W1.heap.size w3 (.slice sa bk.sts.length sc) (.slice ta bk.trips.length tc) vs bk) := HBK.out.below hb3
  have HC3 : Hid (CurAt w3 (w.heap.size + 1) ca bs cap s2 10000) := HC2.out.keep hb3
  have HR3 : Hid (w3.heap[w.heap.size]? = some (.cells #[.slice none 0 0, .slice none 0 0] 26 (0, 0))) := (hb3.block _ (by omega)).trans HR2.out
  have HK3 : Hid (KeepC (w.heap.size + 1) W1.heap.size W1 w3) := HK2.out.trans (KeepC.below (hb3.mono (by omega)))
  rw [hw3, hX]
  have hXg : w.heap.size + 1 < X := by omega
  have hCX : X ≠ w.heap.size + 1 := by omega
  have hXw : X ≠ w.heap.size := by omega
  clear hw3 hX hb3 HR2 HC2 HK2 HBK
  refine (pick_any (w.heap.size + 1) ca bs cap 10000 3 s2 _ (by omega) (by omega) HC3.out).mono ?_
  rintro e w4 ⟨n, s4, hp4, hn4, rfl, hc4, hg4⟩
  have K4 : KeepC (w.heap.size + 1) w3.heap.size w3 w4 := KeepC.cur hg4 (Nat.le_refl _)
  have HBK4 : Hid (BookRows W1.heap.size w4 (.slice sa bk.sts.length sc) (.slice ta bk.trips.length tc) vs bk) := HBK3.out.keepC K4 (by omega)
  have HX4 : Hid (w4.heap[X]? = some (.cells #[.slice sa bk.sts.length sc, .slice ta bk.trips.length tc] 26 (0, 0))) := (K4.block X (by omega) hCX).trans HX3.out
  have HR4 : Hid (w4.heap[w.heap.size]? = some (.cells #[.slice none 0 0, .slice none 0 0] 26 (0, 0))) := (K4.block _ (by omega) (by omega)).trans HR3.out
  have HC4 : Hid (CurAt w4 (w.heap.size + 1) ca bs cap s4 10002) := hc4
  have HK4 : Hid (KeepC (w.heap.size + 1) W1.heap.size W1 w4) := HK3.out.trans (K4.mono (by omega))
  have hz4 := K4.size
  have hn3 : n ≤ 2 := by omega
  have HZ4 : Hid (X + 1 ≤ w4.heap.size) := by unfold Hid; omega
  clear hp4 hn4 hc4 hg4 K4 HBK3 HX3 HR3 HC3 HK3
  go_wp2_with fail
  go_loopw [5] (fun q wr => ∃ (k mm : Nat) (bk' : BookD) (s' : Rd) (sa' ta' : Option Addr) (sc' tc' : Nat) (vs' : List Value), k ≤ n ∧ q = .int .i64 k ∧ mm + 1000 * k ≤ 20000 ∧ Hid (SpOk bk') ∧ Hid (BookRows W1.heap.size wr (.slice sa' bk'.sts.length sc') (.slice ta' bk'.trips.length tc') vs' bk') ∧ Hid (wr.heap[X]? = some (.cells #[.slice sa' bk'.sts.length sc', .slice ta' bk'.trips.length tc'] 26 (0, 0))) ∧ Hid (wr.heap[w.heap.size]? = some (.cells #[.slice none 0 0, .slice none 0 0] 26 (0, 0))) ∧ Hid (CurAt wr (w.heap.size + 1) ca bs cap s' mm) ∧ Hid (KeepC (w.heap.size + 1) W1.heap.size W1 wr) ∧ Hid (X + 1 ≤ wr.heap.size)) (fun q _ => (intOf q).toNat)
  case atStart => exact ⟨n, 10002, bk, s4, sa, ta, sc, tc, vs, Nat.le_refl _, rfl, by omega, HOK2, HBK4, HX4, HR4, HC4, HK4, HZ4⟩
  case round =>
    obtain ⟨k, mm, bk', s', sa', ta', sc', tc', vs', hk, rfl, hmm, hO, hR, hX, hRes, hCu, hK, hZ⟩ := hrel
    obtain ⟨⟨c0, c1⟩, cf⟩ := two_cells hX.out
    have cf0 := cf 0
    have cf1 := cf 1
    have hzr := hZ.out
    clear cf HBK4 HX4 HR4 HC4 HK4 HZ4 HOK2
    by_cases hk0 : 0 < k
    · have hki : (0 : Int) < (k : Int) := by omega
      obtain ⟨k1, hk1⟩ : ∃ k1, k = k1 + 1 := ⟨k - 1, by omega⟩
      have hk1i : (k : Int) - 1 = (k1 : Int) := by omega
      go_wp2_with fail
      refine (spoil_any W1.heap.size (w.heap.size + 1) X _ ca bs cap mm s' _ _ _ vs' bk' (by omega) hO.out hR.out (by omega) (by omega) (fun b o e => by have := HLO.out b o e; omega) hCX hX.out hCu.out).mono ?_
      rintro e w6 ⟨bk2, s6, sv6, tv6, vs6, rfl, hok6, hrows6, hc6, hk6, hX6⟩
      obtain ⟨sa6, sc6, rfl⟩ := owns_slice hrows6.strs
      obtain ⟨ta6, tc6, rfl⟩ := owns_slice hrows6.trips.outer
      have HR6 : Hid (w6.heap[w.heap.size]? = some (.cells #[.slice none 0 0, .slice none 0 0] 26 (0, 0))) := (hk6.block _ (by omega) (by omega)).trans hRes.out
      obtain ⟨⟨d0, d1⟩, df⟩ := two_cells hX6
      have df0 := df 0
      have df1 := df 1
      have hz6 := hk6.size
      obtain ⟨W7, hW7⟩ : ∃ W7, (w6.setCell ⟨X, 0, none⟩ (.slice sa6 bk2.sts.length sc6)).setCell ⟨X, 1, none⟩ (.slice ta6 bk2.trips.length tc6) = W7 := ⟨_, rfl⟩
      have HO7 : Hid (SpOk bk2) := hok6
      have HB7 : Hid (BookRows W1.heap.size W7 (.slice sa6 bk2.sts.length sc6) (.slice ta6 bk2.trips.length tc6) vs6 bk2) := by subst hW7; exact (hrows6.setBox hX6).setBox (box_set1 hX6)
      have HX7 : Hid (W7.heap[X]? = some (.cells #[.slice sa6 bk2.sts.length sc6, .slice ta6 bk2.trips.length tc6] 26 (0, 0))) := by subst hW7; exact box_set hX6
      have HR7 : Hid (W7.heap[w.heap.size]? = some (.cells #[.slice none 0 0, .slice none 0 0] 26 (0, 0))) := by
        subst hW7
        unfold Hid
        rw [Below.heap_setCell _ _ _ _ (by simp; omega), Below.heap_setCell _ _ _ _ (by simp; omega)]
        exact HR6.out
      have HC7 : Hid (CurAt W7 (w.heap.size + 1) ca bs cap s6 (mm + 1000)) := by
        subst hW7
        exact (hc6.other (set_grown w6 X 0 _) (by omega) (fun b o e => by have := HLO.out b o e; omega)).other (set_grown _ X 1 _) (by omega) (fun b o e => by have := HLO.out b o e; omega)
      have HK7 : Hid (KeepC (w.heap.size + 1) W1.heap.size W1 W7) := by subst hW7; exact (hK.out.trans hk6).trans (KeepC.set2 w6 X _ _ (by omega))
      have HZ7 : Hid (X + 1 ≤ W7.heap.size) := by
        have := (Array.getElem?_eq_some_iff.1 HX7.out).1
        unfold Hid; omega
      clear hok6 hrows6 hc6 hk6 hX6 df HR6 c0 c1 cf0 cf1 hO hR hX hRes hCu hK hZ
      go_wp2_with fail
      go_roundw
      case rel => subst hW7; exact ⟨k1, mm + 1000, bk2, s6, sa6, ta6, sc6, tc6, vs6, by omega, by go_num, by omega, HO7, HB7, HX7, HR7, HC7, HK7, HZ7⟩
      case measure => simp [intOf]; omega
    · have hki : ¬ (0 : Int) < (k : Int) := by omega
      obtain ⟨⟨z0, z1⟩, zf⟩ := two_cells hRes.out
      have zf0 := zf 0
      have zf1 := zf 1
      have hwX : w.heap.size ≠ X := by omega
      clear zf
      go_wp2_with fail
      obtain ⟨WE, hWE⟩ : ∃ WE, (wr.setCell ⟨w.heap.size, 0, none⟩ (.slice sa' bk'.sts.length sc')).setCell ⟨w.heap.size, 1, none⟩ (.slice ta' bk'.trips.length tc') = WE := ⟨_, rfl⟩
      have fE : WE.heap[w.heap.size]? = some (.cells #[.slice sa' bk'.sts.length sc', .slice ta' bk'.trips.length tc'] 26 (0, 0)) := by subst hWE; exact box_set hRes.out
      have fR : BookRows w.heap.size WE (.slice sa' bk'.sts.length sc') (.slice ta' bk'.trips.length tc') vs' bk' := by subst hWE; exact ((hR.out.setBox hRes.out).setBox (box_set1 hRes.out)).mono (by omega)
      have fB : Below w.heap.size w WE := by
        subst hWE
        have h1 : KeepC (w.heap.size + 1) w.heap.size w ((wr.setCell ⟨w.heap.size, 0, none⟩ (.slice sa' bk'.sts.length sc')).setCell ⟨w.heap.size, 1, none⟩ (.slice ta' bk'.trips.length tc')) := ((KeepC.below hb1).trans (hK.out.mono (by omega))).trans (KeepC.set2 wr w.heap.size _ _ (Nat.le_refl _))
        exact h1.toBelow (by omega)
      rw [hWE]
      refine bodyPost_ret (v := .agg #[.slice sa' bk'.sts.length sc', .slice ta' bk'.trips.length tc']) ?_ rfl ⟨bk', _, _, vs', rfl, hO.out, fR, fB⟩
      exact results_row Tryd.results25 _ _ w.heap.size 26 _ (0, 0) _ rfl fE Tryd.underlying26 rfl infBook

end Go.Proofs.YtjioingdpfgadaaDoor
