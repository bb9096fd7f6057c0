import Derived.Test.YtjioingdpfgadaaDoorProg
import Derived.Test.YtjioingdpfgadaaDoorDrwBM
import Derived.Test.YtjioingdpfgadaaDoorDrwFM
namespace Go.Proofs.YtjioingdpfgadaaDoor
open Go Go.RowKit Go.Deep

set_option maxRecDepth 100000 in
set_option maxHeartbeats 8000000 in
theorem book_any (C : Nat) (ca : Option Addr) (bs : List Int) (cap m : Nat) (s0 : Rd) (w : World) (hm : m ≤ 1000000) (hCw : C < w.heap.size) (hcode : ∀ b o, ca = some ⟨b, o, none⟩ → b < w.heap.size) (h : CurAt w C ca bs cap s0 m) :
    Calls Tryd.prog 41 #[.pointer (some ⟨C, 0, none⟩)] w fun e w' => ∃ (bk : BookD) (s' : Rd) (sv tv : Value) (vs : List Value), bookF bs s0 = (bk, s') ∧ e = .returned (.agg #[sv, tv]) ∧ w'.ownsRow w.heap.size 9 1 sv bk.sts.length (bk.sts.map Value.string) ∧ TripsOwn w.heap.size w' tv bk.trips vs ∧ CurAt w' C ca bs cap s' (m + 10000) ∧ KeepC C w.heap.size w w' := by
  have HCO : Hid (∀ b o, ca = some ⟨b, o, none⟩ → b < w.heap.size) := hcode
  obtain ⟨W2, hW2⟩ : ∃ W2, (w.alloc (.cells #[.slice none 0 0, .slice none 0 0] 26)).alloc (.cells #[.slice none 0 0, .slice none 0 0] 26) = W2 := ⟨_, rfl⟩
  have hs2 : W2.heap.size = w.heap.size + 1 + 1 := by subst hW2; simp
  have hb2 : Below w.heap.size w W2 := by subst hW2; exact ((Below.refl _ _).alloc (Nat.le_refl _) _).alloc (by simp) _
  have HD2 : Hid (DraftAt W2 (w.heap.size + 1) (w.heap.size + 1 + 1) [] [] (.slice none 0 0) (.slice none 0 0) []) := by
    subst hW2
    refine ⟨?_, World.ownsRow_nil _ _ _ _, ⟨World.ownsRow_nil _ _ _ _, rfl, fun i h => by simp at h⟩, by omega⟩
    have := heap_alloc_last (w.alloc (.cells #[.slice none 0 0, .slice none 0 0] 26)) (.cells #[.slice none 0 0, .slice none 0 0] 26)
    rw [World.size_alloc] at this
    exact this
  have HR2 : Hid (W2.heap[w.heap.size]? = some (.cells #[.slice none 0 0, .slice none 0 0] 26 (0, 0))) := by
    subst hW2
    unfold Hid
    rw [Below.heap_alloc _ _ _ (by simp)]
    exact heap_alloc_last w _
  have HC2 : Hid (CurAt W2 C ca bs cap s0 m) := h.keep hb2
  clear h hcode
  go_enter Tryd.func41, Tryd.ntmps41
  go_wp2_with fail
  clear hW2
  refine (pick_any C ca bs cap m 5 s0 _ (by omega) (by omega) HC2.out).mono ?_
  rintro e w3 ⟨r, s3, hp3, hr, rfl, hc3, hg3⟩
  have HP3 : Hid (pickF bs 5 s0 = (r, s3)) := hp3
  have HC3 : Hid (CurAt w3 C ca bs cap s3 (m + 2)) := hc3
  have HD3 : Hid (DraftAt w3 (w.heap.size + 1) (w.heap.size + 1 + 1) [] [] (.slice none 0 0) (.slice none 0 0) []) := HD2.out.other hg3 (by omega) (by omega)
  have HK3 : Hid (KeepC C w.heap.size w w3) := (KeepC.below hb2).trans (KeepC.cur hg3 (by omega))
  have HR3 : Hid (w3.heap[w.heap.size]? = some (.cells #[.slice none 0 0, .slice none 0 0] 26 (0, 0))) := by unfold Hid; rw [hg3.block _ (Array.getElem?_eq_some_iff.1 HR2.out).1 (fun e => by cases e; omega)]; exact HR2.out
  have hr5 : r < 5 := by omega
  have HS3 : Hid (w.heap.size + 1 + 1 ≤ w3.heap.size) := by have := hg3.size; unfold Hid; omega
  clear hc3 hg3 hp3
  obtain ⟨N, hN⟩ : ∃ N : Nat, 2 + r = N := ⟨_, rfl⟩
  have HN : Hid (2 + r = N) := hN
  have hNi : (2 : Int) + (r : Int) = (N : Int) := by omega
  have hN6 : N ≤ 6 := by omega
  have hN2 : 2 ≤ N := by omega
  clear hN
  go_wp2_with fail
  go_loopw [5] (fun i wr => ∃ (k : Nat) (sv : Value), k ≤ N ∧ i = .int .i64 k ∧ Hid (DraftAt wr (w.heap.size + 1) (w.heap.size + 1 + 1) (stationsF k) [] sv (.slice none 0 0) []) ∧ Hid (CurAt wr C ca bs cap s3 (m + 2)) ∧ Hid (KeepC C w.heap.size w wr) ∧ Hid (w.heap.size + 1 + 1 ≤ wr.heap.size) ∧ Hid (wr.heap[w.heap.size]? = some (.cells #[.slice none 0 0, .slice none 0 0] 26 (0, 0)))) (fun i _ => N - (intOf i).toNat)
  case atStart => exact ⟨0, _, Nat.zero_le _, rfl, HD3, HC3, HK3, HS3, HR3⟩
  case round =>
    obtain ⟨k, sv, hk, rfl, hD, hC, hK, hZ, hR⟩ := hrel
    by_cases hlt : k < N
    · obtain ⟨ss, hss⟩ : ∃ ss, stationsF k = ss := ⟨_, rfl⟩
      have HSL : Hid (ss.length ≤ 6) := by unfold Hid; rw [← hss, stationsF_length]; omega
      have HSS : Hid (stationsF (k + 1) = ss ++ [nameF k]) := by unfold Hid; rw [stationsF_succ, hss]
      rw [hss] at hD
      clear hss
      obtain ⟨sa, sc, rfl, _⟩ := strs_at hD.out.strs
      obtain ⟨ii, hi0, he0⟩ := Option.map_eq_some_iff.1 info9
      simp only [Prod.mk.injEq] at he0
      have HI : Hid (ii.zero = some (.string ByteArray.empty) ∧ ii.size = 1 ∧ ii.bytes = 16) := he0
      have HJ : Hid (Tryd.prog.info? 9 = some ii) := hi0
      obtain ⟨⟨c0, c1⟩, cf⟩ := two_cells hD.out.box
      clear hi0 he0 cf HC3 HD3 HK3 HS3 HR3 HD2 HC2 HR2
      generalize hnm : nameF k = nm at HSS
      go_wp2_with fail
      go_region_law (first | (refine step_call rfl 83 #[.pointer (some ⟨C, 0, none⟩), .int .i64 k] (by first | rfl | kernel_rfl | simp [execOp, resolve, invoke, Act.eval, go_sem]) (name_any _ k _ (by omega)) ?_; rintro e w4 ⟨rfl, hb4⟩; rw [hnm]; have B4 : Below wr.heap.size wr w4 := (Below.refl _ _).drew.trans (by exact hb4); have HD4 : Hid (DraftAt w4 (w.heap.size + 1) (w.heap.size + 1 + 1) ss [] (.slice sa ss.length sc) (.slice none 0 0) []) := hD.out.below B4; have d0 := (two_cells HD4.out.box).1.1; have hsz4 := B4.size; have dl := cell_lt d0; have dA : (w4.alloc (.cells #[.string nm] 9)).cell? ⟨w.heap.size + 1, 0, none⟩ = some (.slice sa ss.length sc) := cell_keep ((Below.refl _ _).alloc (Nat.le_refl _) _) d0; refine ⟨_, rfl, ?_⟩) | (refine step_append_lies _ (by rfl) _ _ 23 (by rfl) (w.heap.size + 1 + 1) 9 ii (.string ByteArray.empty) 1 16 Go.Proofs.YtjioingdpfgadaaDoor.u22 HJ.out HI.out.1 HI.out.2.1 HI.out.2.2 rfl (by decide) (.slice sa ss.length sc) ss.length (ss.map Value.string) (by first | rfl | simp [Act.eval]) (by exact HD4.out.strs.alloc _) ⟨w4.heap.size, 0, none⟩ 1 1 [.string nm] (by first | rfl | simp [Act.eval]) (by rfl) (World.news_of_block (cs := #[.string nm]) (t := 9) (fr := (0, 0)) (heap_alloc_new w4 _)) (by simp [Value.oneCell']) (by decide) (by have := HSL.out; unfold maxLen; omega) (by have := HSL.out; omega) (by have := hZ.out; simp; omega) (w4.heap.size + 1) (by simp) ?_; intro g5 cap5 w5 hown5 hgrow hat5 hlt5; have hbx5 : w5.heap[w.heap.size + 1]? = some (.cells #[.slice sa ss.length sc, .slice none 0 0] 26 (0, 0)) := (draft_box HD4.out hgrow); obtain ⟨⟨f0, f1⟩, ff⟩ := two_cells hbx5; have ff0 := ff 0; clear ff))
      all_goals
        have hA4 : Below w4.heap.size w4 (w4.alloc (.cells #[.string nm] 9)) := (Below.refl _ _).alloc (Nat.le_refl _) _
        obtain ⟨W5, hW5⟩ : ∃ W5, w5.setCell ⟨w.heap.size + 1, 0, none⟩ (.slice (some ⟨g5, 0, none⟩) (ss.length + 1) cap5) = W5 := ⟨_, rfl⟩
        have HD5 : Hid (DraftAt W5 (w.heap.size + 1) (w.heap.size + 1 + 1) (ss ++ [nm]) [] (.slice (some ⟨g5, 0, none⟩) (ss.length + 1) cap5) (.slice none 0 0) []) := by subst hW5; exact draft_name HD4.out hown5 hgrow
        have HC5 : Hid (CurAt W5 C ca bs cap s3 (m + 2)) := by subst hW5; exact (((hC.out.keep B4).keep hA4).grown hgrow (HD4.out.strs.alloc _) (by omega) (fun b o e => by have := HCO.out b o e; omega)).other (set_grown w5 (w.heap.size + 1) 0 _) (by omega) (fun b o e => by have := HCO.out b o e; omega)
        have HK5 : Hid (KeepC C w.heap.size w W5) := by
          subst hW5
          have hz := hZ.out
          exact (((hK.out.trans (KeepC.below (B4.mono (by omega)))).trans (KeepC.below (hA4.mono (by omega)))).trans (KeepC.own (HD4.out.strs.alloc _) hgrow (by omega) (by simp; omega))).trans (KeepC.set _ _ _ (by simp))
        have HZ5 : Hid (w.heap.size + 1 + 1 ≤ W5.heap.size) := by
          subst hW5
          have h1 := hgrow.size
          have h2 := hZ.out
          unfold Hid
          simp [World.setCell] at h1 ⊢
          omega
        have HR5 : Hid (W5.heap[w.heap.size]? = some (.cells #[.slice none 0 0, .slice none 0 0] 26 (0, 0))) := by
          subst hW5
          have hz := hZ.out
          unfold Hid
          rw [block_kept HD4.out.strs hgrow (by omega) (by omega) (by omega), B4.block _ (by omega)]
          exact hR.out
        clear HD4 hown5 hgrow hat5 hlt5 hbx5 f0 f1 ff0 B4 d0 hsz4 dl dA hA4 hD hC hK hZ hR
        go_wp2_with fail
        go_roundw
        case rel => exact ⟨k + 1, _, by omega, by go_num, by rw [HSS.out]; exact HD5, HC5, HK5, HZ5, HR5⟩
        case measure => simp [intOf]; omega
    · have hkN : k = N := by omega
      subst hkN
      obtain ⟨ss, hss⟩ : ∃ ss, stationsF k = ss := ⟨_, rfl⟩
      have HSS : Hid (stationsF k = ss) := hss
      rw [hss] at hD
      clear hss
      rename World => W1
      clear HC3 HD3 HK3 HS3 HR3 HD2 HC2 HR2
      go_wp2_with fail
      refine (pick_any C ca bs cap (m + 2) 6 s3 _ (by omega) (by omega) hC.out).mono ?_
      rintro e w6 ⟨r6, s6, hp6, hr6, rfl, hc6, hg6⟩
      have HP6 : Hid (pickF bs 6 s3 = (r6, s6)) := hp6
      have hr66 : r6 ≤ 5 := by omega
      have HD6 : Hid (DraftAt w6 (w.heap.size + 1) (w.heap.size + 1 + 1) ss [] sv (.slice none 0 0) []) := hD.out.other hg6 (by omega) (by omega)
      have HC6 : Hid (CurAt w6 C ca bs cap s6 (m + 4)) := hc6
      have HK6 : Hid (KeepC C w.heap.size w w6) := hK.out.trans (KeepC.cur hg6 (by have := hZ.out; omega))
      have HZ6 : Hid (w.heap.size + 1 + 1 ≤ w6.heap.size) := by have := hZ.out; have := hg6.size; unfold Hid; omega
      have HR6 : Hid (w6.heap[w.heap.size]? = some (.cells #[.slice none 0 0, .slice none 0 0] 26 (0, 0))) := by unfold Hid; rw [hg6.block _ (Array.getElem?_eq_some_iff.1 hR.out).1 (fun e => by cases e; omega)]; exact hR.out
      clear hc6 hg6 hD hC hK hZ hr6 hR hp6
      go_wp2_with fail
      go_loopw [6] (fun i wr => ∃ (kk : Nat) (ts : List TripD) (tv : Value) (vs : List Value) (mm : Nat) (s : Rd), kk ≤ r6 ∧ i = .int .i64 kk ∧ mm ≤ m + 4 + (r6 - kk) * 200 ∧ Hid (DraftAt wr (w.heap.size + 1) (w.heap.size + 1 + 1) ss ts sv tv vs) ∧ Hid (CurAt wr C ca bs cap s mm) ∧ Hid (KeepC C w.heap.size w wr) ∧ Hid (w.heap.size + 1 + 1 ≤ wr.heap.size) ∧ Hid (wr.heap[w.heap.size]? = some (.cells #[.slice none 0 0, .slice none 0 0] 26 (0, 0))) ∧ Hid (ts.length ≤ r6 - kk) ∧ Hid (tripsF bs k kk s ts = tripsF bs k r6 s6 [])) (fun i _ => (intOf i).toNat)
      case atStart => exact ⟨r6, [], _, [], m + 4, s6, Nat.le_refl _, rfl, by omega, HD6, HC6, HK6, HZ6, HR6, Nat.zero_le _, rfl⟩
      case round =>
        obtain ⟨kk, ts, tv, vs, mm, s, hkk, rfl, hmm, hD, hC, hK, hZ, hR, hT, hF⟩ := hrel
        clear HD6 HC6 HK6 HZ6 HR6
        by_cases hpos : 0 < kk
        · have hpi : (0 : Int) < (kk : Int) := by omega
          rename World => W2
          have hmm' : mm ≤ m + 2000 := by omega
          have hDs : (⟨(decL kk).toArray⟩ : ByteArray).size ≤ 20 := decL_le kk
          have E1 : ∀ w, (Op.stringOp .add ⟨#[84]⟩ ⟨(decL kk).toArray⟩).run Tryd.prog w = .ok (.string (⟨#[84]⟩ ++ ⟨(decL kk).toArray⟩)) w := fun w => run_string_add_sum w _ _ (by show 1 + (⟨(decL kk).toArray⟩ : ByteArray).size ≤ _; omega)
          go_wp2_with fail
          refine (l3decimal_any kk _ (by omega)).mono ?_
          rintro e w7 ⟨rfl, hb7⟩
          obtain ⟨nm, hnm⟩ : ∃ nm : ByteArray, (⟨#[84]⟩ : ByteArray) ++ ⟨(decL kk).toArray⟩ = nm := ⟨_, rfl⟩
          have HNM : Hid (tripName kk = nm) := hnm
          rw [hnm] at E1
          go_wp2_with fail
          obtain ⟨w8, hw8⟩ : ∃ w8, w7.alloc (.cells #[.string nm, .slice none 0 0] 54) = w8 := ⟨_, rfl⟩
          rw [hw8]
          have hb8 : Below w7.heap.size w7 w8 := by subst hw8; exact (Below.refl _ _).alloc (Nat.le_refl _) _
          have HX8' : Hid (w8.heap[w7.heap.size]? = some (.cells #[.string nm, .slice none 0 0] 54 (0, 0))) := by subst hw8; exact heap_alloc_last w7 _
          have hZ' := hZ.out
          have hsz7 := hb7.size
          have HC8 : Hid (CurAt w8 C ca bs cap s mm) := (hC.out.keep hb7).keep hb8
          have HK8 : Hid (KeepC C W2.heap.size W2 w8) := (KeepC.below hb7).trans (KeepC.below (hb8.mono hsz7))
          obtain ⟨X, hX⟩ : ∃ X, w7.heap.size = X := ⟨_, rfl⟩
          have HX8 : Hid (w8.heap[X]? = some (.cells #[.string nm, .slice none 0 0] 54 (0, 0))) := by rw [← hX]; exact HX8'
          have hz8 : w8.heap.size = X + 1 := by subst hw8; subst hX; simp
          have hXW : W2.heap.size ≤ X := by omega
          rw [hX]
          clear HX8'
          refine (pick_any C ca bs cap mm 60 s _ (by omega) (by omega) HC8.out).mono ?_
          rintro e w9 ⟨r9, s9, hp9, hr9, rfl, hc9, hg9⟩
          have HP9 : Hid (pickF bs 60 s = (r9, s9)) := hp9
          have HC9 : Hid (CurAt w9 C ca bs cap s9 (mm + 2)) := hc9
          have HX9 : Hid (w9.heap[X]? = some (.cells #[.string nm, .slice none 0 0] 54 (0, 0))) := by unfold Hid; rw [hg9.block _ (Array.getElem?_eq_some_iff.1 HX8.out).1 (fun e => by cases e; omega)]; exact HX8.out
          have HK9 : Hid (KeepC C W2.heap.size W2 w9) := HK8.out.trans (KeepC.cur hg9 (by omega))
          have HZ9 : Hid (X + 1 ≤ w9.heap.size) := by have := hg9.size; unfold Hid; omega
          have hr9' : r9 ≤ 60 := by omega
          clear hc9 hg9 hw8 hr9 hp9 HC8 HX8 HK8 hb8 hz8 hX hb7 hsz7 E1 hDs hnm
          go_wp2_with fail
          refine (pick_any C ca bs cap (mm + 2) k s9 _ (by omega) (by omega) HC9.out).mono ?_
          rintro e w10 ⟨r10, s10, hp10, hr10, rfl, hc10, hg10⟩
          have HP10 : Hid (pickF bs k s9 = (r10, s10)) := hp10
          have HC10 : Hid (CurAt w10 C ca bs cap s10 (mm + 4)) := hc10
          have HX10 : Hid (w10.heap[X]? = some (.cells #[.string nm, .slice none 0 0] 54 (0, 0))) := by unfold Hid; rw [hg10.block _ (Array.getElem?_eq_some_iff.1 HX9.out).1 (fun e => by cases e; omega)]; exact HX9.out
          have HK10 : Hid (KeepC C W2.heap.size W2 w10) := HK9.out.trans (KeepC.cur hg10 (by have := HZ9.out; omega))
          have HZ10 : Hid (X + 1 ≤ w10.heap.size) := by have := hg10.size; have := HZ9.out; unfold Hid; omega
          have hr10' : r10 < k := by omega
          clear hc10 hg10 hr10 hp10 HC9 HX9 HK9 HZ9
          obtain ⟨k1, hk1⟩ : ∃ k1 : Nat, k = k1 + 1 := ⟨k - 1, by omega⟩
          have HK1 : Hid (k - 1 = k1) := by unfold Hid; omega
          have hk1i : (k : Int) - 1 = (k1 : Int) := by omega
          have hk16 : k1 ≤ 6 := by omega
          have hk11 : 1 ≤ k1 := by omega
          clear hk1
          go_wp2_with fail
          refine (pick_any C ca bs cap (mm + 4) k1 s10 _ (by omega) (by omega) HC10.out).mono ?_
          rintro e w11 ⟨r11, s11, hp11, hr11, rfl, hc11, hg11⟩
          have HP11 : Hid (pickF bs k1 s10 = (r11, s11)) := hp11
          have HC11 : Hid (CurAt w11 C ca bs cap s11 (mm + 6)) := hc11
          have HX11 : Hid (w11.heap[X]? = some (.cells #[.string nm, .slice none 0 0] 54 (0, 0))) := by unfold Hid; rw [hg11.block _ (Array.getElem?_eq_some_iff.1 HX10.out).1 (fun e => by cases e; omega)]; exact HX10.out
          have HK11 : Hid (KeepC C W2.heap.size W2 w11) := HK10.out.trans (KeepC.cur hg11 (by have := HZ10.out; omega))
          have HZ11 : Hid (X + 1 ≤ w11.heap.size) := by have := hg11.size; have := HZ10.out; unfold Hid; omega
          obtain ⟨ST, hST⟩ : ∃ ST : Nat, 1 + r11 = ST := ⟨_, rfl⟩
          have HST : Hid (1 + r11 = ST) := hST
          have hSTi : (1 : Int) + (r11 : Int) = (ST : Int) := by omega
          have hST7 : ST ≤ 7 := by omega
          clear hc11 hg11 hr11 hp11 HC10 HX10 HK10 HZ10 hST
          go_wp2_with fail
          refine (pick_any C ca bs cap (mm + 6) k1 s11 _ (by omega) (by omega) HC11.out).mono ?_
          rintro e w12 ⟨r12, s12, hp12, hr12, rfl, hc12, hg12⟩
          have HP12 : Hid (pickF bs k1 s11 = (r12, s12)) := hp12
          have HC12 : Hid (CurAt w12 C ca bs cap s12 (mm + 8)) := hc12
          have HX12 : Hid (w12.heap[X]? = some (.cells #[.string nm, .slice none 0 0] 54 (0, 0))) := by unfold Hid; rw [hg12.block _ (Array.getElem?_eq_some_iff.1 HX11.out).1 (fun e => by cases e; omega)]; exact HX11.out
          have HK12 : Hid (KeepC C W2.heap.size W2 w12) := HK11.out.trans (KeepC.cur hg12 (by have := HZ11.out; omega))
          have HZ12 : Hid (X + 1 ≤ w12.heap.size) := by have := hg12.size; have := HZ11.out; unfold Hid; omega
          obtain ⟨M, hM⟩ : ∃ M : Nat, 2 + r12 = M := ⟨_, rfl⟩
          have HM : Hid (2 + r12 = M) := hM
          have hMi : (2 : Int) + (r12 : Int) = (M : Int) := by omega
          have hM8 : M ≤ 8 := by omega
          have HTF : Hid (tripF bs k s = callsF bs k ST M r9 r10 s12 []) := by
            unfold Hid
            rw [tripF_eq bs k s s9 s10 s11 s12 r9 r10 r11 r12 HP9.out HP10.out (by rw [HK1.out]; exact HP11.out) (by rw [HK1.out]; exact HP12.out), HST.out, hM]
          clear hc12 hg12 hr12 hp12 HC11 HX11 HK11 HZ11 hM HP9 HP10 HP11 HP12
          go_wp2_with fail
          go_loopw [8, 9, 12] (fun tm st i wr => ∃ (j a b : Nat) (cs : List CallD) (cv : Value) (m' : Nat) (s' : Rd), j ≤ M ∧ tm = .int .i64 a ∧ st = .int .i64 b ∧ i = .int .i64 j ∧ a ≤ 60 + j * 25 ∧ b < k ∧ cs.length ≤ j ∧ m' ≤ mm + 8 + j * 6 ∧ Hid (wr.heap[X]? = some (.cells #[.string nm, cv] 54 (0, 0))) ∧ Hid (wr.ownsRow (X + 1) 56 4 cv cs.length (fours cs)) ∧ Hid (CurAt wr C ca bs cap s' m') ∧ Hid (KeepC C W2.heap.size W2 wr) ∧ Hid (X + 1 ≤ wr.heap.size) ∧ Hid (callsF bs k ST (M - j) a b s' cs = callsF bs k ST M r9 r10 s12 [])) (fun _ _ i _ => M - (intOf i).toNat)
          case atStart => exact ⟨0, r9, r10, [], _, mm + 8, s12, Nat.zero_le _, rfl, rfl, rfl, by omega, hr10', Nat.le_refl _, by omega, HX12, World.ownsRow_nil _ _ _ _, HC12, HK12, HZ12, rfl⟩
          case round =>
            obtain ⟨j, a, b, cs, cv, m', s', hj, rfl, rfl, rfl, ha, hb, hcl, hm', hX, hO, hC', hK', hZ'', hF'⟩ := hrel
            clear HX12 HC12 HK12 HZ12
            by_cases hjM : j < M
            · have hji : (j : Int) < (M : Int) := by omega
              obtain ⟨va, vc, rfl, hcs⟩ := calls_at hO.out
              have HCS : Hid (CallsAt wr va cs) := hcs
              have x1 := (two_cells hX.out).1.2
              have HJ8 : Hid (cs.length ≤ 8 ∧ a ≤ 300) := ⟨by omega, by omega⟩
              clear hcs
              rename World => W3
              go_wp2_with fail
              go_loopw [13, 66] (fun met idx wi => ∃ q : Nat, q ≤ cs.length ∧ met = .bool ((cs.take q).any (fun c => c.st == (b : Int))) ∧ idx = .int .i64 q ∧ Below W3.heap.size W3 wi) (fun _ idx _ => cs.length - (intOf idx).toNat)
              case atStart => exact ⟨0, Nat.zero_le _, rfl, rfl, Below.refl _ _⟩
              case round =>
                obtain ⟨q, hq, rfl, rfl, hbq⟩ := hrel
                by_cases hql : q < cs.length
                · obtain ⟨g, o, rfl, d0, d1, d2, d3⟩ := HCS.out.keep hbq q hql
                  have HT : Hid ((cs.take (q + 1)).any (fun c => c.st == (b : Int)) = ((cs.take q).any (fun c => c.st == (b : Int)) || (cs[q].st == (b : Int)))) := by unfold Hid; rw [take_snoc cs q hql]; simp only [List.any_append, List.any_cons, List.any_nil, Bool.or_false]
                  generalize cs[q] = c at *
                  generalize (cs.take q).any (fun c => c.st == (b : Int)) = mb at *
                  cases mb
                  · cases he : (c.st == (b : Int))
                    all_goals
                      rw [he] at HT
                      go_wp2_with fail
                      go_roundw
                      case rel => exact ⟨q + 1, by omega, by rw [HT.out]; rfl, by go_num, hbq.alloc hbq.size _⟩
                      case measure => simp [intOf]; omega
                  · go_wp2_with fail
                    go_roundw
                    case rel => exact ⟨q + 1, by omega, by rw [HT.out]; rfl, by go_num, hbq.alloc hbq.size _⟩
                    case measure => simp [intOf]; omega
                · have hq' : q = cs.length := by omega
                  subst hq'
                  rw [List.take_length]
                  have hXl := (Array.getElem?_eq_some_iff.1 hX.out).1
                  have HXr : Hid (wr.heap[X]? = some (.cells #[.string nm, .slice va cs.length vc] 54 (0, 0))) := (hbq.block X hXl).trans hX.out
                  have HOr : Hid (wr.ownsRow (X + 1) 56 4 (.slice va cs.length vc) cs.length (fours cs)) := owns_below hO.out hbq (owns_lt hO.out)
                  have HCr : Hid (CurAt wr C ca bs cap s' m') := hC'.out.keep hbq
                  have HKr : Hid (KeepC C W2.heap.size W2 wr) := hK'.out.trans (KeepC.below (hbq.mono (by omega)))
                  have HZr : Hid (X + 1 ≤ wr.heap.size) := by have := hbq.size; have := hZ''.out; unfold Hid; omega
                  have hkz : ¬ (k : Int) = 0 := by omega
                  clear hX hO hC' hK' hZ'' hbq HCS x1 hXl hq hql
                  obtain ⟨f, hf⟩ : ∃ f, M - j = f + 1 := ⟨M - j - 1, by omega⟩
                  have hf2 : M - (j + 1) = f := by omega
                  cases hany : cs.any (fun c => c.st == (b : Int))
                  · go_wp2_with fail
                    refine (pick_any C ca bs cap m' 6 s' _ (by omega) (by omega) HCr.out).mono ?_
                    rintro e w13 ⟨r13, s13, hp13, hr13, rfl, hc13, hg13⟩
                    have HP13 : Hid (pickF bs 6 s' = (r13, s13)) := hp13
                    have HC13 : Hid (CurAt w13 C ca bs cap s13 (m' + 2)) := hc13
                    have HK0 : Hid (KeepC C wr.heap.size wr w13) := KeepC.cur hg13 (Nat.le_refl _)
                    have HX13 : Hid (w13.heap[X]? = some (.cells #[.string nm, .slice va cs.length vc] 54 (0, 0))) := (HK0.out.block X (Array.getElem?_eq_some_iff.1 HXr.out).1 (by omega)).trans HXr.out
                    have HO13 : Hid (w13.ownsRow (X + 1) 56 4 (.slice va cs.length vc) cs.length (fours cs)) := owns_keepC HOr.out HK0.out (by omega)
                    have HK13 : Hid (KeepC C W2.heap.size W2 w13) := HKr.out.trans (HK0.out.mono (by have := HZr.out; omega))
                    have HZ13 : Hid (X + 1 ≤ w13.heap.size) := by have := hg13.size; have := HZr.out; unfold Hid; omega
                    obtain ⟨lv, hlv⟩ : ∃ lv : Nat, a + r13 = lv := ⟨_, rfl⟩
                    have HLV : Hid (a + r13 = lv) := hlv
                    have hlvi : (a : Int) + (r13 : Int) = (lv : Int) := by omega
                    have hlv4 : lv ≤ 400 := by omega
                    have hlv5 : lv ≤ a + 5 := by omega
                    have x1 := (two_cells HX13.out).1.2
                    clear hc13 hg13 hp13 HXr HOr HCr HKr HZr HK0 hlv hr13
                    obtain ⟨ii, hi0, he0⟩ := Option.map_eq_some_iff.1 info67
                    simp only [Prod.mk.injEq] at he0
                    have HI : Hid (ii.zero = some (.agg #[.int .i64 0, .int .i64 0, .int .i64 0, .int .i64 0]) ∧ ii.size = 4 ∧ ii.bytes = 32) := he0
                    have HJ : Hid (Tryd.prog.info? 56 = some ii) := hi0
                    clear hi0 he0
                    have HCALL : Hid (Calls Tryd.prog 61 #[.pointer (some ⟨C, 0, none⟩), .int .i64 4] w13.drew fun e w' => ∃ (r : Nat) (s' : Rd), pickF bs 4 s13 = (r, s') ∧ (r < 4 ∨ r = 0) ∧ e = .returned (.int .i64 r) ∧ CurAt w' C ca bs cap s' (m' + 2 + 2) ∧ w13.drew.grownBy w' (some C)) := pick_any C ca bs cap (m' + 2) 4 s13 _ (by omega) (by omega) (HC13.out.keep (Below.refl _ _).drew)
                    go_wp2_with fail
                    go_region_law (first | (refine step_call rfl 61 #[.pointer (some ⟨C, 0, none⟩), .int .i64 4] (by first | rfl | kernel_rfl | simp [execOp, resolve, invoke, Act.eval, go_sem]) HCALL.out ?_; rintro e w14 ⟨r14, s14, hp14, hr14, rfl, hc14, hg14⟩; have HP14 : Hid (pickF bs 4 s13 = (r14, s14)) := hp14; have HC14 : Hid (CurAt w14 C ca bs cap s14 (m' + 2 + 2)) := hc14; have HK14 : Hid (KeepC C w13.heap.size w13 w14) := KeepC.drewCur (by exact hg14); have HX14 : Hid (w14.heap[X]? = some (.cells #[.string nm, .slice va cs.length vc] 54 (0, 0))) := (HK14.out.block X (Array.getElem?_eq_some_iff.1 HX13.out).1 (by omega)).trans HX13.out; have HO14 : Hid (w14.ownsRow (X + 1) 56 4 (.slice va cs.length vc) cs.length (fours cs)) := owns_keepC HO13.out HK14.out (by omega); have HZ14 : Hid (X + 1 ≤ w14.heap.size) := (by have := HK14.out.size; have := HZ13.out; unfold Hid; omega); obtain ⟨T, hT⟩ : ∃ T : Nat, 1 + r14 = T := ⟨_, rfl⟩; have HTT : Hid (1 + r14 = T) := hT; have hTi : (1 : Int) + (r14 : Int) = (T : Int) := (by omega); have hT5 : T ≤ 5 := (by omega); have hTw : IntKind.i64.wrap (T : Int) = (T : Int) := (by rw [IntKind.wrap_i64]; omega); clear hT hp14 hc14 hg14 hr14; have d1 := (two_cells HX14.out).1.2; have dl := cell_lt d1; have dA : (w14.alloc (.cells #[.int .i64 b, .int .i64 a, .int .i64 lv, .int .i64 T] 56)).cell? ⟨X, 1, none⟩ = some (.slice va cs.length vc) := cell_keep ((Below.refl _ _).alloc (Nat.le_refl _) _) d1; refine ⟨_, rfl, ?_⟩) | (refine step_append_lies _ (by rfl) _ _ 52 (by rfl) (X + 1) 56 ii (.agg #[.int .i64 0, .int .i64 0, .int .i64 0, .int .i64 0]) 4 32 Go.Proofs.YtjioingdpfgadaaDoor.u42 HJ.out HI.out.1 HI.out.2.1 HI.out.2.2 rfl (by decide) (.slice va cs.length vc) cs.length (fours cs) (by first | rfl | simp [Act.eval]) (by exact HO14.out.alloc _) ⟨w14.heap.size, 0, none⟩ 1 1 (fourOf ⟨b, a, lv, T⟩) (by first | rfl | simp [Act.eval]) (by rfl) (World.news_of_block (cs := #[.int .i64 b, .int .i64 a, .int .i64 lv, .int .i64 T]) (t := 56) (fr := (0, 0)) (heap_alloc_new w14 _)) (four_one _) (by decide) (by have := HJ8.out.1; unfold maxLen; omega) (by have := HJ8.out.1; omega) (by have := HZ14.out; simp; omega) (w14.heap.size + 1) (by simp) ?_; intro g15 cap15 w15 hown15 hgrow hat15 hlt15; obtain ⟨hbx15, hbx16, hO16, hK16⟩ := trip_call (C := C) (c := ⟨b, a, lv, T⟩) HX14.out HO14.out hown15 hgrow; obtain ⟨⟨f0, f1⟩, ff⟩ := two_cells hbx15; have ff1 := ff 1; clear ff))
                    all_goals
                      obtain ⟨W16, hW16⟩ : ∃ W16, w15.setCell ⟨X, 1, none⟩ (.slice (some ⟨g15, 0, none⟩) (cs.length + 1) cap15) = W16 := ⟨_, rfl⟩
                      have HX16 : Hid (W16.heap[X]? = some (.cells #[.string nm, .slice (some ⟨g15, 0, none⟩) (cs.length + 1) cap15] 54 (0, 0))) := by subst hW16; exact hbx16
                      have HO16 : Hid (W16.ownsRow (X + 1) 56 4 (.slice (some ⟨g15, 0, none⟩) (cs.length + 1) cap15) (cs ++ [(⟨b, a, lv, T⟩ : CallD)]).length (fours (cs ++ [(⟨b, a, lv, T⟩ : CallD)]))) := by subst hW16; exact hO16
                      have HK16 : Hid (KeepC C W2.heap.size W2 W16) := by subst hW16; exact (HK13.out.trans (HK14.out.mono (by have := HZ13.out; omega))).trans (hK16.mono (by omega))
                      have HC16 : Hid (CurAt W16 C ca bs cap s14 (m' + 4)) := by subst hW16; exact ((HC14.out.keep ((Below.refl _ _).alloc (Nat.le_refl _) _)).grown hgrow (HO14.out.alloc _) (by omega) (fun b o e => by have := HCO.out b o e; omega)).other (set_grown w15 X 1 _) (by omega) (fun b o e => by have := HCO.out b o e; omega)
                      have HZ16 : Hid (X + 1 ≤ W16.heap.size) := by
                        have := (Array.getElem?_eq_some_iff.1 HX16.out).1
                        unfold Hid; omega
                      clear hbx15 hbx16 hO16 hK16 f0 f1 hgrow hat15 hlt15 hown15 d1 dl dA HC14 HK14 HX14 HO14 HZ14
                      go_wp2_with fail
                      clear hW16
                      refine (pick_any C ca bs cap (m' + 4) 20 s14 _ (by omega) (by omega) HC16.out).mono ?_
                      rintro e w17 ⟨r17, s17, hp17, hr17, rfl, hc17, hg17⟩
                      have HK0 : Hid (KeepC C W16.heap.size W16 w17) := KeepC.cur hg17 (Nat.le_refl _)
                      have HC17 : Hid (CurAt w17 C ca bs cap s17 (m' + 6)) := hc17
                      have HX17 : Hid (w17.heap[X]? = some (.cells #[.string nm, .slice (some ⟨g15, 0, none⟩) (cs.length + 1) cap15] 54 (0, 0))) := (HK0.out.block X (Array.getElem?_eq_some_iff.1 HX16.out).1 (by omega)).trans HX16.out
                      have HO17 : Hid (w17.ownsRow (X + 1) 56 4 (.slice (some ⟨g15, 0, none⟩) (cs.length + 1) cap15) (cs ++ [(⟨b, a, lv, T⟩ : CallD)]).length (fours (cs ++ [(⟨b, a, lv, T⟩ : CallD)]))) := owns_keepC HO16.out HK0.out (by omega)
                      have HK17 : Hid (KeepC C W2.heap.size W2 w17) := HK16.out.trans (HK0.out.mono (by have := HZ16.out; omega))
                      have HZ17 : Hid (X + 1 ≤ w17.heap.size) := by have := hg17.size; have := HZ16.out; unfold Hid; omega
                      have HF2 : Hid (callsF bs k ST (M - (j + 1)) (lv + 1 + r17) ((b + ST) % k) s17 (cs ++ [(⟨b, a, lv, T⟩ : CallD)]) = callsF bs k ST M r9 r10 s12 []) := by
                        have := hF'.out
                        rw [hf, callsF_new bs k ST f a b s' s13 s14 s17 r13 r14 r17 cs hany HP13.out HP14.out hp17, HLV.out, HTT.out] at this
                        unfold Hid; rw [hf2]; exact this
                      have hr17' : r17 < 20 := by omega
                      clear hc17 hg17 hp17 HK0 HC16 HX16 HO16 HK16 HZ16 hF' hf hf2 hany HP13 HP14 hr17
                      go_wp2_with fail
                      go_roundw
                      case rel => exact ⟨j + 1, lv + 1 + r17, (b + ST) % k, cs ++ [(⟨b, a, lv, T⟩ : CallD)], _, m' + 6, s17, by omega, by go_num, by go_num, by go_num, by omega, Nat.mod_lt _ (by omega), by simp; omega, by omega, HX17, HO17, HC17, HK17, HZ17, HF2⟩
                      case measure => simp [intOf]; omega
                  · have HF2 : Hid (callsF bs k ST (M - (j + 1)) a ((b + ST) % k) s' cs = callsF bs k ST M r9 r10 s12 []) := by
                      have := hF'.out
                      rw [hf, callsF_met bs k ST f a b s' cs hany] at this
                      unfold Hid; rw [hf2]; exact this
                    clear hF' hf hf2 hany
                    go_wp2_with fail
                    go_roundw
                    case rel => exact ⟨j + 1, a, (b + ST) % k, cs, _, m', s', by omega, rfl, by go_num, by go_num, by omega, Nat.mod_lt _ (by omega), by omega, by omega, HXr, HOr, HCr, HKr, HZr, HF2⟩
                    case measure => simp [intOf]; omega
            · have hjM' : j = M := by omega
              have HFe : Hid ((cs, s') = callsF bs k ST M r9 r10 s12 []) := by
                have := hF'.out
                rw [hjM', Nat.sub_self] at this
                exact this
              have HTR : Hid (tripF bs k s = (cs, s')) := by unfold Hid; rw [HTF.out, ← HFe.out]
              obtain ⟨va, vc, rfl, _⟩ := calls_at hO.out
              have x0 := (two_cells hX.out).1.1
              have x1 := (two_cells hX.out).1.2
              have hz1 := hZ''.out
              have HDr : Hid (DraftAt wr (w.heap.size + 1) (w.heap.size + 1 + 1) ss ts sv tv vs) := hD.out.keepC hK'.out (by omega) (by omega)
              have HKr : Hid (KeepC C w.heap.size w wr) := hK.out.trans (hK'.out.mono (by omega))
              have HRr : Hid (wr.heap[w.heap.size]? = some (.cells #[.slice none 0 0, .slice none 0 0] 26 (0, 0))) := by unfold Hid; rw [hK'.out.block _ (by omega) (by omega)]; exact hR.out
              obtain ⟨k0, hk0⟩ : ∃ k0, kk = k0 + 1 := ⟨kk - 1, by omega⟩
              have hk0i : (kk : Int) - 1 = (k0 : Int) := by omega
              have HF0 := hF.out
              rw [hk0] at HF0
              by_cases h2 : 2 ≤ cs.length
              · have h2i : (2 : Int) ≤ (cs.length : Int) := by omega
                have HF2 : Hid (tripsF bs k k0 s' (ts ++ [⟨nm, cs⟩]) = tripsF bs k r6 s6 []) := by
                  unfold Hid
                  rw [← HF0, tripsF_yes bs k k0 s s' ts cs HTR.out h2, ← hk0, HNM.out]
                obtain ⟨ta, tc, rfl, _⟩ := trips_at HDr.out.trips
                have HTL : Hid (ts.length ≤ 5) := by have := hT.out; unfold Hid; omega
                have y1 := (two_cells HDr.out.box).1.2
                obtain ⟨ii, hi0, he0⟩ := Option.map_eq_some_iff.1 info44
                simp only [Prod.mk.injEq] at he0
                have HI : Hid (ii.zero = some (.agg #[.string ByteArray.empty, .slice none 0 0]) ∧ ii.size = 2 ∧ ii.bytes = 40) := he0
                have HJ : Hid (Tryd.prog.info? 54 = some ii) := hi0
                clear hi0 he0
                have HOB : Hid (wr.ownsRow (w.heap.size + 1 + 1) 56 4 (.slice va cs.length vc) cs.length (fours cs)) := owns_mono hO.out (by omega)
                have hTO := HDr.out.trips.outer
                have HTO : Hid (wr.ownsRow (w.heap.size + 1 + 1) 54 2 (.slice ta ts.length tc) ts.length (tripCells ts vs)) := hTO
                have hwz : w.heap.size + 1 + 1 ≤ wr.heap.size := by omega
                clear hTO hF HF0 HFe HTR hF' hK hD hR HTF
                go_wp2_with (first
                  | (at_builtin; refine wpList_append_lies _ rfl _ _ 24 rfl (w.heap.size + 1 + 1) 54 ii (.agg #[.string ByteArray.empty, .slice none 0 0]) 2 40 Go.Proofs.YtjioingdpfgadaaDoor.u30 HJ.out HI.out.1 HI.out.2.1 HI.out.2.2 rfl (by decide) _ _ _ rfl (HTO.out.alloc _) ⟨wr.heap.size, 0, none⟩ 1 1 [.string nm, .slice va cs.length vc] rfl rfl (World.news_of_block (cs := #[.string nm, .slice va cs.length vc]) (t := 54) (fr := (0, 0)) (heap_alloc_new wr _)) (by intro u hu; simp at hu; rcases hu with rfl | rfl <;> rfl) (by decide) (by have := HTL.out; unfold maxLen; omega) (by have := HTL.out; omega) (by simp; omega) (wr.heap.size + 1) (by simp) ?_)
                  | fail)
                intro g18 cap18 w18 hown18 hgrow hat18 hlt18
                have hbx18 := draft_boxT HDr.out hgrow
                obtain ⟨⟨f0, f1⟩, ff⟩ := two_cells hbx18
                have ff1 := ff 1
                have hA : Below wr.heap.size wr (wr.alloc (.cells #[.string nm, .slice va cs.length vc] 54)) := (Below.refl _ _).alloc (Nat.le_refl _) _
                obtain ⟨W19, hW19⟩ : ∃ W19, w18.setCell ⟨w.heap.size + 1, 1, none⟩ (.slice (some ⟨g18, 0, none⟩) (ts.length + 1) cap18) = W19 := ⟨_, rfl⟩
                have HD19 : Hid (DraftAt W19 (w.heap.size + 1) (w.heap.size + 1 + 1) ss (ts ++ [⟨nm, cs⟩]) sv (.slice (some ⟨g18, 0, none⟩) (ts.length + 1) cap18) (vs ++ [.slice va cs.length vc])) := by subst hW19; exact draft_trip (t := ⟨nm, cs⟩) HDr.out HOB.out hown18 hgrow
                have HC19 : Hid (CurAt W19 C ca bs cap s' m') := by subst hW19; exact ((hC'.out.keep hA).grown hgrow (HTO.out.alloc _) (by omega) (fun b o e => by have := HCO.out b o e; omega)).other (set_grown w18 (w.heap.size + 1) 1 _) (by omega) (fun b o e => by have := HCO.out b o e; omega)
                have HK19 : Hid (KeepC C w.heap.size w W19) := by
                  subst hW19
                  exact ((HKr.out.trans (KeepC.below (hA.mono (by omega)))).trans (KeepC.own (HTO.out.alloc _) hgrow (by omega) (by simp; omega))).trans (KeepC.set _ _ _ (by simp))
                have HR19 : Hid (W19.heap[w.heap.size]? = some (.cells #[.slice none 0 0, .slice none 0 0] 26 (0, 0))) := by
                  subst hW19
                  unfold Hid
                  rw [block_kept HTO.out hgrow (by omega) (by omega) (by omega)]
                  exact HRr.out
                have HZ19 : Hid (w.heap.size + 1 + 1 ≤ W19.heap.size) := by
                  have h1 := hgrow.size
                  subst hW19
                  unfold Hid
                  simp [World.setCell] at h1 ⊢
                  omega
                have HTL2 : Hid ((ts ++ [(⟨nm, cs⟩ : TripD)]).length ≤ r6 - k0) := by have := hT.out; unfold Hid; rw [List.length_append]; simp; omega
                clear HDr HOB HTO hown18 hgrow hat18 hlt18 hbx18 f0 ff hA HKr HRr y1 x0 x1 hX hO hC' hK' hZ''
                go_wp2_with fail
                go_roundw
                case rel => exact ⟨k0, ts ++ [⟨nm, cs⟩], _, vs ++ [.slice va cs.length vc], m', s', by omega, by go_num, by omega, HD19, HC19, HK19, HZ19, HR19, HTL2, HF2⟩
                case measure => simp [intOf]; omega
              · have h2i : ¬ (2 : Int) ≤ (cs.length : Int) := by omega
                have HF2 : Hid (tripsF bs k k0 s' ts = tripsF bs k r6 s6 []) := by
                  unfold Hid
                  rw [← HF0, tripsF_no bs k k0 s s' ts cs HTR.out h2]
                have HTL2 : Hid (ts.length ≤ r6 - k0) := by have := hT.out; unfold Hid; omega
                have HZr : Hid (w.heap.size + 1 + 1 ≤ wr.heap.size) := by unfold Hid; omega
                clear hF HF0 HFe HTR hF' hK hD hR HTF
                go_wp2_with fail
                go_roundw
                case rel => exact ⟨k0, ts, tv, vs, m', s', by omega, by go_num, by omega, HDr, hC', HKr, HZr, HRr, HTL2, HF2⟩
                case measure => simp [intOf]; omega
        · have hk0 : kk = 0 := by omega
          have hpi : ¬ (0 : Int) < (kk : Int) := by omega
          have HTS : Hid (tripsF bs k r6 s6 [] = (ts, s)) := by
            have := hF.out
            rw [hk0] at this
            exact this.symm
          have HBF : Hid (bookF bs s0 = (⟨ss, ts⟩, s)) := by
            unfold Hid
            rw [bookF_eq bs s0 s3 s6 s r r6 ts HP3.out HP6.out (by rw [HN.out]; exact HTS.out), HN.out, HSS.out]
          obtain ⟨⟨y0, y1⟩, _⟩ := two_cells hD.out.box
          obtain ⟨⟨z0, z1⟩, zf⟩ := two_cells hR.out
          have zf0 := zf 0
          have zf1 := zf 1
          have HSO : Hid (wr.ownsRow (w.heap.size + 1 + 1) 9 1 sv ss.length (ss.map Value.string)) := hD.out.strs
          obtain ⟨sa, sc, rfl⟩ := owns_slice hD.out.strs
          obtain ⟨ta, tc, rfl⟩ := owns_slice hD.out.trips.outer
          clear zf hF hk0
          go_wp2_with fail
          obtain ⟨WE, hWE⟩ : ∃ WE, (wr.setCell ⟨w.heap.size, 0, none⟩ (.slice sa ss.length sc)).setCell ⟨w.heap.size, 1, none⟩ (.slice ta ts.length tc) = WE := ⟨_, rfl⟩
          have HRE : Hid (WE.heap[w.heap.size]? = some (.cells #[.slice sa ss.length sc, .slice ta ts.length tc] 26 (0, 0))) := by
            subst hWE; unfold Hid; simp [World.setCell, Array.getElem?_modify, hR.out]
          have hgr : ∀ {v : Value} {e : TypeId} {s n : Nat} {xs : List Value}, wr.ownsRow (w.heap.size + 1 + 1) e s v n xs → WE.ownsRow w.heap.size e s v n xs := fun {v e s n xs} ho => by
            subst hWE
            have h1 := ho.kept (set_grown wr w.heap.size 0 (.slice sa ss.length sc)) (Or.inr (fun e => by have := (ho.lt _ e).1; omega))
            have h2 := h1.kept (set_grown _ w.heap.size 1 (.slice ta ts.length tc)) (Or.inr (fun e => by have := (h1.lt _ e).1; omega))
            exact owns_mono h2 (by omega)
          rw [hWE]
          refine bodyPost_ret (v := .agg #[.slice sa ss.length sc, .slice ta ts.length tc]) ?_ rfl ⟨⟨ss, ts⟩, s, HBF.out, _, _, rfl, hgr HSO.out, ⟨vs, hgr hD.out.trips.outer, hD.out.trips.len, fun i h1 h2 => hgr (hD.out.trips.rows i h1 h2)⟩, ?_, ?_⟩
          · exact results_row Tryd.results41 _ _ w.heap.size 26 _ (0, 0) _ rfl HRE.out Tryd.underlying26 rfl infBook
          · subst hWE
            exact (((hC.out.other (set_grown wr w.heap.size 0 _) (by omega) (fun b o e => by have := HCO.out b o e; omega)).other (set_grown _ w.heap.size 1 _) (by omega) (fun b o e => by have := HCO.out b o e; omega))).more (by omega)
          · subst hWE
            exact hK.out.trans (KeepC.set2 wr w.heap.size _ _ (Nat.le_refl _))

end Go.Proofs.YtjioingdpfgadaaDoor
