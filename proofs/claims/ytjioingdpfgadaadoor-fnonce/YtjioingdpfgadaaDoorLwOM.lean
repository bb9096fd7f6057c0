import Derived.Test.YtjioingdpfgadaaDoorSayBM
import Derived.Test.YtjioingdpfgadaaDoorLaidSM
import Derived.Test.YtjioingdpfgadaaDoorSayLM
import Derived.Test.YtjioingdpfgadaaDoorSayIM
import Derived.Test.YtjioingdpfgadaaDoorPureOM
namespace Go.Proofs.YtjioingdpfgadaaDoor
open Go Go.RowKit Go.Deep

theorem newsSize_small {bk : BookD} {nss : List (List NewsD)} (hb : BookDrawn bk) (hs : ShapeOf bk nss) : newsSize nss ≤ 1048576 := by
  have h1 := hs.length
  have h5 := hb.trips5
  have hall : ∀ i (h : i < nss.length), nss[i].length ≤ 8 := fun i h => by
    rw [hs.at i h, callsOf_at bk i (by omega)]; exact (hb.calls i (by omega)).len
  have hsum : ∀ (l : List (List NewsD)), (∀ x ∈ l, x.length ≤ 8) → sumLens l ≤ l.length * 8 := by
    intro l
    induction l with
    | nil => intro _; simp [sumLens]
    | cons a l ih =>
      intro h
      have a1 := h a (by simp)
      have a2 := ih (fun x hx => h x (by simp [hx]))
      simp only [sumLens, List.length_cons, Nat.add_mul, Nat.one_mul]; omega
  have := hsum nss (fun x hx => by obtain ⟨i, hi, rfl⟩ := List.getElem_of_mem hx; exact hall i hi)
  unfold newsSize
  omega

set_option maxRecDepth 100000 in
set_option maxHeartbeats 3000000 in
theorem lawOnce_any (ca ma : Option Addr) (bs ms : List Int) (cc mc : Nat) (w : World) (hcode : BytesAt w ca bs) (hlow : ∀ b o, ca = some ⟨b, o, none⟩ → b < w.heap.size) (hmore : BytesAt w ma ms) (hev : ErrVars w) (htab : TabW w) :
    Calls Tryd.prog 4 #[.slice ca bs.length cc, .slice ma ms.length mc] w fun e w' => e = .returned (.bool true) ∧ Below w.heap.size w w' := by
  by_cases h1 : 1048576 < bs.length
  · have h1i : (1048576 : Int) < (bs.length : Int) := by omega
    go_enter Tryd.func4, Tryd.ntmps4
    go_wp2_with fail
    go_ret
    exact ⟨rfl, Below.refl _ _⟩
  by_cases h2 : 1048576 < ms.length
  · have h1i : ¬ (1048576 : Int) < (bs.length : Int) := by omega
    have h2i : (1048576 : Int) < (ms.length : Int) := by omega
    go_enter Tryd.func4, Tryd.ntmps4
    go_wp2_with fail
    go_ret
    exact ⟨rfl, Below.refl _ _⟩
  have h1i : ¬ (1048576 : Int) < (bs.length : Int) := by omega
  have h2i : ¬ (1048576 : Int) < (ms.length : Int) := by omega
  have HDR := drawn_any ca bs cc w hcode hlow
  have HEV : Hid (ErrVars w) := hev
  have HMO : Hid (BytesAt w ma ms) := hmore
  have HTB : Hid (TabW w) := htab
  have HD : Hid (BookDrawn (drawnF bs).1) := drawnF_book bs
  have HR : Hid (reportsB (drawnF bs).1 (drawnF bs).2 = true ∧ (drawnF bs).2.length ≤ 20) := drawnF_reports bs
  clear hcode hlow hmore hev htab
  go_enter Tryd.func4, Tryd.ntmps4
  go_wp2_with fail
  refine HDR.mono ?_
  rintro e w1 ⟨v, rv, rfl, hbk, hrs, hb1⟩
  obtain ⟨sa, sc, ta, tc, ra, rc, rfl, rfl, hsc⟩ := scene_of hbk hrs hb1 HEV.out HMO.out
  generalize (drawnF bs).1 = bk at *
  generalize (drawnF bs).2 = rs at *
  have hn6 := HD.out.sts6
  have hn2 := HD.out.sts2
  have HSML : Hid (bookSize bk ≤ 1048576) := by have := HD.out.small; unfold Hid; omega
  have HRL : Hid (rs.length ≤ 1048576) := by have := HR.out.2; unfold Hid; omega
  have HWF : Hid (∀ t ∈ bk.trips, ∀ i (h : i < t.calls.length), (Lit.int .i64 t.calls[i].st).wf = true) := HD.out.wf
  have HTB1 : Hid (TabW (w1.alloc (.cells #[.slice sa bk.sts.length sc, .slice ta bk.trips.length tc] 26))) := tabW_keep _ _ (hsc.since) HTB.out
  go_wp2_with fail
  obtain ⟨X, hX⟩ : ∃ X, w1.heap.size = X := ⟨_, rfl⟩
  obtain ⟨w2, hw2⟩ : ∃ w2, w1.alloc (.cells #[.slice sa bk.sts.length sc, .slice ta bk.trips.length tc] 26) = w2 := ⟨_, rfl⟩
  rw [hw2, hX] at hsc
  rw [hw2] at HTB1
  rw [hw2, hX]
  have HS2 : Hid (Scene w w2 X sa ta ra ma sc tc bk rs ms) := hsc
  obtain ⟨⟨c0, c1⟩, _⟩ := two_cells hsc.box
  clear hsc hbk hrs hb1 hw2 hX HDR
  have hnz : ¬ (bk.sts.length : Int) = 0 := by omega
  have hnz2 : ¬ bk.sts.length = 0 := by omega
  have hnz3 : ¬ bk.sts = [] := fun e => by rw [e] at hnz2; simp at hnz2
  have hnz4 : ((bk.sts.length : Int) == 0) = false := beq_eq_false_iff_ne.2 hnz
  go_region_held3 (fun w' => w'.cell? ⟨X, 0, none⟩ = some (.slice sa bk.sts.length sc))
    (go_keep)
    (first | (go_at_call 13; refine (wByte_any ma ms mc 0 _ (by omega) (by omega) (by exact HS2.out.more.keep (Below.refl _ _).drew)).mono ?_; rintro e w3 ⟨r3, hr3, rfl, rfl⟩; obtain ⟨s, hs⟩ : ∃ s : Nat, r3 % bk.sts.length = s := ⟨_, rfl⟩; have hsi : (r3 : Int).tmod (bk.sts.length : Int) = (s : Int) := (by rw [Int.tmod_eq_emod_of_nonneg (by omega), ← hs]; simp); have hsl : s < bk.sts.length := (by rw [← hs]; exact Nat.mod_lt _ (by omega)); clear hs))
  clear hsi hr3
  have HS3 : Hid (Scene w w2.drew X sa ta ra ma sc tc bk rs ms) := HS2.out.keep (Below.refl _ _).drew
  have HTB3 : Hid (TabW w2.drew) := tabW_keep _ _ (Below.refl _ _).drew HTB1.out
  obtain ⟨w4, hw4⟩ : ∃ w4, w2.drew = w4 := ⟨_, rfl⟩
  rw [hw4] at HS3 HTB3 ⊢
  clear hw4 c0 c1
  obtain ⟨⟨c0, c1⟩, _⟩ := two_cells HS3.out.box
  go_wp2_with fail
  refine (wByte_any ma ms mc 1 _ (by omega) (by omega) HS3.out.more).mono ?_
  rintro e w4' ⟨m, hm, rfl, rfl⟩
  have hrl20 : rs.length ≤ 20 := HR.out.2
  obtain ⟨ii, hi0, he0⟩ := Option.map_eq_some_iff.1 infoRep
  simp only [Prod.mk.injEq] at he0
  have HI : Hid (ii.zero = some (.agg #[.int .i64 0, .int .i64 0, .int .i64 0, .int .i64 0, .int .i64 0]) ∧ ii.size = 5 ∧ ii.bytes = 40) := he0
  have HJ : Hid (Tryd.prog.info? 45 = some ii) := hi0
  clear hi0 he0
  go_wp2_with fail
  go_loopw [9, 35] (fun tv i wr => ∃ k : Nat, k ≤ rs.length ∧ i = .int .i64 k ∧ Hid (wr.ownsRow w4'.heap.size 45 5 tv (k * 2) (fives (twiceOf (rs.take k)))) ∧ Hid (Below w4'.heap.size w4' wr)) (fun _ i _ => rs.length - (intOf i).toNat)
  case atStart => exact ⟨0, Nat.zero_le _, rfl, World.ownsRow_nil _ _ _ _, Below.refl _ _⟩
  case round =>
    obtain ⟨k, hk, rfl, hO, hB⟩ := hrel
    by_cases hlt : k < rs.length
    · obtain ⟨b, o, rfl, d0, d1, d2, d3, d4⟩ := (HS3.out.reps.keep hB.out) k hlt
      have HT : Hid (fives (twiceOf (rs.take (k + 1))) = fives (twiceOf (rs.take k)) ++ (fiveOf rs[k] ++ fiveOf rs[k])) := by
        unfold Hid; rw [take_snoc rs k hlt, twice_snoc]; simp [fives]
      have hzr := hB.out.size
      generalize rs[k] = r at *
      go_wp2_with (first
        | (at_builtin; refine wpList_append_lies _ rfl _ _ 27 rfl w4'.heap.size 45 ii (.agg #[.int .i64 0, .int .i64 0, .int .i64 0, .int .i64 0, .int .i64 0]) 5 40 Go.Proofs.YtjioingdpfgadaaDoor.uReps HJ.out HI.out.1 HI.out.2.1 HI.out.2.2 rfl (by decide) _ (k * 2) _ rfl ((hO.out.alloc _).alloc _) ⟨wr.heap.size + 1, 0, none⟩ 2 2 (fiveOf r ++ fiveOf r) rfl rfl ?c1 ?c2 (by decide) (by unfold maxLen; omega) (by omega) (by simp; omega) (wr.heap.size + 1 + 1) (by simp) ?_)
        | fail)
      case c1 =>
        have := World.news_of_block (heap_alloc_new (wr.alloc (.cells #[.int .i64 r.tick, .int .i64 r.op, .int .i64 r.trip, .int .i64 r.call, .int .i64 r.n] 45)) (.cells #[.int .i64 r.tick, .int .i64 r.op, .int .i64 r.trip, .int .i64 r.call, .int .i64 r.n, .int .i64 r.tick, .int .i64 r.op, .int .i64 r.trip, .int .i64 r.call, .int .i64 r.n] 45))
        rw [show (wr.alloc (.cells #[.int .i64 r.tick, .int .i64 r.op, .int .i64 r.trip, .int .i64 r.call, .int .i64 r.n] 45)).heap.size = wr.heap.size + 1 by simp] at this
        exact fun j u hu => this j u hu
      case c2 =>
        intro u hu
        rcases List.mem_append.1 hu with h | h <;> exact five_one r u h
      intro g5 cap5 w5 hown5 hgrow hat5 hlt5
      have HO5 : Hid (w5.ownsRow w4'.heap.size 45 5 (.slice (some ⟨g5, 0, none⟩) (k * 2 + 2) cap5) ((k + 1) * 2) (fives (twiceOf (rs.take (k + 1))))) := by
        unfold Hid; rw [HT.out]
        have e : (k + 1) * 2 = k * 2 + 2 := by omega
        rw [e]; exact hown5
      have HB5 : Hid (Below w4'.heap.size w4' w5) := Below.grown ((hB.out.alloc hzr _).alloc (by simp; omega) _) hgrow (by simp; omega) (fun g hg => (hO.out.lt g hg).1)
      clear hown5 hgrow hat5 hlt5 hO hB
      go_wp2_with fail
      go_roundw
      case rel => exact ⟨k + 1, by omega, by go_num, HO5, HB5⟩
      case measure => simp [intOf]; omega
    · have hkl : k = rs.length := by omega
      subst hkl
      rw [List.take_length] at hO
      have hO2 : wr.ownsRow w4'.heap.size 45 5 u9 (twiceOf rs).length (fives (twiceOf rs)) := by rw [twice_length]; exact hO.out
      obtain ⟨ta', tc', rfl, htw⟩ := reps_at hO2
      have HTW : Hid (RepsAt wr ta' (twiceOf rs)) := htw
      have htl : (twiceOf rs).length = rs.length * 2 := twice_length rs
      have HTL : Hid ((twiceOf rs).length ≤ 1048576) := by unfold Hid; omega
      have d0 := cell_keep hB.out c0
      have d1 := cell_keep hB.out c1
      obtain ⟨N, hN⟩ : ∃ N, knownD bk rs m = N := ⟨_, rfl⟩
      obtain ⟨L, hL⟩ : ∃ L, sayD bk rs s 0 500 = L := ⟨_, rfl⟩
      have HNS : Hid (newsSize N ≤ 1048576) := by
        unfold Hid; rw [← hN]; unfold knownD; rw [HR.out.1]; exact newsSize_small HD.out (shape_to bk m rs)
      have HLS : Hid (L.length ≤ 1048576) := by unfold Hid; rw [← hL]; exact Nat.le_trans (sayD_length bk rs s 0 500) (by omega)
      have hw0 : (Lit.int .i64 (s : Int)).wf = true := wf_small (by omega) (by omega)
      have HK2 : Hid (∀ w', Below wr.heap.size wr w' → Calls Tryd.prog 18 #[.agg #[.slice sa bk.sts.length sc, .slice ta bk.trips.length tc], .slice ta' (twiceOf rs).length tc', .int .i64 m] w' fun e w'' => ∃ v', e = .returned v' ∧ NewsOwn w'.heap.size w'' v' N ∧ Below w'.heap.size w' w'') := fun w' hb => by
        have := implKnown_any (.agg #[.slice sa bk.sts.length sc, .slice ta bk.trips.length tc]) bk ta' tc' (twiceOf rs) m w' HSML.out HTL.out HWF.out ((HS3.out.keep hB.out).keep hb).book (HTW.out.keep hb) ((HS3.out.keep hB.out).keep hb).errs
        rwa [known_twice HR.out.1 (by omega), hN] at this
      have HK1 : Hid (∀ w', Below wr.heap.size wr w' → Calls Tryd.prog 18 #[.agg #[.slice sa bk.sts.length sc, .slice ta bk.trips.length tc], .slice ra rs.length rc, .int .i64 m] w' fun e w'' => ∃ v', e = .returned v' ∧ NewsOwn w'.heap.size w'' v' N ∧ Below w'.heap.size w' w'') := fun w' hb => by
        have := implKnown_any (.agg #[.slice sa bk.sts.length sc, .slice ta bk.trips.length tc]) bk ra rc rs m w' HSML.out HRL.out HWF.out ((HS3.out.keep hB.out).keep hb).book ((HS3.out.keep hB.out).keep hb).reps ((HS3.out.keep hB.out).keep hb).errs
        rwa [hN] at this
      have HKS : Hid (∀ w', Below wr.heap.size wr w' → Calls Tryd.prog 15 #[.agg #[.slice sa bk.sts.length sc, .slice ta bk.trips.length tc], .slice ra rs.length rc, .int .i64 m] w' fun e w'' => ∃ v', e = .returned v' ∧ NewsOwn w'.heap.size w'' v' N ∧ Below w'.heap.size w' w'') := fun w' hb => by
        have := specKnown_any (.agg #[.slice sa bk.sts.length sc, .slice ta bk.trips.length tc]) bk ra rc rs m w' HSML.out HRL.out ((HS3.out.keep hB.out).keep hb).book ((HS3.out.keep hB.out).keep hb).reps
        rwa [hN] at this
      have HY2 : Hid (∀ w', Below wr.heap.size wr w' → Calls Tryd.prog 22 #[.agg #[.slice sa bk.sts.length sc, .slice ta bk.trips.length tc], .slice ta' (twiceOf rs).length tc', .int .i64 s, .int .i64 0, .int .i64 500] w' fun e w'' => ∃ v', e = .returned v' ∧ SaidsOwn w'.heap.size w'' v' L ∧ Below w'.heap.size w' w'') := fun w' hb => by
        have := implSay_any itoa_ok (.agg #[.slice sa bk.sts.length sc, .slice ta bk.trips.length tc]) bk ta' tc' (twiceOf rs) s 0 500 w' HSML.out HTL.out HWF.out hw0 ((HS3.out.keep hB.out).keep hb).book (HTW.out.keep hb) ((HS3.out.keep hB.out).keep hb).errs (tabW_keep _ _ hb (tabW_keep _ _ hB.out HTB3.out))
        rwa [say_twice HR.out.1 (by omega), hL] at this
      have HY1 : Hid (∀ w', Below wr.heap.size wr w' → Calls Tryd.prog 22 #[.agg #[.slice sa bk.sts.length sc, .slice ta bk.trips.length tc], .slice ra rs.length rc, .int .i64 s, .int .i64 0, .int .i64 500] w' fun e w'' => ∃ v', e = .returned v' ∧ SaidsOwn w'.heap.size w'' v' L ∧ Below w'.heap.size w' w'') := fun w' hb => by
        have := implSay_any itoa_ok (.agg #[.slice sa bk.sts.length sc, .slice ta bk.trips.length tc]) bk ra rc rs s 0 500 w' HSML.out HRL.out HWF.out hw0 ((HS3.out.keep hB.out).keep hb).book ((HS3.out.keep hB.out).keep hb).reps ((HS3.out.keep hB.out).keep hb).errs (tabW_keep _ _ hb (tabW_keep _ _ hB.out HTB3.out))
        rwa [hL] at this
      have HBW : Hid (Below w.heap.size w wr) := HS3.out.since.trans (hB.out.mono HS3.out.since.size)
      clear hO hO2 htw htl hN hL hw0 c0 c1 hB
      go_wp2_with fail
      go_region_held3 (fun w' => w'.cell? ⟨X, 0, none⟩ = some (.slice sa bk.sts.length sc) ∧ w'.cell? ⟨X, 1, none⟩ = some (.slice ta bk.trips.length tc))
        (go_keep)
        (first
          | (go_at_call 20; refine (wNews_same a7 a8 N c7 c8 _ HNS.out H78 H8).mono ?_; rintro e w9 ⟨rfl, hb9⟩; have B9 : Below wr.heap.size wr w9 := B8.trans (hb9.mono B8.size); have z0 := cell_keep B9 d0; have z1 := cell_keep B9 d1)
          | (go_at_call 15; refine (HKS.out _ B7).mono ?_; rintro e w8 ⟨v8, rfl, ⟨vs8, ho8⟩, hb8⟩; obtain ⟨a8, c8, rfl, H8⟩ := ho8.at; have B8 : Below wr.heap.size wr w8 := B7.trans (hb8.mono B7.size); have H78 := H7.keep hb8; have y0 := cell_keep B8 d0; have y1 := cell_keep B8 d1)
          | (go_at_call 18; refine (HK1.out _ B6).mono ?_; rintro e w7 ⟨v7, rfl, ⟨vs7, ho7⟩, hb7⟩; obtain ⟨a7, c7, rfl, H7⟩ := ho7.at; have B7 : Below wr.heap.size wr w7 := B6.trans (hb7.mono B6.size); have x0 := cell_keep B7 d0; have x1 := cell_keep B7 d1)
          | (go_at_call 21; refine (wSaid_same a4 a5 L c4 c5 _ HLS.out H45 H5).mono ?_; rintro e w6 ⟨rfl, hb6⟩; have B6 : Below wr.heap.size wr w6 := B5.trans (hb6.mono B5.size); have v0 := cell_keep B6 d0; have v1 := cell_keep B6 d1)
          | (go_at_call 22; refine (HY1.out _ B4).mono ?_; rintro e w5 ⟨v5, rfl, ho5, hb5⟩; obtain ⟨a5, c5, rfl, H5⟩ := saids_at ho5; have B5 : Below wr.heap.size wr w5 := B4.trans (hb5.mono B4.size); have H45 := H4.keep hb5; have t0 := cell_keep B5 d0; have t1 := cell_keep B5 d1)
          | (go_at_call 22; refine (HY2.out _ B3).mono ?_; rintro e w4 ⟨v4, rfl, ho4, hb4⟩; obtain ⟨a4, c4, rfl, H4⟩ := saids_at ho4; have B4 : Below wr.heap.size wr w4 := B3.trans (hb4.mono B3.size); have s0 := cell_keep B4 d0; have s1 := cell_keep B4 d1)
          | (go_at_call 20; refine (wNews_same a1 a2 N c1 c2 _ HNS.out H12 H2).mono ?_; rintro e w3 ⟨rfl, hb3⟩; have B3 : Below wr.heap.size wr w3 := B2.trans (hb3.mono B2.size); have r0 := cell_keep B3 d0; have r1 := cell_keep B3 d1)
          | (go_at_call 18; refine (HK1.out _ B1).mono ?_; rintro e w2 ⟨v2, rfl, ⟨vs2, ho2⟩, hb2⟩; obtain ⟨a2, c2, rfl, H2⟩ := ho2.at; have B2 : Below wr.heap.size wr w2 := B1.trans (hb2.mono B1.size); have H12 := H1.keep hb2; have q0 := cell_keep B2 d0; have q1 := cell_keep B2 d1)
          | (go_at_call 18; refine (HK2.out _ (Below.refl _ _).drew).mono ?_; rintro e w1 ⟨v1, rfl, ⟨vs1, ho1⟩, hb1⟩; obtain ⟨a1, c1, rfl, H1⟩ := ho1.at; have B1 : Below wr.heap.size wr w1 := (Below.refl _ _).drew.trans hb1; have p0 := cell_keep B1 d0; have p1 := cell_keep B1 d1))
      have HBF : Hid (Below w.heap.size w w9) := HBW.out.trans (B9.mono HBW.out.size)
      go_wp2_with fail
      go_ret
      exact ⟨rfl, HBF.out⟩

end Go.Proofs.YtjioingdpfgadaaDoor
