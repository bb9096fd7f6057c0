import Derived.Test.YtjioingdpfgadaaDoorSayBM
import Derived.Test.YtjioingdpfgadaaDoorPureRM
import Derived.Test.YtjioingdpfgadaaDoorBoardHM
import Derived.Test.YtjioingdpfgadaaDoorBrdLM
import Derived.Laws.OwnMore
namespace Go.Proofs.YtjioingdpfgadaaDoor
open Go Go.RowKit Go.Deep

theorem uBools : Tryd.prog.underlying 36 = some (.slice 4) := by kernel_rfl
theorem infBool : (Tryd.prog.info? 4).map (fun i => (i.zero, i.size, i.bytes)) = some (some (.bool false), 1, 1) := by kernel_rfl
/-- Marks of trips. -/
def markB (sn : List Bool) : Array Value := (sn.map Value.bool).toArray
theorem markB_new (n : Nat) : madeCells #[.bool false] n = markB (List.replicate n false) := by
  apply Array.ext'
  rw [toList_madeCells_one]
  simp [markB, List.map_replicate]
theorem mark_cell {w : World} {g : Nat} {sn : List Bool} (h : w.heap[g]? = some (.cells (markB sn) 4 (0, 0))) (i : Nat) (hi : i < sn.length) : w.cell? ⟨g, i, none⟩ = some (.bool sn[i]) ∧ w.frozen? ⟨g, i, none⟩ = false := by
  constructor
  · rw [cell_of_row w g i _ _ _ h]; simp [markB, List.getElem?_eq_getElem hi]
  · simp [World.frozen?, h]
theorem mark_set {w : World} {g : Nat} {sn : List Bool} (h : w.heap[g]? = some (.cells (markB sn) 4 (0, 0))) (i : Nat) : (w.setCell ⟨g, i, none⟩ (.bool true)).heap[g]? = some (.cells (markB (sn.set i true)) 4 (0, 0)) := by
  simp [World.setCell, Array.getElem?_modify, h, markB]

theorem own_cap {w : World} {B s n c : Nat} {e : TypeId} {a : Option Addr} {xs : List Value} (h : w.ownsRow B e s (.slice a n c) n xs) : n ≤ c ∧ (a = none → n = 0 ∧ c = 0) := by
  rcases h.2 with ⟨e, e0⟩ | ⟨g, cap, cur, e, _, _, hc, _⟩
  · simp only [Value.slice.injEq] at e
    obtain ⟨rfl, _, rfl⟩ := e
    exact ⟨by omega, fun _ => ⟨e0, rfl⟩⟩
  · simp only [Value.slice.injEq] at e
    obtain ⟨rfl, _, rfl⟩ := e
    exact ⟨hc, fun h => by cases h⟩
theorem RowsAt.take {w : World} {a : Option Addr} {rs : List RowD} (h : RowsAt w a rs) (n : Nat) : RowsAt w a (rs.take n) := fun i hi => by
  have hi' : i < rs.length := by rw [List.length_take] at hi; omega
  have := h i hi'
  rw [List.getElem_take]
  exact this

theorem board_length (bk : BookD) (rs : List RepD) (s tick rows : Int) : (boardD bk rs s tick rows).length ≤ bk.trips.length := by
  unfold boardD
  split
  · have h1 : ∀ n (all : List RowD), (pick n all).length ≤ all.length := by
      intro n
      induction n with
      | zero => intro all; simp [pick]
      | succ n ih =>
        intro all
        by_cases h0 : 0 < all.length
        · rw [pick_cons n all (bestOf_lt all h0), List.length_cons]
          have := ih (all.eraseIdx (bestOf all))
          rw [List.length_eraseIdx, if_pos (bestOf_lt all h0)] at this
          omega
        · have : all = [] := List.eq_nil_of_length_eq_zero (by omega)
          rw [this, pick_nil]; simp
    exact Nat.le_trans (h1 _ _) (collect_length _ _ _ _ _)
  · simp

set_option maxRecDepth 100000 in
set_option maxHeartbeats 3000000 in
theorem lawRows_any (ca ma : Option Addr) (bs ms : List Int) (cc mc : Nat) (w : World) (hcode : BytesAt w ca bs) (hlow : ∀ b o, ca = some ⟨b, o, none⟩ → b < w.heap.size) (hmore : BytesAt w ma ms) (hev : ErrVars w) :
    Calls Tryd.prog 3 #[.slice ca bs.length cc, .slice ma ms.length mc] w fun e w' => e = .returned (.bool true) ∧ Below w.heap.size w w' := by
  by_cases h1 : 1048576 < bs.length
  · have h1i : (1048576 : Int) < (bs.length : Int) := by omega
    go_enter Tryd.func3, Tryd.ntmps3
    go_wp2_with fail
    go_ret
    exact ⟨rfl, Below.refl _ _⟩
  by_cases h2 : 1048576 < ms.length
  · have h1i : ¬ (1048576 : Int) < (bs.length : Int) := by omega
    have h2i : (1048576 : Int) < (ms.length : Int) := by omega
    go_enter Tryd.func3, Tryd.ntmps3
    go_wp2_with fail
    go_ret
    exact ⟨rfl, Below.refl _ _⟩
  have h1i : ¬ (1048576 : Int) < (bs.length : Int) := by omega
  have h2i : ¬ (1048576 : Int) < (ms.length : Int) := by omega
  have HDR := drawn_any ca bs cc w hcode hlow
  have HEV : Hid (ErrVars w) := hev
  have HMO : Hid (BytesAt w ma ms) := hmore
  have HD : Hid (BookDrawn (drawnF bs).1) := drawnF_book bs
  have HR : Hid (reportsB (drawnF bs).1 (drawnF bs).2 = true ∧ (drawnF bs).2.length ≤ 20) := drawnF_reports bs
  clear hcode hlow hmore hev
  go_enter Tryd.func3, Tryd.ntmps3
  go_wp2_with fail
  refine HDR.mono ?_
  rintro e w1 ⟨v, rv, rfl, hbk, hrs, hb1⟩
  obtain ⟨sa, sc, ta, tc, ra, rc, rfl, rfl, hsc⟩ := scene_of hbk hrs hb1 HEV.out HMO.out
  generalize (drawnF bs).1 = bk at *
  generalize (drawnF bs).2 = rs at *
  have hn6 := HD.out.sts6
  have hn2 := HD.out.sts2
  have HSML : Hid (bookSize bk ≤ 1048576) := by have := HD.out.small; unfold Hid; omega
  have HRL : Hid (rs.length ≤ 1048576) := by have := HR.out.2; unfold Hid; omega
  have HWF : Hid (∀ t ∈ bk.trips, ∀ i (h : i < t.calls.length), (Lit.int .i64 t.calls[i].st).wf = true) := HD.out.wf
  go_wp2_with fail
  obtain ⟨X, hX⟩ : ∃ X, w1.heap.size = X := ⟨_, rfl⟩
  obtain ⟨w2, hw2⟩ : ∃ w2, w1.alloc (.cells #[.slice sa bk.sts.length sc, .slice ta bk.trips.length tc] 26) = w2 := ⟨_, rfl⟩
  rw [hw2, hX] at hsc
  rw [hw2, hX]
  have HS2 : Hid (Scene w w2 X sa ta ra ma sc tc bk rs ms) := hsc
  obtain ⟨⟨c0, c1⟩, _⟩ := two_cells hsc.box
  clear hsc hbk hrs hb1 hw2 hX HDR
  have hnz : ¬ (bk.sts.length : Int) = 0 := by omega
  have hnz2 : ¬ bk.sts.length = 0 := by omega
  have hnz3 : ¬ bk.sts = [] := fun e => by rw [e] at hnz2; simp at hnz2
  have hnz4 : ((bk.sts.length : Int) == 0) = false := beq_eq_false_iff_ne.2 hnz
  go_region_held3 (fun w' => w'.cell? ⟨X, 0, none⟩ = some (.slice sa bk.sts.length sc))
    (go_keep)
    (first | (go_at_call 13; refine (wByte_any ma ms mc 0 _ (by omega) (by omega) (by exact HS2.out.more.keep (Below.refl _ _).drew)).mono ?_; rintro e w3 ⟨r3, hr3, rfl, rfl⟩; obtain ⟨s, hs⟩ : ∃ s : Nat, r3 % bk.sts.length = s := ⟨_, rfl⟩; have hsi : (r3 : Int).tmod (bk.sts.length : Int) = (s : Int) := (by rw [Int.tmod_eq_emod_of_nonneg (by omega), ← hs]; simp); have hsl : s < bk.sts.length := (by rw [← hs]; exact Nat.mod_lt _ (by omega)); clear hs))
  clear hsi hr3
  have HS3 : Hid (Scene w w2.drew X sa ta ra ma sc tc bk rs ms) := HS2.out.keep (Below.refl _ _).drew
  obtain ⟨w4, hw4⟩ : ∃ w4, w2.drew = w4 := ⟨_, rfl⟩
  rw [hw4] at HS3 ⊢
  clear hw4 c0 c1
  obtain ⟨⟨c0, c1⟩, _⟩ := two_cells HS3.out.box
  go_wp2_with fail
  refine (wByte_any ma ms mc 1 _ (by omega) (by omega) HS3.out.more).mono ?_
  rintro e w4' ⟨m, hm, rfl, rfl⟩
  have HBRD : Hid (∀ w', Below w4'.heap.size w4' w' → ∀ rows : Int, Calls Tryd.prog 14 #[.agg #[.slice sa bk.sts.length sc, .slice ta bk.trips.length tc], .slice ra rs.length rc, .int .i64 s, .int .i64 m, .int .i64 rows] w' fun e w'' => ∃ v', e = .returned v' ∧ w''.ownsRow w'.heap.size 38 6 v' (boardD bk rs s m rows).length (sixes (boardD bk rs s m rows)) ∧ Below w'.heap.size w' w'') := fun w' hb rows =>
    implBoard_any _ bk ra rc rs s m rows w' HSML.out HRL.out HWF.out (wf_small (by omega) (by omega)) (HS3.out.keep hb).book (HS3.out.keep hb).reps (HS3.out.keep hb).errs
  have HSBD : Hid (∀ w', Below w4'.heap.size w4' w' → ∀ rows : Int, Calls Tryd.prog 17 #[.agg #[.slice sa bk.sts.length sc, .slice ta bk.trips.length tc], .slice ra rs.length rc, .int .i64 s, .int .i64 m, .int .i64 rows] w' fun e w'' => ∃ v', e = .returned v' ∧ w''.ownsRow w'.heap.size 38 6 v' (boardD bk rs s m rows).length (sixes (boardD bk rs s m rows)) ∧ Below w'.heap.size w' w'') := fun w' hb rows =>
    specBoard_any _ bk ra rc rs s m rows w' HSML.out HRL.out (HS3.out.keep hb).book (HS3.out.keep hb).reps
  have HKN : Hid (∀ w', Below w4'.heap.size w4' w' → Calls Tryd.prog 18 #[.agg #[.slice sa bk.sts.length sc, .slice ta bk.trips.length tc], .slice ra rs.length rc, .int .i64 m] w' fun e w'' => ∃ v', e = .returned v' ∧ NewsOwn w'.heap.size w'' v' (knownD bk rs m) ∧ Below w'.heap.size w' w'') := fun w' hb =>
    implKnown_any _ bk ra rc rs m w' HSML.out HRL.out HWF.out (HS3.out.keep hb).book (HS3.out.keep hb).reps (HS3.out.keep hb).errs
  have HSK : Hid (∀ w', Below w4'.heap.size w4' w' → Calls Tryd.prog 15 #[.agg #[.slice sa bk.sts.length sc, .slice ta bk.trips.length tc], .slice ra rs.length rc, .int .i64 m] w' fun e w'' => ∃ v', e = .returned v' ∧ NewsOwn w'.heap.size w'' v' (knownD bk rs m) ∧ Below w'.heap.size w' w'') := fun w' hb =>
    specKnown_any _ bk ra rc rs m w' HSML.out HRL.out (HS3.out.keep hb).book (HS3.out.keep hb).reps
  have HSC : Hid (∀ w', Below w4'.heap.size w4' w' → ∀ trip : Int, Calls Tryd.prog 19 #[.agg #[.slice sa bk.sts.length sc, .slice ta bk.trips.length tc], .int .i64 trip, .int .i64 s] w' fun e w'' => e = .returned (.int .i64 (callAtD bk trip s)) ∧ Below w'.heap.size w' w'') := fun w' hb trip =>
    specCallAt_any _ bk trip s w' HSML.out (HS3.out.keep hb).book
  have hbl5 : bk.trips.length ≤ 5 := HD.out.trips5
  have HKD : Hid (knownD bk rs m = newsTo bk m rs) := by unfold Hid knownD; rw [HR.out.1]; rfl
  have hsh := shape_to bk m rs
  obtain ⟨all, hall⟩ : ∃ all, boardD bk rs s m 40 = all := ⟨_, rfl⟩
  have HALL : Hid (boardD bk rs s m 40 = all) := hall
  have hal5 : all.length ≤ 5 := by rw [← hall]; exact Nat.le_trans (board_length _ _ _ _ _) hbl5
  have HBD : Hid (∀ n : Nat, n ≤ 40 → boardD bk rs s m n = pick n (collect bk (newsTo bk m rs) s m bk.trips.length)) := fun n hn => by
    unfold boardD; rw [if_pos ⟨HR.out.1, by omega, by omega, by omega⟩]; simp
  have HAL : Hid (all = pick 40 (collect bk (newsTo bk m rs) s m bk.trips.length)) := by unfold Hid; rw [← hall]; exact HBD.out 40 (Nat.le_refl _)
  obtain ⟨nss, hnss⟩ : ∃ nss, newsTo bk m rs = nss := ⟨_, rfl⟩
  rw [hnss] at hsh HBD HAL HKD
  have HSH : Hid (ShapeOf bk nss) := hsh
  have HLT : Hid (LateOk nss) := by unfold Hid; rw [← hnss]; exact late_to bk m rs (fun r hr => by obtain ⟨i, hi, rfl⟩ := List.getElem_of_mem hr; exact ((reportsB_inv HR.out.1).2.2 i hi).1)
  clear hall hnss hsh hm
  go_wp2_with fail
  refine (HBRD.out _ (Below.refl _ _) 40).mono ?_
  rintro e w5 ⟨v5, rfl, ho5, hb5⟩
  rw [HALL.out] at ho5
  obtain ⟨a5, c5, rfl, hr5⟩ := rows_at ho5
  obtain ⟨hcap, hnil⟩ := own_cap ho5
  have HNIL : Hid (a5 = none → all.length = 0 ∧ c5 = 0) := hnil
  clear hnil
  have HR5 : Hid (RowsAt w5 a5 all) := hr5
  have HB5 : Hid (Below w4'.heap.size w4' w5) := hb5
  have d0 := cell_keep hb5 c0
  have d1 := cell_keep hb5 c1
  clear ho5 hr5 hb5 c0 c1
  go_wp2_with fail
  refine (HSK.out _ HB5.out).mono ?_
  rintro e w6 ⟨v6, rfl, ⟨vs6, ho6⟩, hb6⟩
  rw [HKD.out] at ho6
  obtain ⟨a6, c6, rfl, hn6'⟩ := ho6.at
  have HN6 : Hid (NewsSSAt w6 a6 nss) := hn6'
  have HR6 : Hid (RowsAt w6 a5 all) := HR5.out.keep hb6
  have HB6 : Hid (Below w4'.heap.size w4' w6) := HB5.out.trans (hb6.mono HB5.out.size)
  have e0 := cell_keep hb6 d0
  have e1 := cell_keep hb6 d1
  clear ho6 hn6' hb6 d0 d1 HR5
  go_wp2_with fail
  refine (HSBD.out _ HB6.out 40).mono ?_
  rintro e w7 ⟨v7, rfl, ho7, hb7⟩
  rw [HALL.out] at ho7
  obtain ⟨a7, c7, rfl, hr7⟩ := rows_at ho7
  have HR7 : Hid (RowsAt w7 a7 all) := hr7
  have HA7 : Hid (RowsAt w7 a5 all) := HR6.out.keep hb7
  have HN7 : Hid (NewsSSAt w7 a6 nss) := HN6.out.keep hb7
  have HB7 : Hid (Below w4'.heap.size w4' w7) := HB6.out.trans (hb7.mono HB6.out.size)
  have f0 := cell_keep hb7 e0
  have f1 := cell_keep hb7 e1
  clear ho7 hr7 hb7 e0 e1 HR6 HN6
  go_wp2_with fail
  refine (wRows_same a5 a7 all c5 c7 _ (by omega) HA7.out HR7.out).mono ?_
  rintro e w8 ⟨rfl, hb8⟩
  have HA8 : Hid (RowsAt w8 a5 all) := HA7.out.keep hb8
  have HN8 : Hid (NewsSSAt w8 a6 nss) := HN7.out.keep hb8
  have HB8 : Hid (Below w4'.heap.size w4' w8) := HB7.out.trans (hb8.mono HB7.out.size)
  have g0 := cell_keep hb8 f0
  have g1 := cell_keep hb8 f1
  clear hb8 f0 f1 HA7 HN7 HR7
  go_wp2_with fail
  refine (HKN.out _ HB8.out).mono ?_
  rintro e w9 ⟨v9, rfl, ⟨vs9, ho9⟩, hb9⟩
  rw [HKD.out] at ho9
  obtain ⟨a9, c9, rfl, _⟩ := ho9.at
  have HA9 : Hid (RowsAt w9 a5 all) := HA8.out.keep hb9
  have HN9 : Hid (NewsSSAt w9 a6 nss) := HN8.out.keep hb9
  have HB9 : Hid (Below w4'.heap.size w4' w9) := HB8.out.trans (hb9.mono HB8.out.size)
  have k0 := cell_keep hb9 g0
  have k1 := cell_keep hb9 g1
  clear hb9 g0 g1 HA8 HN8 ho9
  have hmk := run_make_row' (P := Tryd.prog) 36 4 (.bool false) 1 uBools infBool rfl .i64 .i64 bk.trips.length (by omega) (by omega)
  obtain ⟨W, hW⟩ : ∃ W, w9.alloc (.cells (madeCells #[.bool false] bk.trips.length) 4) = W := ⟨_, rfl⟩
  have hbW : Below w9.heap.size w9 W := by subst hW; exact (Below.refl _ _).alloc (Nat.le_refl _) _
  have HSW : Hid (W.heap[w9.heap.size]? = some (.cells (markB (List.replicate bk.trips.length false)) 4 (0, 0))) := by subst hW; rw [← markB_new]; exact heap_alloc_last w9 _
  have hzW : W.heap.size = w9.heap.size + 1 := by subst hW; simp
  go_wp2_with fail
  clear hmk hW
  obtain ⟨SB, hSB⟩ : ∃ SB, w9.heap.size = SB := ⟨_, rfl⟩
  rw [hSB] at HSW ⊢
  go_loopw [71] (fun i wr => ∃ (k : Nat) (sn : List Bool), k ≤ all.length ∧ i = .int .i64 k ∧ sn.length = bk.trips.length ∧ Hid (Below w9.heap.size w9 wr) ∧ Hid (SB < wr.heap.size) ∧ Hid (wr.heap[SB]? = some (.cells (markB sn) 4 (0, 0))) ∧ Hid (∀ j (h : j < sn.length), sn[j] = true → ∃ p, ∃ (hp : p < all.length), p < k ∧ all[p].trip = (j : Int))) (fun i _ => all.length - (intOf i).toNat)
  case atStart => exact ⟨0, List.replicate bk.trips.length false, Nat.zero_le _, rfl, by simp, hbW, by unfold Hid; omega, HSW, fun j h e => by simp at e⟩
  case round =>
    obtain ⟨k, sn, hk, rfl, hsn, hB, hZ, hM, hSN⟩ := hrel
    clear HSW hbW hzW
    by_cases hlt : k < all.length
    · obtain ⟨i, k', x, hfit⟩ : ∃ i k' x, RowFit bk nss s all[k] i k' x := by
        have hm : all[k] ∈ collect bk nss s m bk.trips.length := by
          have : all[k] ∈ pick 40 (collect bk nss s m bk.trips.length) := by rw [← HAL.out]; exact List.getElem_mem hlt
          exact pick_mem _ _ _ this
        obtain ⟨i, _, hi⟩ := collect_mem _ _ hm
        obtain ⟨k', x, h⟩ := rowOfTrip_fit HD.out.fault hi
        exact ⟨i, k', x, h⟩
      obtain ⟨ftrip, hil, hiln, fcall, hkl, hkln, fnews, fgone, fdest, fexpect, fstate, fdue⟩ := hfit
      have hin' : i < sn.length := by omega
      have hsf : sn[i] = false := by
        cases hc : sn[i]
        · rfl
        · obtain ⟨p, hp, hpk, he⟩ := hSN.out i hin' hc
          have h1 : OneEach all := by rw [HAL.out]; exact pick_one _ _ (collect_one HD.out.fault _)
          unfold OneEach at h1
          rw [List.nodup_iff_pairwise_ne, List.pairwise_iff_getElem] at h1
          have := h1 p k (by simpa using hp) (by simpa using hlt) hpk
          simp at this
          exact absurd (he.trans ftrip.symm) this
      have HSN2 : Hid (∀ j (h : j < (sn.set i true).length), (sn.set i true)[j] = true → ∃ p, ∃ (hp : p < all.length), p < k + 1 ∧ all[p].trip = (j : Int)) := fun j hj e => by
        rw [List.getElem_set] at e
        by_cases hji : i = j
        · subst hji; exact ⟨k, hlt, by omega, ftrip⟩
        · rw [if_neg hji] at e
          obtain ⟨p, hp, hpk, he⟩ := hSN.out j (by simpa using hj) e
          exact ⟨p, hp, by omega, he⟩
      have HPREV : Hid (∀ k0, k = k0 + 1 → ∃ (h0 : k0 < all.length), ¬ all[k].expect < all[k0].expect ∧ (all[k].expect = all[k0].expect → ¬ all[k].due < all[k0].due)) := fun k0 e => by
        refine ⟨by omega, ?_⟩
        have hs : all.Pairwise leD := by rw [HAL.out]; exact pick_sorted _ _
        rw [List.pairwise_iff_getElem] at hs
        have := hs k0 k (by omega) hlt (by omega)
        rw [leD_iff] at this
        omega
      have HCA : Hid (callAtD bk i s = (k' : Int)) := by unfold Hid; rw [callAtD_yes HD.out.fault hil]; exact fcall
      obtain ⟨b, o, rfl, y0, -⟩ := HA9.out k hlt
      have hbS := cell_lt y0
      clear y0
      obtain ⟨_, _, e5, c0, c1, c2, c3, c4, c5⟩ := (HA9.out.keep hB.out) k hlt
      simp only [Option.some.injEq, Addr.mk.injEq, and_true] at e5
      obtain ⟨rfl, rfl⟩ := e5
      have HROW : Hid (RowsAt wr (some ⟨b, o, none⟩) all) := HA9.out.keep hB.out
      obtain ⟨nb, no, na, nc, rfl, n0', hna⟩ := HN9.out i hiln
      obtain ⟨xb, xo, rfl, x0', -⟩ := hna k' hkln
      have hnS := cell_lt n0'
      have hxS := cell_lt x0'
      obtain ⟨_, _, e6, x0, x1, x2, x3, x4⟩ := (hna.keep hB.out) k' hkln
      simp only [Option.some.injEq, Addr.mk.injEq, and_true] at e6
      obtain ⟨rfl, rfl⟩ := e6
      have n0 := cell_keep hB.out n0'
      clear n0' x0'
      rw [fnews] at x0 x1 x2 x3 x4
      rw [ftrip] at c0
      rw [fgone] at x4
      have hlate := HLT.out nss[i] (List.getElem_mem hiln) nss[i][k'] (List.getElem_mem hkln)
      rw [fnews] at hlate
      have hdue : 0 ≤ all[k].due ∧ all[k].due ≤ 300 := by
        rw [fdue]
        have h1 := ((HD.out.calls i hil).calls k' hkl)
        have h2 : 0 ≤ prevGo bk.trips[i].calls k' := by
          cases k' with
          | zero => simp [prevGo]
          | succ q =>
            rw [prevGo_succ _ q (by omega)]
            have := ((HD.out.calls i hil).calls q (by omega))
            have hq : 0 ≤ bk.trips[i].calls[q].co := by
              have hgen : ∀ q (h : q < bk.trips[i].calls.length), 0 ≤ bk.trips[i].calls[q].co := by
                intro q
                induction q with
                | zero => intro h; have := ((HD.out.calls i hil).calls 0 h); simp [prevGo] at this; omega
                | succ q ih =>
                  intro h
                  have g1 := ((HD.out.calls i hil).calls (q + 1) h)
                  rw [prevGo_succ _ q (by omega)] at g1
                  have g2 := ((HD.out.calls i hil).calls q (by omega))
                  have g3 := ih (by omega)
                  omega
              exact hgen q (by omega)
            omega
        omega
      have hto : (all[k].to == (s : Int)) = false := beq_eq_false_iff_ne.2 fdest
      have hexw : IntKind.i64.wrap (all[k].due + x.late) = all[k].due + x.late := by rw [IntKind.wrap_i64]; omega
      have hexp : (all[k].expect != all[k].due + x.late) = false := by simp [fexpect]
      have hstt := fstate
      obtain ⟨q0, qf⟩ := mark_cell hM.out i hin'
      rw [hsf] at q0
      have hXS := cell_lt k1
      have hzr := hB.out.size
      have hbl : b < wr.heap.size := by omega
      have hnl : nb < wr.heap.size := by omega
      have hxl : xb < wr.heap.size := by omega
      have hXl : X < wr.heap.size := by omega
      have hSl : SB < wr.heap.size := hZ.out
      have ne1 : X ≠ SB := by omega
      have ne2 : b ≠ SB := by omega
      have ne3 : nb ≠ SB := by omega
      have ne4 : xb ≠ SB := by omega
      have hki : (0 : Int) ≤ (i : Int) := by omega
      have hki2 : ¬ (bk.trips.length : Int) ≤ (i : Int) := by omega
      have hki3 : (i : Int) < (bk.trips.length : Int) := by omega
      have hkk : (k : Int) < (all.length : Int) := by omega
      have hkn : (k' : Int) < (nss[i].length : Int) := by omega
      have hinn : (i : Int) < (nss.length : Int) := by omega
      have k0r := cell_keep hB.out k0
      have k1r := cell_keep hB.out k1
      have HBr : Hid (Below w4'.heap.size w4' wr) := HB9.out.trans (hB.out.mono HB9.out.size)
      clear ftrip fcall fnews fgone fdest fexpect fstate fdue hna
      generalize all[k] = r at *
      generalize nss[i].length = nl at *
      go_wp2_with fail
      obtain ⟨W2, hW2⟩ : ∃ W2, (wr.setCell ⟨SB, i, none⟩ (.bool true)).alloc (.cells #[.int .i64 i, .int .i64 r.to, .int .i64 r.due, .int .i64 r.expect, .int .i64 r.track, .int .i64 r.state] 38) = W2 := ⟨_, rfl⟩
      rw [hW2]
      have hb2 : Below w9.heap.size w9 W2 := by subst hW2; exact (hB.out.setCell (by simp; omega) _).alloc (by simp [World.setCell]; omega) _
      have hz2 : W2.heap.size = wr.heap.size + 1 := by subst hW2; simp [World.setCell]
      have HM2 : Hid (W2.heap[SB]? = some (.cells (markB (sn.set i true)) 4 (0, 0))) := by
        subst hW2
        unfold Hid
        rw [Below.heap_alloc _ _ _ (by simp [World.setCell]; omega)]
        exact mark_set hM.out i
      have HRB : Hid (W2.heap[wr.heap.size]? = some (.cells #[.int .i64 i, .int .i64 r.to, .int .i64 r.due, .int .i64 r.expect, .int .i64 r.track, .int .i64 r.state] 38 (0, 0))) := by
        subst hW2
        have := heap_alloc_last (wr.setCell ⟨SB, i, none⟩ (.bool true)) (.cells #[.int .i64 i, .int .i64 r.to, .int .i64 r.due, .int .i64 r.expect, .int .i64 r.track, .int .i64 r.state] 38)
        have e : (wr.setCell ⟨SB, i, none⟩ (.bool true)).heap.size = wr.heap.size := by simp [World.setCell]
        rw [e] at this
        exact this
      have KP : KeepC SB wr.heap.size wr W2 := by
        subst hW2
        refine ⟨rfl, rfl, rfl, by simp [World.setCell], fun q hq hne => ?_⟩
        rw [Below.heap_alloc _ _ _ (by simp [World.setCell]; omega), Below.heap_setCell _ _ _ _ (by simpa using hne)]
      have n2 := KP.cell n0 (by omega) ne3
      have X0 := KP.cell x0 (by omega) ne4
      have X2 := KP.cell x2 (by omega) ne4
      have X4 := KP.cell x4 (by omega) ne4
      have HPR : Hid (∀ k0 (h0 : k0 < all.length), W2.cell? ⟨b, o + k0 * 6 + 2, none⟩ = some (.int .i64 all[k0].due) ∧ W2.cell? ⟨b, o + k0 * 6 + 3, none⟩ = some (.int .i64 all[k0].expect)) := fun k0 h0 => by
        obtain ⟨_, _, e5, p0, p1, p2, p3, _⟩ := HROW.out k0 h0
        simp only [Option.some.injEq, Addr.mk.injEq, and_true] at e5
        obtain ⟨rfl, rfl⟩ := e5
        exact ⟨KP.cell p2 (by omega) ne2, KP.cell p3 (by omega) ne2⟩
      clear hW2 c0 c1 c2 c3 c4 c5 n0 x0 x1 x2 x3 x4 q0 qf k0r k1r KP
      refine (HSC.out _ (HB9.out.trans (hb2.mono HB9.out.size)) i).mono ?_
      rintro e w10 ⟨rfl, hb10⟩
      rw [HCA.out]
      have n3 := cell_keep hb10 n2
      have Y0 := cell_keep hb10 X0
      have Y2 := cell_keep hb10 X2
      have Y4 := cell_keep hb10 X4
      obtain ⟨⟨r0, r1, r2, r3', r4, r5⟩, -⟩ := six_cells ((hb10.block _ (Array.getElem?_eq_some_iff.1 HRB.out).1).trans HRB.out)
      have HM10 : Hid (w10.heap[SB]? = some (.cells (markB (sn.set i true)) 4 (0, 0))) := (hb10.block _ (Array.getElem?_eq_some_iff.1 HM2.out).1).trans HM2.out
      have HB10 : Hid (Below w9.heap.size w9 w10) := hb2.trans (hb10.mono hb2.size)
      have HZ10 : Hid (SB < w10.heap.size) := by have := hb10.size; unfold Hid; omega
      have hkz : ¬ ((k' : Int) < 0) := by omega
      have hk'0 : (0 : Int) ≤ (k' : Int) := by omega
      clear n2 X0 X2 X4
      go_wp2_with fail
      go_quiet (fail)
      go_wp2_with fail
      obtain ⟨w11, hw11⟩ : ∃ w11, w10.drewN nq = w11 := ⟨_, rfl⟩
      have hb11 : Below w10.heap.size w10 w11 := by subst hw11; exact below_drewN (Below.refl _ _) _
      rw [hw11]
      have s2 := cell_keep hb11 r2
      have s3 := cell_keep hb11 r3'
      have HB11 : Hid (Below w9.heap.size w9 w11) := HB10.out.trans (hb11.mono HB10.out.size)
      have HM11 : Hid (w11.heap[SB]? = some (.cells (markB (sn.set i true)) 4 (0, 0))) := (hb11.block _ HZ10.out).trans HM10.out
      have HZ11 : Hid (SB < w11.heap.size) := Nat.lt_of_lt_of_le HZ10.out hb11.size
      have HEND : Hid (∀ n, Below w9.heap.size w9 (w11.drewN n) ∧ SB < (w11.drewN n).heap.size ∧ (w11.drewN n).heap[SB]? = some (.cells (markB (sn.set i true)) 4 (0, 0))) := fun n =>
        ⟨below_drewN HB11.out n, Nat.lt_of_lt_of_le HZ11.out (below_drewN (Below.refl 0 w11) n).size, ((below_drewN (Below.refl w11.heap.size w11) n).block _ HZ11.out).trans HM11.out⟩
      have HPR11 : Hid (∀ k0 (h0 : k0 < all.length), w11.cell? ⟨b, o + k0 * 6 + 2, none⟩ = some (.int .i64 all[k0].due) ∧ w11.cell? ⟨b, o + k0 * 6 + 3, none⟩ = some (.int .i64 all[k0].expect)) := fun k0 h0 =>
        ⟨cell_keep hb11 (cell_keep hb10 (HPR.out k0 h0).1), cell_keep hb11 (cell_keep hb10 (HPR.out k0 h0).2)⟩
      clear hw11 hb11 hb10 n3 Y0 Y2 Y4 r0 r1 r2 r3' r4 r5 hto hexw hexp hstt hlate hdue
      by_cases hk0 : k = 0
      · have hk0i : decide ((0 : Int) < (k : Int)) = false := decide_eq_false (by omega)
        have hk0n : decide (0 < k) = false := decide_eq_false (by omega)
        clear hk0
        go_quiet (fail)
        go_wp2_with fail
        go_roundw
        case rel => exact ⟨k + 1, sn.set i true, by omega, by go_num, by simp [hsn], (HEND.out _).1, (HEND.out _).2.1, (HEND.out _).2.2, HSN2⟩
        case measure => simp [intOf]; omega
      · obtain ⟨k0, hk0'⟩ : ∃ k0, k = k0 + 1 := ⟨k - 1, by omega⟩
        obtain ⟨h0, hA, hBd⟩ := HPREV.out k0 hk0'
        obtain ⟨p2, p3⟩ := HPR11.out k0 h0
        have hk0i : decide ((0 : Int) < (k : Int)) = true := decide_eq_true (by omega)
        have hk0n : decide (0 < k) = true := decide_eq_true (by omega)
        have hkm : (k : Int) - 1 = (k0 : Int) := by omega
        have hkw : IntKind.i64.wrap ((k : Int) - 1) = (k0 : Int) := by rw [IntKind.wrap_i64]; omega
        have h0i : (k0 : Int) < (all.length : Int) := by omega
        have h0z : (0 : Int) ≤ (k0 : Int) := by omega
        generalize all[k0] = p at *
        have hAd : decide (r.expect < p.expect) = false := decide_eq_false (by omega)
        clear hk0 hk0' hA
        cases hE : (r.expect == p.expect)
        · clear hBd
          go_quiet (fail)
          go_wp2_with fail
          go_roundw
          case rel => exact ⟨k + 1, sn.set i true, by omega, by go_num, by simp [hsn], (HEND.out _).1, (HEND.out _).2.1, (HEND.out _).2.2, HSN2⟩
          case measure => simp [intOf]; omega
        · have hDu : decide (r.due < p.due) = false := decide_eq_false (by have := hBd (by simpa using hE); omega)
          clear hBd
          go_quiet (fail)
          go_wp2_with fail
          go_roundw
          case rel => exact ⟨k + 1, sn.set i true, by omega, by go_num, by simp [hsn], (HEND.out _).1, (HEND.out _).2.1, (HEND.out _).2.2, HSN2⟩
          case measure => simp [intOf]; omega
    · have HBr : Hid (Below w4'.heap.size w4' wr) := HB9.out.trans (hB.out.mono HB9.out.size)
      have q0 := cell_keep hB.out k0
      have q1 := cell_keep hB.out k1
      have HAr : Hid (RowsAt wr a5 all) := HA9.out.keep hB.out
      clear hM hSN hZ k0 k1
      go_wp2_with fail
      refine (wByte_any ma ms mc 2 _ (by omega) (by omega) (HS3.out.more.keep HBr.out)).mono ?_
      rintro e w10 ⟨r7, hr7, rfl, rfl⟩
      obtain ⟨n7, hn7⟩ : ∃ n7 : Nat, r7 % 7 = n7 := ⟨_, rfl⟩
      have hn7i : (r7 : Int) % 7 = (n7 : Int) := by omega
      have hn7t : (r7 : Int).tmod 7 = (n7 : Int) := by rw [Int.tmod_eq_emod_of_nonneg (by omega)]; omega
      have hn76 : n7 ≤ 6 := by omega
      have HTK : Hid (boardD bk rs s m n7 = all.take n7) := by unfold Hid; rw [HBD.out n7 (by omega), HAL.out, pick_take n7 40 _ (by omega)]
      clear hn7
      go_wp2_with fail
      refine (HBRD.out _ HBr.out n7).mono ?_
      rintro e w11 ⟨v11, rfl, ho11, hb11⟩
      rw [HTK.out] at ho11
      obtain ⟨a11, c11, rfl, hr11⟩ := rows_at ho11
      have HR11 : Hid (RowsAt w11 a11 (all.take n7)) := hr11
      have HA11 : Hid (RowsAt w11 a5 (all.take n7)) := (HAr.out.keep hb11).take n7
      have HBE : Hid (Below w.heap.size w w11) := (HS3.out.since.trans (HBr.out.mono HS3.out.since.size)).trans (hb11.mono (Nat.le_trans HS3.out.since.size HBr.out.size))
      have HFIN : Hid (∀ v : Value, v = .slice a5 (all.take n7).length c5 → Calls Tryd.prog 16 #[.slice a11 (all.take n7).length c11, v] w11 fun e w' => e = .returned (.bool true) ∧ Below w.heap.size w w') := fun v hv => by
        subst hv
        exact (wRows_same a11 a5 (all.take n7) c11 c5 w11 (by rw [List.length_take]; omega) HR11.out HA11.out).mono fun e w' ⟨h1, h2⟩ => ⟨h1, HBE.out.trans (h2.mono HBE.out.size)⟩
      have hlt7 : (all.take n7).length = min n7 all.length := List.length_take
      clear ho11 hr11 hb11 q0 q1 hn7i hn7t hr7
      by_cases hgt : all.length < n7
      · have hgti : (all.length : Int) < (n7 : Int) := by omega
        have hlen : (all.take n7).length = all.length := by omega
        rw [hlen] at HFIN ⊢
        clear hlt7 hlen
        have hle : (all.length : Int) ≤ (c5 : Int) := by omega
        have hle' : all.length ≤ c5 := by omega
        have hz0 : (0 : Int) ≤ (all.length : Int) := by omega
        go_wp2_with fail
        refine (HFIN.out (.slice a5 all.length c5) rfl).mono ?_
        rintro e w12 ⟨rfl, hb12⟩
        have HBF : Hid (Below w.heap.size w w12) := hb12
        clear hb12
        go_wp2_with fail
        go_ret
        exact ⟨rfl, HBF.out⟩
      · have hgti : ¬ (all.length : Int) < (n7 : Int) := by omega
        have hlen : (all.take n7).length = n7 := by omega
        rw [hlen] at HFIN ⊢
        clear hlt7 hlen
        have hle : (n7 : Int) ≤ (c5 : Int) := by omega
        have hle' : n7 ≤ c5 := by omega
        have hz0 : (0 : Int) ≤ (n7 : Int) := by omega
        go_wp2_with fail
        refine (HFIN.out (.slice a5 n7 c5) rfl).mono ?_
        rintro e w12 ⟨rfl, hb12⟩
        have HBF : Hid (Below w.heap.size w w12) := hb12
        clear hb12
        go_wp2_with fail
        go_ret
        exact ⟨rfl, HBF.out⟩

end Go.Proofs.YtjioingdpfgadaaDoor
