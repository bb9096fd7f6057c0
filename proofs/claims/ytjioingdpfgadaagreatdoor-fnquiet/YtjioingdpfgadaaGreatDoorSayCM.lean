import Derived.Test.YtjioingdpfgadaaGreatDoorProg
import Derived.Test.YtjioingdpfgadaaGreatDoorShAM
import Derived.BigQuiet
import Derived.Deep.Cut
import Derived.Deep.DeepCutAuto
import Derived.Deep.QuietTactic
namespace Go.Proofs.YtjioingdpfgadaaGreatDoor
open Go Go.RowKit Go.Deep

theorem sayX_1e {nm tn : ByteArray} {ends : Bool} {x : NewsD} {n : Int} (h : ends = true ∨ x.late = n) : sayX nm tn ends x 1 n = ⟨#[]⟩ := by unfold sayX; rw [if_pos rfl, if_pos h]
theorem sayX_1z {nm tn : ByteArray} {ends : Bool} {x : NewsD} {n : Int} (h : ¬ (ends = true ∨ x.late = n)) (h0 : n = 0) : sayX nm tn ends x 1 n = boundS nm tn ++ ⟨#[32, 105, 115, 32, 111, 110, 32, 116, 105, 109, 101]⟩ := by unfold sayX; rw [if_pos rfl, if_neg h, if_pos h0]
theorem sayX_1n {nm tn : ByteArray} {ends : Bool} {x : NewsD} {n : Int} (h : ¬ (ends = true ∨ x.late = n)) (h0 : ¬ n = 0) : sayX nm tn ends x 1 n = boundS nm tn ++ ⟨#[32, 105, 115, 32, 108, 97, 116, 101, 32, 98, 121, 32]⟩ ++ numS n := by unfold sayX; rw [if_pos rfl, if_neg h, if_neg h0]
theorem sayX_2 {nm tn : ByteArray} {ends : Bool} {x : NewsD} {n : Int} : sayX nm tn ends x 2 n = boundS nm tn ++ ⟨#[32, 99, 111, 109, 101, 115, 32, 111, 110, 32, 116, 114, 97, 99, 107, 32]⟩ ++ numS n := by unfold sayX; rw [if_neg (by decide), if_pos rfl]
theorem sayX_3 {nm tn : ByteArray} {ends : Bool} {x : NewsD} {n : Int} : sayX nm tn ends x 3 n = boundS nm tn ++ ⟨#[32, 100, 111, 101, 115, 32, 110, 111, 116, 32, 99, 111, 109, 101]⟩ := by unfold sayX; rw [if_neg (by decide), if_neg (by decide), if_pos rfl]
theorem sayX_4e {nm tn : ByteArray} {ends : Bool} {x : NewsD} {n : Int} (h : ends = true) : sayX nm tn ends x 4 n = nm ++ ⟨#[32, 101, 110, 100, 115, 32, 104, 101, 114, 101]⟩ := by unfold sayX; rw [if_neg (by decide), if_neg (by decide), if_neg (by decide), if_pos rfl, if_pos h]
theorem sayX_4n {nm tn : ByteArray} {ends : Bool} {x : NewsD} {n : Int} (h : ¬ ends = true) : sayX nm tn ends x 4 n = boundS nm tn ++ ⟨#[32, 105, 115, 32, 104, 101, 114, 101, 32, 111, 110, 32, 116, 114, 97, 99, 107, 32]⟩ ++ numS x.track := by unfold sayX; rw [if_neg (by decide), if_neg (by decide), if_neg (by decide), if_pos rfl, if_neg h]
theorem sayX_5 {nm tn : ByteArray} {ends : Bool} {x : NewsD} {n : Int} : sayX nm tn ends x 5 n = boundS nm tn ++ ⟨#[32, 103, 111, 101, 115]⟩ := by unfold sayX; rw [if_neg (by decide), if_neg (by decide), if_neg (by decide), if_neg (by decide)]
theorem reachB_lt {op c k : Int} (h : k < c) : reachB op c k = false := by unfold reachB; exact decide_eq_false (fun ⟨_, h2, _⟩ => by omega)
theorem reachB_eq {op c k : Int} (h : k = c) (h0 : 0 ≤ k) : reachB op c k = true := by unfold reachB; exact decide_eq_true ⟨h0, by omega, fun h2 => by omega⟩
theorem reachB_gt {op c k : Int} (h : c < k) (h0 : 0 ≤ k) (ho : op = 1 ∨ op = 3) : reachB op c k = true := by unfold reachB; exact decide_eq_true ⟨h0, by omega, fun _ => ho⟩
theorem reachB_no {op c k : Int} (h : c < k) (ho : ¬ (op = 1 ∨ op = 3)) : reachB op c k = false := by unfold reachB; exact decide_eq_false (fun ⟨_, _, h2⟩ => ho (h2 h))
theorem numS_size (n : Nat) : (numS (n : Int)).size ≤ 20 := by have := decL_len n; simpa [numS, ByteArray.size] using this
theorem bound_size {nm tn : ByteArray} (h1 : nm.size ≤ 20) (h2 : tn.size ≤ 20) : (boundS nm tn).size ≤ 44 := by unfold boundS; simp only [ByteArray.size_append]; show nm.size + 4 + tn.size ≤ 44; omega

set_option maxRecDepth 100000 in
set_option maxHeartbeats 8000000 in
theorem l4text_any (v : Value) (bk : BookD) (na : Option Addr) (nc : Nat) (nss : List (List NewsD)) (r : RepD) (s : Int) (j : Nat) (w : World) (hj : j < bk.trips.length) (hjt : r.trip = (j : Int)) (hjn : j < nss.length) (hlen : nss[j].length = bk.trips[j].calls.length) (htr : tripB bk.sts.length bk.trips[j] = true) (hn : bookSize bk ≤ 1048576)
    (hop : 1 ≤ r.op ∧ r.op ≤ 5) (hnum : r.op = 1 ∨ r.op = 2 → 0 ≤ r.n ∧ r.n ≤ 1000000) (htk : ∀ x ∈ nss[j], 1 ≤ x.track ∧ x.track ≤ 20) (hnm : bk.trips[j].name.size ≤ 20) (hst : ∀ i (h : i < bk.sts.length), bk.sts[i].size ≤ 20) (hat : BookAt w v bk) (hna : NewsSSAt w na nss) :
    Calls Tryz.prog 43 #[v, .slice na nss.length nc, repV r, .int .i64 s] w fun e w' => e = .returned (.string (textT bk bk.trips[j] nss[j] r s)) ∧ Below w.heap.size w w' := by
  obtain ⟨sa, sc, ta, tc, rfl, hsa, hta⟩ := hat
  have HBK : Hid (BookAt w (.agg #[.slice sa bk.sts.length sc, .slice ta bk.trips.length tc]) bk) := ⟨sa, sc, ta, tc, rfl, hsa, hta⟩
  have HSA : Hid (StrsAt w sa bk.sts) := hsa
  have HTA : Hid (TripsAt w ta bk.trips) := hta
  have HNA : Hid (NewsSSAt w na nss) := hna
  have HST : Hid (∀ i (h : i < bk.sts.length), bk.sts[i].size ≤ 20) := hst
  have HTK : Hid (∀ x ∈ nss[j], 1 ≤ x.track ∧ x.track ≤ 20) := htk
  have HRV : repV r = .agg #[.int .i64 r.tick, .int .i64 r.op, .int .i64 (j : Int), .int .i64 r.call, .int .i64 r.n] := by unfold repV; rw [hjt]
  rw [HRV]
  obtain ⟨W, hW⟩ : ∃ W, (w.alloc (.cells #[.slice sa bk.sts.length sc, .slice ta bk.trips.length tc] 26)).alloc (.cells #[.int .i64 r.tick, .int .i64 r.op, .int .i64 (j : Int), .int .i64 r.call, .int .i64 r.n] 45) = W := ⟨_, rfl⟩
  have bW : Below w.heap.size w W := by subst hW; exact ((Below.refl _ _).alloc (Nat.le_refl _) _).alloc (by simp) _
  have hsW : W.heap.size = w.heap.size + 1 + 1 := by subst hW; simp
  have p0 : W.cell? ⟨w.heap.size, 0, none⟩ = some (.slice sa bk.sts.length sc) := by subst hW; simp [go_sem]
  have p1 : W.cell? ⟨w.heap.size, 1, none⟩ = some (.slice ta bk.trips.length tc) := by subst hW; simp [go_sem]
  have g1 : W.cell? ⟨w.heap.size + 1, 1, none⟩ = some (.int .i64 r.op) := by subst hW; simp [go_sem]
  have g2 : W.cell? ⟨w.heap.size + 1, 2, none⟩ = some (.int .i64 (j : Int)) := by subst hW; simp [go_sem]
  have g3 : W.cell? ⟨w.heap.size + 1, 3, none⟩ = some (.int .i64 r.call) := by subst hW; simp [go_sem]
  have g4 : W.cell? ⟨w.heap.size + 1, 4, none⟩ = some (.int .i64 r.n) := by subst hW; simp [go_sem]
  have hj0 : (0 : Int) ≤ (j : Int) := by omega
  have hj1 : (j : Int) < (bk.trips.length : Int) := by omega
  have hj2 : (j : Int) < (nss.length : Int) := by omega
  clear hsa hta hna hst htk HRV
  rcases callAtC_inv (cs := bk.trips[j].calls) (s := s) with hk | ⟨k, hk, hkc, hks⟩
  · have HT : Hid (textT bk bk.trips[j] nss[j] r s = ⟨#[]⟩) := textT_none hk
    have HK : Hid (callAtC bk.trips[j].calls s = -1) := hk
    clear hk hjt
    go_enter Tryz.func43, Tryz.ntmps43
    go_wp2_with fail
    refine (l1at_any _ bk j s _ hj hn (by exact HBK.out.keep bW)).mono ?_
    rintro e w1 ⟨rfl, hb1⟩
    rw [HK.out]
    have q3 := cell_keep hb1 g3
    go_wp2_with fail
    go_ret
    exact ⟨ret_str HT.out.symm, bW.trans (hb1.mono bW.size)⟩
  · have hkn : k < nss[j].length := by omega
    have HTX : Hid (textT bk bk.trips[j] nss[j] r s = if reachB r.op r.call k = true ∧ spokenB nss[j][k] r.op = true then sayX bk.trips[j].name (endS bk bk.trips[j].calls nss[j]) (decide (endD bk.trips[j].calls nss[j] = s)) nss[j][k] r.op r.n else ⟨#[]⟩) := textT_at hkc hkn
    have HK : Hid (callAtC bk.trips[j].calls s = (k : Int)) := hkc
    have HEF : Hid (nss[j][k].off = false → ∃ (e : Nat) (he : e < bk.trips[j].calls.length), endIdx nss[j] nss[j].length = (e : Int) ∧ k ≤ e ∧ endD bk.trips[j].calls nss[j] = bk.trips[j].calls[e].st ∧ (0 ≤ bk.trips[j].calls[e].st ∧ bk.trips[j].calls[e].st < bk.sts.length) ∧ (bk.trips[j].calls[e].st = bk.trips[j].calls[k].st ↔ e = k)) := fun ho => end_facts htr hlen hk ho
    have HKS : Hid (bk.trips[j].calls[k].st = s) := hks
    have hk0 : (0 : Int) ≤ (k : Int) := by omega
    have hk1 : (k : Int) < (nss[j].length : Int) := by omega
    have n3 : bk.trips[j].calls.length ≤ 1048576 := by
      have := sumTrips_get bk.trips j hj
      unfold bookSize tripsSize at hn; unfold tripSize at this; omega
    have HTK2 : Hid (1 ≤ nss[j][k].track ∧ nss[j][k].track ≤ 20) := HTK.out _ (List.getElem_mem hkn)
    have HNUM : Hid (r.op = 1 ∨ r.op = 2 → 0 ≤ r.n ∧ r.n ≤ 1000000) := hnum
    have hlt0 : ¬ ((k : Int) < 0) := by omega
    clear hkc hjt hks htr hnum HTK
    go_enter Tryz.func43, Tryz.ntmps43
    go_upto_region 2 with fail
    refine (l1at_any _ bk j s _ hj hn (by exact HBK.out.keep bW)).mono ?_
    rintro e w1 ⟨rfl, hb1⟩
    rw [HK.out]
    have B1 : Below w.heap.size w w1 := bW.trans (hb1.mono bW.size)
    have q0 := cell_keep hb1 p0
    have q1 := cell_keep hb1 p1
    have u1 := cell_keep hb1 g1
    have u2 := cell_keep hb1 g2
    have u3 := cell_keep hb1 g3
    have u4 := cell_keep hb1 g4
    clear p0 p1 g1 g2 g3 g4 hW hb1
    go_upto_region 2 with fail
    go_cut [43] (fun t wx => t = .bool (!reachB r.op r.call k) ∧ wx = w1)
    case first =>
      rcases Int.lt_trichotomy (k : Int) r.call with h | h | h
      · have HR : Hid (reachB r.op r.call k = false) := reachB_lt h
        go_wp2_with fail
        go_meet
        exact ⟨by rw [HR.out]; rfl, rfl⟩
      · have HR : Hid (reachB r.op r.call k = true) := reachB_eq h hk0
        have h1 : ¬ ((k : Int) < r.call) := by omega
        have h2 : ¬ (r.call < (k : Int)) := by omega
        clear h
        go_wp2_with fail
        go_meet
        exact ⟨by rw [HR.out]; rfl, rfl⟩
      · have h1 : ¬ ((k : Int) < r.call) := by omega
        by_cases o1 : r.op = 1
        · have HR : Hid (reachB r.op r.call k = true) := reachB_gt h hk0 (.inl o1)
          rw [o1] at u1
          clear o1
          go_wp2_with fail
          go_meet
          exact ⟨by rw [HR.out]; rfl, rfl⟩
        · by_cases o3 : r.op = 3
          · have HR : Hid (reachB r.op r.call k = true) := reachB_gt h hk0 (.inr o3)
            rw [o3] at u1
            clear o3 o1
            go_wp2_with fail
            go_meet
            exact ⟨by rw [HR.out]; rfl, rfl⟩
          · have HR : Hid (reachB r.op r.call k = false) := reachB_no h (by omega)
            have b1 : (r.op != 1) = true := by simpa using o1
            have b3 : (r.op != 3) = true := by simpa using o3
            clear o1 o3
            go_wp2_with fail
            go_meet
            exact ⟨by rw [HR.out]; rfl, rfl⟩
    case rest =>
      rename World => wx
      obtain ⟨rfl, rfl⟩ := hcut
      cases hre : reachB r.op r.call k
      · have HT : Hid (textT bk bk.trips[j] nss[j] r s = ⟨#[]⟩) := by unfold Hid; rw [HTX.out, if_neg (by rw [hre]; simp)]
        clear hre
        go_wp2_with fail
        go_ret
        exact ⟨ret_str HT.out.symm, B1⟩
      · have HTY : Hid (textT bk bk.trips[j] nss[j] r s = if spokenB nss[j][k] r.op = true then sayX bk.trips[j].name (endS bk bk.trips[j].calls nss[j]) (decide (endD bk.trips[j].calls nss[j] = s)) nss[j][k] r.op r.n else ⟨#[]⟩) := by
          unfold Hid; rw [HTX.out]
          by_cases hsp : spokenB nss[j][k] r.op = true
          · rw [if_pos ⟨hre, hsp⟩, if_pos hsp]
          · rw [if_neg (fun h => hsp h.2), if_neg hsp]
        have HL3 : Hid (∀ (w : World) (v : Value) (na : Option Addr) (nc : Nat), BookAt w v bk → NewsSSAt w na nss → Calls Tryz.prog 58 #[v, .slice na nss.length nc, .int .i64 j] w fun e w' => e = .returned (.int .i64 (endD bk.trips[j].calls nss[j])) ∧ Below w.heap.size w w') := fun w v na nc h1 h2 => l3to_any v bk na nc nss j w hj hjn hlen n3 h1 h2
        clear hre HTX
        obtain ⟨b, o, ca, cc, rfl, c0, c1, _⟩ := HTA.out.keep B1 j hj
        obtain ⟨b', o', na', nc', rfl, e0, hnn⟩ := HNA.out.keep B1 j hjn
        obtain ⟨b3, o3, rfl, x0, x1, x2, x3, x4⟩ := hnn k hkn
        have HNM : Hid (bk.trips[j].name.size ≤ 20) := hnm
        have HLN : Hid (bk.trips[j].calls.length ≤ 1048576) := n3
        clear hnn hlen hnm
        obtain ⟨W2, hW2⟩ : ∃ W2, (wx.alloc (.cells #[.string bk.trips[j].name, .slice ca bk.trips[j].calls.length cc] 49)).alloc (.cells #[.int .i64 nss[j][k].late, .int .i64 nss[j][k].track, .bool nss[j][k].off, .bool nss[j][k].here, .bool nss[j][k].gone] 43) = W2 := ⟨_, rfl⟩
        have bW2 : Below wx.heap.size wx W2 := by subst hW2; exact ((Below.refl _ _).alloc (Nat.le_refl _) _).alloc (by simp) _
        have y0 : W2.cell? ⟨wx.heap.size, 0, none⟩ = some (.string bk.trips[j].name) := by subst hW2; simp [go_sem]
        have y1 : W2.cell? ⟨wx.heap.size, 1, none⟩ = some (.slice ca bk.trips[j].calls.length cc) := by subst hW2; simp [go_sem]
        have z0 : W2.cell? ⟨wx.heap.size + 1, 0, none⟩ = some (.int .i64 nss[j][k].late) := by subst hW2; simp [go_sem]
        have z1 : W2.cell? ⟨wx.heap.size + 1, 1, none⟩ = some (.int .i64 nss[j][k].track) := by subst hW2; simp [go_sem]
        have z2 : W2.cell? ⟨wx.heap.size + 1, 2, none⟩ = some (.bool nss[j][k].off) := by subst hW2; simp [go_sem]
        have z3 : W2.cell? ⟨wx.heap.size + 1, 3, none⟩ = some (.bool nss[j][k].here) := by subst hW2; simp [go_sem]
        have z4 : W2.cell? ⟨wx.heap.size + 1, 4, none⟩ = some (.bool nss[j][k].gone) := by subst hW2; simp [go_sem]
        have lw := cell_lt u1
        have le := cell_lt e0
        have lx := cell_lt x0
        have lc := cell_lt c0
        have Q0 := cell_keep bW2 q0
        have Q1 := cell_keep bW2 q1
        have U1 := cell_keep bW2 u1
        have U2 := cell_keep bW2 u2
        have U4 := cell_keep bW2 u4
        have B2 : Below w.heap.size w W2 := B1.trans (bW2.mono B1.size)
        generalize nss[j][k] = x at *
        go_upto_region 6 with fail
        clear q0 q1 u1 u2 u3 u4 c0 c1 e0 x0 x1 x2 x3 x4 hW2 bW2
        go_cut [77] (fun t wy => t = .bool (!spokenB x r.op) ∧ wy = W2)
        case first =>
          cases hg : x.gone
          · cases ho : x.off
            · cases hh : x.here
              · have HR : Hid (spokenB x r.op = true) := by unfold Hid spokenB; rw [hg, ho, hh]; rfl
                rw [hg] at z4; rw [ho] at z2; rw [hh] at z3
                clear hg ho hh
                go_wp2_with fail
                go_meet
                exact ⟨by rw [HR.out]; rfl, rfl⟩
              · by_cases o5 : r.op = 5
                · have HR : Hid (spokenB x r.op = true) := by unfold Hid spokenB; rw [hg, ho, hh, o5]; rfl
                  rw [hg] at z4; rw [ho] at z2; rw [hh] at z3; rw [o5] at U1
                  clear hg ho hh o5
                  go_wp2_with fail
                  go_meet
                  exact ⟨by rw [HR.out]; rfl, rfl⟩
                · by_cases o1 : r.op = 1
                  · have HR : Hid (spokenB x r.op = true) := by unfold Hid spokenB; rw [hg, ho, hh, o1]; rfl
                    rw [hg] at z4; rw [ho] at z2; rw [hh] at z3; rw [o1] at U1
                    clear hg ho hh o5 o1
                    go_wp2_with fail
                    go_meet
                    exact ⟨by rw [HR.out]; rfl, rfl⟩
                  · have HR : Hid (spokenB x r.op = false) := by unfold Hid spokenB; rw [hg, ho, hh]; simp [o5, o1]
                    have b5 : (r.op != 5) = true := by simpa using o5
                    have b1 : (r.op != 1) = true := by simpa using o1
                    rw [hg] at z4; rw [ho] at z2; rw [hh] at z3
                    clear hg ho hh o5 o1
                    go_wp2_with fail
                    go_meet
                    exact ⟨by rw [HR.out]; rfl, rfl⟩
            · have HR : Hid (spokenB x r.op = false) := by unfold Hid spokenB; rw [hg, ho]; rfl
              rw [hg] at z4; rw [ho] at z2
              clear hg ho
              go_wp2_with fail
              go_meet
              exact ⟨by rw [HR.out]; rfl, rfl⟩
          · have HR : Hid (spokenB x r.op = false) := by unfold Hid spokenB; rw [hg]; rfl
            rw [hg] at z4
            clear hg
            go_wp2_with fail
            go_meet
            exact ⟨by rw [HR.out]; rfl, rfl⟩
        case rest =>
          rename World => V2
          obtain ⟨rfl, rfl⟩ := hcut
          cases hsp : spokenB x r.op
          · have HT : Hid (textT bk bk.trips[j] nss[j] r s = ⟨#[]⟩) := by unfold Hid; rw [HTY.out, if_neg (by rw [hsp]; simp)]
            clear hsp
            go_wp2_with fail
            go_ret
            exact ⟨ret_str HT.out.symm, B2⟩
          · obtain ⟨hg, ho, hh⟩ := spokenB_off hsp
            obtain ⟨e, he, _, hke, hD, ⟨d0, d1⟩, hiff⟩ := HEF.out ho
            obtain ⟨q, hq⟩ := Int.eq_ofNat_of_zero_le d0
            have hql : q < bk.sts.length := by omega
            have HD : Hid (endD bk.trips[j].calls nss[j] = (q : Int)) := by unfold Hid; rw [hD, hq]
            obtain ⟨bs, os, hse, m0⟩ := HSA.out.keep B2 q hql
            subst hse
            have HES : Hid (endS bk bk.trips[j].calls nss[j] = bk.sts[q]) := by unfold Hid endS; rw [HD.out, Int.toNat_natCast, List.getElem?_eq_getElem hql]; rfl
            have HLS : Hid ((k : Int) = (bk.trips[j].calls.length : Int) - 1 → (q : Int) = s) := fun h => by
              have e2 : e = k := by omega
              rw [← hq, hiff.2 e2]; exact HKS.out
            have HT : Hid (textT bk bk.trips[j] nss[j] r s = sayX bk.trips[j].name bk.sts[q] (decide ((q : Int) = s)) x r.op r.n) := by unfold Hid; rw [HTY.out, if_pos hsp, HES.out, HD.out]
            have hs20 := HST.out q hql
            have hn20 := HNM.out
            have hq0 : (0 : Int) ≤ (q : Int) := by omega
            have hq1 : (q : Int) < (bk.sts.length : Int) := by omega
            have hcl := HLN.out
            have HKL : Hid ((k : Int) < (bk.trips[j].calls.length : Int)) := by unfold Hid; omega
            have HBK2 : Hid (BookAt V2 (.agg #[.slice (some ⟨bs, os, none⟩) bk.sts.length sc, .slice (some ⟨b, o, none⟩) bk.trips.length tc]) bk) := HBK.out.keep B2
            have HNA2 : Hid (NewsSSAt V2 (some ⟨b', o', none⟩) nss) := HNA.out.keep B2
            have HL3' : Hid (∀ (w : World) (v : Value) (na : Option Addr) (nc : Nat), BookAt w v bk → NewsSSAt w na nss → Calls Tryz.prog 58 #[v, .slice na nss.length nc, .int .i64 j] w fun e w' => e = .returned (.int .i64 (q : Int)) ∧ Below w.heap.size w w') := fun w v na nc h1 h2 => by have := HL3.out w v na nc h1 h2; rw [HD.out] at this; exact this
            clear hsp hg ho hh HEF HD HES HTY HST HNM HLN hD d0 d1 hiff hke hq he hk HKS HL3 HSA HTA HBK HNA z2 z3 z4
            generalize bk.trips[j].calls.length = cl at *
            generalize bk.trips[j].name = nm at *
            generalize bk.sts[q] = sn at *
            have E1 : ∀ w, (Op.stringOp .add nm ⟨#[32, 116, 111, 32]⟩).run Tryz.prog w = .ok (.string (nm ++ ⟨#[32, 116, 111, 32]⟩)) w := fun w => run_string_add_sum w _ _ (by show nm.size + 4 ≤ _; omega)
            have E2 : ∀ w, (Op.stringOp .add (nm ++ ⟨#[32, 116, 111, 32]⟩) sn).run Tryz.prog w = .ok (.string (nm ++ ⟨#[32, 116, 111, 32]⟩ ++ sn)) w := fun w => run_string_add_sum w _ _ (by rw [ByteArray.size_append]; show nm.size + 4 + sn.size ≤ _; omega)
            go_upto_region 10 with fail
            refine (HL3'.out _ _ _ _ (by exact HBK2.out) (by exact HNA2.out)).mono ?_
            rintro e3 w4 ⟨rfl, hb4⟩
            have B4 : Below w.heap.size w w4 := B2.trans (hb4.mono B2.size)
            have q0 := cell_keep hb4 Q0
            have u1 := cell_keep hb4 U1
            have u4 := cell_keep hb4 U4
            have v0 := cell_keep hb4 y0
            have s0 := cell_keep hb4 z0
            have s1 := cell_keep hb4 z1
            have n0 := cell_keep hb4 m0
            clear Q0 Q1 U1 U2 U4 y0 y1 z0 z1 m0 hb4 HL3' HBK2 HNA2
            go_upto_region 10 with fail
            go_cut [14] (fun t wz => t = .string (boundS nm sn) ∧ Below w4.heap.size w4 wz)
            case first =>
              go_quiet (fail)
              go_wp2_with fail
              go_meet
              exact ⟨rfl, below_drewN (Below.refl _ _) _⟩
            case rest =>
              rename World => V4
              obtain ⟨rfl, hb5⟩ := hcut
              have B5 : Below w.heap.size w V4 := B4.trans (hb5.mono B4.size)
              have f1 := cell_keep hb5 u1
              have f4 := cell_keep hb5 u4
              have f0 := cell_keep hb5 v0
              have t0 := cell_keep hb5 s0
              have t1 := cell_keep hb5 s1
              have hA := bound_size hn20 hs20
              clear q0 u1 u4 v0 s0 s1 n0 hb5 E1 E2
              obtain ⟨A, hAe⟩ : ∃ A, boundS nm sn = A := ⟨_, rfl⟩
              have HAE : Hid (boundS nm sn = A) := hAe
              rw [hAe] at hA ⊢
              clear hAe
              rcases (show r.op = 1 ∨ r.op = 2 ∨ r.op = 3 ∨ r.op = 4 ∨ r.op = 5 by omega) with ho | ho | ho | ho | ho
              · have hnn := HNUM.out (.inl ho)
                rw [ho] at f1 HT
                clear ho hop HNUM
                by_cases hl : (k : Int) = (cl : Int) - 1
                · have HF : Hid (textT bk bk.trips[j] nss[j] r s = ⟨#[]⟩) := by unfold Hid; rw [HT.out]; exact sayX_1e (.inl (decide_eq_true (HLS.out hl)))
                  have bl : ((k : Int) == (cl : Int) - 1) = true := by simpa using hl
                  clear hl HT
                  go_wp2_with fail
                  go_ret
                  exact ⟨ret_str HF.out.symm, B5⟩
                · have bl : ((k : Int) == (cl : Int) - 1) = false := by simpa using hl
                  by_cases hla : x.late = r.n
                  · have HF : Hid (textT bk bk.trips[j] nss[j] r s = ⟨#[]⟩) := by unfold Hid; rw [HT.out]; exact sayX_1e (.inr hla)
                    have ba : (x.late == r.n) = true := by simpa using hla
                    clear hl hla HT
                    go_wp2_with fail
                    go_ret
                    exact ⟨ret_str HF.out.symm, B5⟩
                  · have ba : (x.late == r.n) = false := by simpa using hla
                    by_cases hqs : (q : Int) = s
                    · have HF : Hid (textT bk bk.trips[j] nss[j] r s = ⟨#[]⟩) := by unfold Hid; rw [HT.out]; exact sayX_1e (.inl (decide_eq_true hqs))
                      have bq : ((q : Int) == s) = true := by simpa using hqs
                      clear hl hla hqs HT
                      go_wp2_with fail
                      go_ret
                      exact ⟨ret_str HF.out.symm, B5⟩
                    · have bq : ((q : Int) == s) = false := by simpa using hqs
                      have hne : ¬ (decide ((q : Int) = s) = true ∨ x.late = r.n) := fun h => by
                        rcases h with h | h
                        · exact hqs (of_decide_eq_true h)
                        · exact hla h
                      by_cases hz : r.n = 0
                      · have HF : Hid (textT bk bk.trips[j] nss[j] r s = A ++ ⟨#[32, 105, 115, 32, 111, 110, 32, 116, 105, 109, 101]⟩) := by unfold Hid; rw [HT.out, sayX_1z hne hz, HAE.out]
                        have E3 : ∀ w, (Op.stringOp .add A ⟨#[32, 105, 115, 32, 111, 110, 32, 116, 105, 109, 101]⟩).run Tryz.prog w = .ok (.string (A ++ ⟨#[32, 105, 115, 32, 111, 110, 32, 116, 105, 109, 101]⟩)) w := fun w => run_string_add_sum w _ _ (by show A.size + 11 ≤ _; omega)
                        rw [hz] at f4 ba
                        clear hl hla hqs hne hz HT
                        go_wp2_with fail
                        go_ret
                        exact ⟨ret_str HF.out.symm, B5⟩
                      · obtain ⟨m, hm⟩ := Int.eq_ofNat_of_zero_le hnn.1
                        have hm6 : m ≤ 1000000000000 := by omega
                        have bz : ((m : Int) == 0) = false := by simp; omega
                        have HF : Hid (textT bk bk.trips[j] nss[j] r s = A ++ ⟨#[32, 105, 115, 32, 108, 97, 116, 101, 32, 98, 121, 32]⟩ ++ ⟨(decL m).toArray⟩) := by unfold Hid; rw [HT.out, sayX_1n hne hz, HAE.out, hm]; rfl
                        have hDs : (⟨(decL m).toArray⟩ : ByteArray).size ≤ 20 := by have := decL_len m; simpa [ByteArray.size] using this
                        have E3 : ∀ w, (Op.stringOp .add A ⟨#[32, 105, 115, 32, 108, 97, 116, 101, 32, 98, 121, 32]⟩).run Tryz.prog w = .ok (.string (A ++ ⟨#[32, 105, 115, 32, 108, 97, 116, 101, 32, 98, 121, 32]⟩)) w := fun w => run_string_add_sum w _ _ (by show A.size + 12 ≤ _; omega)
                        have E4 : ∀ w, (Op.stringOp .add (A ++ ⟨#[32, 105, 115, 32, 108, 97, 116, 101, 32, 98, 121, 32]⟩) ⟨(decL m).toArray⟩).run Tryz.prog w = .ok (.string (A ++ ⟨#[32, 105, 115, 32, 108, 97, 116, 101, 32, 98, 121, 32]⟩ ++ ⟨(decL m).toArray⟩)) w := fun w => run_string_add_sum w _ _ (by rw [ByteArray.size_append]; show A.size + 12 + (⟨(decL m).toArray⟩ : ByteArray).size ≤ _; omega)
                        rw [hm] at f4 ba
                        clear hl hla hqs hne hz HT hm hnn
                        go_wp2_with fail
                        refine (l3decimal_any m _ hm6).mono ?_
                        rintro e5 w6 ⟨rfl, hb6⟩
                        have B6 : Below w.heap.size w w6 := B5.trans (hb6.mono B5.size)
                        go_wp2_with fail
                        go_ret
                        exact ⟨ret_str HF.out.symm, B6⟩
              · obtain ⟨m, hm⟩ := Int.eq_ofNat_of_zero_le (HNUM.out (.inr ho)).1
                have hnn := HNUM.out (.inr ho)
                have hm6 : m ≤ 1000000000000 := by omega
                rw [ho] at f1 HT
                have HF : Hid (textT bk bk.trips[j] nss[j] r s = A ++ ⟨#[32, 99, 111, 109, 101, 115, 32, 111, 110, 32, 116, 114, 97, 99, 107, 32]⟩ ++ ⟨(decL m).toArray⟩) := by unfold Hid; rw [HT.out, sayX_2, HAE.out, hm]; rfl
                have hDs : (⟨(decL m).toArray⟩ : ByteArray).size ≤ 20 := by have := decL_len m; simpa [ByteArray.size] using this
                have E3 : ∀ w, (Op.stringOp .add A ⟨#[32, 99, 111, 109, 101, 115, 32, 111, 110, 32, 116, 114, 97, 99, 107, 32]⟩).run Tryz.prog w = .ok (.string (A ++ ⟨#[32, 99, 111, 109, 101, 115, 32, 111, 110, 32, 116, 114, 97, 99, 107, 32]⟩)) w := fun w => run_string_add_sum w _ _ (by show A.size + 16 ≤ _; omega)
                have E4 : ∀ w, (Op.stringOp .add (A ++ ⟨#[32, 99, 111, 109, 101, 115, 32, 111, 110, 32, 116, 114, 97, 99, 107, 32]⟩) ⟨(decL m).toArray⟩).run Tryz.prog w = .ok (.string (A ++ ⟨#[32, 99, 111, 109, 101, 115, 32, 111, 110, 32, 116, 114, 97, 99, 107, 32]⟩ ++ ⟨(decL m).toArray⟩)) w := fun w => run_string_add_sum w _ _ (by rw [ByteArray.size_append]; show A.size + 16 + (⟨(decL m).toArray⟩ : ByteArray).size ≤ _; omega)
                rw [hm] at f4
                clear ho hop HNUM HT hm hnn
                go_wp2_with fail
                refine (l3decimal_any m _ hm6).mono ?_
                rintro e5 w6 ⟨rfl, hb6⟩
                have B6 : Below w.heap.size w w6 := B5.trans (hb6.mono B5.size)
                go_wp2_with fail
                go_ret
                exact ⟨ret_str HF.out.symm, B6⟩
              · rw [ho] at f1 HT
                have HF : Hid (textT bk bk.trips[j] nss[j] r s = A ++ ⟨#[32, 100, 111, 101, 115, 32, 110, 111, 116, 32, 99, 111, 109, 101]⟩) := by unfold Hid; rw [HT.out, sayX_3, HAE.out]
                have E3 : ∀ w, (Op.stringOp .add A ⟨#[32, 100, 111, 101, 115, 32, 110, 111, 116, 32, 99, 111, 109, 101]⟩).run Tryz.prog w = .ok (.string (A ++ ⟨#[32, 100, 111, 101, 115, 32, 110, 111, 116, 32, 99, 111, 109, 101]⟩)) w := fun w => run_string_add_sum w _ _ (by show A.size + 14 ≤ _; omega)
                clear ho hop HNUM HT
                go_wp2_with fail
                go_ret
                exact ⟨ret_str HF.out.symm, B5⟩
              · rw [ho] at f1 HT
                clear ho hop HNUM
                have ENDS : Hid ((q : Int) = s → textT bk bk.trips[j] nss[j] r s = nm ++ ⟨#[32, 101, 110, 100, 115, 32, 104, 101, 114, 101]⟩) := fun h => by rw [HT.out]; exact sayX_4e (decide_eq_true h)
                have E3 : ∀ w, (Op.stringOp .add nm ⟨#[32, 101, 110, 100, 115, 32, 104, 101, 114, 101]⟩).run Tryz.prog w = .ok (.string (nm ++ ⟨#[32, 101, 110, 100, 115, 32, 104, 101, 114, 101]⟩)) w := fun w => run_string_add_sum w _ _ (by show nm.size + 10 ≤ _; omega)
                by_cases hl : (k : Int) = (cl : Int) - 1
                · have bl : ((k : Int) == (cl : Int) - 1) = true := by simpa using hl
                  have HF : Hid (textT bk bk.trips[j] nss[j] r s = nm ++ ⟨#[32, 101, 110, 100, 115, 32, 104, 101, 114, 101]⟩) := ENDS.out (HLS.out hl)
                  clear hl HT
                  go_wp2_with fail
                  go_ret
                  exact ⟨ret_str HF.out.symm, B5⟩
                · have bl : ((k : Int) == (cl : Int) - 1) = false := by simpa using hl
                  by_cases hqs : (q : Int) = s
                  · have bq : ((q : Int) == s) = true := by simpa using hqs
                    have HF : Hid (textT bk bk.trips[j] nss[j] r s = nm ++ ⟨#[32, 101, 110, 100, 115, 32, 104, 101, 114, 101]⟩) := ENDS.out hqs
                    clear hl hqs HT
                    go_wp2_with fail
                    go_ret
                    exact ⟨ret_str HF.out.symm, B5⟩
                  · have bq : ((q : Int) == s) = false := by simpa using hqs
                    obtain ⟨m, hm⟩ := Int.eq_ofNat_of_zero_le (show 0 ≤ x.track by have := HTK2.out; omega)
                    have hm6 : m ≤ 1000000000000 := by have := HTK2.out; omega
                    have HF : Hid (textT bk bk.trips[j] nss[j] r s = A ++ ⟨#[32, 105, 115, 32, 104, 101, 114, 101, 32, 111, 110, 32, 116, 114, 97, 99, 107, 32]⟩ ++ ⟨(decL m).toArray⟩) := by unfold Hid; rw [HT.out, sayX_4n (by simpa using hqs), HAE.out, hm]; rfl
                    have hDs : (⟨(decL m).toArray⟩ : ByteArray).size ≤ 20 := by have := decL_len m; simpa [ByteArray.size] using this
                    have E5 : ∀ w, (Op.stringOp .add A ⟨#[32, 105, 115, 32, 104, 101, 114, 101, 32, 111, 110, 32, 116, 114, 97, 99, 107, 32]⟩).run Tryz.prog w = .ok (.string (A ++ ⟨#[32, 105, 115, 32, 104, 101, 114, 101, 32, 111, 110, 32, 116, 114, 97, 99, 107, 32]⟩)) w := fun w => run_string_add_sum w _ _ (by show A.size + 18 ≤ _; omega)
                    have E4 : ∀ w, (Op.stringOp .add (A ++ ⟨#[32, 105, 115, 32, 104, 101, 114, 101, 32, 111, 110, 32, 116, 114, 97, 99, 107, 32]⟩) ⟨(decL m).toArray⟩).run Tryz.prog w = .ok (.string (A ++ ⟨#[32, 105, 115, 32, 104, 101, 114, 101, 32, 111, 110, 32, 116, 114, 97, 99, 107, 32]⟩ ++ ⟨(decL m).toArray⟩)) w := fun w => run_string_add_sum w _ _ (by rw [ByteArray.size_append]; show A.size + 18 + (⟨(decL m).toArray⟩ : ByteArray).size ≤ _; omega)
                    rw [hm] at t1
                    clear hl hqs HT hm HTK2
                    go_wp2_with fail
                    refine (l3decimal_any m _ hm6).mono ?_
                    rintro e5 w6 ⟨rfl, hb6⟩
                    have B6 : Below w.heap.size w w6 := B5.trans (hb6.mono B5.size)
                    go_wp2_with fail
                    go_ret
                    exact ⟨ret_str HF.out.symm, B6⟩
              · rw [ho] at f1 HT
                have HF : Hid (textT bk bk.trips[j] nss[j] r s = A ++ ⟨#[32, 103, 111, 101, 115]⟩) := by unfold Hid; rw [HT.out, sayX_5, HAE.out]
                have E3 : ∀ w, (Op.stringOp .add A ⟨#[32, 103, 111, 101, 115]⟩).run Tryz.prog w = .ok (.string (A ++ ⟨#[32, 103, 111, 101, 115]⟩)) w := fun w => run_string_add_sum w _ _ (by show A.size + 5 ≤ _; omega)
                clear ho hop HNUM HT
                go_wp2_with fail
                go_ret
                exact ⟨ret_str HF.out.symm, B5⟩

end Go.Proofs.YtjioingdpfgadaaGreatDoor
