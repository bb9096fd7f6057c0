import Derived.Test.YtjioingdpfgadaaGreatDoorSpecOM
import Derived.Test.YtjioingdpfgadaaGreatDoorDrwLM
import Derived.Test.YtjioingdpfgadaaGreatDoorBoardCM
import Derived.Test.YtjioingdpfgadaaGreatDoorSayBM
import Derived.Test.YtjioingdpfgadaaGreatDoorLaidSM
import Derived.Test.YtjioingdpfgadaaGreatDoorSayLM
import Derived.Test.YtjioingdpfgadaaGreatDoorSayIM
import Derived.Test.YtjioingdpfgadaaGreatDoorBoardHM
import Derived.Test.YtjioingdpfgadaaGreatDoorBrdJM
namespace Go.Proofs.YtjioingdpfgadaaGreatDoor
open Go Go.RowKit Go.Deep

/-- Reports by each and their order. -/
theorem reportsB_iff {bk : BookD} {rs : List RepD} : reportsB bk rs = true ↔ (faultD bk).1 = 0 ∧ rs.length ≤ 500 ∧ (∀ r ∈ rs, reportB bk r = true) ∧ rs.Pairwise (fun a b => a.tick ≤ b.tick) := by
  constructor
  · intro h
    obtain ⟨h1, h2, h3⟩ := reportsB_inv h
    refine ⟨h1, h2, fun r hr => ?_, ?_⟩
    · obtain ⟨i, hi, rfl⟩ := List.getElem_of_mem hr
      exact (h3 i hi).1
    · rw [List.pairwise_iff_getElem]
      intro i j hi hj hij
      have hstep : ∀ d (hd : i + d < rs.length), rs[i].tick ≤ rs[i + d].tick := by
        intro d
        induction d with
        | zero => intro _; exact Int.le_refl _
        | succ d ih =>
          intro hd
          have a1 := ih (by omega)
          have a2 := (h3 (i + d + 1) (by omega)).2
          rw [prevTick_succ rs (i + d) (by omega)] at a2
          have : i + (d + 1) = i + d + 1 := by omega
          simp only [this]
          omega
      have := hstep (j - i) (by omega)
      have e : i + (j - i) = j := by omega
      simp only [e] at this
      exact this
  · rintro ⟨h1, h2, h3, h4⟩
    rw [reportsB_all (fun k hk => ?_), h1, decide_eq_true h2]
    · rfl
    · rw [repAtB_at bk rs k hk, h3 _ (List.getElem_mem hk)]
      have : prevTick rs k ≤ rs[k].tick := by
        cases k with
        | zero => simp only [prevTick]; exact (reportB_head (h3 _ (List.getElem_mem hk))).2.1.1
        | succ j =>
          rw [prevTick_succ rs j (by omega)]
          rw [List.pairwise_iff_getElem] at h4
          exact h4 j (j + 1) (by omega) hk (by omega)
      rw [decide_eq_true this]; rfl
/-- What was told up to t. -/
def pastOf (t : Int) (rs : List RepD) : List RepD := rs.filter (fun r => decide (r.tick ≤ t))
theorem past_reports {bk : BookD} {rs : List RepD} (h : reportsB bk rs = true) (t : Int) : reportsB bk (pastOf t rs) = true := by
  obtain ⟨h1, h2, h3, h4⟩ := reportsB_iff.1 h
  refine reportsB_iff.2 ⟨h1, Nat.le_trans (List.length_filter_le _ _) h2, fun r hr => h3 r ((List.mem_filter.1 hr).1), h4.filter _⟩
theorem newsTo_past (bk : BookD) (t : Int) (rs : List RepD) : newsTo bk t (pastOf t rs) = newsTo bk t rs := by
  unfold newsTo pastOf
  rw [List.foldl_filter]
  congr 1
  funext nss r
  by_cases h : r.tick ≤ t
  · simp [h]
  · simp only [h, decide_false, Bool.false_eq_true, if_false]
    exact (stepNews_no t nss r (fun e => h e.1)).symm
theorem newsTo_late (bk : BookD) (t M : Int) (htM : t ≤ M) (rs : List RepD) : newsTo bk M (pastOf t rs) = newsTo bk t rs := by
  rw [← newsTo_past bk t rs]
  unfold newsTo
  have hall : ∀ r ∈ pastOf t rs, r.tick ≤ t := fun r hr => by simpa using (List.mem_filter.1 hr).2
  generalize pastOf t rs = l at *
  generalize startNews bk = s
  induction l generalizing s with
  | nil => rfl
  | cons r l ih =>
    simp only [List.foldl_cons]
    have h1 := hall r (by simp)
    have e : stepNews M s r = stepNews t s r := by
      unfold stepNews
      have : (r.tick ≤ M ∧ countsN s r = true) ↔ (r.tick ≤ t ∧ countsN s r = true) := by constructor <;> (rintro ⟨_, h⟩; exact ⟨by omega, h⟩)
      simp only [this]
    rw [e]
    exact ih (fun x hx => hall x (by simp [hx])) _
theorem board_past {bk : BookD} {rs : List RepD} (h : reportsB bk rs = true) (s t n : Int) : boardD bk (pastOf t rs) s t n = boardD bk rs s t n := by
  unfold boardD
  rw [past_reports h t, h, newsTo_past]
theorem known_past {bk : BookD} {rs : List RepD} (h : reportsB bk rs = true) (t : Int) : knownD bk (pastOf t rs) t = knownD bk rs t := by
  unfold knownD
  rw [past_reports h t, h, newsTo_past]
theorem known_late {bk : BookD} {rs : List RepD} (h : reportsB bk rs = true) (t M : Int) (htM : t ≤ M) : knownD bk (pastOf t rs) M = knownD bk rs t := by
  unfold knownD
  rw [past_reports h t, h, newsTo_late bk t M htM]
/-- With ticks in order the past is the first of the reports. -/
theorem past_take (t : Int) : ∀ (rs : List RepD), rs.Pairwise (fun a b => a.tick ≤ b.tick) → ∃ p, p ≤ rs.length ∧ pastOf t rs = rs.take p ∧ ∀ k (h : k < rs.length), p ≤ k → t < rs[k].tick := by
  intro rs
  induction rs with
  | nil => intro _; exact ⟨0, by simp, rfl, fun k h => by simp at h⟩
  | cons r l ih =>
    intro hp
    rw [List.pairwise_cons] at hp
    by_cases h : r.tick ≤ t
    · obtain ⟨p, h1, h2, h3⟩ := ih hp.2
      refine ⟨p + 1, by simp; omega, ?_, fun k hk hpk => ?_⟩
      · have e : pastOf t (r :: l) = r :: pastOf t l := by simp [pastOf, h]
        rw [e, h2]; simp
      · cases k with
        | zero => omega
        | succ k => exact h3 k (by simpa using hk) (by omega)
    · refine ⟨0, by simp, ?_, fun k hk _ => ?_⟩
      · have : ∀ x ∈ r :: l, ¬ x.tick ≤ t := fun x hx => by
          rcases List.mem_cons.1 hx with rfl | hx
          · exact h
          · have := hp.1 x hx; omega
        simp only [List.take_zero]
        exact List.filter_eq_nil_iff.2 (fun x hx => by simpa using this x hx)
      · cases k with
        | zero => simp; omega
        | succ k =>
          have hk' : k < l.length := by simpa using hk
          have := hp.1 l[k] (List.getElem_mem hk')
          simp; omega
theorem said_past {bk : BookD} {rs : List RepD} (s frm t : Int) (p : Nat) (hp : p ≤ rs.length) (hpast : ∀ k (h : k < rs.length), p ≤ k → t < rs[k].tick) : saidTo bk (rs.take p) s frm t (rs.take p).length = saidTo bk rs s frm t rs.length := by
  have hl : (rs.take p).length = p := by rw [List.length_take]; omega
  have h1 : ∀ k, k ≤ p → saidTo bk (rs.take p) s frm t k = saidTo bk rs s frm t k := by
    intro k
    induction k with
    | zero => intro _; rfl
    | succ k ih =>
      intro hk
      simp only [saidTo]
      rw [ih (by omega), saidAt_at _ _ _ _ _ _ (by omega : k < (rs.take p).length), saidAt_at _ _ _ _ _ _ (by omega : k < rs.length)]
      have e1 : (rs.take p).take k = rs.take k := by rw [List.take_take]; congr 1; omega
      have e2 : (rs.take p)[k]'(by omega) = rs[k]'(by omega) := List.getElem_take
      rw [e1, e2]
  have h2 : ∀ k, p ≤ k → k ≤ rs.length → saidTo bk rs s frm t k = saidTo bk rs s frm t p := by
    intro k
    induction k with
    | zero => intro h _; have : p = 0 := by omega
              rw [this]
    | succ k ih =>
      intro h1 h2
      by_cases e : p = k + 1
      · rw [e]
      · simp only [saidTo]
        rw [ih (by omega) (by omega), saidAt_at _ _ _ _ _ _ (by omega : k < rs.length), if_neg]
        · simp
        · rintro ⟨_, _, _, h4⟩
          have := hpast k (by omega) (by omega)
          omega
  rw [hl, h1 p (Nat.le_refl _), h2 rs.length hp (Nat.le_refl _)]
theorem say_past {bk : BookD} {rs : List RepD} (h : reportsB bk rs = true) (s frm t : Int) : sayD bk (pastOf t rs) s frm t = sayD bk rs s frm t := by
  obtain ⟨_, _, _, h4⟩ := reportsB_iff.1 h
  obtain ⟨p, hp, e, hlate⟩ := past_take t rs h4
  by_cases hs : 0 ≤ s ∧ s < bk.sts.length
  · rw [sayD_yes ⟨past_reports h t, hs⟩, sayD_yes ⟨h, hs⟩, e]
    exact said_past s frm t p hp hlate
  · rw [sayD_no (fun g => hs g.2), sayD_no (fun g => hs g.2)]

end Go.Proofs.YtjioingdpfgadaaGreatDoor
namespace Go.Proofs.YtjioingdpfgadaaGreatDoor
open Go Go.RowKit Go.Deep

theorem past_snoc (t : Int) (l : List RepD) (r : RepD) : pastOf t (l ++ [r]) = pastOf t l ++ (if r.tick ≤ t then [r] else []) := by
  unfold pastOf
  rw [List.filter_append]
  by_cases h : r.tick ≤ t <;> simp [h]

set_option maxRecDepth 100000 in
set_option maxHeartbeats 3000000 in
theorem lawPast_any (ca ma : Option Addr) (bs ms : List Int) (cc mc : Nat) (w : World) (hcode : BytesAt w ca bs) (hlow : ∀ b o, ca = some ⟨b, o, none⟩ → b < w.heap.size) (hmore : BytesAt w ma ms) (hev : ErrVars w) (htab : TabW w) :
    Calls Tryz.prog 5 #[.slice ca bs.length cc, .slice ma ms.length mc] w fun e w' => e = .returned (.bool true) ∧ Below w.heap.size w w' := by
  by_cases h1 : 1048576 < bs.length
  · have h1i : (1048576 : Int) < (bs.length : Int) := by omega
    go_enter Tryz.func5, Tryz.ntmps5
    go_wp2_with fail
    go_ret
    exact ⟨rfl, Below.refl _ _⟩
  by_cases h2 : 1048576 < ms.length
  · have h1i : ¬ (1048576 : Int) < (bs.length : Int) := by omega
    have h2i : (1048576 : Int) < (ms.length : Int) := by omega
    go_enter Tryz.func5, Tryz.ntmps5
    go_wp2_with fail
    go_ret
    exact ⟨rfl, Below.refl _ _⟩
  have h1i : ¬ (1048576 : Int) < (bs.length : Int) := by omega
  have h2i : ¬ (1048576 : Int) < (ms.length : Int) := by omega
  have HDR := drawn_any ca bs cc w hcode hlow
  have HEV : Hid (ErrVars w) := hev
  have HMO : Hid (BytesAt w ma ms) := hmore
  have HTB : Hid (TabW w) := htab
  have HD : Hid (BookDrawn (drawnF bs).1) := drawnF_book bs
  have HR : Hid (reportsB (drawnF bs).1 (drawnF bs).2 = true ∧ (drawnF bs).2.length ≤ 20) := drawnF_reports bs
  clear hcode hlow hmore hev htab
  go_enter Tryz.func5, Tryz.ntmps5
  go_wp2_with fail
  refine HDR.mono ?_
  rintro e w1 ⟨v, rv, rfl, hbk, hrs, hb1⟩
  obtain ⟨sa, sc, ta, tc, ra, rc, rfl, rfl, hsc⟩ := scene_of hbk hrs hb1 HEV.out HMO.out
  generalize (drawnF bs).1 = bk at *
  generalize (drawnF bs).2 = rs at *
  have hn6 := HD.out.sts6
  have hn2 := HD.out.sts2
  have HSML : Hid (bookSize bk ≤ 1048576) := by have := HD.out.small; unfold Hid; omega
  have HRL : Hid (rs.length ≤ 1048576) := by have := HR.out.2; unfold Hid; omega
  have HWF : Hid (∀ t ∈ bk.trips, ∀ i (h : i < t.calls.length), (Lit.int .i64 t.calls[i].st).wf = true) := HD.out.wf
  have HTB1 : Hid (TabW (w1.alloc (.cells #[.slice sa bk.sts.length sc, .slice ta bk.trips.length tc] 26))) := tabW_keep _ _ (hsc.since) HTB.out
  go_wp2_with fail
  obtain ⟨X, hX⟩ : ∃ X, w1.heap.size = X := ⟨_, rfl⟩
  obtain ⟨w2, hw2⟩ : ∃ w2, w1.alloc (.cells #[.slice sa bk.sts.length sc, .slice ta bk.trips.length tc] 26) = w2 := ⟨_, rfl⟩
  rw [hw2, hX] at hsc
  rw [hw2] at HTB1
  rw [hw2, hX]
  have HS2 : Hid (Scene w w2 X sa ta ra ma sc tc bk rs ms) := hsc
  obtain ⟨⟨c0, c1⟩, _⟩ := two_cells hsc.box
  clear hsc hbk hrs hb1 hw2 hX HDR
  have hnz : ¬ (bk.sts.length : Int) = 0 := by omega
  have hnz2 : ¬ bk.sts.length = 0 := by omega
  have hnz3 : ¬ bk.sts = [] := fun e => by rw [e] at hnz2; simp at hnz2
  have hnz4 : ((bk.sts.length : Int) == 0) = false := beq_eq_false_iff_ne.2 hnz
  refine (wByte_any ma ms mc 0 _ (by omega) (by omega) HS2.out.more).mono ?_
  rintro e w2' ⟨m, hm, rfl, rfl⟩
  go_wp2_with fail
  go_region_held3 (fun w' => w'.cell? ⟨X, 0, none⟩ = some (.slice sa bk.sts.length sc))
    (go_keep)
    (first | (go_at_call 7; refine (wByte_any ma ms mc 1 _ (by omega) (by omega) (by exact HS2.out.more.keep (Below.refl _ _).drew)).mono ?_; rintro e w3 ⟨r3, hr3, rfl, rfl⟩; obtain ⟨s, hs⟩ : ∃ s : Nat, r3 % bk.sts.length = s := ⟨_, rfl⟩; have hsi : (r3 : Int).tmod (bk.sts.length : Int) = (s : Int) := (by rw [Int.tmod_eq_emod_of_nonneg (by omega), ← hs]; simp); have hsl : s < bk.sts.length := (by rw [← hs]; exact Nat.mod_lt _ (by omega)); clear hs))
  clear hsi hr3
  have HS3 : Hid (Scene w w2'.drew X sa ta ra ma sc tc bk rs ms) := HS2.out.keep (Below.refl _ _).drew
  have HTB3 : Hid (TabW w2'.drew) := tabW_keep _ _ (Below.refl _ _).drew HTB1.out
  obtain ⟨w4', hw4⟩ : ∃ w4', w2'.drew = w4' := ⟨_, rfl⟩
  rw [hw4] at HS3 HTB3 ⊢
  clear hw4 c0 c1
  obtain ⟨⟨c0, c1⟩, _⟩ := two_cells HS3.out.box
  have hrl20 : rs.length ≤ 20 := HR.out.2
  obtain ⟨ii, hi0, he0⟩ := Option.map_eq_some_iff.1 infoRep
  simp only [Prod.mk.injEq] at he0
  have HI : Hid (ii.zero = some (.agg #[.int .i64 0, .int .i64 0, .int .i64 0, .int .i64 0, .int .i64 0]) ∧ ii.size = 5 ∧ ii.bytes = 40) := he0
  have HJ : Hid (Tryz.prog.info? 45 = some ii) := hi0
  clear hi0 he0
  go_wp2_with fail
  go_loopw [9, 35] (fun tv i wr => ∃ k : Nat, k ≤ rs.length ∧ i = .int .i64 k ∧ Hid (wr.ownsRow w4'.heap.size 45 5 tv (pastOf m (rs.take k)).length (fives (pastOf m (rs.take k)))) ∧ Hid (Below w4'.heap.size w4' wr)) (fun _ i _ => rs.length - (intOf i).toNat)
  case atStart => exact ⟨0, Nat.zero_le _, rfl, World.ownsRow_nil _ _ _ _, Below.refl _ _⟩
  case round =>
    obtain ⟨k, hk, rfl, hO, hB⟩ := hrel
    by_cases hlt : k < rs.length
    · obtain ⟨b, o, rfl, d0, d1, d2, d3, d4⟩ := (HS3.out.reps.keep hB.out) k hlt
      have HT : Hid (pastOf m (rs.take (k + 1)) = pastOf m (rs.take k) ++ (if rs[k].tick ≤ (m : Int) then [rs[k]] else [])) := by
        unfold Hid; rw [take_snoc rs k hlt, past_snoc]
      have hpl : (pastOf m (rs.take k)).length ≤ 20 := Nat.le_trans (List.length_filter_le _ _) (by rw [List.length_take]; omega)
      have hzr := hB.out.size
      generalize rs[k] = r at *
      by_cases htk : r.tick ≤ (m : Int)
      · rw [if_pos htk] at HT
        generalize pastOf m (rs.take k) = P at *
        go_wp2_with (first
          | (at_builtin; refine wpList_append_lies _ rfl _ _ 27 rfl w4'.heap.size 45 ii (.agg #[.int .i64 0, .int .i64 0, .int .i64 0, .int .i64 0, .int .i64 0]) 5 40 Go.Proofs.YtjioingdpfgadaaGreatDoor.uReps HJ.out HI.out.1 HI.out.2.1 HI.out.2.2 rfl (by decide) _ _ _ rfl ((hO.out.alloc _).alloc _) ⟨wr.heap.size + 1, 0, none⟩ 1 1 (fiveOf r) rfl rfl ?c1 (five_one r) (by decide) (by unfold maxLen; omega) (by omega) (by simp; omega) (wr.heap.size + 1 + 1) (by simp) ?_)
          | fail)
        case c1 =>
          have := World.news_of_block (heap_alloc_new (wr.alloc (.cells #[.int .i64 r.tick, .int .i64 r.op, .int .i64 r.trip, .int .i64 r.call, .int .i64 r.n] 45)) (.cells #[.int .i64 r.tick, .int .i64 r.op, .int .i64 r.trip, .int .i64 r.call, .int .i64 r.n] 45))
          rw [show (wr.alloc (.cells #[.int .i64 r.tick, .int .i64 r.op, .int .i64 r.trip, .int .i64 r.call, .int .i64 r.n] 45)).heap.size = wr.heap.size + 1 by simp] at this
          exact fun j u hu => this j u hu
        intro g5 cap5 w5 hown5 hgrow hat5 hlt5
        have HO5 : Hid (w5.ownsRow w4'.heap.size 45 5 (.slice (some ⟨g5, 0, none⟩) (P.length + 1) cap5) (pastOf m (rs.take (k + 1))).length (fives (pastOf m (rs.take (k + 1))))) := by
          unfold Hid; rw [HT.out, List.length_append, fives_snoc]; exact hown5
        have HB5 : Hid (Below w4'.heap.size w4' w5) := Below.grown ((hB.out.alloc hzr _).alloc (by simp; omega) _) hgrow (by simp; omega) (fun g hg => (hO.out.lt g hg).1)
        clear hown5 hgrow hat5 hlt5 hO hB
        go_wp2_with fail
        go_roundw
        case rel => exact ⟨k + 1, by omega, by go_num, HO5, HB5⟩
        case measure => simp [intOf]; omega
      · rw [if_neg htk, List.append_nil] at HT
        have HO5 : Hid ((wr.alloc (.cells #[.int .i64 r.tick, .int .i64 r.op, .int .i64 r.trip, .int .i64 r.call, .int .i64 r.n] 45)).ownsRow w4'.heap.size 45 5 u9 (pastOf m (rs.take (k + 1))).length (fives (pastOf m (rs.take (k + 1))))) := by
          unfold Hid; rw [HT.out]; exact hO.out.alloc _
        have HB5 : Hid (Below w4'.heap.size w4' (wr.alloc (.cells #[.int .i64 r.tick, .int .i64 r.op, .int .i64 r.trip, .int .i64 r.call, .int .i64 r.n] 45))) := hB.out.alloc hzr _
        clear hO hB
        go_wp2_with fail
        go_roundw
        case rel => exact ⟨k + 1, by omega, by go_num, HO5, HB5⟩
        case measure => simp [intOf]; omega
    · have hkl : k = rs.length := by omega
      subst hkl
      rw [List.take_length] at hO
      obtain ⟨ta', tc', rfl, htw⟩ := reps_at hO.out
      have HTW : Hid (RepsAt wr ta' (pastOf m rs)) := htw
      have HTL : Hid ((pastOf m rs).length ≤ 1048576) := Nat.le_trans (List.length_filter_le _ _) (by omega)
      have d0 := cell_keep hB.out c0
      have d1 := cell_keep hB.out c1
      obtain ⟨N, hN⟩ : ∃ N, knownD bk rs m = N := ⟨_, rfl⟩
      obtain ⟨R, hR⟩ : ∃ R, boardD bk rs s m 9 = R := ⟨_, rfl⟩
      obtain ⟨L, hL⟩ : ∃ L, sayD bk rs s 0 m = L := ⟨_, rfl⟩
      have HNS : Hid (newsSize N ≤ 1048576) := by
        unfold Hid; rw [← hN]; unfold knownD; rw [HR.out.1]; exact newsSize_small HD.out (shape_to bk m rs)
      have HLS : Hid (L.length ≤ 1048576) := by unfold Hid; rw [← hL]; exact Nat.le_trans (sayD_length bk rs s 0 m) (by omega)
      have HRS : Hid (R.length ≤ 1048576) := by
        unfold Hid; rw [← hR]; unfold boardD
        split
        · exact Nat.le_trans (pick_length _ _) (by decide)
        · simp
      have hw0 : (Lit.int .i64 (s : Int)).wf = true := wf_small (by omega) (by omega)
      have HSC : Hid (∀ w', Below wr.heap.size wr w' → Scene w w' X sa ta ra ma sc tc bk rs ms ∧ TabW w') := fun w' hb => ⟨(HS3.out.keep hB.out).keep hb, tabW_keep _ _ hb (tabW_keep _ _ hB.out HTB3.out)⟩
      have HK1 : Hid (∀ w', Below wr.heap.size wr w' → Calls Tryz.prog 9 #[.agg #[.slice sa bk.sts.length sc, .slice ta bk.trips.length tc], .slice ra rs.length rc, .int .i64 m] w' fun e w'' => ∃ v', e = .returned v' ∧ NewsOwn w'.heap.size w'' v' N ∧ Below w'.heap.size w' w'') := fun w' hb => by
        have := implKnown_any (.agg #[.slice sa bk.sts.length sc, .slice ta bk.trips.length tc]) bk ra rc rs m w' HSML.out HRL.out HWF.out (HSC.out w' hb).1.book (HSC.out w' hb).1.reps (HSC.out w' hb).1.errs
        rwa [hN] at this
      have HK2 : Hid (∀ w', Below wr.heap.size wr w' → Calls Tryz.prog 9 #[.agg #[.slice sa bk.sts.length sc, .slice ta bk.trips.length tc], .slice ta' (pastOf m rs).length tc', .int .i64 m] w' fun e w'' => ∃ v', e = .returned v' ∧ NewsOwn w'.heap.size w'' v' N ∧ Below w'.heap.size w' w'') := fun w' hb => by
        have := implKnown_any (.agg #[.slice sa bk.sts.length sc, .slice ta bk.trips.length tc]) bk ta' tc' (pastOf m rs) m w' HSML.out HTL.out HWF.out (HSC.out w' hb).1.book (HTW.out.keep hb) (HSC.out w' hb).1.errs
        rwa [known_past HR.out.1, hN] at this
      have HK3 : Hid (∀ w', Below wr.heap.size wr w' → Calls Tryz.prog 9 #[.agg #[.slice sa bk.sts.length sc, .slice ta bk.trips.length tc], .slice ta' (pastOf m rs).length tc', .int .i64 1000000] w' fun e w'' => ∃ v', e = .returned v' ∧ NewsOwn w'.heap.size w'' v' N ∧ Below w'.heap.size w' w'') := fun w' hb => by
        have := implKnown_any (.agg #[.slice sa bk.sts.length sc, .slice ta bk.trips.length tc]) bk ta' tc' (pastOf m rs) 1000000 w' HSML.out HTL.out HWF.out (HSC.out w' hb).1.book (HTW.out.keep hb) (HSC.out w' hb).1.errs
        rwa [known_late HR.out.1 m 1000000 (by omega), hN] at this
      have HKS : Hid (∀ w', Below wr.heap.size wr w' → Calls Tryz.prog 8 #[.agg #[.slice sa bk.sts.length sc, .slice ta bk.trips.length tc], .slice ra rs.length rc, .int .i64 m] w' fun e w'' => ∃ v', e = .returned v' ∧ NewsOwn w'.heap.size w'' v' N ∧ Below w'.heap.size w' w'') := fun w' hb => by
        have := specKnown_any (.agg #[.slice sa bk.sts.length sc, .slice ta bk.trips.length tc]) bk ra rc rs m w' HSML.out HRL.out (HSC.out w' hb).1.book (HSC.out w' hb).1.reps
        rwa [hN] at this
      have HB1 : Hid (∀ w', Below wr.heap.size wr w' → Calls Tryz.prog 10 #[.agg #[.slice sa bk.sts.length sc, .slice ta bk.trips.length tc], .slice ra rs.length rc, .int .i64 s, .int .i64 m, .int .i64 9] w' fun e w'' => ∃ v', e = .returned v' ∧ w''.ownsRow w'.heap.size 52 6 v' R.length (sixes R) ∧ Below w'.heap.size w' w'') := fun w' hb => by
        have := implBoard_any (.agg #[.slice sa bk.sts.length sc, .slice ta bk.trips.length tc]) bk ra rc rs s m 9 w' HSML.out HRL.out HWF.out hw0 (HSC.out w' hb).1.book (HSC.out w' hb).1.reps (HSC.out w' hb).1.errs
        rwa [hR] at this
      have HB2 : Hid (∀ w', Below wr.heap.size wr w' → Calls Tryz.prog 10 #[.agg #[.slice sa bk.sts.length sc, .slice ta bk.trips.length tc], .slice ta' (pastOf m rs).length tc', .int .i64 s, .int .i64 m, .int .i64 9] w' fun e w'' => ∃ v', e = .returned v' ∧ w''.ownsRow w'.heap.size 52 6 v' R.length (sixes R) ∧ Below w'.heap.size w' w'') := fun w' hb => by
        have := implBoard_any (.agg #[.slice sa bk.sts.length sc, .slice ta bk.trips.length tc]) bk ta' tc' (pastOf m rs) s m 9 w' HSML.out HTL.out HWF.out hw0 (HSC.out w' hb).1.book (HTW.out.keep hb) (HSC.out w' hb).1.errs
        rwa [board_past HR.out.1, hR] at this
      have HY1 : Hid (∀ w', Below wr.heap.size wr w' → Calls Tryz.prog 17 #[.agg #[.slice sa bk.sts.length sc, .slice ta bk.trips.length tc], .slice ra rs.length rc, .int .i64 s, .int .i64 0, .int .i64 m] w' fun e w'' => ∃ v', e = .returned v' ∧ SaidsOwn w'.heap.size w'' v' L ∧ Below w'.heap.size w' w'') := fun w' hb => by
        have := implSay_any itoa_ok (.agg #[.slice sa bk.sts.length sc, .slice ta bk.trips.length tc]) bk ra rc rs s 0 m w' HSML.out HRL.out HWF.out hw0 (HSC.out w' hb).1.book (HSC.out w' hb).1.reps (HSC.out w' hb).1.errs (HSC.out w' hb).2
        rwa [hL] at this
      have HY2 : Hid (∀ w', Below wr.heap.size wr w' → Calls Tryz.prog 17 #[.agg #[.slice sa bk.sts.length sc, .slice ta bk.trips.length tc], .slice ta' (pastOf m rs).length tc', .int .i64 s, .int .i64 0, .int .i64 m] w' fun e w'' => ∃ v', e = .returned v' ∧ SaidsOwn w'.heap.size w'' v' L ∧ Below w'.heap.size w' w'') := fun w' hb => by
        have := implSay_any itoa_ok (.agg #[.slice sa bk.sts.length sc, .slice ta bk.trips.length tc]) bk ta' tc' (pastOf m rs) s 0 m w' HSML.out HTL.out HWF.out hw0 (HSC.out w' hb).1.book (HTW.out.keep hb) (HSC.out w' hb).1.errs (HSC.out w' hb).2
        rwa [say_past HR.out.1, hL] at this
      have HBW : Hid (Below w.heap.size w wr) := HS3.out.since.trans (hB.out.mono HS3.out.since.size)
      clear hO htw hN hL hR hw0 c0 c1 hB
      go_wp2_with fail
      go_region_held3 (fun w' => w'.cell? ⟨X, 0, none⟩ = some (.slice sa bk.sts.length sc) ∧ w'.cell? ⟨X, 1, none⟩ = some (.slice ta bk.trips.length tc))
        (go_keep)
        (first
          | (go_at_call 11; refine (wNews_same a10 a11 N c10 c11 _ HNS.out H10' H11).mono ?_; rintro e w12 ⟨rfl, hb12⟩; have B12 : Below wr.heap.size wr w12 := B11.trans (hb12.mono B11.size); have x0_12 := cell_keep B12 d0; have x1_12 := cell_keep B12 d1)
          | (go_at_call 8; refine (HKS.out _ B10).mono ?_; rintro e w11 ⟨v11, rfl, ⟨vs11, ho11⟩, hb11⟩; obtain ⟨a11, c11, rfl, H11⟩ := ho11.at; have B11 : Below wr.heap.size wr w11 := B10.trans (hb11.mono B10.size); have H10' := H10.keep hb11; have x0_11 := cell_keep B11 d0; have x1_11 := cell_keep B11 d1)
          | (go_at_call 9; refine (HK3.out _ B9).mono ?_; rintro e w10 ⟨v10, rfl, ⟨vs10, ho10⟩, hb10⟩; obtain ⟨a10, c10, rfl, H10⟩ := ho10.at; have B10 : Below wr.heap.size wr w10 := B9.trans (hb10.mono B9.size); have x0_10 := cell_keep B10 d0; have x1_10 := cell_keep B10 d1)
          | (go_at_call 16; refine (wSaid_same a7 a8 L c7 c8 _ HLS.out H7' H8).mono ?_; rintro e w9 ⟨rfl, hb9⟩; have B9 : Below wr.heap.size wr w9 := B8.trans (hb9.mono B8.size); have x0_9 := cell_keep B9 d0; have x1_9 := cell_keep B9 d1)
          | (go_at_call 17; refine (HY2.out _ B7).mono ?_; rintro e w8 ⟨v8, rfl, ho8, hb8⟩; obtain ⟨a8, c8, rfl, H8⟩ := saids_at ho8; have B8 : Below wr.heap.size wr w8 := B7.trans (hb8.mono B7.size); have H7' := H7.keep hb8; have x0_8 := cell_keep B8 d0; have x1_8 := cell_keep B8 d1)
          | (go_at_call 17; refine (HY1.out _ B6).mono ?_; rintro e w7 ⟨v7, rfl, ho7, hb7⟩; obtain ⟨a7, c7, rfl, H7⟩ := saids_at ho7; have B7 : Below wr.heap.size wr w7 := B6.trans (hb7.mono B6.size); have x0_7 := cell_keep B7 d0; have x1_7 := cell_keep B7 d1)
          | (go_at_call 12; refine (wRows_same a4 a5 R c4 c5 _ HRS.out H4' H5).mono ?_; rintro e w6 ⟨rfl, hb6⟩; have B6 : Below wr.heap.size wr w6 := B5.trans (hb6.mono B5.size); have x0_6 := cell_keep B6 d0; have x1_6 := cell_keep B6 d1)
          | (go_at_call 10; refine (HB2.out _ B4).mono ?_; rintro e w5 ⟨v5, rfl, ho5, hb5⟩; obtain ⟨a5, c5, rfl, H5⟩ := rows_at ho5; have B5 : Below wr.heap.size wr w5 := B4.trans (hb5.mono B4.size); have H4' := H4.keep hb5; have x0_5 := cell_keep B5 d0; have x1_5 := cell_keep B5 d1)
          | (go_at_call 10; refine (HB1.out _ B3).mono ?_; rintro e w4 ⟨v4, rfl, ho4, hb4⟩; obtain ⟨a4, c4, rfl, H4⟩ := rows_at ho4; have B4 : Below wr.heap.size wr w4 := B3.trans (hb4.mono B3.size); have x0_4 := cell_keep B4 d0; have x1_4 := cell_keep B4 d1)
          | (go_at_call 11; refine (wNews_same a1 a2 N c1 c2 _ HNS.out H1' H2).mono ?_; rintro e w3 ⟨rfl, hb3⟩; have B3 : Below wr.heap.size wr w3 := B2.trans (hb3.mono B2.size); have x0_3 := cell_keep B3 d0; have x1_3 := cell_keep B3 d1)
          | (go_at_call 9; refine (HK2.out _ B1).mono ?_; rintro e w2 ⟨v2, rfl, ⟨vs2, ho2⟩, hb2⟩; obtain ⟨a2, c2, rfl, H2⟩ := ho2.at; have B2 : Below wr.heap.size wr w2 := B1.trans (hb2.mono B1.size); have H1' := H1.keep hb2; have x0_2 := cell_keep B2 d0; have x1_2 := cell_keep B2 d1)
          | (go_at_call 9; refine (HK1.out _ (Below.refl _ _).drew).mono ?_; rintro e w1 ⟨v1, rfl, ⟨vs1, ho1⟩, hb1⟩; obtain ⟨a1, c1, rfl, H1⟩ := ho1.at; have B1 : Below wr.heap.size wr w1 := (Below.refl _ _).drew.trans hb1; have x0_1 := cell_keep B1 d0; have x1_1 := cell_keep B1 d1))
      have HBF : Hid (Below w.heap.size w w12) := HBW.out.trans (B12.mono HBW.out.size)
      go_wp2_with fail
      go_ret
      exact ⟨rfl, HBF.out⟩

end Go.Proofs.YtjioingdpfgadaaGreatDoor
