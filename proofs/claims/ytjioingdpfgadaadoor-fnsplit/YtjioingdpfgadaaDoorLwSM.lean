import Derived.Test.YtjioingdpfgadaaDoorSayBM
import Derived.Test.YtjioingdpfgadaaDoorLaidSM
import Derived.Test.YtjioingdpfgadaaDoorSayLM
import Derived.Test.YtjioingdpfgadaaDoorSayIM
import Derived.Test.YtjioingdpfgadaaDoorProg
import Derived.Test.YtjioingdpfgadaaDoorHeapM
import Derived.ProofKit
import Derived.DataShut
import Derived.OpenShut
import Derived.Lib.SmallJoins
import Derived.Deep.Slices
import Derived.Test.YtjioingdpfgadaaDoorRows
import Derived.Test.YtjioingdpfgadaaDoorCards
import Derived.Test.YtjioingdpfgadaaDoorTie
import Derived.Test.YtjioingdpfgadaaDoorLaw1M
namespace Go.Proofs.YtjioingdpfgadaaDoor
open Go Go.RowKit Go.Deep

theorem ticks_sorted {bk : BookD} {rs : List RepD} (h : reportsB bk rs = true) : ∀ i k (hk : k < rs.length) (hi : i ≤ k), (rs[i]'(by omega)).tick ≤ rs[k].tick := by
  obtain ⟨_, _, hall⟩ := reportsB_inv h
  intro i k
  induction k with
  | zero => intro hk hi; have : i = 0 := by omega
            subst this; exact Int.le_refl _
  | succ k ih =>
    intro hk hi
    by_cases e : i = k + 1
    · subst e; exact Int.le_refl _
    · have h1 := ih (by omega) (by omega)
      have h2 := (hall (k + 1) hk).2
      rw [prevTick_succ rs k (by omega)] at h2
      omega
theorem said_split {bk : BookD} {rs : List RepD} (h : reportsB bk rs = true) (s : Int) (m : Nat) (hm : m ≤ 499) : ∀ k, k ≤ rs.length → saidTo bk rs s 0 500 k = saidTo bk rs s 0 m k ++ saidTo bk rs s (m + 1) 500 k := by
  obtain ⟨_, _, hall⟩ := reportsB_inv h
  intro k
  induction k with
  | zero => intro _; rfl
  | succ k ih =>
    intro hk
    have hk' : k < rs.length := by omega
    simp only [saidTo]
    rw [ih (by omega), saidAt_at _ _ _ _ _ _ hk', saidAt_at _ _ _ _ _ _ hk', saidAt_at _ _ _ _ _ _ hk']
    have h0 : 0 ≤ rs[k].tick := (reportB_head (hall k hk').1).2.1.1
    by_cases ht : rs[k].tick ≤ (m : Int)
    · have hno : saidTo bk rs s (m + 1) 500 k = [] := by
        have : ∀ j, j ≤ k → saidTo bk rs s (m + 1) 500 j = [] := by
          intro j
          induction j with
          | zero => intro _; rfl
          | succ j jh =>
            intro hj
            have hjl : j < rs.length := by omega
            simp only [saidTo]
            rw [jh (by omega), saidAt_at _ _ _ _ _ _ hjl, if_neg]
            · rfl
            · rintro ⟨_, _, h3, _⟩
              have := ticks_sorted h j k hk' (by omega)
              omega
        exact this k (Nat.le_refl _)
      rw [hno]
      have e : (0 ≤ rs[k].tick ∧ rs[k].tick ≤ 500) ↔ (0 ≤ rs[k].tick ∧ rs[k].tick ≤ (m : Int)) := by omega
      have e2 : ¬ ((m : Int) + 1 ≤ rs[k].tick ∧ rs[k].tick ≤ 500) := by omega
      simp [e, e2]
    · have e : (0 ≤ rs[k].tick ∧ rs[k].tick ≤ 500) ↔ ((m : Int) + 1 ≤ rs[k].tick ∧ rs[k].tick ≤ 500) := by omega
      have e2 : ¬ (0 ≤ rs[k].tick ∧ rs[k].tick ≤ (m : Int)) := by omega
      simp [e, e2]
theorem say_split {bk : BookD} {rs : List RepD} (h : reportsB bk rs = true) (s : Int) (hs : 0 ≤ s ∧ s < bk.sts.length) (m : Nat) (hm : m ≤ 499) : sayD bk rs s 0 500 = sayD bk rs s 0 m ++ sayD bk rs s (m + 1) 500 := by
  rw [sayD_yes ⟨h, hs⟩, sayD_yes ⟨h, hs⟩, sayD_yes ⟨h, hs⟩]
  exact said_split h s m hm rs.length (Nat.le_refl _)

theorem twos_one (l : List SaidD) : ∀ u ∈ twos l, u.oneCell' = true := by
  intro v hv
  obtain ⟨x, _, hx⟩ := List.mem_flatMap.1 hv
  simp only [twoOf, List.mem_cons, List.not_mem_nil, or_false] at hx
  rcases hx with rfl | rfl <;> rfl
theorem empty_own {w : World} {g B size : Nat} {e : TypeId} (h : w.heap[g]? = some (.cells #[] e (0, 0))) (hB : B ≤ g) : w.ownsRow B e size (.slice (some ⟨g, 0, none⟩) 0 0) 0 [] :=
  ⟨by simp, Or.inr ⟨g, 0, #[], rfl, hB, h, Nat.le_refl _, Nat.zero_le _, by simp, by simp⟩⟩

set_option maxRecDepth 100000 in
set_option maxHeartbeats 3000000 in
theorem lawSplit_any (ca ma : Option Addr) (bs ms : List Int) (cc mc : Nat) (w : World) (hcode : BytesAt w ca bs) (hlow : ∀ b o, ca = some ⟨b, o, none⟩ → b < w.heap.size) (hmore : BytesAt w ma ms) (hev : ErrVars w) (htab : TabW w) :
    Calls Tryd.prog 5 #[.slice ca bs.length cc, .slice ma ms.length mc] w fun e w' => e = .returned (.bool true) ∧ Below w.heap.size w w' := by
  by_cases h1 : 1048576 < bs.length
  · have h1i : (1048576 : Int) < (bs.length : Int) := by omega
    go_enter Tryd.func5, Tryd.ntmps5
    go_wp2_with fail
    go_ret
    exact ⟨rfl, Below.refl _ _⟩
  by_cases h2 : 1048576 < ms.length
  · have h1i : ¬ (1048576 : Int) < (bs.length : Int) := by omega
    have h2i : (1048576 : Int) < (ms.length : Int) := by omega
    go_enter Tryd.func5, Tryd.ntmps5
    go_wp2_with fail
    go_ret
    exact ⟨rfl, Below.refl _ _⟩
  have h1i : ¬ (1048576 : Int) < (bs.length : Int) := by omega
  have h2i : ¬ (1048576 : Int) < (ms.length : Int) := by omega
  have HDR := drawn_any ca bs cc w hcode hlow
  have HEV : Hid (ErrVars w) := hev
  have HMO : Hid (BytesAt w ma ms) := hmore
  have HTB : Hid (TabW w) := htab
  have HD : Hid (BookDrawn (drawnF bs).1) := drawnF_book bs
  have HR : Hid (reportsB (drawnF bs).1 (drawnF bs).2 = true ∧ (drawnF bs).2.length ≤ 20) := drawnF_reports bs
  clear hcode hlow hmore hev htab
  go_enter Tryd.func5, Tryd.ntmps5
  go_wp2_with fail
  refine HDR.mono ?_
  rintro e w1 ⟨v, rv, rfl, hbk, hrs, hb1⟩
  obtain ⟨sa, sc, ta, tc, ra, rc, rfl, rfl, hsc⟩ := scene_of hbk hrs hb1 HEV.out HMO.out
  generalize (drawnF bs).1 = bk at *
  generalize (drawnF bs).2 = rs at *
  have hn6 := HD.out.sts6
  have hn2 := HD.out.sts2
  have HSML : Hid (bookSize bk ≤ 1048576) := by have := HD.out.small; unfold Hid; omega
  have HRL : Hid (rs.length ≤ 1048576) := by have := HR.out.2; unfold Hid; omega
  have HWF : Hid (∀ t ∈ bk.trips, ∀ i (h : i < t.calls.length), (Lit.int .i64 t.calls[i].st).wf = true) := HD.out.wf
  have HTB1 : Hid (TabW (w1.alloc (.cells #[.slice sa bk.sts.length sc, .slice ta bk.trips.length tc] 26))) := tabW_keep _ _ (hsc.since) HTB.out
  go_wp2_with fail
  obtain ⟨X, hX⟩ : ∃ X, w1.heap.size = X := ⟨_, rfl⟩
  obtain ⟨w2, hw2⟩ : ∃ w2, w1.alloc (.cells #[.slice sa bk.sts.length sc, .slice ta bk.trips.length tc] 26) = w2 := ⟨_, rfl⟩
  rw [hw2, hX] at hsc
  rw [hw2] at HTB1
  rw [hw2, hX]
  have HS2 : Hid (Scene w w2 X sa ta ra ma sc tc bk rs ms) := hsc
  obtain ⟨⟨c0, c1⟩, _⟩ := two_cells hsc.box
  clear hsc hbk hrs hb1 hw2 hX HDR
  have hnz : ¬ (bk.sts.length : Int) = 0 := by omega
  have hnz2 : ¬ bk.sts.length = 0 := by omega
  have hnz3 : ¬ bk.sts = [] := fun e => by rw [e] at hnz2; simp at hnz2
  have hnz4 : ((bk.sts.length : Int) == 0) = false := beq_eq_false_iff_ne.2 hnz
  go_region_held3 (fun w' => w'.cell? ⟨X, 0, none⟩ = some (.slice sa bk.sts.length sc))
    (go_keep)
    (first | (go_at_call 13; refine (wByte_any ma ms mc 0 _ (by omega) (by omega) (by exact HS2.out.more.keep (Below.refl _ _).drew)).mono ?_; rintro e w3 ⟨r3, hr3, rfl, rfl⟩; obtain ⟨s, hs⟩ : ∃ s : Nat, r3 % bk.sts.length = s := ⟨_, rfl⟩; have hsi : (r3 : Int).tmod (bk.sts.length : Int) = (s : Int) := (by rw [Int.tmod_eq_emod_of_nonneg (by omega), ← hs]; simp); have hsl : s < bk.sts.length := (by rw [← hs]; exact Nat.mod_lt _ (by omega)); clear hs))
  clear hsi hr3
  have HS3 : Hid (Scene w w2.drew X sa ta ra ma sc tc bk rs ms) := HS2.out.keep (Below.refl _ _).drew
  have HTB3 : Hid (TabW w2.drew) := tabW_keep _ _ (Below.refl _ _).drew HTB1.out
  obtain ⟨w4, hw4⟩ : ∃ w4, w2.drew = w4 := ⟨_, rfl⟩
  rw [hw4] at HS3 HTB3 ⊢
  clear hw4 c0 c1
  obtain ⟨⟨c0, c1⟩, _⟩ := two_cells HS3.out.box
  go_wp2_with fail
  refine (wByte_any ma ms mc 1 _ (by omega) (by omega) HS3.out.more).mono ?_
  rintro e w4' ⟨m, hm, rfl, rfl⟩
  have HSAY : Hid (∀ w', Below w4'.heap.size w4' w' → ∀ frm till : Int, Calls Tryd.prog 22 #[.agg #[.slice sa bk.sts.length sc, .slice ta bk.trips.length tc], .slice ra rs.length rc, .int .i64 s, .int .i64 frm, .int .i64 till] w' fun e w'' => ∃ v', e = .returned v' ∧ SaidsOwn w'.heap.size w'' v' (sayD bk rs s frm till) ∧ Below w'.heap.size w' w'') := fun w' hb frm till =>
    implSay_any itoa_ok _ bk ra rc rs s frm till w' HSML.out HRL.out HWF.out (wf_small (by omega) (by omega)) (HS3.out.keep hb).book (HS3.out.keep hb).reps (HS3.out.keep hb).errs (tabW_keep _ _ hb HTB3.out)
  have HSPC : Hid (∀ w', Below w4'.heap.size w4' w' → ∀ frm till : Int, Calls Tryd.prog 23 #[.agg #[.slice sa bk.sts.length sc, .slice ta bk.trips.length tc], .slice ra rs.length rc, .int .i64 s, .int .i64 frm, .int .i64 till] w' fun e w'' => ∃ v', e = .returned v' ∧ SaidsOwn w'.heap.size w'' v' (sayD bk rs s frm till) ∧ Below w'.heap.size w' w'') := fun w' hb frm till =>
    specSay_any _ bk ra rc rs s frm till w' HSML.out HRL.out (HS3.out.keep hb).book (HS3.out.keep hb).reps
  have HLEN : Hid (∀ frm till : Int, (sayD bk rs s frm till).length ≤ 20) := fun frm till => Nat.le_trans (sayD_length bk rs s frm till) HR.out.2
  have HSPL : Hid (sayD bk rs s 0 500 = sayD bk rs s 0 m ++ sayD bk rs s (m + 1) 500) := say_split HR.out.1 s (by omega) m (by omega)
  go_wp2_with fail
  refine (HSAY.out _ (Below.refl _ _) 0 500).mono ?_
  rintro e w5 ⟨v5, rfl, ho5, hb5⟩
  have HO5 : Hid (SaidsOwn w4'.heap.size w5 v5 (sayD bk rs s 0 500)) := ho5
  have HB5 : Hid (Below w4'.heap.size w4' w5) := hb5
  have d0 := cell_keep hb5 c0
  have d1 := cell_keep hb5 c1
  obtain ⟨ii, hi0, he0⟩ := Option.map_eq_some_iff.1 infSaid
  simp only [Prod.mk.injEq] at he0
  have HI : Hid (ii.zero = some (.agg #[.int .i64 0, .string ⟨#[]⟩]) ∧ ii.size = 2 ∧ ii.bytes = 24) := he0
  have HJ : Hid (Tryd.prog.info? 117 = some ii) := hi0
  have hXl := cell_lt d0
  have hmw : IntKind.i64.wrap ((m : Int) + 1) = (m : Int) + 1 := by rw [IntKind.wrap_i64]; omega
  obtain ⟨a5, c5, rfl, _⟩ := saids_at HO5.out
  have HL1 : Hid ((sayD bk rs s 0 m).length ≤ 20) := HLEN.out 0 m
  have HL2 : Hid ((sayD bk rs s (m + 1) 500).length ≤ 20) := HLEN.out (m + 1) 500
  clear ho5 hb5 c0 c1 hi0 he0
  go_wp2_with fail
  go_region_held3 (fun w' => w'.cell? ⟨X, 0, none⟩ = some (.slice sa bk.sts.length sc) ∧ w'.cell? ⟨X, 1, none⟩ = some (.slice ta bk.trips.length tc))
    (go_keep)
    (first
      | (refine step_append_src (by rfl) _ _ 48 (by rfl) w5.heap.size _ 117 ii (.agg #[.int .i64 0, .string ⟨#[]⟩]) 2 24 uSaid HJ.out HI.out.1 HI.out.2.1 HI.out.2.2 rfl (by decide) va (0 + (sayD bk rs s 0 m).length) ([] ++ twos (sayD bk rs s 0 m)) (by rfl) hva8 v8 (sayD bk rs s (m + 1) 500).length (twos (sayD bk rs s (m + 1) 500)) (by rfl) (show w8.ownsRow _ _ _ _ _ _ from ho8) (twos_one _) (by have := HL1.out; have := HL2.out; unfold maxLen; omega) (by have := HL1.out; have := HL2.out; omega) B8.size ?_; intro vb w9 hvb hg9; have B9 : Below w5.heap.size w5 w9 := Below.grown B8 hg9 B8.size (fun g hg => (hva8.lt g hg).1); have k0 := cell_keep B9 d0; have k1 := cell_keep B9 d1)
      | (go_at_call 22; refine (HSAY.out _ (HB5.out.trans (B7.mono HB5.out.size)) ((m : Int) + 1) 500).mono ?_; rintro e w8 ⟨v8, rfl, ho8, hb8⟩; have B8 : Below w5.heap.size w5 w8 := B7.trans (hb8.mono B7.size); have hva8 := owns_below hva hb8 (owns_lt hva); have j0 := cell_keep B8 d0; have j1 := cell_keep B8 d1)
      | (refine step_append_src (by rfl) _ _ 48 (by rfl) w5.heap.size _ 117 ii (.agg #[.int .i64 0, .string ⟨#[]⟩]) 2 24 uSaid HJ.out HI.out.1 HI.out.2.1 HI.out.2.2 rfl (by decide) (.slice (some ⟨w5.heap.size, 0, none⟩) 0 0) 0 [] (by rfl) (empty_own E6 (Nat.le_refl _)) v6 (sayD bk rs s 0 m).length (twos (sayD bk rs s 0 m)) (by rfl) (show w6.ownsRow _ _ _ _ _ _ from ho6) (twos_one _) (by have := HL1.out; unfold maxLen; omega) (by have := HL1.out; omega) B6.size ?_; intro va w7 hva hg7; have B7 : Below w5.heap.size w5 w7 := Below.grown B6 hg7 B6.size (fun g hg => (by simp [Value.ownBlock] at hg; omega)); have i0 := cell_keep B7 d0; have i1 := cell_keep B7 d1)
      | (refine step_append_src (by rfl) _ _ 48 (by rfl) w5.heap.size _ 117 ii (.agg #[.int .i64 0, .string ⟨#[]⟩]) 2 24 uSaid HJ.out HI.out.1 HI.out.2.1 HI.out.2.2 rfl (by decide) (.slice (some ⟨w6.heap.size, 0, none⟩) 0 0) 0 [] (by rfl) (empty_own (heap_alloc_last w6 _) B6.size) v6 (sayD bk rs s 0 m).length (twos (sayD bk rs s 0 m)) (by rfl) (World.ownsRow.alloc (show w6.ownsRow _ _ _ _ _ _ from ho6) _) (twos_one _) (by have := HL1.out; unfold maxLen; omega) (by have := HL1.out; omega) (by have := B6.size; simp; omega) ?_; intro va w7 hva hg7; have B7 : Below w5.heap.size w5 w7 := Below.grown (B6.alloc B6.size _) hg7 (by have := B6.size; simp; omega) (fun g hg => (by simp [Value.ownBlock] at hg; have := B6.size; omega)); have i0 := cell_keep B7 d0; have i1 := cell_keep B7 d1)
      | (go_at_call 22; refine (HSAY.out _ (by first | exact HB5.out.trans ((Below.refl _ _).drew.mono HB5.out.size) | exact HB5.out.trans (((Below.refl _ _).alloc (Nat.le_refl _) _).drew.mono HB5.out.size)) 0 (m : Int)).mono ?_; rintro e w6 ⟨v6, rfl, ho6, hb6⟩; have B6 : Below w5.heap.size w5 w6 := (by first | exact (Below.refl _ _).drew.trans hb6 | exact ((Below.refl _ _).alloc (Nat.le_refl _) _).drew.trans (hb6.mono (by show w5.heap.size ≤ (w5.alloc _).heap.size; simp))); have g0 := cell_keep B6 d0; have g1 := cell_keep B6 d1; (first | (have E6 := (hb6.block w5.heap.size (by show w5.heap.size < (w5.alloc _).heap.size; simp)).trans (heap_alloc_last w5 _)) | skip)))
  all_goals
    have HVB : Hid (SaidsOwn w5.heap.size w9 vb (sayD bk rs s 0 500)) := by
      unfold Hid SaidsOwn
      rw [HSPL.out, List.length_append]
      have e : twos (sayD bk rs s 0 m ++ sayD bk rs s (m + 1) 500) = twos (sayD bk rs s 0 m) ++ twos (sayD bk rs s (m + 1) 500) := by simp [twos]
      rw [e]
      simpa using hvb
    have HB9 : Hid (Below w4'.heap.size w4' w9) := HB5.out.trans (B9.mono HB5.out.size)
    have HA9 : Hid (SaidsAt w9 a5 (sayD bk rs s 0 500)) := (HO5.out.below B9).ss
    obtain ⟨ab, cb, rfl, hsb⟩ := saids_at HVB.out
    have HSB : Hid (SaidsAt w9 ab (sayD bk rs s 0 500)) := hsb
    have HLN : Hid ((sayD bk rs s 0 500).length ≤ 1048576) := Nat.le_trans (HLEN.out 0 500) (by decide)
    have HSN : Hid (Below w.heap.size w w4') := HS3.out.since
    clear hvb hg9 B9 hva8 ho8 hb8 B8 hva hg7 B7 ho6 hb6 B6 g0 g1 i0 i1 j0 j1 d0 d1 hsb HSPL HSAY HVB
    obtain ⟨L, hL⟩ : ∃ L, sayD bk rs s 0 500 = L := ⟨_, rfl⟩
    have HLQ : Hid (sayD bk rs s 0 500 = L) := hL
    rw [hL] at HA9 HSB HLN ⊢
    clear hL
    go_wp2_with fail
    refine (wSaid_same a5 ab L c5 cb _ HLN.out HA9.out HSB.out).mono ?_
    rintro e w10 ⟨rfl, hb10⟩
    have l0 := cell_keep hb10 k0
    have l1 := cell_keep hb10 k1
    have HA10 : Hid (SaidsAt w10 a5 L) := HA9.out.keep hb10
    have HB10 : Hid (Below w4'.heap.size w4' w10) := HB9.out.trans (hb10.mono HB9.out.size)
    clear hb10 k0 k1
    go_wp2_with fail
    refine (HSPC.out _ HB10.out 0 500).mono ?_
    rintro e w11 ⟨v11, rfl, ho11, hb11⟩
    rw [HLQ.out] at ho11
    obtain ⟨a11, c11, rfl, hs11⟩ := saids_at ho11
    have HS11 : Hid (SaidsAt w11 a11 L) := hs11
    have HA11 : Hid (SaidsAt w11 a5 L) := HA10.out.keep hb11
    have HB11 : Hid (Below w4'.heap.size w4' w11) := HB10.out.trans (hb11.mono HB10.out.size)
    clear hs11 ho11 hb11 l0 l1
    go_wp2_with fail
    refine (wSaid_same a5 a11 L c5 c11 _ HLN.out HA11.out HS11.out).mono ?_
    rintro e w12 ⟨rfl, hb12⟩
    have HBE : Hid (Below w.heap.size w w12) := (HSN.out.trans (HB11.out.mono HSN.out.size)).trans (hb12.mono (Nat.le_trans HSN.out.size HB11.out.size))
    go_wp2_with fail
    go_ret
    exact ⟨rfl, HBE.out⟩

end Go.Proofs.YtjioingdpfgadaaDoor
namespace Go.Proofs.YtjioingdpfgadaaDoor
open Go Go.RowKit Go.Deep Go.ChangeShapes Go.WideShapes Go.Joins

theorem cByte : Tryd.prog.cellsOf 5 = 1 := by kernel_rfl
theorem uBt : Tryd.prog.underlying 5 = some (.int .u8) := by kernel_rfl
theorem uBts : Tryd.prog.underlying 22 = some (.slice 5) := by kernel_rfl

section
variable {H : Type} {enc : TypeId × Value → H} {w : World} {base : Nat} {spare : Nat → Bool} {held : Bool}
theorem plain_atB {a : Addr} {v : Value} (h : w.cell? (a.add 0) = some v) : ∃ b o, a = ⟨b, o, none⟩ := by
  obtain ⟨b, off, spot⟩ := a
  have hspot : spot = none := by simpa [Addr.add] using World.cell?_spot h
  subst hspot
  exact ⟨b, off, rfl⟩

set_option maxRecDepth 100000 in
theorem open_bytes {fuel : Nat} {v : Value} {x : DataW H × List MemPlace} (h : DataW.trod enc Tryd.prog w base spare held fuel 22 [v] = some x) :
    ∃ (a : Option Addr) (c : Nat) (bs : List Int), v = .slice a bs.length c ∧ BytesAt w a bs := by
  rcases open_slice uBts h with ⟨hc, _⟩ | ⟨a, len, cap, m, n, D, Pl, hc, _, hl, hm, hmm, _, hel⟩
  · obtain rfl : v = .slice none 0 0 := by simpa using hc
    exact ⟨none, 0, [], rfl, fun i hi => by simp at hi⟩
  obtain rfl : v = .slice (some a) len cap := by simpa using hc
  have hlm : len ≤ m := by rw [hmm]; split <;> omega
  rw [cByte] at hel
  obtain ⟨C, hC⟩ := choose_lt (α := Int) (n := len) (p := fun i r => w.cell? (a.add (i * 1)) = some (.int .u8 r) ∧ 0 ≤ r ∧ r ≤ 255) (fun i hi => by
    obtain ⟨cs', h1, h2⟩ := hel i (by omega)
    obtain ⟨_, hlen, hcell⟩ := World.cells?_some h1
    match cs', hlen with
    | [c0], _ =>
      obtain ⟨x0, e0, _, wf0⟩ := DataW.trod_int uBt h2
      simp at e0
      subst e0
      rw [Lit.wf_int_iff] at wf0
      simp only [IntKind.min, IntKind.max, IntKind.signed, IntKind.bits] at wf0
      refine ⟨x0, ?_, by simp at wf0; omega, by simp at wf0; omega⟩
      simpa [Addr.add] using hcell 0 (by omega))
  have hlen : ((List.range len).map C).length = len := by simp
  have hget : ∀ i (h : i < ((List.range len).map C).length), ((List.range len).map C)[i] = C i := fun i h => by simp
  refine ⟨some a, cap, (List.range len).map C, by rw [hlen], fun i hi => ?_⟩
  have hi' : i < len := by rwa [hlen] at hi
  rw [hget]
  obtain ⟨c0, h0, h1⟩ := hC i hi'
  obtain ⟨b, o, rfl⟩ := plain_atB (by simpa using (hC 0 (by omega)).1)
  simp only [Go.WideShapes.add_plain, Nat.mul_one] at c0
  exact ⟨b, o, rfl, c0, h0, h1⟩
set_option maxRecDepth 100000 in
theorem low_bytes {a : Option Addr} {n c : Nat} (h : Value.okWide Tryd.prog w .any base 22 (.slice a n c)) : ∀ b o, a = some ⟨b, o, none⟩ → b < w.heap.size := by
  rintro b o rfl
  simp only [Value.okWide, uBts, Cell.okWide, Cell.ok, World.has] at h
  obtain ⟨_, _, _, _, row, cells, hs, _⟩ := h
  apply Classical.byContradiction; intro hn
  have : w.heap[b]? = none := by simp; omega
  simp [World.shape?, this] at hs
end

end Go.Proofs.YtjioingdpfgadaaDoor
namespace Go.Proofs.YtjioingdpfgadaaDoor
open Go Go.RowKit Go.Deep Go.ChangeShapes Go.WideShapes Go.ChangeAt

/-- The door's own heap meets the condition. -/
theorem door_metS (os : Os) (args : Array Value) : laidMetH Tryd.prog Rows.fnSplitRow.laid ((World.doorLaid Tryd.prog 183 os).forCall (fun _ _ => 0) ⟨#[], args, []⟩).memory :=
  laidMetH_of_parts3 (fuel := 8) (laidMet_of_run' 8 (by kernel_rfl) (by kernel_rfl)) (by kernel_rfl) (by kernel_rfl)

set_option maxRecDepth 100000 in
set_option maxHeartbeats 2000000 in
theorem fnSplit_lifted (os : Os) (started : os.Started) (H : Type) (enc : TypeId × Value → H) :
    ReturnsInHanded {} Tryd.checked os 5 .any (fun w args => (Rows.fnSplitSpec.pre enc Tryd.prog Tryd.f5 [] false w args ∧ laidMetH Tryd.prog Rows.fnSplitRow.laid w) ∧ sizedMet enc Tryd.prog Tryd.f5 (OpenSpec.ofChange Rows.fnSplitSpec) false w args)
      (Rows.fnSplitSpec.post enc Tryd.prog Tryd.f5 false true false false) := by
  refine returnsInHanded_of_change_and (C := Tryd.checked) (X := fun w _ => laidMetH Tryd.prog Rows.fnSplitRow.laid w) (fun _ _ _ hh h => h.of_heap hh) ownKnob_none started (by kernel_rfl) Tryd.func5
    (ChangeSpec.witness_shaped (enc := enc) (C := Tryd.checked) (os := os) (X := fun w _ => laidMetH Tryd.prog Rows.fnSplitRow.laid w) false (World.doorLaid Tryd.prog 183 os) #[.slice none 0 0, .slice none 0 0] 8 rfl (World.shaped_of_RefB (by kernel_rfl) (by kernel_rfl)) (by kernel_rfl) (by kernel_rfl) (by kernel_rfl) (door_metS os _)) ?_
  intro W base args ds gs before hval0 hW _ _ hL _
  have hval : ∀ (j : Nat) t v, Tryd.f5.params[j]? = some t → args[j]? = some v → Value.okWide Tryd.prog W .any base t v := hval0
  have hW' := hW
  obtain ⟨pp, q, hA0, hV0, rfl, hfz, hnd⟩ := hW
  have hA : DataW.TrodAll enc Tryd.prog W 0 (fun _ => true) true Tryd.f5.params.toList args.toList ds pp := hA0
  have hV : DataW.TrodVars enc Tryd.prog W (fun _ => true) errNames gs q := hV0
  rw [Tryd.params5] at hA hval
  obtain ⟨v0, va, d0, da, p, pa, rfl, rfl, rfl, h0, ha⟩ := trodAll_two hA
  have h0' := h0
  obtain ⟨fuel, hbf⟩ := h0
  have hval00 := hval 0 22 v0 rfl rfl
  obtain ⟨xa, xl, xc, rfl⟩ := okWide_slice uBts hval00
  obtain ⟨ca, cc, bs, ex, hcode⟩ := open_bytes (by exact hbf)
  simp only [Value.slice.injEq] at ex
  obtain ⟨rfl, rfl, rfl⟩ := ex
  have hlow := low_bytes hval00
  have ha' := ha
  obtain ⟨fuel2, haf⟩ := ha
  obtain ⟨ya, yl, yc, rfl⟩ := okWide_slice uBts (hval 1 22 va rfl rfl)
  obtain ⟨ma, mc, ms, ey, hmore⟩ := open_bytes (by exact haf)
  simp only [Value.slice.injEq] at ey
  obtain ⟨rfl, rfl, rfl⟩ := ey
  obtain ⟨hLB, htb⟩ := laidT_of (show laidMetH Tryd.prog Rows.fnSplitRow.laid W from hL)
  have hli := laidIn_of hLB
  have hev := hli.errs
  obtain ⟨a1, v1⟩ := hli.tooMany
  obtain ⟨a2, v2⟩ := hli.noName
  obtain ⟨a3, v3⟩ := hli.nameTwice
  obtain ⟨a4, v4⟩ := hli.callCount
  obtain ⟨a5, v5⟩ := hli.stationTwice
  obtain ⟨a6, v6⟩ := hli.noStation
  obtain ⟨a7, v7⟩ := hli.time
  obtain ⟨a8, v8⟩ := hli.track
  obtain ⟨rfl, rfl⟩ := hV.unique (vars_read8 enc v1 v2 v3 v4 v5 v6 v7 v8 trivial trivial trivial trivial trivial trivial trivial trivial _)
  obtain ⟨c1, k1⟩ := hev.tooMany
  obtain ⟨c2, k2⟩ := hev.noName
  obtain ⟨c3, k3⟩ := hev.nameTwice
  obtain ⟨c4, k4⟩ := hev.callCount
  obtain ⟨c5, k5⟩ := hev.stationTwice
  obtain ⟨c6, k6⟩ := hev.noStation
  obtain ⟨c7, k7⟩ := hev.time
  obtain ⟨c8, k8⟩ := hev.track
  have l1 := cell_lt k1
  have l2 := cell_lt k2
  have l3 := cell_lt k3
  have l4 := cell_lt k4
  have l5 := cell_lt k5
  have l6 := cell_lt k6
  have l7 := cell_lt k7
  have l8 := cell_lt k8
  have hlt : ∀ x ∈ p, x.block < W.heap.size := fun x hx => hW'.lt x (by simp [hx])
  have hlta : ∀ x ∈ pa, x.block < W.heap.size := fun x hx => hW'.lt x (by simp [hx])
  refine (lawSplit_any xa ya bs ms xc yc W hcode hlow hmore hev htb).mono fun e W' ⟨he, hb⟩ => ?_
  subst he
  refine ⟨_, rfl, _, _, _, [], p ++ pa, errPlaces, hW', ?_, ?_, ?_, hb.frame _, fun h => by cases h⟩
  · exact trodAll_mk1 (shut_bool Tryd.underlying4 true)
  · exact trodAll_mk2 (Below.trod laidOut_ok (by kernel_rfl) (of_decide_eq_true (by kernel_rfl)) h0' hb hlt) (Below.trod laidOut_ok (by kernel_rfl) (of_decide_eq_true (by kernel_rfl)) ha' hb hlta)
  · exact vars_read8 enc (var?_below hb gTooMany l1 v1) (var?_below hb gNoName l2 v2) (var?_below hb gNameTwice l3 v3) (var?_below hb gCallCount l4 v4) (var?_below hb gStationTwice l5 v5) (var?_below hb gNoStation l6 v6) (var?_below hb gTime l7 v7) (var?_below hb gTrack l8 v8) trivial trivial trivial trivial trivial trivial trivial trivial _

theorem fnSplit_row_holds : Rows.FnSplitSaid :=
  OpenClaim.holds_of_wide 5 Tryd.f5 rfl rfl rfl rfl rfl rfl rfl ⟨rfl, rfl, rfl, rfl, rfl⟩ rfl rfl rfl rfl rfl (by kernel_rfl) Tryd.func5 (by kernel_rfl)
    (of_decide_eq_true (by kernel_rfl)) (by unfold Func.isWrapper; rw [if_neg (of_decide_eq_false (by kernel_rfl))]; exact ⟨rfl, rfl⟩)
    (fun os started H enc _ => fnSplit_lifted os started H enc)

theorem fnSplit_holds : Rows.FnSplitCardSaid :=
  Claim7.holds_tied_plain_at .later [] [.data, .data, .data, .handle, .sentinel, .sentinel, .sentinel, .sentinel, .sentinel, .sentinel, .sentinel, .sentinel] true Rows.fnSplitCard.stood.harness true
    fnSplit_row_holds (fun _ h => by cases h) (by kernel_rfl) (fun _ h => by cases h) fnSplit_row_tie rfl ⟨rfl, rfl⟩ (by kernel_rfl) rfl
    (fun f fn hf hfn => by
      obtain rfl : f = 5 := Option.some.inj ((show Tryd.prog.funcNamed "loop.example/tannoy/laws.FnSplit" = some 5 by kernel_rfl).symm.trans hf) |>.symm
      obtain rfl : fn = Tryd.f5 := (Option.some.inj (Tryd.func5.symm.trans hfn)).symm
      exact ⟨by kernel_rfl, fun j t ht => by
        rw [Tryd.params5] at ht
        have h3 : t = 22 := by
          rcases j with _ | _ | j
          · exact (by simpa using ht.symm)
          · exact (by simpa using ht.symm)
          · simp at ht
        subst h3
        exact (show Tryd.prog.wantsStandIn 22 = false by kernel_rfl)⟩)
    (by kernel_rfl)
#print axioms fnSplit_holds

end Go.Proofs.YtjioingdpfgadaaDoor
