import Derived.Test.YtjioingdpfgadaaDoorProg
import Derived.Test.YtjioingdpfgadaaDoorBrdEM
import Derived.Test.YtjioingdpfgadaaDoorBoardCM
import Derived.Deep.AppendLies
import Derived.Deep.Cut
import Derived.BigQuiet
import Derived.Deep.DeepCutAuto
namespace Go.Proofs.YtjioingdpfgadaaDoor
open Go Go.RowKit Go.Deep

theorem KeptBox.setBox {B n0 : Nat} {a w : World} {t : TypeId} {v : Value} (h : KeptBox B n0 a w) (hb : Boxed w B t v) (u : Value) : KeptBox B n0 a (w.setCell ⟨B, 0, none⟩ u) := by
  refine h.trans ⟨rfl, rfl, rfl, by simp [World.setCell], fun k _ hB => Below.heap_setCell w _ u k (by simpa using hB), fun k o hk ho => ?_⟩
  by_cases e : k = B
  · subst e
    rw [show w.heap[k]? = _ from hb] at hk
    cases hk
    cases ho
  · rw [Below.heap_setCell w _ u k (by simpa using e)]; exact hk
theorem KeptBox.grown {B n0 : Nat} {a w w' : World} {n : Nat} {v : Value} {e : TypeId} {L : List Value} (h : KeptBox B n0 a w) (hg : w.grownBy w' v.ownBlock) (hn : n0 ≤ w.heap.size) (hr : w.ownsRow n0 e 6 v n L) : KeptBox B n0 a w' := by
  have hob : ∀ g, v.ownBlock = some g → n0 ≤ g ∧ ∃ cs T fr, w.heap[g]? = some (.cells cs T fr) := fun g hg => by
    rcases hr.2 with ⟨e, _⟩ | ⟨g', cap', cur, e, hb, hh, _⟩
    · rw [e] at hg; cases hg
    · rw [e] at hg; cases hg; exact ⟨hb, _, _, _, hh⟩
  refine h.trans ⟨hg.os, hg.tape, hg.output, hg.size, fun k hk _ => hg.block k (by omega) (fun e => by have := (hob k e.symm).1; omega), fun k o hk ho => ?_⟩
  by_cases e : v.ownBlock = some k
  · obtain ⟨_, cs, T, fr, hc⟩ := hob k e
    rw [hc] at hk
    cases hk
    cases ho
  · rw [hg.block k (Array.getElem?_eq_some_iff.1 hk).1 (fun e' => e e'.symm)]; exact hk
theorem KeptBox.alloc {B n0 : Nat} {a w : World} (h : KeptBox B n0 a w) (hn : n0 ≤ w.heap.size) (o : Obj) : KeptBox B n0 a (w.alloc o) :=
  h.trans (KeptBox.below ((Below.refl _ _).alloc (Nat.le_refl _) o) hn)
theorem HeapAt.drewN {n : Nat} {w : World} {B n0 : Nat} {L : List RowD} {v : Value} (h : HeapAt w B n0 L v) : HeapAt (w.drewN n) B n0 L v := ⟨h.box, h.rows, h.low⟩
theorem KeptBox.drewN {n B n0 : Nat} {a w : World} (h : KeptBox B n0 a w) : KeptBox B n0 a (w.drewN n) := ⟨h.os, h.tape, h.output, h.size, h.block, h.others⟩
theorem sixOf_one (x : RowD) : ∀ u ∈ sixOf x, u.oneCell' = true := by
  intro u hu
  simp only [sixOf, List.mem_cons, List.not_mem_nil, or_false] at hu
  rcases hu with rfl | rfl | rfl | rfl | rfl | rfl <;> rfl
theorem half_cast (m : Nat) : Int.tdiv (m : Int) 2 = ((m / 2 : Nat) : Int) := by
  rw [Int.tdiv_eq_ediv_of_nonneg (by omega)]; omega

set_option maxRecDepth 100000 in
set_option maxHeartbeats 8000000 in
theorem push_any (B n0 : Nat) (L : List RowD) (v : Value) (x : RowD) (w : World) (hm : L.length < 1000) (hn : n0 ≤ w.heap.size) (h : HeapAt w B n0 L v) (hh : IsHeap L) :
    Calls Tryd.prog 44 #[.pointer (some ⟨B, 0, none⟩), rowV x] w fun e w' => (∃ u, e = .returned u) ∧ ∃ v' L', HeapAt w' B n0 L' v' ∧ IsHeap L' ∧ L'.Perm (x :: L) ∧ KeptBox B n0 w w' := by
  unfold rowV
  obtain ⟨i1, hj1, he0⟩ := Option.map_eq_some_iff.1 infRows
  simp only [Prod.mk.injEq] at he0
  have HJ0 : Hid (Tryd.prog.info? 38 = some i1) := hj1
  have HI0 : Hid (i1.zero = some (.agg #[.int .i64 0, .int .i64 0, .int .i64 0, .int .i64 0, .int .i64 0, .int .i64 0]) ∧ i1.size = 6 ∧ i1.bytes = 48) := he0
  clear hj1 he0
  have HU : Hid (UpHeap (L ++ [x]) L.length) := hh.snoc x
  obtain ⟨a, c, rfl, _⟩ := rows_at h.rows
  obtain ⟨W1, hW1⟩ : ∃ W1, w.alloc (.cells #[.int .i64 x.trip, .int .i64 x.to, .int .i64 x.due, .int .i64 x.expect, .int .i64 x.track, .int .i64 x.state] 38) = W1 := ⟨_, rfl⟩
  have hb1 : Below w.heap.size w W1 := by subst hW1; exact (Below.refl _ _).alloc (Nat.le_refl _) _
  have hs1 : W1.heap.size = w.heap.size + 1 := by subst hW1; simp
  have H1 : Hid (HeapAt W1 B n0 L (.slice a L.length c)) := h.keep hb1
  have hc := H1.out.box.cell
  have HO1 : Hid (W1.ownsRow n0 38 6 (.slice a L.length c) L.length (sixes L)) := H1.out.rows
  have HOD : Hid ((W1.alloc (.cells #[.int .i64 x.trip, .int .i64 x.to, .int .i64 x.due, .int .i64 x.expect, .int .i64 x.track, .int .i64 x.state] 38)).drew.ownsRow n0 38 6 (.slice a L.length c) L.length (sixes L)) := HO1.out.alloc _
  have HCD : Hid (∀ j u, (sixOf x)[j]? = some u → (W1.alloc (.cells #[.int .i64 x.trip, .int .i64 x.to, .int .i64 x.due, .int .i64 x.expect, .int .i64 x.track, .int .i64 x.state] 38)).drew.cell? ((⟨w.heap.size + 1, 0, none⟩ : Addr).add j) = some u) := by unfold Hid; rw [← hs1]; exact cells_six_at W1 x 38
  have HNE : Hid (some B ≠ (Value.slice a L.length c).ownBlock) := fun e => by
    have hlow := H1.out.low
    have hge := (H1.out.rows.lt B e.symm).1
    omega
  have p0 : W1.cell? ⟨w.heap.size, 0, none⟩ = some (.int .i64 x.trip) := by subst hW1; simp [go_sem]
  have p1 : W1.cell? ⟨w.heap.size, 1, none⟩ = some (.int .i64 x.to) := by subst hW1; simp [go_sem]
  have p2 : W1.cell? ⟨w.heap.size, 2, none⟩ = some (.int .i64 x.due) := by subst hW1; simp [go_sem]
  have p3 : W1.cell? ⟨w.heap.size, 3, none⟩ = some (.int .i64 x.expect) := by subst hW1; simp [go_sem]
  have p4 : W1.cell? ⟨w.heap.size, 4, none⟩ = some (.int .i64 x.track) := by subst hW1; simp [go_sem]
  have p5 : W1.cell? ⟨w.heap.size, 5, none⟩ = some (.int .i64 x.state) := by subst hW1; simp [go_sem]
  have hBw := h.box.lt
  have HLOW : Hid (B < n0) := h.low
  have hcA : (W1.alloc (.cells #[.int .i64 x.trip, .int .i64 x.to, .int .i64 x.due, .int .i64 x.expect, .int .i64 x.track, .int .i64 x.state] 38)).cell? ⟨B, 0, none⟩ = some (.slice a L.length c) := (Boxed.alloc H1.out.box _).cell
  clear h hh
  go_enter Tryd.func44, Tryd.ntmps44
  go_upto_region 1 with fail
  clear hW1
  go_cut [12] (fun s wx => ∃ g cap, s = .slice (some ⟨g, 0, none⟩) (L.length + 1) cap ∧ Hid (HeapAt wx B n0 (L ++ [x]) (.slice (some ⟨g, 0, none⟩) (L.length + 1) cap)) ∧ Hid (KeptBox B n0 w wx))
  case first =>
    go_region_law (refine step_append_lies _ (by rfl) _ _ 31 (by rfl) n0 38 i1 (.agg #[.int .i64 0, .int .i64 0, .int .i64 0, .int .i64 0, .int .i64 0, .int .i64 0]) 6 48 uRows HJ0.out HI0.out.1 HI0.out.2.1 HI0.out.2.2 rfl (by decide) (.slice a L.length c) L.length (sixes L) (by first | rfl | simp [Act.eval]) HOD.out ⟨w.heap.size + 1, 0, none⟩ 1 1 (sixOf x) (by first | rfl | simp [Act.eval]) (by rfl) HCD.out (sixOf_one x) (by decide) (by unfold maxLen; omega) (by omega) (by simp; omega) (W1.heap.size + 1) (by simp) ?_; intro g5 cap5 w5 hown5 hgrow hat5 hlt5; have hsz5 : W1.heap.size < w5.heap.size := (by have := hgrow.size; simp at this; omega); have hbx5 : Boxed w5 B 87 (.slice a L.length c) := (Boxed.alloc H1.out.box _).kept (row := (Value.slice a L.length c).ownBlock) ⟨hgrow.os, hgrow.tape, hgrow.output, hgrow.size, hgrow.block⟩ HNE.out; have hc5 := hbx5.cell; have hf5 := hbx5.frozen)
    all_goals
      have HH5 : Hid (HeapAt (w5.setCell ⟨B, 0, none⟩ (.slice (some ⟨g5, 0, none⟩) (L.length + 1) cap5)) B n0 (L ++ [x]) (.slice (some ⟨g5, 0, none⟩) (L.length + 1) cap5)) := by
        refine ⟨hbx5.set _, ?_, HLOW.out⟩
        rw [List.length_append, List.length_singleton, sixes_snoc]
        exact ownsRow_setCell_below hown5 HLOW.out _
      have HK5 : Hid (KeptBox B n0 w (w5.setCell ⟨B, 0, none⟩ (.slice (some ⟨g5, 0, none⟩) (L.length + 1) cap5))) :=
        (((((KeptBox.below hb1 hn).alloc (by omega) _).drew).grown hgrow (by simp; omega) HOD.out).setBox hbx5 _)
      go_wp2_with fail
      go_meet
      exact ⟨g5, cap5, rfl, HH5, HK5⟩
  case rest =>
    obtain ⟨g, cap, rfl, hH, hK⟩ := hcut
    clear hc HO1 H1 HOD HCD HNE p0 p1 p2 p3 p4 p5 hcA hb1 hs1 HJ0 HI0
    have hc6 := hH.out.box.cell
    have HP0 : Hid ((L ++ [x]).Perm (x :: L)) := List.perm_append_singleton _ _
    have hnl : (L ++ [x]).length = L.length + 1 := by simp
    generalize hM : L ++ [x] = M0 at *
    generalize hN : L.length = n at *
    clear hM hN
    have hnm : n < 1000 := hm
    obtain ⟨N, hN0⟩ : ∃ N, n + 1 = N := ⟨_, rfl⟩
    have hNi : (N : Int) - 1 = (n : Int) := by omega
    have hNm : N ≤ 1000 := by omega
    have HN0 : Hid (n + 1 = N) := hN0
    rw [hN0] at hH hc6 hnl
    have HNL : Hid (M0.length = N) := hnl
    clear hN0 hnl
    go_wp2_with fail
    rename World => w6
    go_loopw [4] (fun i wr => ∃ (k : Nat) (M : List RowD), k < N ∧ Hid (M.length = N) ∧ i = .int .i64 k ∧ Hid (HeapAt wr B n0 M (.slice (some ⟨g, 0, none⟩) N cap)) ∧ Hid (UpHeap M k) ∧ Hid (M.Perm (x :: L)) ∧ Hid (KeptBox B n0 w wr)) (fun i _ => (intOf i).toNat)
    case atStart => exact ⟨n, M0, by have := HN0.out; omega, HNL, by go_num, hH, HU, HP0, hK⟩
    case round =>
      obtain ⟨k, M, hk, hMl, rfl, hHr, hUr, hPr, hKr⟩ := hrel
      clear hc6 hH hK HU HP0 HNL hNi hnm
      have hcr := hHr.out.box.cell
      have hsz : n0 ≤ wr.heap.size := Nat.le_trans hn hKr.out.size
      have hkM : k < M.length := by rw [hMl.out]; exact hk
      have HKM : Hid (k < M.length) := hkM
      clear hkM
      have HCR : Hid (wr.cell? ⟨B, 0, none⟩ = some (.slice (some ⟨g, 0, none⟩) N cap)) := hcr
      by_cases hk0 : k = 0
      · subst hk0
        have HT : Hid (IsHeap M) := hUr.out.top (.inl rfl)
        rw [show ((0 : Nat) : Int) = 0 from rfl]
        go_wp2_with fail
        go_quiet (fail)
        go_wp2_with fail
        go_end0
        exact ⟨⟨_, rfl⟩, _, M, HeapAt.drewN hHr.out, HT.out, hPr.out, KeptBox.drewN hKr.out⟩
      · have hq : Hid ((k - 1) / 2 < M.length) := by have := HKM.out; unfold Hid; omega
        have HST : Hid (lessD (rowIn M k) (rowIn M ((k - 1) / 2)) = true → UpHeap (swapL M k ((k - 1) / 2)) ((k - 1) / 2)) := fun hl => hUr.out.step (by omega) HKM.out hl
        have HTT : Hid (lessD (rowIn M k) (rowIn M ((k - 1) / 2)) = false → IsHeap M) := fun hl => hUr.out.top (.inr hl)
        obtain ⟨a0, a1, a2, a3, a4, a5⟩ := heap_at hHr.out k HKM.out
        obtain ⟨b0, b1, b2, b3, b4, b5⟩ := heap_at hHr.out ((k - 1) / 2) hq.out
        have HSW : Hid (∀ w1, HeapAt w1 B n0 M (.slice (some ⟨g, 0, none⟩) N cap) → Calls Tryd.prog 88 #[.pointer (some ⟨B, 0, none⟩), .int .i64 k, .int .i64 (((k - 1) / 2 : Nat) : Int)] w1 fun e w' => (∃ v, e = .returned v) ∧ HeapAt w' B n0 (swapL M k ((k - 1) / 2)) (.slice (some ⟨g, 0, none⟩) N cap) ∧ KeptBox B n0 w1 w') := fun w1 h1 => by rw [← hMl.out] at h1 ⊢; exact swap_any B n0 g cap k ((k - 1) / 2) M w1 HKM.out hq.out h1
        have HSP : Hid ((swapL M k ((k - 1) / 2)).Perm M) := swapL_perm M _ _ HKM.out hq.out
        have HSL : Hid ((swapL M k ((k - 1) / 2)).length = M.length) := swapL_length _ _ _
        have HQ : Hid ((k - 1) / 2 < k) := by unfold Hid; omega
        have hqw : IntKind.i64.wrap (Int.tdiv ((k : Int) - 1) 2) = (((k - 1) / 2 : Nat) : Int) := by rw [Int.tdiv_eq_ediv_of_nonneg (by omega), IntKind.wrap_i64]; omega
        have hh2 : ((k : Int) - 1) / 2 = (((k - 1) / 2 : Nat) : Int) := by omega
        have hkk0 : (0 : Int) ≤ (k : Int) := by omega
        have hkk1 : (k : Int) < (N : Int) := by omega
        have hkg : 0 < k := by omega
        have hkd : decide ((0 : Int) < (k : Int)) = true := decide_eq_true (by omega)
        have hke : decide (0 < k) = true := decide_eq_true hkg
        have hkw : IntKind.i64.wrap ((k : Int) - 1) = (k : Int) - 1 := by rw [IntKind.wrap_i64]; omega
        have hq0 : (0 : Int) ≤ (((k - 1) / 2 : Nat) : Int) := by omega
        have hq1 : (((k - 1) / 2 : Nat) : Int) < (N : Int) := by omega
        have hkn : k ≤ 1001 := by omega
        have hqm : (k - 1) / 2 ≤ 1000 := by omega
        generalize rowIn M k = y at *
        generalize rowIn M ((k - 1) / 2) = z at *
        generalize (k - 1) / 2 = q at *
        have mb := mBef
        have nb := nBef
        cases hl : lessD y z
        · have HT : Hid (IsHeap M) := HTT.out hl
          go_wp2_with fail
          go_region_held3 (fun w' => w'.cell? ⟨B, 0, none⟩ = some (.slice (some ⟨g, 0, none⟩) N cap) ∧ w'.cell? ⟨g, k * 6, none⟩ = some (.int .i64 y.trip) ∧ w'.cell? ⟨g, k * 6 + 1, none⟩ = some (.int .i64 y.to) ∧ w'.cell? ⟨g, k * 6 + 2, none⟩ = some (.int .i64 y.due) ∧ w'.cell? ⟨g, k * 6 + 3, none⟩ = some (.int .i64 y.expect) ∧ w'.cell? ⟨g, k * 6 + 4, none⟩ = some (.int .i64 y.track) ∧ w'.cell? ⟨g, k * 6 + 5, none⟩ = some (.int .i64 y.state) ∧ w'.cell? ⟨g, q * 6, none⟩ = some (.int .i64 z.trip) ∧ w'.cell? ⟨g, q * 6 + 1, none⟩ = some (.int .i64 z.to) ∧ w'.cell? ⟨g, q * 6 + 2, none⟩ = some (.int .i64 z.due) ∧ w'.cell? ⟨g, q * 6 + 3, none⟩ = some (.int .i64 z.expect) ∧ w'.cell? ⟨g, q * 6 + 4, none⟩ = some (.int .i64 z.track) ∧ w'.cell? ⟨g, q * 6 + 5, none⟩ = some (.int .i64 z.state))
            (first | exact ⟨cell_keep hb1 (by exact HCR.out), cell_keep hb1 (by exact a0), cell_keep hb1 (by exact a1), cell_keep hb1 (by exact a2), cell_keep hb1 (by exact a3), cell_keep hb1 (by exact a4), cell_keep hb1 (by exact a5), cell_keep hb1 (by exact b0), cell_keep hb1 (by exact b1), cell_keep hb1 (by exact b2), cell_keep hb1 (by exact b3), cell_keep hb1 (by exact b4), cell_keep hb1 (by exact b5)⟩ | go_keep)
            (first | (go_at_call 163; refine (before_any y z _).mono ?_; rintro e w1 ⟨rfl, hb1⟩; rw [hl]))
          go_wp2_with fail
          go_end0
          exact ⟨⟨_, rfl⟩, _, M, hHr.out.drew.keep (by exact hb1), HT.out, hPr.out, hKr.out.drew.trans (KeptBox.below (by exact hb1) (by exact hsz))⟩
        · have HUS : Hid (UpHeap (swapL M k q) q) := HST.out hl
          go_wp2_with fail
          go_region_held3 (fun w' => w'.cell? ⟨B, 0, none⟩ = some (.slice (some ⟨g, 0, none⟩) N cap) ∧ w'.cell? ⟨g, k * 6, none⟩ = some (.int .i64 y.trip) ∧ w'.cell? ⟨g, k * 6 + 1, none⟩ = some (.int .i64 y.to) ∧ w'.cell? ⟨g, k * 6 + 2, none⟩ = some (.int .i64 y.due) ∧ w'.cell? ⟨g, k * 6 + 3, none⟩ = some (.int .i64 y.expect) ∧ w'.cell? ⟨g, k * 6 + 4, none⟩ = some (.int .i64 y.track) ∧ w'.cell? ⟨g, k * 6 + 5, none⟩ = some (.int .i64 y.state) ∧ w'.cell? ⟨g, q * 6, none⟩ = some (.int .i64 z.trip) ∧ w'.cell? ⟨g, q * 6 + 1, none⟩ = some (.int .i64 z.to) ∧ w'.cell? ⟨g, q * 6 + 2, none⟩ = some (.int .i64 z.due) ∧ w'.cell? ⟨g, q * 6 + 3, none⟩ = some (.int .i64 z.expect) ∧ w'.cell? ⟨g, q * 6 + 4, none⟩ = some (.int .i64 z.track) ∧ w'.cell? ⟨g, q * 6 + 5, none⟩ = some (.int .i64 z.state))
            (first | exact ⟨cell_keep hb1 (by exact HCR.out), cell_keep hb1 (by exact a0), cell_keep hb1 (by exact a1), cell_keep hb1 (by exact a2), cell_keep hb1 (by exact a3), cell_keep hb1 (by exact a4), cell_keep hb1 (by exact a5), cell_keep hb1 (by exact b0), cell_keep hb1 (by exact b1), cell_keep hb1 (by exact b2), cell_keep hb1 (by exact b3), cell_keep hb1 (by exact b4), cell_keep hb1 (by exact b5)⟩ | go_keep)
            (first | (go_at_call 163; refine (before_any y z _).mono ?_; rintro e w1 ⟨rfl, hb1⟩; rw [hl]))
          have HW1 : Hid (HeapAt w1 B n0 M (.slice (some ⟨g, 0, none⟩) N cap)) := hHr.out.drew.keep (by exact hb1)
          have HK1 : Hid (KeptBox B n0 w w1) := hKr.out.drew.trans (KeptBox.below (by exact hb1) (by exact hsz))
          clear a0 a1 a2 a3 a4 a5 b0 b1 b2 b3 b4 b5 hcr HCR hb1 mb nb
          go_wp2_with fail
          refine (HSW.out _ (by exact HW1.out)).mono ?_
          rintro e w2 ⟨⟨u, rfl⟩, hH2, hK2⟩
          have HH2 : Hid _ := hH2
          have HK2 : Hid _ := hK2
          clear hH2 hK2
          go_wp2_with fail
          go_roundw
          case rel => exact ⟨q, swapL M k q, by omega, by unfold Hid; rw [HSL.out]; exact hMl.out, by go_num, HH2, HUS, HSP.out.trans hPr.out, HK1.out.trans HK2.out⟩
          case measure => have := HQ.out; simp [intOf]; omega

end Go.Proofs.YtjioingdpfgadaaDoor
