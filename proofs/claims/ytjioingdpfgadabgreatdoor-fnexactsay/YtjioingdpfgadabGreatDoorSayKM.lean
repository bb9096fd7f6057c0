import Derived.Test.YtjioingdpfgadabGreatDoorProg
import Derived.Test.YtjioingdpfgadabGreatDoorSayIM
import Derived.Test.YtjioingdpfgadabGreatDoorImplK
import Derived.Test.YtjioingdpfgadabGreatDoorImplQM
import Derived.BigRegion
import Derived.Test.YtjioingdpfgadabGreatDoorShBM
import Derived.Test.YtjioingdpfgadabGreatDoorSayBM
import Derived.Maps.AppendAt
namespace Go.Proofs.YtjioingdpfgadabGreatDoor
open Go Go.RowKit Go.Deep

theorem block_news {w : World} {g : Nat} {ns : List NewsD} {T : TypeId} (hg : w.heap[g]? = some (.cells (rowCells ns).toArray T (0, 0))) (n : Nat) : NewsAt w (some ⟨g, 0, none⟩) (ns.take n) := by
  intro i hi
  have hl : i < ns.length := by rw [List.length_take] at hi; omega
  have hc : ∀ c, c < 5 → w.cell? ⟨g, i * 5 + c, none⟩ = (newsCells ns[i])[c]? := fun c hc => by
    rw [cell_of_row _ _ _ _ _ _ hg]
    simp only [List.getElem?_toArray]
    exact rowCells_get ns i c hl hc
  refine ⟨g, 0, rfl, ?_, ?_, ?_, ?_, ?_⟩
  · simpa [newsCells] using hc 0 (by omega)
  · simpa [newsCells] using hc 1 (by omega)
  · simpa [newsCells] using hc 2 (by omega)
  · simpa [newsCells] using hc 3 (by omega)
  · simpa [newsCells] using hc 4 (by omega)
theorem block_cells {w : World} {g : Nat} {ns : List NewsD} {T : TypeId} (hg : w.heap[g]? = some (.cells (rowCells ns).toArray T (0, 0))) (i : Nat) (h : i < ns.length) :
    w.cell? ⟨g, i * 5, none⟩ = some (.int .i64 ns[i].late) ∧ w.cell? ⟨g, i * 5 + 1, none⟩ = some (.int .i64 ns[i].track) ∧ w.cell? ⟨g, i * 5 + 2, none⟩ = some (.bool ns[i].off) ∧ w.cell? ⟨g, i * 5 + 3, none⟩ = some (.bool ns[i].here) ∧ w.cell? ⟨g, i * 5 + 4, none⟩ = some (.bool ns[i].gone) := by
  have hc : ∀ c, c < 5 → w.cell? ⟨g, i * 5 + c, none⟩ = (newsCells ns[i])[c]? := fun c hc => by
    rw [cell_of_row _ _ _ _ _ _ hg]
    simp only [List.getElem?_toArray]
    exact rowCells_get ns i c h hc
  exact ⟨by simpa [newsCells] using hc 0 (by omega), by simpa [newsCells] using hc 1 (by omega), by simpa [newsCells] using hc 2 (by omega), by simpa [newsCells] using hc 3 (by omega), by simpa [newsCells] using hc 4 (by omega)⟩
/-- What the closure answers. -/
def tellS (bk : BookD) (G : List (List NewsD)) (r : RepD) (s : Int) (j : Nat) (al : Bool) : ByteArray :=
  match bk.trips[j]?, G[j]? with
  | some t, some ns => if al = true then textT bk t (ns.take t.calls.length) r s else ⟨#[]⟩
  | _, _ => ⟨#[]⟩
theorem tellS_at {bk : BookD} {G : List (List NewsD)} {r : RepD} {s : Int} {j : Nat} {al : Bool} (h1 : j < bk.trips.length) (h2 : j < G.length) : tellS bk G r s j al = if al = true then textT bk bk.trips[j] (G[j].take bk.trips[j].calls.length) r s else ⟨#[]⟩ := by
  unfold tellS; rw [List.getElem?_eq_getElem h1, List.getElem?_eq_getElem h2]

set_option maxRecDepth 100000 in
set_option maxHeartbeats 16000000 in
theorem tell_any {Tab : World → Prop} (hit : ItoaOk Tab) (bk : BookD) (G : List (List NewsD)) (r : RepD) (s : Int) (j c : Nat) (Bk Bb Bs : Nat) (sa ta : Option Addr) (sc tc : Nat) (w0 w : World)
    (hG : Grid G) (h40 : bk.trips.length ≤ 40) (hj : j < bk.trips.length) (hjt : r.trip = (j : Int)) (hc : r.call = (c : Int)) (hcl : c < bk.trips[j].calls.length) (hop : 1 ≤ r.op ∧ r.op ≤ 5) (hnum : r.op = 1 ∨ r.op = 2 → 0 ≤ r.n ∧ r.n ≤ 1000000)
    (htr : tripB bk.sts.length bk.trips[j] = true) (hwf : ∀ i (h : i < bk.trips[j].calls.length), (Lit.int .i64 bk.trips[j].calls[i].st).wf = true) (hws : (Lit.int .i64 s).wf = true) (hjG : j < G.length) (htk : ∀ x ∈ G[j].take bk.trips[j].calls.length, 1 ≤ x.track ∧ x.track ≤ 20) (hst : ∀ i (h : i < bk.sts.length), bk.sts[i].size ≤ 20)
    (hB : Below w0.heap.size w0 w) (hBk : w0.heap.size ≤ Bk) (hsa : StrsAt w0 sa bk.sts) (hta : TripsAt w0 ta bk.trips) (htab : Tab w0)
    (hg : w.heap[Bk]? = some (.cells (gridCells G).toArray 126 (0, 0))) (hb0 : w.cell? ⟨Bb, 0, none⟩ = some (.slice sa bk.sts.length sc)) (hb1 : w.cell? ⟨Bb, 1, none⟩ = some (.slice ta bk.trips.length tc)) (hsx : w.cell? ⟨Bs, 0, none⟩ = some (.int .i64 s)) (hne1 : Bb ≠ Bk) (hne2 : Bs ≠ Bk) :
    Calls Tryz.prog 79 #[msgV r (lastB bk r), repV r, .pointer (some ⟨Bk, 0, none⟩), .pointer (some ⟨Bb, 0, none⟩), .pointer (some ⟨Bs, 0, none⟩)] w fun e w' =>
      ∃ al : Bool, (∀ (h : c < G[j].length), al = allowsX G[j] c (lastB bk r) G[j][c] r) ∧ e = .returned (.string (tellS bk G r s j al)) ∧ w'.heap[Bk]? = some (.cells (gridCells (G.set j (if al then doRow r G[j] else G[j]))).toArray 126 (0, 0)) ∧ w.grownBy w' (some Bk) := by
  have hG20 : G[j].length = 20 := hG.at j hjG
  have h20 := tripB_len htr
  have hcG : c < G[j].length := by omega
  have HSA : Hid (StrsAt w0 sa bk.sts) := hsa
  have HTA : Hid (TripsAt w0 ta bk.trips) := hta
  have HST : Hid (∀ i (h : i < bk.sts.length), bk.sts[i].size ≤ 20) := hst
  have HTK : Hid (∀ x ∈ G[j].take bk.trips[j].calls.length, 1 ≤ x.track ∧ x.track ≤ 20) := htk
  have HTE : Hid (∀ al, tellS bk G r s j al = if al = true then textT bk bk.trips[j] (G[j].take bk.trips[j].calls.length) r s else ⟨#[]⟩) := fun al => tellS_at hj hjG
  obtain ⟨ti, mv, hmv, _, _⟩ := msgV_where r (lastB bk r)
  have HAL : Hid (∀ w, Calls Tryz.prog 80 #[.agg (rowCells G[j]).toArray, .iface ti mv] w fun e w' => e = .returned (.bool (allowsX G[j] c (lastB bk r) G[j][c] r)) ∧ Below w.heap.size w w') := fun w => by
    have := allows_any G[j] r (lastB bk r) c w hG20 hc hcG hop
    rw [hmv] at this; exact this
  have HAF : Hid (∀ w, Calls Tryz.prog 69 #[.agg (rowCells G[j]).toArray, .iface ti mv] w fun e w' => e = .returned (.agg (rowCells (if allowsX G[j] c (lastB bk r) G[j][c] r then doRow r G[j] else G[j])).toArray) ∧ Below w.heap.size w w') := fun w => by
    have := after_any G[j] r (lastB bk r) c w hG20 hc hcG hop
    rw [hmv] at this; exact this
  rw [hmv]
  have HRV : repV r = .agg #[.int .i64 r.tick, .int .i64 r.op, .int .i64 (j : Int), .int .i64 (c : Int), .int .i64 r.n] := by unfold repV; rw [hjt, hc]
  rw [HRV]
  have HRE : Hid (∀ (k : Int) (w : World), Calls Tryz.prog 81 #[.agg #[.int .i64 r.tick, .int .i64 r.op, .int .i64 (j : Int), .int .i64 (c : Int), .int .i64 r.n], .int .i64 k] w fun e w' => e = .returned (.bool (reachB r.op r.call k)) ∧ Below w.heap.size w w') := fun k w => by
    have := reaches_any r k w (by omega)
    rw [HRV] at this; exact this
  have HOP : Hid (1 ≤ r.op ∧ r.op ≤ 5) := hop
  have HNUM : Hid (r.op = 1 ∨ r.op = 2 → 0 ≤ r.n ∧ r.n ≤ 1000000) := hnum
  have HRC : Hid (0 ≤ r.call) := by unfold Hid; omega
  obtain ⟨V1, hV1⟩ : ∃ V1, w.alloc (.cells #[.int .i64 r.tick, .int .i64 r.op, .int .i64 (j : Int), .int .i64 (c : Int), .int .i64 r.n] 64) = V1 := ⟨_, rfl⟩
  have bV1 : Below w.heap.size w V1 := by subst hV1; exact (Below.refl _ _).alloc (Nat.le_refl _) _
  have r0 : V1.cell? ⟨w.heap.size, 0, none⟩ = some (.int .i64 r.tick) := by subst hV1; simp [go_sem]
  have r1 : V1.cell? ⟨w.heap.size, 1, none⟩ = some (.int .i64 r.op) := by subst hV1; simp [go_sem]
  have r2 : V1.cell? ⟨w.heap.size, 2, none⟩ = some (.int .i64 (j : Int)) := by subst hV1; simp [go_sem]
  have r3 : V1.cell? ⟨w.heap.size, 3, none⟩ = some (.int .i64 (c : Int)) := by subst hV1; simp [go_sem]
  have r4 : V1.cell? ⟨w.heap.size, 4, none⟩ = some (.int .i64 r.n) := by subst hV1; simp [go_sem]
  have hBkw : Bk < w.heap.size := (Array.getElem?_eq_some_iff.1 hg).1
  have HG1 : Hid (V1.heap[Bk]? = some (.cells (gridCells G).toArray 126 (0, 0))) := by unfold Hid; rw [bV1.block _ hBkw]; exact hg
  have hz := zeroT
  have HIR : Hid ((Tryz.prog.info? 124).map (·.size) = some (rowCells G[j]).toArray.size) := rowCells_size hG20
  have HJI : Hid ((Tryz.prog.info? 124).map (·.size) = some (rowCells G[j]).length) := rowCells_len hG20
  have HIZ : Hid ((Tryz.prog.info? 124).map (·.size) = some (rowCells zeroRow).toArray.size) := rowCells_size rfl
  have HSZ : Hid ((rowCells zeroRow).toArray.size = (rowCells G[j]).toArray.size) := Option.some.inj (HIZ.out.symm.trans HIR.out)
  have HONE : Hid ((rowCells G[j]).toArray.all (·.oneCell') = true) := rowCells_all _
  have HSRC : Hid (∀ i u, (rowCells G[j])[i]? = some u → V1.cell? ⟨Bk, j * 100 + i, none⟩ = some u) := grid_row hG j hjG HG1.out
  have hj0 : (0 : Int) ≤ (j : Int) := by omega
  have hj40 : (j : Int) < 40 := by omega
  have hj1 : (j : Int) < (bk.trips.length : Int) := by omega
  have HALX : Hid (allowsX G[j] c (lastB bk r) G[j][c] r = allowsX G[j] c (lastB bk r) G[j][c] r) := rfl
  generalize hZ : (rowCells zeroRow).toArray = Z at *
  obtain ⟨V2, hV2⟩ : ∃ V2, (V1.alloc (.cells Z 124)).setRow V1.heap.size (rowCells G[j]).toArray = V2 := ⟨_, rfl⟩
  have HA2 : Hid (V2.heap[V1.heap.size]? = some (.cells (rowCells G[j]).toArray 124 (0, 0))) := by unfold Hid; rw [← hV2]; exact setRow_heap _ _ _ _ _ _ (heap_alloc_last V1 _)
  have bV2 : Below V1.heap.size V1 V2 := by rw [← hV2]; exact below_setRow ((Below.refl _ _).alloc (Nat.le_refl _) _) _ _ (Nat.le_refl _)
  have HG2 : Hid (V2.heap[Bk]? = some (.cells (gridCells G).toArray 126 (0, 0))) := by unfold Hid; rw [bV2.block _ (Nat.lt_of_lt_of_le hBkw bV1.size)]; exact HG1.out
  have B2 : Below w.heap.size w V2 := bV1.trans (bV2.mono bV1.size)
  clear hmv HRV hjt hc htk hst hsa hta hop hnum
  go_enter Tryz.func79, Tryz.ntmps79
  go_upto_region 2 with (first
    | (refine wpList_load_part (by rfl) 124 (.tmp 15) (by rfl) Bk (j * 100) (by rfl) (rowCells G[j]) _ HSRC.out underT rfl HJI.out ?_)
    | (refine wpList_store_row (by rfl) 124 (.tmp 8) (.tmp 16) (by rfl) V1.heap.size (rowCells G[j]).toArray (by rfl) (by rfl) 124 Z (heap_alloc_last V1 _) HIR.out HSZ.out HONE.out ?_))
  rw [hV2]
  go_wp2_with (refine wpList_load_row (by rfl) 124 (.tmp 8) (by rfl) V1.heap.size (by rfl) 124 (rowCells G[j]).toArray (0, 0) _ HA2.out underT rfl HIR.out ?_)
  refine (HAL.out _).mono ?_
  rintro e w3 ⟨rfl, hb3⟩
  have hBk2 : Bk < V2.heap.size := Nat.lt_of_lt_of_le hBkw B2.size
  have hA2l : V1.heap.size < V2.heap.size := (Array.getElem?_eq_some_iff.1 HA2.out).1
  have HG3 : Hid (w3.heap[Bk]? = some (.cells (gridCells G).toArray 126 (0, 0))) := by unfold Hid; rw [hb3.block _ hBk2]; exact HG2.out
  have HA3 : Hid (w3.heap[V1.heap.size]? = some (.cells (rowCells G[j]).toArray 124 (0, 0))) := by unfold Hid; rw [hb3.block _ hA2l]; exact HA2.out
  have B3 : Below w.heap.size w w3 := B2.trans (hb3.mono B2.size)
  have B3' : Below V1.heap.size V1 w3 := bV2.trans (hb3.mono bV2.size)
  have q0 := cell_keep B3' r0
  have q1 := cell_keep B3' r1
  have q2 := cell_keep B3' r2
  have q3 := cell_keep B3' r3
  have q4 := cell_keep B3' r4
  have d0 := cell_keep B3 hb0
  have d1 := cell_keep B3 hb1
  have d2 := cell_keep B3 hsx
  have hRB : w.heap.size ≠ Bk := by omega
  have hAB : V1.heap.size ≠ Bk := by have := bV1.size; omega
  obtain ⟨al, hal⟩ : ∃ al, allowsX G[j] c (lastB bk r) G[j][c] r = al := ⟨_, rfl⟩
  have HALE : Hid (allowsX G[j] c (lastB bk r) G[j][c] r = al) := hal
  rw [hal] at HAF ⊢
  clear hal hV1 hV2 hz r0 r1 r2 r3 r4 hb0 hb1 hsx HSRC HG1 HG2 HA2 hg HALX HAL HIZ HSZ HONE
  cases al
  · have HT : Hid (tellS bk G r s j false = ⟨#[]⟩) := by unfold Hid; rw [HTE.out]; rfl
    have HGS : Hid (G.set j (if false = true then doRow r G[j] else G[j]) = G) := by unfold Hid; simp
    go_wp2_with fail
    go_ret
    exact ⟨false, fun _ => HALE.out.symm, ret_str HT.out.symm, by rw [HGS.out]; exact HG3.out, below_grown B3⟩
  · have HAF' : Hid (∀ w, Calls Tryz.prog 69 #[.agg (rowCells G[j]).toArray, .iface ti mv] w fun e w' => e = .returned (.agg (rowCells (doRow r G[j])).toArray) ∧ Below w.heap.size w w') := fun w => by simpa using HAF.out w
    have hrow : (doRow r G[j]).length = 20 := by rw [doRow_length]; exact hG20
    have HPT : Hid (putAt (gridCells G).toArray (j * 100) (rowCells (doRow r G[j])) = (gridCells (G.set j (doRow r G[j]))).toArray) := hG.put j hjG _ hrow
    have HRI : Hid ((Tryz.prog.info? 124).map (·.size) = some (rowCells (doRow r G[j])).length) := rowCells_len hrow
    have HFT : Hid (j * 100 + (rowCells (doRow r G[j])).length ≤ (gridCells G).toArray.size) := by unfold Hid; rw [rowCells_length, hrow, hG.size]; omega
    have HSR3 : Hid (∀ i u, (rowCells G[j])[i]? = some u → w3.drew.cell? ⟨V1.heap.size, 0 + i, none⟩ = some u) := fun i u hu => by
      rw [Nat.zero_add]
      show w3.cell? _ = _
      rw [cell_of_row _ _ _ _ _ _ HA3.out]
      simpa using hu
    have HT : Hid (tellS bk G r s j true = textT bk bk.trips[j] (G[j].take bk.trips[j].calls.length) r s) := by unfold Hid; rw [HTE.out]; rfl
    clear HAF HTE
    go_upto_region 4 with fail
    go_cut [22] (fun t wx => t = .int .i64 (j : Int) ∧ Hid (wx.heap[Bk]? = some (.cells (gridCells (G.set j (doRow r G[j]))).toArray 126 (0, 0))) ∧ Hid (w3.grownBy wx (some Bk)))
    case first =>
      have hR2 : w3.rangeAt V1.heap.size 0 (rowCells G[j]) := range_of_block HA3.out
      have hT2 : w3.there Bk (j * 100) 100 := there_of_block HG3.out (by rw [hG.size]; omega)
      have HSC : Hid (∀ w4 : World, w4.heap[Bk]? = some (.cells (gridCells G).toArray 126 (0, 0)) → w4.setCells Bk (j * 100) (rowCells (doRow r G[j])) = w4.setRow Bk (gridCells (G.set j (doRow r G[j]))).toArray) := fun w4 h4 => by
        rw [setCells_row (P := Tryz.prog) h4 HRI.out HFT.out (rowCells_one _), HPT.out]
      have hl1 : (rowCells G[j]).length = 100 := by rw [rowCells_length, hG20]
      have hl2 : (rowCells (doRow r G[j])).length = 100 := by rw [rowCells_length, hrow]
      have h11 := rowCells_one G[j]
      have h12 := rowCells_one (doRow r G[j])
      have hu := underT
      have hi1 := HJI.out
      have hi2 := HRI.out
      have HGB : Hid (Bk < w3.heap.size) := (Array.getElem?_eq_some_iff.1 HG3.out).1
      have HAB : Hid (∀ w4 : World, Below w3.heap.size w3.drew w4 → w4.rangeAt V1.heap.size 0 (rowCells G[j]) ∧ w4.there Bk (j * 100) 100 ∧ w4.heap[Bk]? = some (.cells (gridCells G).toArray 126 (0, 0))) := fun w4 hb4 => by
        have h1 : w4.heap[Bk]? = some (.cells (gridCells G).toArray 126 (0, 0)) := by rw [hb4.block _ HGB.out]; exact HG3.out
        have h2 : w4.heap[V1.heap.size]? = some (.cells (rowCells G[j]).toArray 124 (0, 0)) := by rw [hb4.block _ (by exact (Array.getElem?_eq_some_iff.1 HA3.out).1)]; exact HA3.out
        exact ⟨range_of_block h2, there_of_block h1 (by rw [hG.size]; omega), h1⟩
      have HS5 : Hid (∀ w4 : World, Below w3.heap.size w3.drew w4 → (w4.setCells Bk (j * 100) (rowCells (doRow r G[j]))).cell? ⟨w.heap.size, 2, none⟩ = some (.int .i64 (j : Int)) ∧ (w4.setCells Bk (j * 100) (rowCells (doRow r G[j]))).rangeAt V1.heap.size 0 (rowCells G[j]) ∧ (w4.setCells Bk (j * 100) (rowCells (doRow r G[j]))).there Bk (j * 100) 100) := fun w4 hb4 => by
        have h1 : w4.heap[Bk]? = some (.cells (gridCells G).toArray 126 (0, 0)) := by rw [hb4.block _ HGB.out]; exact HG3.out
        have h2 : w4.heap[V1.heap.size]? = some (.cells (rowCells G[j]).toArray 124 (0, 0)) := by rw [hb4.block _ (by exact (Array.getElem?_eq_some_iff.1 HA3.out).1)]; exact HA3.out
        have h3 := cell_keep ((Below.refl _ _).drew.trans hb4) q2
        rw [HSC.out w4 h1]
        have hgr := grown_row w4 Bk (gridCells (G.set j (doRow r G[j]))).toArray
        refine ⟨?_, range_of_block (t := 124) ?_, there_of_block (setRow_heap _ _ _ _ _ _ h1) (by rw [(hG.set j _ hrow).size]; omega)⟩
        · rw [World.cell?_of_block (w := w4) (hgr.block _ (cell_lt h3) (fun e => hRB (by cases e; rfl)))]; exact h3
        · rw [hgr.block _ (Array.getElem?_eq_some_iff.1 h2).1 (fun e => hAB (by cases e; rfl))]; exact h2
      clear HIR HSR3 HPT HFT
      generalize rowCells G[j] = cs at *
      generalize hds : rowCells (doRow r G[j]) = ds at *
      go_region_held3 (fun w' => w'.cell? ⟨w.heap.size, 2, none⟩ = some (.int .i64 (j : Int)) ∧ w'.rangeAt V1.heap.size 0 cs ∧ w'.there Bk (j * 100) 100)
        (first | exact ⟨cell_keep hb4 (by exact q2), (HAB.out _ (by exact hb4)).1, (HAB.out _ (by exact hb4)).2.1⟩ | exact HS5.out _ (by exact hb4) | go_keep_ranges)
        (first | (go_at_call 69; refine (HAF'.out _).mono ?_; rintro e w4 ⟨rfl, hb4⟩))
      have G5 : w4.setCells Bk (j * 100) ds = w4.setRow Bk (gridCells (G.set j (doRow r G[j]))).toArray := HSC.out _ (HAB.out _ (by exact hb4)).2.2
      have HH5 : Hid ((w4.setCells Bk (j * 100) ds).heap[Bk]? = some (.cells (gridCells (G.set j (doRow r G[j]))).toArray 126 (0, 0))) := by unfold Hid; rw [G5]; exact setRow_heap _ _ _ _ _ _ (HAB.out _ (by exact hb4)).2.2
      have HGR5 : Hid (w3.grownBy (w4.setCells Bk (j * 100) ds) (some Bk)) := by unfold Hid; rw [G5]; exact (below_grown ((Below.refl _ _).drew.trans (by exact hb4))).trans (grown_row _ _ _)
      clear G5
      go_wp2_with fail
      go_meet
      exact ⟨rfl, HH5, HGR5⟩
    case rest =>
      rename World => V4
      obtain ⟨rfl, HG4, HGR⟩ := hcut
      have keep4 : ∀ {b o : Nat} {v : Value}, b ≠ Bk → w3.cell? ⟨b, o, none⟩ = some v → V4.cell? ⟨b, o, none⟩ = some v := fun {b o v} hne hc => by
        rw [World.cell?_of_block (w := w3) (HGR.out.block _ (cell_lt hc) (fun e => hne (by cases e; rfl)))]; exact hc
      have q0' := keep4 hRB q0
      have q1' := keep4 hRB q1
      have q2' := keep4 hRB q2
      have q3' := keep4 hRB q3
      have q4' := keep4 hRB q4
      have d0' := keep4 hne1 d0
      have d1' := keep4 hne1 d1
      have d2' := keep4 hne2 d2
      have hlA : V1.heap.size < w3.heap.size := (Array.getElem?_eq_some_iff.1 HA3.out).1
      have HA4 : Hid (V4.heap[V1.heap.size]? = some (.cells (rowCells G[j]).toArray 124 (0, 0))) := by unfold Hid; rw [HGR.out.block _ hlA (fun e => hAB (by cases e; rfl))]; exact HA3.out
      have GR4 : Hid (w.grownBy V4 (some Bk)) := (below_grown B3).trans HGR.out
      have B4 : Below w0.heap.size w0 V4 := Below.grown hB GR4.out (Nat.le_of_lt (by omega)) (fun x hx => by cases hx; exact hBk)
      have HFIN : Hid (∀ w' : World, Below V4.heap.size V4 w' → w'.heap[Bk]? = some (.cells (gridCells (G.set j (if true = true then doRow r G[j] else G[j]))).toArray 126 (0, 0)) ∧ w.grownBy w' (some Bk)) := fun w' hb => ⟨by rw [if_pos rfl, hb.block _ (Array.getElem?_eq_some_iff.1 HG4.out).1]; exact HG4.out, GR4.out.trans (below_grown hb)⟩
      obtain ⟨tb, tof, ca, cc, rfl, n0, n1, hca⟩ := HTA.out.keep B4 j hj
      have HCA : Hid (CallsAt V4 ca bk.trips[j].calls) := hca
      have hnd := tripB_nodup htr
      have hn20 := nameB_size (tripB_named htr)
      obtain ⟨V5, hV5⟩ : ∃ V5, V4.alloc (.cells #[.string bk.trips[j].name, .slice ca bk.trips[j].calls.length cc] 81) = V5 := ⟨_, rfl⟩
      have bV5 : Below V4.heap.size V4 V5 := by subst hV5; exact (Below.refl _ _).alloc (Nat.le_refl _) _
      have t0 : V5.cell? ⟨V4.heap.size, 0, none⟩ = some (.string bk.trips[j].name) := by subst hV5; simp [go_sem]
      have t1 : V5.cell? ⟨V4.heap.size, 1, none⟩ = some (.slice ca bk.trips[j].calls.length cc) := by subst hV5; simp [go_sem]
      have e2 := cell_keep bV5 d2'
      clear q0 q1 q2 q3 q4 d0 d1 d2 HG3 HA3 HGR keep4 hca HAF' HPT HRI HFT HSR3 HIR HJI hb3 bV2 B2 B3 B3' bV1
      have HCO : Hid (∀ w', Below V4.heap.size V4 w' → Calls Tryz.prog 65 #[.agg #[.string bk.trips[j].name, .slice ca bk.trips[j].calls.length cc], .int .i64 s] w' fun e w'' => e = .returned (.int .i64 (callAtC bk.trips[j].calls s)) ∧ Below w'.heap.size w' w'') := fun w' hb => callOf_any _ ca cc bk.trips[j].calls s w' (by omega) hws hwf hnd (HCA.out.keep hb)
      go_upto_region 7 with fail
      refine (HCO.out _ (by exact bV5)).mono ?_
      rintro e w6 ⟨rfl, hb6⟩
      have B6 : Below V4.heap.size V4 w6 := bV5.trans (hb6.mono bV5.size)
      have f0 := cell_keep B6 q0'
      have f1 := cell_keep B6 q1'
      have f2 := cell_keep B6 q2'
      have f3 := cell_keep B6 q3'
      have f4 := cell_keep B6 q4'
      have h0 := cell_keep B6 d0'
      have h1 := cell_keep B6 d1'
      have u0 := cell_keep hb6 t0
      have u1 := cell_keep hb6 t1
      have hlA4 : V1.heap.size < V4.heap.size := (Array.getElem?_eq_some_iff.1 HA4.out).1
      have HA6 : Hid (w6.heap[V1.heap.size]? = some (.cells (rowCells G[j]).toArray 124 (0, 0))) := by unfold Hid; rw [B6.block _ hlA4]; exact HA4.out
      clear q0' q1' q2' q3' q4' d0' d1' d2' e2 t0 t1 hb6 HA4 hV5 bV5 HCO n0 n1
      go_upto_region 7 with fail
      obtain ⟨LK, hLK⟩ : ∃ LK, callAtC bk.trips[j].calls s = LK := ⟨_, rfl⟩
      have HLK : Hid (callAtC bk.trips[j].calls s = LK) := hLK
      rw [hLK]
      clear hLK
      cases hre : reachB r.op r.call LK
      · have HTX : Hid (tellS bk G r s j true = ⟨#[]⟩) := by
          unfold Hid; rw [HT.out]
          rcases callAtC_inv (cs := bk.trips[j].calls) (s := s) with hk | ⟨k, hkl, hkc, hks⟩
          · exact textT_none hk
          · rw [textT_at hkc (by rw [List.length_take]; omega), if_neg (fun h => by
              have h1 := h.1
              rw [← hkc, HLK.out, hre] at h1
              exact absurd h1 (by decide))]
        have HRF : Hid (∀ w, Calls Tryz.prog 81 #[.agg #[.int .i64 r.tick, .int .i64 r.op, .int .i64 (j : Int), .int .i64 (c : Int), .int .i64 r.n], .int .i64 LK] w fun e w' => e = .returned (.bool false) ∧ Below w.heap.size w w') := fun w => by have := HRE.out LK w; rw [hre] at this; exact this
        clear hre HRE
        first
          | (go_region_with (go_at_call 81; refine (HRF.out _).mono ?_; rintro e w7 ⟨rfl, hb7⟩))
          | fail
        all_goals
          have B7 : Below V4.heap.size V4 w7 := B6.trans (((Below.refl _ _).drew.trans (by exact hb7)).mono B6.size)
          go_wp2_with fail
          go_ret
          exact ⟨true, fun _ => HALE.out.symm, ret_str HTX.out.symm, HFIN.out _ B7⟩
      · rcases callAtC_inv (cs := bk.trips[j].calls) (s := s) with hk | ⟨k, hkl, hkc, hks⟩
        · exfalso
          rw [HLK.out] at hk
          rw [hk] at hre
          have := HRC.out
          unfold reachB at hre
          simp at hre
        · have hkG : k < G[j].length := by omega
          have hkT : k < (G[j].take bk.trips[j].calls.length).length := by rw [List.length_take]; omega
          have hxe : (G[j].take bk.trips[j].calls.length)[k] = G[j][k] := List.getElem_take
          have HLKk : LK = (k : Int) := by rw [← HLK.out, hkc]
          subst HLKk
          have HTY : Hid (tellS bk G r s j true = if spokenB G[j][k] r.op = true then sayX bk.trips[j].name (endS bk bk.trips[j].calls (G[j].take bk.trips[j].calls.length)) (decide (endD bk.trips[j].calls (G[j].take bk.trips[j].calls.length) = s)) G[j][k] r.op r.n else ⟨#[]⟩) := by
            unfold Hid; rw [HT.out, textT_at hkc hkT, hxe]
            by_cases hsp : spokenB G[j][k] r.op = true
            · rw [if_pos ⟨hre, hsp⟩, if_pos hsp]
            · rw [if_neg (fun h => hsp h.2), if_neg hsp]
          have HRT : Hid (∀ w, Calls Tryz.prog 81 #[.agg #[.int .i64 r.tick, .int .i64 r.op, .int .i64 (j : Int), .int .i64 (c : Int), .int .i64 r.n], .int .i64 (k : Int)] w fun e w' => e = .returned (.bool true) ∧ Below w.heap.size w w') := fun w => by have := HRE.out k w; rw [hre] at this; exact this
          have HSP : Hid (∀ w, Calls Tryz.prog 82 #[.agg #[.int .i64 G[j][k].late, .int .i64 G[j][k].track, .bool G[j][k].off, .bool G[j][k].here, .bool G[j][k].gone], .int .i64 r.op] w fun e w' => e = .returned (.bool (spokenB G[j][k] r.op)) ∧ Below w.heap.size w w') := fun w => isSpoken_any G[j][k] r.op w
          obtain ⟨y0, y1, y2, y3, y4⟩ := block_cells HA6.out k hkG
          have hk0 : (0 : Int) ≤ (k : Int) := by omega
          have hk20 : (k : Int) < 20 := by omega
          have HXO : Hid (G[j][k].off = false → ∃ (e : Nat) (he : e < bk.trips[j].calls.length), endIdx (G[j].take bk.trips[j].calls.length) (G[j].take bk.trips[j].calls.length).length = (e : Int) ∧ k ≤ e ∧ endD bk.trips[j].calls (G[j].take bk.trips[j].calls.length) = bk.trips[j].calls[e].st ∧ (0 ≤ bk.trips[j].calls[e].st ∧ bk.trips[j].calls[e].st < bk.sts.length) ∧ (bk.trips[j].calls[e].st = bk.trips[j].calls[k].st ↔ e = k)) := fun ho => end_facts htr (by rw [List.length_take]; omega) hkl (by rw [hxe]; exact ho)
          have HTRK : Hid (1 ≤ G[j][k].track ∧ G[j][k].track ≤ 20) := by have := HTK.out _ (List.getElem_mem hkT); rw [hxe] at this; exact this
          have HKS : Hid (bk.trips[j].calls[k].st = s) := hks
          generalize G[j][k] = x at *
          clear hre HRE HT
          go_region_held3 (fun w' => w'.cell? ⟨w.heap.size, 0, none⟩ = some (.int .i64 r.tick) ∧ w'.cell? ⟨w.heap.size, 1, none⟩ = some (.int .i64 r.op) ∧ w'.cell? ⟨w.heap.size, 2, none⟩ = some (.int .i64 (j : Int)) ∧ w'.cell? ⟨w.heap.size, 3, none⟩ = some (.int .i64 (c : Int)) ∧ w'.cell? ⟨w.heap.size, 4, none⟩ = some (.int .i64 r.n) ∧ w'.cell? ⟨V1.heap.size, k * 5, none⟩ = some (.int .i64 x.late) ∧ w'.cell? ⟨V1.heap.size, k * 5 + 1, none⟩ = some (.int .i64 x.track) ∧ w'.cell? ⟨V1.heap.size, k * 5 + 2, none⟩ = some (.bool x.off) ∧ w'.cell? ⟨V1.heap.size, k * 5 + 3, none⟩ = some (.bool x.here) ∧ w'.cell? ⟨V1.heap.size, k * 5 + 4, none⟩ = some (.bool x.gone))
            (first
              | exact ⟨cell_keep hb8 (cell_keep hb7 (by exact f0)), cell_keep hb8 (cell_keep hb7 (by exact f1)), cell_keep hb8 (cell_keep hb7 (by exact f2)), cell_keep hb8 (cell_keep hb7 (by exact f3)), cell_keep hb8 (cell_keep hb7 (by exact f4)), cell_keep hb8 (cell_keep hb7 (by exact y0)), cell_keep hb8 (cell_keep hb7 (by exact y1)), cell_keep hb8 (cell_keep hb7 (by exact y2)), cell_keep hb8 (cell_keep hb7 (by exact y3)), cell_keep hb8 (cell_keep hb7 (by exact y4))⟩
              | exact ⟨cell_keep hb7 (by exact f0), cell_keep hb7 (by exact f1), cell_keep hb7 (by exact f2), cell_keep hb7 (by exact f3), cell_keep hb7 (by exact f4), cell_keep hb7 (by exact y0), cell_keep hb7 (by exact y1), cell_keep hb7 (by exact y2), cell_keep hb7 (by exact y3), cell_keep hb7 (by exact y4)⟩
              | go_keep)
            (first
              | (go_at_call 81; refine (HRT.out _).mono ?_; rintro e w7 ⟨rfl, hb7⟩)
              | (go_at_call 82; refine (HSP.out _).mono ?_; rintro e w8 ⟨rfl, hb8⟩))
          have hb68 : Below w6.heap.size w6 w8 := ((Below.refl _ _).drew.trans (by exact hb7)).trans (hb8.mono (by have := hb7.size; exact this))
          have B8 : Below V4.heap.size V4 w8 := B6.trans (hb68.mono B6.size)
          have F1 := cell_keep hb68 f1
          have F4 := cell_keep hb68 f4
          have H0 := cell_keep hb68 h0
          have U0 := cell_keep hb68 u0
          have U1 := cell_keep hb68 u1
          have Y0 := cell_keep hb68 y0
          have Y1 := cell_keep hb68 y1
          have Y2 := cell_keep hb68 y2
          have Y3 := cell_keep hb68 y3
          have Y4 := cell_keep hb68 y4
          have hlA6 : V1.heap.size < w6.heap.size := (Array.getElem?_eq_some_iff.1 HA6.out).1
          have HA8 : Hid (w8.heap[V1.heap.size]? = some (.cells (rowCells G[j]).toArray 124 (0, 0))) := by unfold Hid; rw [hb68.block _ hlA6]; exact HA6.out
          clear f0 f1 f2 f3 f4 h0 h1 u0 u1 y0 y1 y2 y3 y4 hb7 hb8 HRT HSP HA6
          cases hsp : spokenB x r.op
          · have HTX : Hid (tellS bk G r s j true = ⟨#[]⟩) := by unfold Hid; rw [HTY.out, if_neg (by rw [hsp]; simp)]
            clear hsp
            go_wp2_with fail
            go_ret
            exact ⟨true, fun _ => HALE.out.symm, ret_str HTX.out.symm, HFIN.out _ B8⟩
          · have ho : x.off = false := (spokenB_off hsp).2.1
            obtain ⟨e, he, hei, hke, hD, ⟨d0, d1⟩, hiff⟩ := HXO.out ho
            obtain ⟨q, hq⟩ := Int.eq_ofNat_of_zero_le d0
            have hql : q < bk.sts.length := by omega
            obtain ⟨cb, cof, hcae, k0, k1, k2, k3⟩ := HCA.out.keep B8 e he
            subst hcae
            obtain ⟨sb, sof, hse, m0⟩ := HSA.out.keep (B4.trans (B8.mono B4.size)) q hql
            subst hse
            rw [hq] at k0
            obtain ⟨EN, hEN⟩ : ∃ EN, decide ((q : Int) = s) = EN := ⟨_, rfl⟩
            have hqs : (q : Int) = s ↔ e = k := by rw [← hq, ← HKS.out]; exact hiff
            have hEN1 : ((k : Int) == (e : Int)) = EN := by
              rw [← hEN]
              by_cases h : e = k
              · rw [decide_eq_true (hqs.2 h)]; simp [h]
              · rw [decide_eq_false (fun h2 => h (hqs.1 h2))]; simp; omega
            have hEN2 : (k == e) = EN := by rw [← hEN1, Bool.eq_iff_iff]; simp only [beq_iff_eq]; omega
            have HT : Hid (tellS bk G r s j true = sayX bk.trips[j].name bk.sts[q] EN x r.op r.n) := by
              unfold Hid
              have hDq : endD bk.trips[j].calls (G[j].take bk.trips[j].calls.length) = (q : Int) := by rw [hD, hq]
              rw [HTY.out, if_pos hsp, hDq, hEN]
              unfold endS
              rw [hDq, Int.toNat_natCast, List.getElem?_eq_getElem hql]
              rfl
            have hs20 := HST.out q hql
            have HEO : Hid (Calls Tryz.prog 83 #[.slice (some ⟨V1.heap.size, 0, none⟩) bk.trips[j].calls.length 20] w8 fun e' w'' => e' = .returned (.int .i64 (e : Int)) ∧ w'' = w8) := by
              have hlt : (G[j].take bk.trips[j].calls.length).length = bk.trips[j].calls.length := by rw [List.length_take]; omega
              have := endOf_any (some ⟨V1.heap.size, 0, none⟩) 20 (G[j].take bk.trips[j].calls.length) w8 (by omega) (block_news HA8.out _)
              rw [hei, hlt] at this
              exact this
            have he0 : (0 : Int) ≤ (e : Int) := by omega
            have he1 : (e : Int) < (bk.trips[j].calls.length : Int) := by omega
            have hq0 : (0 : Int) ≤ (q : Int) := by omega
            have hq1 : (q : Int) < (bk.sts.length : Int) := by omega
            have hc20 : (bk.trips[j].calls.length : Int) ≤ 20 := by omega
            have l0 := cell_lt U0
            have l1 := cell_lt Y0
            have l2 := cell_lt H0
            have l3 := cell_lt k0
            have l4 := cell_lt m0
            have l5 := cell_lt F4
            have HTEX : Hid (∀ w', Below w8.heap.size w8 w' → Calls Tryz.prog 84 #[.agg #[.string bk.trips[j].name, .string bk.sts[q], .int .i64 r.n, .int .i64 x.late, .int .i64 x.track, .bool x.off, .bool x.here, .bool x.gone, .bool EN], .int .i64 r.op] w' fun e w'' => e = .returned (.string (sayX bk.trips[j].name bk.sts[q] EN x r.op r.n)) ∧ Below w'.heap.size w' w'') := fun w' hb' => text_any hit _ _ r.n x EN r.op w' hn20 hs20 HOP.out HNUM.out HTRK.out (hit.keep _ _ ((B4.trans (B8.mono B4.size)).trans (hb'.mono ((B4.trans (B8.mono B4.size)).size))) htab)
            clear k1 k2 k3 hwf hsp ho hei hke hD d0 d1 hiff hq hEN hqs HXO HTY HKS HTK HST HCA HSA HTA hxe hkT hkG hkc hks hb68
            generalize bk.trips[j].calls.length = cl at *
            generalize bk.trips[j].name = nm at *
            generalize bk.sts[q] = sn at *
            go_upto_region 10 with fail
            refine HEO.out.mono ?_
            rintro e' w9 ⟨rfl, rfl⟩
            clear HEO
            go_upto_region 10 with fail
            go_cut [12] (fun t wx => t = .pointer (some ⟨w9.heap.size, 0, none⟩) ∧ (wx.cell? ⟨w9.heap.size, 0, none⟩ = some (.string nm) ∧ wx.cell? ⟨w9.heap.size, 1, none⟩ = some (.string sn) ∧ wx.cell? ⟨w9.heap.size, 2, none⟩ = some (.int .i64 r.n) ∧ wx.cell? ⟨w9.heap.size, 3, none⟩ = some (.int .i64 x.late) ∧ wx.cell? ⟨w9.heap.size, 4, none⟩ = some (.int .i64 x.track) ∧ wx.cell? ⟨w9.heap.size, 5, none⟩ = some (.bool x.off) ∧ wx.cell? ⟨w9.heap.size, 6, none⟩ = some (.bool x.here) ∧ wx.cell? ⟨w9.heap.size, 7, none⟩ = some (.bool x.gone) ∧ wx.cell? ⟨w9.heap.size, 8, none⟩ = some (.bool EN)) ∧ Below w9.heap.size w9 wx)
            case first =>
              have nn0 := World.new_ne w9 _ U0
              have nn1 := World.new_ne w9 _ U1
              have nn2 := World.new_ne w9 _ H0
              have nn3 := World.new_ne w9 _ k0
              have nn4 := World.new_ne w9 _ m0
              have nn5 := World.new_ne w9 _ F4
              have nn6 := World.new_ne w9 _ Y0
              have nn7 := World.new_ne w9 _ Y1
              have nn8 := World.new_ne w9 _ Y2
              have nn9 := World.new_ne w9 _ Y3
              have nn10 := World.new_ne w9 _ Y4
              go_region_held3 (fun w' => w'.cell? ⟨V4.heap.size, 0, none⟩ = some (.string nm) ∧ w'.cell? ⟨V4.heap.size, 1, none⟩ = some (.slice (some ⟨cb, cof, none⟩) cl cc) ∧ w'.cell? ⟨Bb, 0, none⟩ = some (.slice (some ⟨sb, sof, none⟩) bk.sts.length sc) ∧ w'.cell? ⟨cb, cof + e * 4, none⟩ = some (.int .i64 (q : Int)) ∧ w'.cell? ⟨sb, sof + q, none⟩ = some (.string sn) ∧ w'.cell? ⟨w.heap.size, 4, none⟩ = some (.int .i64 r.n) ∧ w'.cell? ⟨V1.heap.size, k * 5, none⟩ = some (.int .i64 x.late) ∧ w'.cell? ⟨V1.heap.size, k * 5 + 1, none⟩ = some (.int .i64 x.track) ∧ w'.cell? ⟨V1.heap.size, k * 5 + 2, none⟩ = some (.bool x.off) ∧ w'.cell? ⟨V1.heap.size, k * 5 + 3, none⟩ = some (.bool x.here) ∧ w'.cell? ⟨V1.heap.size, k * 5 + 4, none⟩ = some (.bool x.gone))
                (go_keep) (fail)
              all_goals
                go_wp2_with fail
                go_meet
                exact ⟨rfl, ⟨by simp [go_sem], by simp [go_sem], by simp [go_sem], by simp [go_sem], by simp [go_sem], by simp [go_sem], by simp [go_sem], by simp [go_sem], by simp [go_sem]⟩, ((Below.refl _ _).alloc (Nat.le_refl _) _).drew⟩
            case rest =>
              rename World => V10
              obtain ⟨rfl, ⟨a0, a1, a2, a3, a4, a5, a6, a7, a8⟩, hb10⟩ := hcut
              have F1' := cell_keep hb10 F1
              have B10 : Below V4.heap.size V4 V10 := B8.trans (hb10.mono B8.size)
              go_wp2_with fail
              refine (HTEX.out _ (by exact hb10)).mono ?_
              rintro e' w11 ⟨rfl, hb11⟩
              have B11 : Below V4.heap.size V4 w11 := B10.trans (hb11.mono B10.size)
              go_wp2_with fail
              go_ret
              exact ⟨true, fun _ => HALE.out.symm, ret_str HT.out.symm, HFIN.out _ B11⟩

end Go.Proofs.YtjioingdpfgadabGreatDoor
namespace Go.Proofs.YtjioingdpfgadabGreatDoor
open Go Go.RowKit Go.Deep

theorem uSaid : Tryz.prog.underlying 45 = some (.slice 96) := by kernel_rfl
theorem infSaid : (Tryz.prog.info? 96).map (fun i => (i.zero, i.size, i.bytes)) = some (some (.agg #[.int .i64 0, .string ⟨#[]⟩]), 2, 24) := by kernel_rfl
theorem cells_two_at (w : World) (x : SaidD) (t : TypeId) : ∀ j u, (twoOf x)[j]? = some u → (w.alloc (.cells #[.int .i64 x.tick, .string x.text] t)).cell? ((⟨w.heap.size, 0, none⟩ : Addr).add j) = some u := by
  intro j u hj
  have hadd : (⟨w.heap.size, 0, none⟩ : Addr).add j = ⟨w.heap.size, j, none⟩ := by unfold Addr.add; split <;> simp_all
  rw [hadd, cell_of_row _ _ _ _ _ _ (heap_alloc_last w _)]
  simpa [twoOf] using hj
/-- l2do writes into the news alone. -/
theorem l2do_said (B : Nat) (v : Value) (nss : List (List NewsD)) (vs : List Value) (r : RepD) (j k : Nat) (w : World) (hj : j < nss.length) (hjk : r.trip = (j : Int)) (hk : k < nss[j].length) (hkk : r.call = (k : Int)) (hm2 : nss[j].length ≤ 1048576) (hop : 1 ≤ r.op ∧ r.op ≤ 5) (hB : B ≤ w.heap.size) (hat : NewsOwnAt B w v nss vs) :
    Calls Tryz.prog 54 #[v, repV r] w fun e w' => e = .returned (.tuple #[]) ∧ NewsOwnAt B w' v (nss.set j (doRow r nss[j])) vs ∧ Below B w w' ∧ ∀ B' u K, SaidsOwn B' w u K → SaidsOwn B' w' u K := by
  have hj' : j < vs.length := by rw [hat.len]; exact hj
  have hr := hat.rows j hj hj'
  obtain ⟨gv, cv, rfl, _, _⟩ := hat.outer.form (by omega)
  obtain ⟨g, cap, e, hg1, _⟩ := hr.form (by omega)
  have hv : w.cell? ⟨gv, j, none⟩ = some vs[j] := by rw [hat.outer.cellAt j (by omega), List.getElem?_eq_getElem hj']
  rw [e] at hr
  have fin : ∀ w', w'.ownsRow B 115 5 (.slice (some ⟨g, 0, none⟩) nss[j].length cap) nss[j].length (rowCells (doRow r nss[j])) → w.grownBy w' (some g) → NewsOwnAt B w' (.slice (some ⟨gv, 0, none⟩) nss.length cv) (nss.set j (doRow r nss[j])) vs ∧ Below B w w' ∧ ∀ B' u K, SaidsOwn B' w u K → SaidsOwn B' w' u K := fun w' h1 h2 => by
    refine ⟨hat.stored j hj hj' (by rw [e, doRow_length]; exact h1) (by rw [e]; exact h2), Below.grown (Below.refl _ _) h2 hB fun x hx => ?_, fun B' u K hu => ?_⟩
    · cases hx
      exact hg1
    · have hu0 : w.ownsRow B' 96 2 u K.length (twos K) := hu
      refine hu0.kept h2 ?_
      cases hb : u.ownBlock with
      | none => exact Or.inl rfl
      | some g' =>
        refine Or.inr fun e2 => ?_
        have := owns_types hr hu0 e2.symm hb
        exact absurd this (by decide)
  rw [e] at hv
  rcases (by omega : r.op = 1 ∨ r.op = 2 ∨ r.op = 3 ∨ r.op = 4 ∨ r.op = 5) with h | h | h | h | h
  · exact (l2do_1 B gv cv g cap _ _ r j k w hj hjk hk hkk hm2 h hv hr).mono fun _ w' ⟨e, h1, h2⟩ => ⟨e, fin w' h1 h2⟩
  · exact (l2do_2 B gv cv g cap _ _ r j k w hj hjk hk hkk h hv hr).mono fun _ w' ⟨e, h1, h2⟩ => ⟨e, fin w' h1 h2⟩
  · exact (l2do_3 B gv cv g cap _ _ r j k w hj hjk hk hkk hm2 h hv hr).mono fun _ w' ⟨e, h1, h2⟩ => ⟨e, fin w' h1 h2⟩
  · exact (l2do_4 B gv cv g cap _ _ r j k w hj hjk hk hkk h hv hr).mono fun _ w' ⟨e, h1, h2⟩ => ⟨e, fin w' h1 h2⟩
  · exact (l2do_5 B gv cv g cap _ _ r j k w hj hjk hk hkk h hv hr).mono fun _ w' ⟨e, h1, h2⟩ => ⟨e, fin w' h1 h2⟩
/-- An append to what was said keeps the news. -/
theorem news_said {B B' : Nat} {w w' : World} {v u : Value} {nss : List (List NewsD)} {vs : List Value} {K : List SaidD} (h : NewsOwnAt B w v nss vs) (hu : SaidsOwn B' w u K) (hg : w.grownBy w' u.ownBlock) : NewsOwnAt B w' v nss vs := by
  have hu0 : w.ownsRow B' 96 2 u K.length (twos K) := hu
  refine ⟨h.outer.kept hg ?_, h.len, fun i h1 h2 => (h.rows i h1 h2).kept hg ?_, h.apart⟩
  · cases hb : v.ownBlock with
    | none => exact Or.inl rfl
    | some g =>
      refine Or.inr fun e => ?_
      have := owns_types hu0 h.outer e.symm hb
      exact absurd this (by decide)
  · cases hb : (vs[i]'h2).ownBlock with
    | none => exact Or.inl rfl
    | some g =>
      refine Or.inr fun e => ?_
      have := owns_types hu0 (h.rows i h1 h2) e.symm hb
      exact absurd this (by decide)
theorem text_toList {s : ByteArray} (h : ¬ s = ⟨#[]⟩) : ¬ s.toList = [] ∧ s.toList.isEmpty = false := by
  have e : s.toList = s.data.toList := ByteArray.toList_eq s
  have h1 : ¬ s.toList = [] := fun h0 => h (by
    rw [e] at h0
    have h2 : s.data = #[] := Array.toList_eq_nil_iff.1 h0
    cases s; simp at h2; rw [h2])
  exact ⟨h1, by cases hl : s.toList with
    | nil => exact absurd hl h1
    | cons a l => rfl⟩
theorem news_alloc {B : Nat} {w : World} {v : Value} {nss : List (List NewsD)} {vs : List Value} (h : NewsOwnAt B w v nss vs) (o : Obj) : NewsOwnAt B (w.alloc o) v nss vs := h.below ((Below.refl _ _).alloc (Nat.le_refl _) _)

set_option maxRecDepth 100000 in
set_option maxHeartbeats 8000000 in
theorem specSay_any (v : Value) (bk : BookD) (ra : Option Addr) (rc : Nat) (rs : List RepD) (s frm till : Int) (w : World) (hn : bookSize bk ≤ 1048576) (hm : rs.length ≤ 1048576) (hat : BookAt w v bk) (hra : RepsAt w ra rs) :
    Calls Tryz.prog 21 #[v, .slice ra rs.length rc, .int .i64 s, .int .i64 frm, .int .i64 till] w fun e w' => ∃ v', e = .returned v' ∧ SaidsOwn w.heap.size w' v' (sayD bk rs s frm till) ∧ Below w.heap.size w w' := by
  obtain ⟨sa, sc, ta, tc, rfl, hsa, hta⟩ := hat
  have HBK : Hid (BookAt w (.agg #[.slice sa bk.sts.length sc, .slice ta bk.trips.length tc]) bk) := ⟨sa, sc, ta, tc, rfl, hsa, hta⟩
  have hb0 := bx_below w (.cells #[.slice sa bk.sts.length sc, .slice ta bk.trips.length tc] 33)
  have n1 : bk.sts.length ≤ 1048576 := by unfold bookSize strsSize at hn; omega
  clear hsa hta
  cases hrep : reportsB bk rs
  · have HK : Hid (sayD bk rs s frm till = []) := sayD_no (fun h => by rw [hrep] at h; exact absurd h.1 (by decide))
    go_enter Tryz.func21, Tryz.ntmps21
    go_wp2_with fail
    refine (l2reports_any _ bk _ _ rs _ hn hm (by exact HBK.out.keep hb0) (by exact hra.keep hb0)).mono ?_
    rintro e w1 ⟨rfl, hb1⟩
    rw [hrep]
    go_wp2_with fail
    go_ret
    refine ⟨_, rfl, ?_, hb0.trans (hb1.mono (by simp))⟩
    rw [HK.out]
    exact World.ownsRow_nil _ _ _ _
  · by_cases hin : 0 ≤ s ∧ s < bk.sts.length
    · have HK : Hid (sayD bk rs s frm till = saidTo bk rs s frm till rs.length) := sayD_yes ⟨hrep, hin⟩
      obtain ⟨s0, s1⟩ := hin
      obtain ⟨r0, _, hall⟩ := reportsB_inv hrep
      have HALL : Hid (∀ k (hk : k < rs.length), reportB bk rs[k] = true ∧ prevTick rs k ≤ rs[k].tick) := hall
      have HRS : Hid (∀ r ∈ rs, reportB bk r = true) := fun r hr => by obtain ⟨i, hi, rfl⟩ := List.getElem_of_mem hr; exact (hall i hi).1
      have HTR : Hid (∀ i (h : i < bk.trips.length), tripB bk.sts.length bk.trips[i] = true) := (faultD_zero r0).2
      have HSN : Hid (∀ i (h : i < bk.sts.length), bk.sts[i].size ≤ 20) := fun i h => nameB_size (sts_named r0 (List.getElem?_eq_getElem h))
      have HRA : Hid (RepsAt w ra rs) := hra
      have n3 : ∀ i (h : i < bk.trips.length), bk.trips[i].calls.length ≤ 1048576 := by
        intro i h
        have := sumTrips_get bk.trips i h
        unfold bookSize tripsSize at hn; unfold tripSize at this; omega
      have HN3 : Hid (∀ i (h : i < bk.trips.length), bk.trips[i].calls.length ≤ 1048576) := n3
      obtain ⟨ii, hi0, he0⟩ := Option.map_eq_some_iff.1 infSaid
      simp only [Prod.mk.injEq] at he0
      have HI0 : Hid (ii.zero = some (.agg #[.int .i64 0, .string ⟨#[]⟩]) ∧ ii.size = 2 ∧ ii.bytes = 24) := he0
      have HJ0 : Hid (Tryz.prog.info? 96 = some ii) := hi0
      clear hall n3 r0 hi0 he0
      go_enter Tryz.func21, Tryz.ntmps21
      go_wp2_with fail
      refine (l2reports_any _ bk _ _ rs _ hn hm (by exact HBK.out.keep hb0) (by exact hra.keep hb0)).mono ?_
      rintro e w1 ⟨rfl, hb1⟩
      rw [hrep]
      have hB1 : Below w.heap.size w w1 := hb0.trans (hb1.mono (by simp))
      have z1 := hb1.size
      simp at z1
      have q0 : w1.cell? ⟨w.heap.size, 0, none⟩ = some (.slice sa bk.sts.length sc) := cell_keep hb1 (by simp [go_sem])
      have q1 : w1.cell? ⟨w.heap.size, 1, none⟩ = some (.slice ta bk.trips.length tc) := cell_keep hb1 (by simp [go_sem])
      clear hra hrep hb1
      go_wp2_with fail
      refine (l1in_yes _ _ _ _ (by omega) (by omega)).mono ?_
      rintro e W1 ⟨rfl, rfl⟩
      go_wp2_with fail
      refine (l2news_any _ bk _ hn (by exact HBK.out.keep hB1)).mono ?_
      rintro e w2 ⟨nv, rfl, ⟨vs, hvs⟩, hb2⟩
      have hB2 : Below w.heap.size w w2 := hB1.trans (hb2.mono (by omega))
      have z2 := hb2.size
      have HV : Hid (NewsOwnAt W1.heap.size w2 nv (startNews bk) vs) := hvs
      have a0 := cell_keep hb2 q0
      have a1 := cell_keep hb2 q1
      have HA0 : Hid (w2.cell? ⟨w.heap.size, 0, none⟩ = some (.slice sa bk.sts.length sc) ∧ w2.cell? ⟨w.heap.size, 1, none⟩ = some (.slice ta bk.trips.length tc)) := ⟨a0, a1⟩
      have hz00 : w.heap.size < W1.heap.size := by omega
      clear hvs q0 q1 a0 a1 hb2 hB1
      go_wp2_with fail
      have hz0 : w.heap.size ≤ W1.heap.size := by omega
      go_loopw [12, 33] (fun out i wr => ∃ k : Nat, k ≤ rs.length ∧ i = .int .i64 k ∧ Hid (NewsOwnAt W1.heap.size wr nv (newsTo bk lastTick (rs.take k)) vs) ∧ Hid (SaidsOwn W1.heap.size wr out (saidTo bk rs s frm till k)) ∧ Below W1.heap.size w2 wr) (fun _ i _ => rs.length - (intOf i).toNat)
      case atStart => exact ⟨0, Nat.zero_le _, rfl, HV, World.ownsRow_nil _ _ _ _, Below.refl _ _⟩
      case round =>
        obtain ⟨k, hk, rfl, HNk, HOk, hbel⟩ := hrel
        have hB : Below w.heap.size w wr := hB2.trans (hbel.mono hz0)
        have hz : W1.heap.size ≤ wr.heap.size := by have := hbel.size; omega
        have e0 : wr.cell? ⟨w.heap.size, 0, none⟩ = some (.slice sa bk.sts.length sc) := by rw [hbel.cell (p := ⟨w.heap.size, 0, none⟩) hz00]; exact HA0.out.1
        have e1 : wr.cell? ⟨w.heap.size, 1, none⟩ = some (.slice ta bk.trips.length tc) := by rw [hbel.cell (p := ⟨w.heap.size, 1, none⟩) hz00]; exact HA0.out.2
        clear HV z1 hb0
        by_cases hlt : k < rs.length
        · obtain ⟨b, o, rfl, c0, c1, c2, c3, c4⟩ := HRA.out.keep hB k hlt
          have hrp := (HALL.out k hlt).1
          have HT := newsTo_take bk lastTick rs k hlt
          have hsh := shape_to bk lastTick (rs.take k)
          have HSA := saidAt_at bk rs s frm till k hlt
          have HST : Hid (saidTo bk rs s frm till (k + 1) = saidTo bk rs s frm till k ++ saidAt bk rs s frm till k) := rfl
          have htk : TrackOk (newsTo bk lastTick (rs.take k)) := track_to bk lastTick (rs.take k) (fun t ht i hi => by obtain ⟨q, hq, rfl⟩ := List.getElem_of_mem ht; exact (tripB_st (HTR.out q hq) i hi).2) (fun r hr => HRS.out r (List.mem_of_mem_take hr))
          have hsl := saidTo_length bk rs s frm till k
          generalize rs[k] = r at *
          generalize newsTo bk lastTick (rs.take k) = nss at *
          obtain ⟨_, ⟨ht0, ht1⟩, hop, ⟨hj0, hj1⟩, hc0, hc1⟩ := reportB_head hrp
          have hnum : r.op = 1 ∨ r.op = 2 → 0 ≤ r.n ∧ r.n ≤ 1000000 := fun ho => by
            rw [reportB_yes (reportB_head hrp)] at hrp
            rcases ho with ho | ho
            · rw [numB_1 ho] at hrp; have := of_decide_eq_true hrp; omega
            · rw [numB_2 ho] at hrp; have := of_decide_eq_true hrp; omega
          obtain ⟨j, hj⟩ := Int.eq_ofNat_of_zero_le hj0
          obtain ⟨m, hmm⟩ := Int.eq_ofNat_of_zero_le hc0
          have hj2 : j < bk.trips.length := by omega
          have hjl : j < nss.length := by rw [hsh.length]; omega
          have hjc : nss[j].length = bk.trips[j].calls.length := by rw [hsh.at j hjl, callsOf_at bk j hj2]
          have hml : m < nss[j].length := by rw [hsh.at j hjl, ← hj]; omega
          have hm2 : nss[j].length ≤ 1048576 := by rw [hjc]; exact HN3.out j hj2
          have htl : r.tick ≤ lastTick := ht1
          have hY := stepNews_yes lastTick nss r j hjl hj htl
          have hN := stepNews_no lastTick nss r
          have hC := countsN_at nss r j m hjl hj hml hmm
          have HTX : Hid (textD bk nss r s = textT bk bk.trips[j] nss[j] r s) := textD_at bk nss r s j hj2 hjl hj
          have H1 : Hid (repV r = .agg #[.int .i64 r.tick, .int .i64 r.op, .int .i64 r.trip, .int .i64 r.call, .int .i64 r.n]) := rfl
          have HL4 : Hid (∀ (w : World) (v : Value) (na : Option Addr) (nc : Nat), BookAt w v bk → NewsSSAt w na nss → Calls Tryz.prog 53 #[v, .slice na nss.length nc, repV r, .int .i64 s] w fun e w' => e = .returned (.string (textT bk bk.trips[j] nss[j] r s)) ∧ Below w.heap.size w w') := fun w v na nc h1 h2 => l4text_any v bk na nc nss r s j w hj2 hj hjl hjc (HTR.out j hj2) hn hop hnum (htk _ (List.getElem_mem hjl)) (nameB_size (tripB_named (HTR.out j hj2))) HSN.out h1 h2
          obtain ⟨na, nc, rfl, hss⟩ := HNk.out.at
          have HSS : Hid (NewsSSAt wr na nss) := hss
          have hba : Below wr.heap.size wr (wr.alloc (.cells #[.int .i64 r.tick, .int .i64 r.op, .int .i64 r.trip, .int .i64 r.call, .int .i64 r.n] 64)) := (Below.refl _ _).alloc (Nat.le_refl _) _
          have HOP : Hid (1 ≤ r.op ∧ r.op ≤ 5) := hop
          have HJ : Hid (r.trip = (j : Int)) := hj
          have HM : Hid (r.call = (m : Int)) := hmm
          clear hss hsh hrp ht0 ht1 hc0 hc1 hop hj hmm hj0 hj1 htk hnum htl
          cases hcn : countsN nss r
          · have HE : Hid (newsTo bk lastTick (rs.take (k + 1)) = nss) := by unfold Hid; rw [HT, hN (by rw [hcn]; simp)]
            have HS2 : Hid (saidTo bk rs s frm till (k + 1) = saidTo bk rs s frm till k) := by unfold Hid; rw [HST.out, HSA, if_neg (by rw [hcn]; simp), List.append_nil]
            rw [hcn] at hC
            have HC : Hid (false = countsX nss[j] m nss[j][m] r) := hC
            clear HT hY hN hC hcn HSA
            go_wp2_with fail
            rw [← H1.out]
            refine (l2counts_any _ _ nss r j m _ hjl HJ.out hml HM.out hm2 (by exact HSS.out.keep hba)).mono ?_
            rintro e w3 ⟨rfl, hb3⟩
            rw [← HC.out]
            have hb3' := hba.trans (hb3.mono (by simp))
            go_wp2_with fail
            go_roundw
            case rel => exact ⟨k + 1, by omega, by go_num, by rw [HE.out]; exact HNk.out.below hb3', by rw [HS2.out]; exact HOk.out.below hb3', hbel.trans (hb3'.mono hz)⟩
            case measure => simp [intOf]; omega
          · have HE : Hid (newsTo bk lastTick (rs.take (k + 1)) = nss.set j (doRow r nss[j])) := by unfold Hid; rw [HT, hY hcn]
            rw [hcn] at hC
            have HC : Hid (true = countsX nss[j] m nss[j][m] r) := hC
            rw [HTX.out] at HSA
            have HSA' : Hid (saidAt bk rs s frm till k = if true = true ∧ textT bk bk.trips[j] nss[j] r s ≠ ⟨#[]⟩ ∧ frm ≤ r.tick ∧ r.tick ≤ till then [⟨r.tick, textT bk bk.trips[j] nss[j] r s⟩] else []) := by rw [hcn] at HSA; exact HSA
            clear HT hY hN hC hcn HSA HTX
            go_wp2_with fail
            rw [← H1.out]
            refine (l2counts_any _ _ nss r j m _ hjl HJ.out hml HM.out hm2 (by exact HSS.out.keep hba)).mono ?_
            rintro e w3 ⟨rfl, hb3⟩
            rw [← HC.out]
            have x0 : w3.cell? ⟨wr.heap.size, 0, none⟩ = some (.int .i64 r.tick) := cell_keep hb3 (by simp [go_sem])
            have x1 : w3.cell? ⟨wr.heap.size, 1, none⟩ = some (.int .i64 r.op) := cell_keep hb3 (by simp [go_sem])
            have x2 : w3.cell? ⟨wr.heap.size, 2, none⟩ = some (.int .i64 r.trip) := cell_keep hb3 (by simp [go_sem])
            have x3 : w3.cell? ⟨wr.heap.size, 3, none⟩ = some (.int .i64 r.call) := cell_keep hb3 (by simp [go_sem])
            have x4 : w3.cell? ⟨wr.heap.size, 4, none⟩ = some (.int .i64 r.n) := cell_keep hb3 (by simp [go_sem])
            have hb3' := hba.trans (hb3.mono (by simp))
            have f0 := cell_keep hb3' e0
            have f1 := cell_keep hb3' e1
            have hB3 : Below w.heap.size w w3 := hB.trans (hb3'.mono hB.size)
            clear hb3 e0 e1
            go_wp2_with fail
            rw [← H1.out]
            refine (HL4.out _ _ _ _ (by exact HBK.out.keep hB3) (by exact HSS.out.keep hb3')).mono ?_
            rintro e w4 ⟨rfl, hb4⟩
            have hb4' := hb3'.trans (hb4.mono hb3'.size)
            have y0 := cell_keep hb4 x0
            have y1 := cell_keep hb4 x1
            have y2 := cell_keep hb4 x2
            have y3 := cell_keep hb4 x3
            have y4 := cell_keep hb4 x4
            have HN4 : Hid (NewsOwnAt W1.heap.size w4 (.slice na nss.length nc) nss vs) := HNk.out.below hb4'
            have HO4 : Hid (SaidsOwn W1.heap.size w4 u12 (saidTo bk rs s frm till k)) := HOk.out.below hb4'
            have HOW : Hid (SaidsOwn W1.heap.size wr u12 (saidTo bk rs s frm till k)) := HOk
            have hbel4 : Below W1.heap.size w2 w4 := hbel.trans (hb4'.mono hz)
            have z4 : W1.heap.size ≤ w4.heap.size := by have := hbel4.size; have := hB2.size; omega
            clear hb4 x0 x1 x2 x3 x4 f0 f1 hb3' hb4' hba HNk HOk HL4 HSS
            generalize textT bk bk.trips[j] nss[j] r s = TT at *
            have FIN : Hid (saidTo bk rs s frm till (k + 1) = saidTo bk rs s frm till k → ∀ w5, NewsOwnAt W1.heap.size w5 (.slice na nss.length nc) (nss.set j (doRow r nss[j])) vs ∧ Below W1.heap.size w4 w5 ∧ (∀ B' u K, SaidsOwn B' w4 u K → SaidsOwn B' w5 u K) → Hid (NewsOwnAt W1.heap.size w5 (.slice na nss.length nc) (newsTo bk lastTick (rs.take (k + 1))) vs) ∧ Hid (SaidsOwn W1.heap.size w5 u12 (saidTo bk rs s frm till (k + 1))) ∧ Below W1.heap.size w2 w5) := fun hs w5 ⟨h1, h2, h3⟩ => ⟨by rw [HE.out]; exact h1, by rw [hs]; exact h3 _ _ _ HO4.out, hbel4.trans h2⟩
            by_cases hte : TT = ⟨#[]⟩
            · have HS2 : Hid (saidTo bk rs s frm till (k + 1) = saidTo bk rs s frm till k) := by unfold Hid; rw [HST.out, HSA'.out, if_neg (fun h => h.2.1 hte), List.append_nil]
              subst hte
              clear HSA'
              go_wp2_with fail
              rw [← H1.out]
              refine (l2do_said W1.heap.size _ nss vs r j m _ hjl HJ.out hml HM.out hm2 HOP.out z4 HN4.out).mono ?_
              rintro e w5 ⟨rfl, hdone⟩
              have HDN := FIN.out HS2.out w5 hdone
              have HDN : Hid _ := HDN
              clear hdone
              go_wp2_with fail
              go_roundw
              case rel => exact ⟨k + 1, by omega, by go_num, HDN.out⟩
              case measure => simp [intOf]; omega
            · obtain ⟨bte, btf⟩ := text_toList hte
              by_cases hf : frm ≤ r.tick
              · by_cases ht : r.tick ≤ till
                · have HS2 : Hid (saidTo bk rs s frm till (k + 1) = saidTo bk rs s frm till k ++ [⟨r.tick, TT⟩]) := by unfold Hid; rw [HST.out, HSA'.out, if_pos ⟨by first | rfl | trivial, hte, hf, ht⟩]
                  clear HSA' hte FIN
                  go_wp2_with (first
                    | (at_builtin; refine wpList_append_own_at _ rfl _ _ 45 rfl W1.heap.size 96 ii (.agg #[.int .i64 0, .string ⟨#[]⟩]) 2 24 uSaid HJ0.out HI0.out.1 HI0.out.2.1 HI0.out.2.2 rfl (by decide) _ _ _ rfl (HO4.out.alloc _) ⟨w4.heap.size, 0, none⟩ 1 1 (twoOf ⟨r.tick, TT⟩) rfl rfl (cells_two_at _ ⟨r.tick, TT⟩ _) ?c2 ?c3 ?c4 ?c5 ?_)
                    | fail)
                  case c2 => intro u hu; simp only [twoOf, List.mem_cons, List.not_mem_nil, or_false] at hu; rcases hu with rfl | rfl <;> rfl
                  case c3 => unfold maxLen; omega
                  case c4 => omega
                  case c5 => simp; omega
                  intro v' w5 hown' hgrow _ _
                  have HO5 : Hid (SaidsOwn W1.heap.size w5 v' (saidTo bk rs s frm till (k + 1))) := by
                    unfold Hid SaidsOwn; rw [HS2.out, twos_snoc, List.length_append]
                    exact hown'
                  have hag : Below w4.heap.size w4 (w4.alloc (.cells #[.int .i64 r.tick, .string TT] 96)) := (Below.refl _ _).alloc (Nat.le_refl _) _
                  have HN5 : Hid (NewsOwnAt W1.heap.size w5 (.slice na nss.length nc) nss vs) := news_said (news_alloc HN4.out _) (HO4.out.below hag) hgrow
                  have hbel5 : Below W1.heap.size w2 w5 := Below.grown (hbel4.alloc (by have := hbel4.size; have := hB2.size; omega) _) hgrow (by simp; omega) fun g hgg => (World.ownsRow.lt (show w4.ownsRow W1.heap.size 96 2 u12 _ _ from HO4.out) g hgg).1
                  have hkp : ∀ {c : Nat} {u : Value}, w4.cell? ⟨wr.heap.size, c, none⟩ = some u → w5.cell? ⟨wr.heap.size, c, none⟩ = some u := fun {c u} hc => by
                    have hlt4 := cell_lt hc
                    have hne : u12.ownBlock ≠ some wr.heap.size := fun he => by
                      have := owns_lt (show wr.ownsRow W1.heap.size 96 2 u12 _ _ from HOW.out) _ he
                      exact absurd this (by simp)
                    rw [World.cell?_of_block (w := w4) (by rw [hgrow.block _ (by simp; omega) (fun e => hne e.symm), hag.block _ hlt4])]
                    exact hc
                  have x0 := hkp y0
                  have x1 := hkp y1
                  have x2 := hkp y2
                  have x3 := hkp y3
                  have x4 := hkp y4
                  have z5 : W1.heap.size ≤ w5.heap.size := by have := hbel5.size; have := hB2.size; omega
                  clear hown' hgrow hkp y0 y1 y2 y3 y4 HO4 HN4
                  go_wp2_with fail
                  rw [← H1.out]
                  refine (l2do_said W1.heap.size _ nss vs r j m _ hjl HJ.out hml HM.out hm2 HOP.out z5 HN5.out).mono ?_
                  rintro e w6 ⟨rfl, h1, h2, h3⟩
                  have HN6 : Hid (NewsOwnAt W1.heap.size w6 (.slice na nss.length nc) (newsTo bk lastTick (rs.take (k + 1))) vs) := by unfold Hid; rw [HE.out]; exact h1
                  have HO6 : Hid (SaidsOwn W1.heap.size w6 v' (saidTo bk rs s frm till (k + 1))) := h3 _ _ _ HO5.out
                  clear h1 h3
                  go_wp2_with fail
                  go_roundw
                  case rel => exact ⟨k + 1, by omega, by go_num, HN6, HO6, hbel5.trans h2⟩
                  case measure => simp [intOf]; omega
                · have HS2 : Hid (saidTo bk rs s frm till (k + 1) = saidTo bk rs s frm till k) := by unfold Hid; rw [HST.out, HSA'.out, if_neg (fun h => ht h.2.2.2), List.append_nil]
                  clear HSA' hte
                  go_wp2_with fail
                  rw [← H1.out]
                  refine (l2do_said W1.heap.size _ nss vs r j m _ hjl HJ.out hml HM.out hm2 HOP.out z4 HN4.out).mono ?_
                  rintro e w5 ⟨rfl, hdone⟩
                  have HDN := FIN.out HS2.out w5 hdone
                  have HDN : Hid _ := HDN
                  clear hdone
                  go_wp2_with fail
                  go_roundw
                  case rel => exact ⟨k + 1, by omega, by go_num, HDN.out⟩
                  case measure => simp [intOf]; omega
              · have HS2 : Hid (saidTo bk rs s frm till (k + 1) = saidTo bk rs s frm till k) := by unfold Hid; rw [HST.out, HSA'.out, if_neg (fun h => hf h.2.2.1), List.append_nil]
                clear HSA' hte
                go_wp2_with fail
                rw [← H1.out]
                refine (l2do_said W1.heap.size _ nss vs r j m _ hjl HJ.out hml HM.out hm2 HOP.out z4 HN4.out).mono ?_
                rintro e w5 ⟨rfl, hdone⟩
                have HDN := FIN.out HS2.out w5 hdone
                have HDN : Hid _ := HDN
                clear hdone
                go_wp2_with fail
                go_roundw
                case rel => exact ⟨k + 1, by omega, by go_num, HDN.out⟩
                case measure => simp [intOf]; omega
        · have hk' : k = rs.length := by omega
          subst hk'
          clear e0 e1
          go_wp2_with fail
          go_ret
          refine ⟨_, rfl, ?_, hB⟩
          rw [HK.out]
          exact owns_mono HOk.out hz0
    · have HK : Hid (sayD bk rs s frm till = []) := sayD_no (fun h => hin h.2)
      go_enter Tryz.func21, Tryz.ntmps21
      go_wp2_with fail
      refine (l2reports_any _ bk _ _ rs _ hn hm (by exact HBK.out.keep hb0) (by exact hra.keep hb0)).mono ?_
      rintro e w1 ⟨rfl, hb1⟩
      rw [hrep]
      have hB1 : Below w.heap.size w w1 := hb0.trans (hb1.mono (by simp))
      have q0 : w1.cell? ⟨w.heap.size, 0, none⟩ = some (.slice sa bk.sts.length sc) := cell_keep hb1 (by simp [go_sem])
      clear hb1
      go_wp2_with fail
      refine (l1in_no _ _ _ _ (by omega)).mono ?_
      rintro e w1' ⟨rfl, rfl⟩
      go_wp2_with fail
      go_ret
      refine ⟨_, rfl, ?_, hB1⟩
      rw [HK.out]
      exact World.ownsRow_nil _ _ _ _

end Go.Proofs.YtjioingdpfgadabGreatDoor
namespace Go.Proofs.YtjioingdpfgadabGreatDoor
open Go Go.RowKit Go.Deep

/-- What the program holds of a trip and what the document asks. -/
theorem tell_counts {bk : BookD} {G N : List (List NewsD)} {r : RepD} {j c : Nat} (hG : Grid G) (h40 : bk.trips.length ≤ 40) (h20 : ∀ i (h : i < bk.trips.length), 2 ≤ bk.trips[i].calls.length ∧ bk.trips[i].calls.length ≤ 20) (hN : cutRows bk.trips G = N)
    (hr : reportB bk r = true) (hj : r.trip = (j : Int)) (hjl : j < bk.trips.length) (hc : r.call = (c : Int)) (hjG : j < G.length) (hcG : c < G[j].length) (s : Int) :
    allowsX G[j] c (lastB bk r) G[j][c] r = countsN N r ∧ textD bk N r s = textT bk bk.trips[j] (G[j].take bk.trips[j].calls.length) r s ∧ ∃ hjN : j < N.length, N[j] = G[j].take bk.trips[j].calls.length := by
  obtain ⟨_, _, ho, _, _, i4⟩ := reportB_head hr
  have hcl : callsOf bk r.trip = bk.trips[j].calls := by rw [hj]; exact callsOf_at bk j hjl
  have hcn : c < bk.trips[j].calls.length := by rw [hcl, hc] at i4; omega
  have hNl : N.length = bk.trips.length := by rw [← hN]; exact cutRows_length (by rw [hG.len]; exact h40)
  have hjN : j < N.length := by omega
  have hNj : N[j] = G[j].take bk.trips[j].calls.length := by subst hN; exact cutRows_at j hjl hjG hjN
  have hNl2 : N[j].length = bk.trips[j].calls.length := by rw [hNj, List.length_take, hG.at j hjG]; have := h20 j hjl; omega
  have hcN : c < N[j].length := by omega
  have hfull : ∀ i (h : i < N[j].length), G[j][i]? = some N[j][i] := fun i h => by
    have : N[j][i]? = some N[j][i] := List.getElem?_eq_getElem h
    rw [← this, hNj, List.getElem?_take, if_pos (by omega)]
  refine ⟨?_, ?_, hjN, hNj⟩
  · rw [countsN_at N r j c hjN hj hcN hc]
    refine allowsX_counts ho hcN hcG hfull ?_
    unfold lastB
    rw [hc, hcl, hNl2]
    by_cases h : c + 1 < bk.trips[j].calls.length
    · rw [decide_eq_true h]; simp; omega
    · rw [decide_eq_false h]; simp; omega
  · rw [textD_at bk N r s j hjl hjN hj, hNj]

set_option maxRecDepth 100000 in
set_option maxHeartbeats 4000000 in
theorem speaker_any (bk : BookD) (sa ta : Option Addr) (sc tc : Nat) (s : Int) (w : World) (h40 : bk.trips.length ≤ 40) (h20 : ∀ i (h : i < bk.trips.length), bk.trips[i].calls.length ≤ 20) (hat : BookAt w (.agg #[.slice sa bk.sts.length sc, .slice ta bk.trips.length tc]) bk) :
    Calls Tryz.prog 56 #[.agg #[.slice sa bk.sts.length sc, .slice ta bk.trips.length tc], .int .i64 s] w fun e w' => ∃ Bk Bb Bs : Nat, e = .returned (.func (.func 79) #[] #[.pointer (some ⟨Bk, 0, none⟩), .pointer (some ⟨Bb, 0, none⟩), .pointer (some ⟨Bs, 0, none⟩)]) ∧ w'.heap[Bk]? = some (.cells (gridCells (planGrid bk)).toArray 126 (0, 0)) ∧ w'.cell? ⟨Bb, 0, none⟩ = some (.slice sa bk.sts.length sc) ∧ w'.cell? ⟨Bb, 1, none⟩ = some (.slice ta bk.trips.length tc) ∧ w'.cell? ⟨Bs, 0, none⟩ = some (.int .i64 s) ∧ Bb ≠ Bk ∧ Bs ≠ Bk ∧ w.heap.size ≤ Bk ∧ Below w.heap.size w w' := by
  have HBK : Hid (BookAt w (.agg #[.slice sa bk.sts.length sc, .slice ta bk.trips.length tc]) bk) := hat
  have H20 : Hid (∀ i (h : i < bk.trips.length), bk.trips[i].calls.length ≤ 20) := h20
  obtain ⟨W, hW⟩ : ∃ W, (w.alloc (.cells #[.slice sa bk.sts.length sc, .slice ta bk.trips.length tc] 33)).alloc (.cells #[.int .i64 s] 3) = W := ⟨_, rfl⟩
  have bW : Below w.heap.size w W := by subst hW; exact ((Below.refl _ _).alloc (Nat.le_refl _) _).alloc (by simp) _
  have hsW : W.heap.size = w.heap.size + 1 + 1 := by subst hW; simp
  have p0 : W.cell? ⟨w.heap.size, 0, none⟩ = some (.slice sa bk.sts.length sc) := by subst hW; simp [go_sem]
  have p1 : W.cell? ⟨w.heap.size, 1, none⟩ = some (.slice ta bk.trips.length tc) := by subst hW; simp [go_sem]
  have p2 : W.cell? ⟨w.heap.size + 1, 0, none⟩ = some (.int .i64 s) := by subst hW; simp [go_sem]
  have hz := zeroB
  have HZ4 : Hid ((gridCells zeroGrid).toArray.size = 4000) := grid_zero.size
  have HPG : Hid (Grid (planGrid bk)) := planTo_grid (Nat.le_refl _) h40 h20
  have HX4 : Hid ((gridCells (planGrid bk)).toArray.size = 4000) := HPG.out.size
  have HXI : Hid ((Tryz.prog.info? 126).map (·.size) = some (gridCells (planGrid bk)).toArray.size) := by unfold Hid; rw [HX4.out]; exact sizeB
  have HX1 : Hid ((gridCells (planGrid bk)).toArray.all (·.oneCell') = true) := gridCells_one _
  have HZX : Hid ((gridCells zeroGrid).toArray.size = (gridCells (planGrid bk)).toArray.size) := by unfold Hid; rw [HZ4.out, HX4.out]
  have HSW : Hid (W.heap.size = w.heap.size + 1 + 1) := hsW
  generalize hZ : (gridCells zeroGrid).toArray = Z at *
  clear hat h20 hsW HX4
  go_enter Tryz.func56, Tryz.ntmps56
  go_wp2_with fail
  refine (planned_any _ bk _ h40 H20.out (by exact HBK.out.keep bW)).mono ?_
  rintro e w1 ⟨rfl, hb1⟩
  have q0 := cell_keep hb1 p0
  have q1 := cell_keep hb1 p1
  have q2 := cell_keep hb1 p2
  have z1 := hb1.size
  have hs1 : w.heap.size + 1 + 1 ≤ w1.heap.size := by have := HSW.out; omega
  have B1 : Below w.heap.size w w1 := bW.trans (hb1.mono bW.size)
  clear hW p0 p1 p2
  go_wp2_with (refine wpList_store_row (by rfl) 126 (.tmp 5) (.tmp 7) (by rfl) w1.heap.size (gridCells (planGrid bk)).toArray (by rfl) (by rfl) 126 Z (heap_alloc_last w1 _) HXI.out HZX.out HX1.out ?_)
  go_ret
  have b2 : Below w1.heap.size w1 ((w1.alloc (.cells Z 126)).setRow w1.heap.size (gridCells (planGrid bk)).toArray) := below_setRow ((Below.refl _ _).alloc (Nat.le_refl _) _) _ _ (Nat.le_refl _)
  exact ⟨w1.heap.size, w.heap.size, w.heap.size + 1, rfl, setRow_heap _ _ _ _ _ _ (heap_alloc_last w1 _), cell_keep b2 q0, cell_keep b2 q1, cell_keep b2 q2, by omega, by omega, by omega, B1.trans (b2.mono B1.size)⟩

end Go.Proofs.YtjioingdpfgadabGreatDoor
namespace Go.Proofs.YtjioingdpfgadabGreatDoor
open Go Go.RowKit Go.Deep

theorem said_if (bk : BookD) (rs : List RepD) (s frm till : Int) (k : Nat) (hk : k < rs.length) (TT : ByteArray) (N : List (List NewsD)) (hN : newsTo bk lastTick (rs.take k) = N) (hT : TT = if countsN N rs[k] = true then textD bk N rs[k] s else ⟨#[]⟩) :
    saidAt bk rs s frm till k = if TT ≠ ⟨#[]⟩ ∧ frm ≤ rs[k].tick ∧ rs[k].tick ≤ till then [⟨rs[k].tick, TT⟩] else [] := by
  rw [saidAt_at bk rs s frm till k hk, hN, hT]
  by_cases hc : countsN N rs[k] = true
  · rw [if_pos hc]
    by_cases h : textD bk N rs[k] s ≠ ⟨#[]⟩ ∧ frm ≤ rs[k].tick ∧ rs[k].tick ≤ till
    · rw [if_pos ⟨hc, h⟩, if_pos h]
    · rw [if_neg (fun h' => h h'.2), if_neg h]
  · rw [if_neg hc, if_neg (fun h' => hc h'.1), if_neg (fun h' => h'.1 rfl)]

set_option maxRecDepth 100000 in
set_option maxHeartbeats 8000000 in
theorem implSay_any {Tab : World → Prop} (hit : ItoaOk Tab) (v : Value) (bk : BookD) (ra : Option Addr) (rc : Nat) (rs : List RepD) (s frm till : Int) (w : World) (hn : bookSize bk ≤ 1048576) (hm : rs.length ≤ 1048576) (hwf : ∀ t ∈ bk.trips, ∀ i (h : i < t.calls.length), (Lit.int .i64 t.calls[i].st).wf = true) (hws : (Lit.int .i64 s).wf = true) (hat : BookAt w v bk) (hra : RepsAt w ra rs) (hev : ErrVars w) (htab : Tab w) :
    Calls Tryz.prog 22 #[v, .slice ra rs.length rc, .int .i64 s, .int .i64 frm, .int .i64 till] w fun e w' => ∃ v', e = .returned v' ∧ SaidsOwn w.heap.size w' v' (sayD bk rs s frm till) ∧ Below w.heap.size w w' := by
  obtain ⟨sa, sc, ta, tc, rfl, hsa, hta⟩ := hat
  have HBK : Hid (BookAt w (.agg #[.slice sa bk.sts.length sc, .slice ta bk.trips.length tc]) bk) := ⟨sa, sc, ta, tc, rfl, hsa, hta⟩
  have HSA : Hid (StrsAt w sa bk.sts) := hsa
  have HTA : Hid (TripsAt w ta bk.trips) := hta
  have HWF : Hid (∀ t ∈ bk.trips, ∀ i (h : i < t.calls.length), (Lit.int .i64 t.calls[i].st).wf = true) := hwf
  have HRA : Hid (RepsAt w ra rs) := hra
  have HTAB : Hid (Tab w) := htab
  have HWS : Hid ((Lit.int .i64 s).wf = true) := hws
  have n1 : bk.sts.length ≤ 1048576 := by unfold bookSize strsSize at hn; omega
  clear hsa hta hwf hra htab hws
  have hb0 := ibox w (.cells #[.slice sa bk.sts.length sc, .slice ta bk.trips.length tc] 33)
  go_enter Tryz.func22, Tryz.ntmps22
  go_wp2_with fail
  refine (readReports_any _ bk _ _ rs _ hn hm HWF.out (by exact HBK.out.keep hb0) (by exact HRA.out.keep hb0) (by exact hev.keep hb0)).mono ?_
  rintro e w1 ⟨hms, hb1⟩
  have B1 : Below (w.heap.size + 1) (w.alloc (.cells #[.slice sa bk.sts.length sc, .slice ta bk.trips.length tc] 33)) w1 := hb1.mono (by simp)
  have hB1 : Below w.heap.size w w1 := hb0.trans (B1.mono (by omega))
  have q0 : w1.cell? ⟨w.heap.size, 0, none⟩ = some (.slice sa bk.sts.length sc) := by rw [B1.cell (p := ⟨w.heap.size, 0, none⟩) (by simp)]; simp [go_sem]
  have q1 : w1.cell? ⟨w.heap.size, 1, none⟩ = some (.slice ta bk.trips.length tc) := by rw [B1.cell (p := ⟨w.heap.size, 1, none⟩) (by simp)]; simp [go_sem]
  clear hb1 B1 hb0
  rcases hms with ⟨hF, rfl⟩ | ⟨hT, b, rfl, hmsg⟩
  · have HK : Hid (sayD bk rs s frm till = []) := sayD_no (fun h => by rw [hF] at h; exact absurd h.1 (by decide))
    clear hF
    go_wp2_with fail
    go_ret
    refine ⟨_, rfl, ?_, hB1⟩
    rw [HK.out]
    exact World.ownsRow_nil _ _ _ _
  · by_cases hin : 0 ≤ s ∧ s < bk.sts.length
    · have HK : Hid (sayD bk rs s frm till = saidTo bk rs s frm till rs.length) := sayD_yes ⟨hT, hin⟩
      obtain ⟨s0, s1⟩ := hin
      obtain ⟨r0, _, rk⟩ := reportsB_inv hT
      have HRK : Hid (∀ k (hk : k < rs.length), reportB bk rs[k] = true ∧ prevTick rs k ≤ rs[k].tick) := rk
      have HRS : Hid (∀ r ∈ rs, reportB bk r = true) := fun r hr => by obtain ⟨i, hi, rfl⟩ := List.getElem_of_mem hr; exact (rk i hi).1
      have h40 := right_trips r0
      have HTR : Hid (∀ i (h : i < bk.trips.length), tripB bk.sts.length bk.trips[i] = true) := (faultD_zero r0).2
      have H20 : Hid (∀ i (h : i < bk.trips.length), 2 ≤ bk.trips[i].calls.length ∧ bk.trips[i].calls.length ≤ 20) := fun i h => tripB_len ((faultD_zero r0).2 i h)
      have HSN : Hid (∀ i (h : i < bk.sts.length), bk.sts[i].size ≤ 20) := fun i h => nameB_size (sts_named r0 (List.getElem?_eq_getElem h))
      have HMS : Hid (∀ i (h : i < rs.length), w1.cell? ⟨b, i, none⟩ = some (readV bk rs[i])) := hmsg
      have HPG : Hid (Grid (planGrid bk)) := planTo_grid (Nat.le_refl _) h40 (fun i h => (H20.out i h).2)
      obtain ⟨ii, hi0, he0⟩ := Option.map_eq_some_iff.1 infSaid
      simp only [Prod.mk.injEq] at he0
      have HI0 : Hid (ii.zero = some (.agg #[.int .i64 0, .string ⟨#[]⟩]) ∧ ii.size = 2 ∧ ii.bytes = 24) := he0
      have HJ0 : Hid (Tryz.prog.info? 96 = some ii) := hi0
      have s2 : ¬ (s < 0) := by omega
      have s3 : ¬ ((bk.sts.length : Int) ≤ s) := by omega
      have b2 : decide (s < 0) = false := decide_eq_false s2
      have b3 : decide ((bk.sts.length : Int) ≤ s) = false := decide_eq_false s3
      clear hT r0 rk hmsg hi0 he0
      go_wp2_with fail
      refine (speaker_any bk _ _ _ _ s _ h40 (fun i h => (H20.out i h).2) (by exact HBK.out.keep hB1)).mono ?_
      rintro e w2 ⟨Bk, Bb, Bs, rfl, hgk, hk0, hk1, hk2, hne1, hne2, hBk, hb2⟩
      have hB2 : Below w.heap.size w w2 := hB1.trans (hb2.mono hB1.size)
      have HGK : Hid (w2.heap[Bk]? = some (.cells (gridCells (planGrid bk)).toArray 126 (0, 0))) := hgk
      have HBX : Hid (w2.cell? ⟨Bb, 0, none⟩ = some (.slice sa bk.sts.length sc) ∧ w2.cell? ⟨Bb, 1, none⟩ = some (.slice ta bk.trips.length tc) ∧ w2.cell? ⟨Bs, 0, none⟩ = some (.int .i64 s)) := ⟨hk0, hk1, hk2⟩
      have lk : Bk < w2.heap.size := (Array.getElem?_eq_some_iff.1 hgk).1
      have lb := cell_lt hk0
      have ls := cell_lt hk2
      have hBkw : w.heap.size ≤ Bk := by have := hB1.size; omega
      have hz12 := hb2.size
      clear hgk hk0 hk1 hk2 q0 q1 s2 s3
      go_wp2_with fail
      go_loopw [14, 42] (fun out i wr => ∃ (k : Nat) (G : List (List NewsD)), k ≤ rs.length ∧ i = .int .i64 k ∧ Hid (wr.heap[Bk]? = some (.cells (gridCells G).toArray 126 (0, 0))) ∧ Hid (Grid G) ∧ Hid (cutRows bk.trips G = newsTo bk lastTick (rs.take k)) ∧ Hid (wr.cell? ⟨Bb, 0, none⟩ = some (.slice sa bk.sts.length sc) ∧ wr.cell? ⟨Bb, 1, none⟩ = some (.slice ta bk.trips.length tc) ∧ wr.cell? ⟨Bs, 0, none⟩ = some (.int .i64 s)) ∧ Hid (SaidsOwn w2.heap.size wr out (saidTo bk rs s frm till k)) ∧ Below w1.heap.size w1 wr ∧ w2.heap.size ≤ wr.heap.size) (fun _ i _ => rs.length - (intOf i).toNat)
      case atStart => exact ⟨0, planGrid bk, Nat.zero_le _, rfl, HGK, HPG, cut_plan bk, HBX, World.ownsRow_nil _ _ _ _, hb2, Nat.le_refl _⟩
      case round =>
        obtain ⟨k, G, hk, rfl, hgr, hG, hcut, hbx, hout, hbel, hz⟩ := hrel
        have hB : Below w.heap.size w wr := hB1.trans (hbel.mono hB1.size)
        clear HGK HBX HPG
        by_cases hlt : k < rs.length
        · obtain ⟨rb, ro, rfl, c0, c1, c2, c3, c4⟩ := HRA.out.keep hB k hlt
          obtain ⟨hrep, _⟩ := HRK.out k hlt
          have hki : (k : Int) < (rs.length : Int) := by omega
          have hk0 : (0 : Int) ≤ (k : Int) := by omega
          have hmc : wr.cell? ⟨b, k, none⟩ = some (msgV rs[k] (lastB bk rs[k])) := by
            have := cell_keep hbel (HMS.out k hlt)
            rw [readV_yes hrep] at this; exact this
          obtain ⟨_, ⟨_, ht1⟩, ho, ⟨i1, i2⟩, i3, i4⟩ := reportB_head hrep
          obtain ⟨j, hj⟩ := Int.eq_ofNat_of_zero_le i1
          obtain ⟨c, hc⟩ := Int.eq_ofNat_of_zero_le i3
          have hjl : j < bk.trips.length := by omega
          have hjG : j < G.length := by rw [hG.out.len]; omega
          have hcl : callsOf bk rs[k].trip = bk.trips[j].calls := by rw [hj]; exact callsOf_at bk j hjl
          have hcc : c < bk.trips[j].calls.length := by rw [hcl, hc] at i4; omega
          have hG20 : G[j].length = 20 := hG.out.at j hjG
          have hcG : c < G[j].length := by rw [hG20]; have := H20.out j hjl; omega
          have hnum : rs[k].op = 1 ∨ rs[k].op = 2 → 0 ≤ rs[k].n ∧ rs[k].n ≤ 1000000 := fun ho => by
            have hrp := hrep
            rw [reportB_yes (reportB_head hrep)] at hrp
            rcases ho with ho | ho
            · rw [numB_1 ho] at hrp; have := of_decide_eq_true hrp; omega
            · rw [numB_2 ho] at hrp; have := of_decide_eq_true hrp; omega
          obtain ⟨tc1, tc2, hjN, hNj⟩ := tell_counts hG.out h40 H20.out hcut.out hrep hj hjl hc hjG hcG s
          have htk : TrackOk (newsTo bk lastTick (rs.take k)) := track_to bk lastTick (rs.take k) (fun t ht i hi => by obtain ⟨q, hq, rfl⟩ := List.getElem_of_mem ht; exact (tripB_st (HTR.out q hq) i hi).2) (fun r hr => HRS.out r (List.mem_of_mem_take hr))
          have htk2 : ∀ x ∈ G[j].take bk.trips[j].calls.length, 1 ≤ x.track ∧ x.track ≤ 20 := fun x hx => htk _ (List.getElem_mem hjN) x (by rw [hNj]; exact hx)
          have HSTP : Hid (∀ al : Bool, al = allowsX G[j] c (lastB bk rs[k]) G[j][c] rs[k] → Grid (G.set j (if al then doRow rs[k] G[j] else G[j])) ∧ cutRows bk.trips (G.set j (if al then doRow rs[k] G[j] else G[j])) = newsTo bk lastTick (rs.take (k + 1)) ∧ saidAt bk rs s frm till k = if tellS bk G rs[k] s j al ≠ ⟨#[]⟩ ∧ frm ≤ rs[k].tick ∧ rs[k].tick ≤ till then [⟨rs[k].tick, tellS bk G rs[k] s j al⟩] else []) := fun al hal => by
            refine ⟨hG.out.set j _ ?_, ?_, ?_⟩
            · split
              · rw [doRow_length]; exact hG20
              · exact hG20
            · rw [newsTo_take bk lastTick rs k hlt, hal]
              exact cut_step hG.out h40 H20.out hcut.out hrep ht1 hj hjl hc hjG hcG
            · refine said_if bk rs s frm till k hlt _ _ rfl ?_
              rw [tellS_at hjl hjG, hal, tc1, tc2]
          obtain ⟨ti, mv, hmv, _, _⟩ := msgV_where rs[k] (lastB bk rs[k])
          have HST : Hid (saidTo bk rs s frm till (k + 1) = saidTo bk rs s frm till k ++ saidAt bk rs s frm till k) := rfl
          have hsl := saidTo_length bk rs s frm till k
          have hmc' : wr.cell? ⟨b, k, none⟩ = some (.iface ti mv) := by rw [hmc, hmv]
          have HTL : Hid (Calls Tryz.prog 79 #[.iface ti mv, .agg #[.int .i64 rs[k].tick, .int .i64 rs[k].op, .int .i64 rs[k].trip, .int .i64 rs[k].call, .int .i64 rs[k].n], .pointer (some ⟨Bk, 0, none⟩), .pointer (some ⟨Bb, 0, none⟩), .pointer (some ⟨Bs, 0, none⟩)] wr fun e w' => ∃ al : Bool, al = allowsX G[j] c (lastB bk rs[k]) G[j][c] rs[k] ∧ e = .returned (.string (tellS bk G rs[k] s j al)) ∧ w'.heap[Bk]? = some (.cells (gridCells (G.set j (if al then doRow rs[k] G[j] else G[j]))).toArray 126 (0, 0)) ∧ wr.grownBy w' (some Bk)) := by
            have h0 := tell_any hit bk G rs[k] s j c Bk Bb Bs sa ta sc tc w wr hG.out h40 hjl hj hc hcc ho hnum (HTR.out j hjl) (fun i h => HWF.out _ (List.getElem_mem hjl) i h) HWS.out hjG htk2 HSN.out hB hBkw HSA.out HTA.out HTAB.out hgr.out hbx.out.1 hbx.out.2.1 hbx.out.2.2 hne1 hne2
            rw [hmv] at h0
            exact h0.mono fun e w' ⟨al, h1, h2, h3, h4⟩ => ⟨al, h1 hcG, h2, h3, h4⟩
          clear hmv hmc hj hc hcl hcc hnum tc1 tc2 hjN hNj htk htk2 i1 i2 i3 i4 ho hrep ht1
          generalize rs[k] = r at *
          go_wp2_with fail
          refine HTL.out.mono ?_
          rintro e w3 ⟨al, hal, rfl, hg3, hgr3⟩
          obtain ⟨hG3, hcut3, hsa3⟩ := HSTP.out al hal
          have HG3 : Hid (w3.heap[Bk]? = some (.cells (gridCells (G.set j (if al then doRow r G[j] else G[j]))).toArray 126 (0, 0))) := hg3
          have HGG : Hid (Grid (G.set j (if al then doRow r G[j] else G[j]))) := hG3
          have HCT : Hid (cutRows bk.trips (G.set j (if al then doRow r G[j] else G[j])) = newsTo bk lastTick (rs.take (k + 1))) := hcut3
          have hbel3 : Below w1.heap.size w1 w3 := Below.grown hbel hgr3 (by omega) (fun x hx => by cases hx; exact hBk)
          have hz3 : w2.heap.size ≤ w3.heap.size := Nat.le_trans hz hgr3.size
          have HOW : Hid (SaidsOwn w2.heap.size w3 u14 (saidTo bk rs s frm till k)) := by
            have h0 : wr.ownsRow w2.heap.size 96 2 u14 (saidTo bk rs s frm till k).length (twos (saidTo bk rs s frm till k)) := hout.out
            refine h0.kept hgr3 ?_
            cases hb : u14.ownBlock with
            | none => exact Or.inl rfl
            | some g =>
              refine Or.inr fun e2 => ?_
              have := (h0.lt g hb).1
              cases e2
              omega
          have hcb : ∀ {bb oo : Nat} {vv : Value}, bb ≠ Bk → wr.cell? ⟨bb, oo, none⟩ = some vv → w3.cell? ⟨bb, oo, none⟩ = some vv := fun {bb oo vv} hne hcx => by
            rw [World.cell?_of_block (w := wr) (hgr3.block _ (cell_lt hcx) (fun e => hne (by cases e; rfl)))]; exact hcx
          have HBX3 : Hid (w3.cell? ⟨Bb, 0, none⟩ = some (.slice sa bk.sts.length sc) ∧ w3.cell? ⟨Bb, 1, none⟩ = some (.slice ta bk.trips.length tc) ∧ w3.cell? ⟨Bs, 0, none⟩ = some (.int .i64 s)) := ⟨hcb hne1 hbx.out.1, hcb hne1 hbx.out.2.1, hcb hne2 hbx.out.2.2⟩
          have hrlt : rb < w.heap.size := by
            have h1 := HRA.out k hlt
            obtain ⟨rb', ro', e', c', _⟩ := h1
            cases e'
            exact cell_lt c'
          have d0 := hcb (by omega) c0
          generalize tellS bk G r s j al = TT at *
          clear hg3 hG3 hcut3 hal hcb hgr3 c0 c1 c2 c3 c4 hmc' HTL HSTP hgr hG hcut hbx hout
          by_cases hte : TT = ⟨#[]⟩
          · have HS2 : Hid (saidTo bk rs s frm till (k + 1) = saidTo bk rs s frm till k) := by unfold Hid; rw [HST.out, hsa3, if_neg (fun h => h.1 hte), List.append_nil]
            subst hte
            clear hsa3
            go_wp2_with fail
            go_roundw
            case rel => exact ⟨k + 1, _, by omega, by go_num, HG3, HGG, HCT, HBX3, by rw [HS2.out]; exact HOW, hbel3, hz3⟩
            case measure => simp [intOf]; omega
          · obtain ⟨bte, btf⟩ := text_toList hte
            by_cases hf : frm ≤ r.tick
            · by_cases ht : r.tick ≤ till
              · have HS2 : Hid (saidTo bk rs s frm till (k + 1) = saidTo bk rs s frm till k ++ [⟨r.tick, TT⟩]) := by unfold Hid; rw [HST.out, hsa3, if_pos ⟨hte, hf, ht⟩]
                clear hsa3 hte
                go_wp2_with (first
                  | (at_builtin; refine wpList_append_own_at _ rfl _ _ 45 rfl w2.heap.size 96 ii (.agg #[.int .i64 0, .string ⟨#[]⟩]) 2 24 uSaid HJ0.out HI0.out.1 HI0.out.2.1 HI0.out.2.2 rfl (by decide) _ _ _ rfl (HOW.out.alloc _) ⟨w3.heap.size, 0, none⟩ 1 1 (twoOf ⟨r.tick, TT⟩) rfl rfl (cells_two_at _ ⟨r.tick, TT⟩ _) ?c2 ?c3 ?c4 ?c5 ?_)
                  | fail)
                case c2 => intro u hu; simp only [twoOf, List.mem_cons, List.not_mem_nil, or_false] at hu; rcases hu with rfl | rfl <;> rfl
                case c3 => unfold maxLen; omega
                case c4 => omega
                case c5 => simp; omega
                intro v' w5 hown' hgrow _ _
                have HO5 : Hid (SaidsOwn w2.heap.size w5 v' (saidTo bk rs s frm till (k + 1))) := by
                  unfold Hid SaidsOwn; rw [HS2.out, twos_snoc, List.length_append]
                  exact hown'
                have hag : Below w3.heap.size w3 (w3.alloc (.cells #[.int .i64 r.tick, .string TT] 96)) := (Below.refl _ _).alloc (Nat.le_refl _) _
                have hol : ∀ g, u14.ownBlock = some g → w2.heap.size ≤ g := fun g hgg => (World.ownsRow.lt (show w3.ownsRow w2.heap.size 96 2 u14 _ _ from HOW.out) g hgg).1
                have hbel5 : Below w1.heap.size w1 w5 := Below.grown (hbel3.alloc (by omega) _) hgrow (by simp; omega) fun g hgg => by have := hol g hgg; omega
                have hblk : ∀ bb : Nat, bb < w2.heap.size → w5.heap[bb]? = w3.heap[bb]? := fun bb hbb => by
                  rw [hgrow.block bb (by simp; omega) (fun e => by have := hol bb e.symm; omega), hag.block bb (by omega)]
                have HG5 : Hid (w5.heap[Bk]? = some (.cells (gridCells (G.set j (if al then doRow r G[j] else G[j]))).toArray 126 (0, 0))) := by unfold Hid; rw [hblk Bk lk]; exact HG3.out
                have HBX5 : Hid (w5.cell? ⟨Bb, 0, none⟩ = some (.slice sa bk.sts.length sc) ∧ w5.cell? ⟨Bb, 1, none⟩ = some (.slice ta bk.trips.length tc) ∧ w5.cell? ⟨Bs, 0, none⟩ = some (.int .i64 s)) := by
                  refine ⟨?_, ?_, ?_⟩
                  · rw [World.cell?_of_block (w := w3) (hblk Bb lb)]; exact HBX3.out.1
                  · rw [World.cell?_of_block (w := w3) (hblk Bb lb)]; exact HBX3.out.2.1
                  · rw [World.cell?_of_block (w := w3) (hblk Bs ls)]; exact HBX3.out.2.2
                have hz5 : w2.heap.size ≤ w5.heap.size := by have := hgrow.size; simp at this; omega
                clear hown' hgrow hol hblk HG3 HBX3 HOW
                go_wp2_with fail
                go_roundw
                case rel => exact ⟨k + 1, _, by omega, by go_num, HG5, HGG, HCT, HBX5, HO5, hbel5, hz5⟩
                case measure => simp [intOf]; omega
              · have HS2 : Hid (saidTo bk rs s frm till (k + 1) = saidTo bk rs s frm till k) := by unfold Hid; rw [HST.out, hsa3, if_neg (fun h => ht h.2.2), List.append_nil]
                clear hsa3 hte
                go_wp2_with fail
                go_roundw
                case rel => exact ⟨k + 1, _, by omega, by go_num, HG3, HGG, HCT, HBX3, by rw [HS2.out]; exact HOW, hbel3, hz3⟩
                case measure => simp [intOf]; omega
            · have HS2 : Hid (saidTo bk rs s frm till (k + 1) = saidTo bk rs s frm till k) := by unfold Hid; rw [HST.out, hsa3, if_neg (fun h => hf h.2.1), List.append_nil]
              clear hsa3 hte
              go_wp2_with fail
              go_roundw
              case rel => exact ⟨k + 1, _, by omega, by go_num, HG3, HGG, HCT, HBX3, by rw [HS2.out]; exact HOW, hbel3, hz3⟩
              case measure => simp [intOf]; omega
        · have hk' : k = rs.length := by omega
          subst hk'
          go_wp2_with fail
          go_ret
          refine ⟨_, rfl, ?_, hB⟩
          rw [HK.out]
          exact owns_mono hout.out (by have := hB2.size; omega)
    · have HK : Hid (sayD bk rs s frm till = []) := sayD_no (fun h => hin h.2)
      by_cases h0 : s < 0
      · clear hin
        go_wp2_with fail
        go_ret
        refine ⟨_, rfl, ?_, hB1⟩
        rw [HK.out]
        exact World.ownsRow_nil _ _ _ _
      · have h1 : (bk.sts.length : Int) ≤ s := by omega
        clear hin
        go_wp2_with fail
        go_ret
        refine ⟨_, rfl, ?_, hB1⟩
        rw [HK.out]
        exact World.ownsRow_nil _ _ _ _

end Go.Proofs.YtjioingdpfgadabGreatDoor
