import Derived.Test.YtjioingdpfgadaaGreatDoorProg
import Derived.Test.YtjioingdpfgadaaGreatDoorSayTM
import Derived.Test.YtjioingdpfgadaaGreatDoorImplUM
import Derived.Test.YtjioingdpfgadaaGreatDoorChkDM
import Derived.BigRegion
namespace Go.Proofs.YtjioingdpfgadaaGreatDoor
open Go Go.RowKit Go.Deep

theorem block_news {w : World} {g : Nat} {ns : List NewsD} {T : TypeId} (hg : w.heap[g]? = some (.cells (rowCells ns).toArray T (0, 0))) (n : Nat) : NewsAt w (some ⟨g, 0, none⟩) (ns.take n) := by
  intro i hi
  have hl : i < ns.length := by rw [List.length_take] at hi; omega
  have hc : ∀ c, c < 5 → w.cell? ⟨g, i * 5 + c, none⟩ = (newsCells ns[i])[c]? := fun c hc => by
    rw [cell_of_row _ _ _ _ _ _ hg]
    simp only [List.getElem?_toArray]
    exact rowCells_get ns i c hl hc
  refine ⟨g, 0, rfl, ?_, ?_, ?_, ?_, ?_⟩
  · have h5 := hc 0 (by omega)
    first
      | exact h5
      | (rw [Nat.zero_add]; exact h5)
      | (simp only [Nat.zero_add]; rw [show i * 5 = i * 5 + 0 from rfl, h5]; simp [newsCells])
      | (simp only [Nat.zero_add]; rw [h5]; simp [newsCells])
  · have h5 := hc 1 (by omega)
    first
      | exact h5
      | (rw [Nat.zero_add]; exact h5)
      | (simp only [Nat.zero_add]; rw [show i * 5 = i * 5 + 0 from rfl, h5]; simp [newsCells])
      | (simp only [Nat.zero_add]; rw [h5]; simp [newsCells])
  · have h5 := hc 2 (by omega)
    first
      | exact h5
      | (rw [Nat.zero_add]; exact h5)
      | (simp only [Nat.zero_add]; rw [show i * 5 = i * 5 + 0 from rfl, h5]; simp [newsCells])
      | (simp only [Nat.zero_add]; rw [h5]; simp [newsCells])
  · have h5 := hc 3 (by omega)
    first
      | exact h5
      | (rw [Nat.zero_add]; exact h5)
      | (simp only [Nat.zero_add]; rw [show i * 5 = i * 5 + 0 from rfl, h5]; simp [newsCells])
      | (simp only [Nat.zero_add]; rw [h5]; simp [newsCells])
  · have h5 := hc 4 (by omega)
    first
      | exact h5
      | (rw [Nat.zero_add]; exact h5)
      | (simp only [Nat.zero_add]; rw [show i * 5 = i * 5 + 0 from rfl, h5]; simp [newsCells])
      | (simp only [Nat.zero_add]; rw [h5]; simp [newsCells])
theorem block_cells {w : World} {g : Nat} {ns : List NewsD} {T : TypeId} (hg : w.heap[g]? = some (.cells (rowCells ns).toArray T (0, 0))) (i : Nat) (h : i < ns.length) :
    w.cell? ⟨g, i * 5, none⟩ = some (.int .i64 ns[i].late) ∧ w.cell? ⟨g, i * 5 + 1, none⟩ = some (.int .i64 ns[i].track) ∧ w.cell? ⟨g, i * 5 + 2, none⟩ = some (.bool ns[i].off) ∧ w.cell? ⟨g, i * 5 + 3, none⟩ = some (.bool ns[i].here) ∧ w.cell? ⟨g, i * 5 + 4, none⟩ = some (.bool ns[i].gone) := by
  have hc : ∀ c, c < 5 → w.cell? ⟨g, i * 5 + c, none⟩ = (newsCells ns[i])[c]? := fun c hc => by
    rw [cell_of_row _ _ _ _ _ _ hg]
    simp only [List.getElem?_toArray]
    exact rowCells_get ns i c h hc
  exact ⟨(hc 0 (by omega)).trans rfl, (hc 1 (by omega)).trans rfl, (hc 2 (by omega)).trans rfl, (hc 3 (by omega)).trans rfl, (hc 4 (by omega)).trans rfl⟩
/-- What the closure answers. -/
def tellS (bk : BookD) (G : List (List NewsD)) (r : RepD) (s : Int) (j : Nat) (al : Bool) : ByteArray :=
  match bk.trips[j]?, G[j]? with
  | some t, some ns => if al = true then textT bk t (ns.take t.calls.length) r s else ⟨#[]⟩
  | _, _ => ⟨#[]⟩
theorem tellS_at {bk : BookD} {G : List (List NewsD)} {r : RepD} {s : Int} {j : Nat} {al : Bool} (h1 : j < bk.trips.length) (h2 : j < G.length) : tellS bk G r s j al = if al = true then textT bk bk.trips[j] (G[j].take bk.trips[j].calls.length) r s else ⟨#[]⟩ := by
  unfold tellS; rw [List.getElem?_eq_getElem h1, List.getElem?_eq_getElem h2]

set_option maxRecDepth 100000 in
set_option maxHeartbeats 16000000 in
theorem tell_any {Tab : World → Prop} (hit : ItoaOk Tab) (bk : BookD) (G : List (List NewsD)) (r : RepD) (s : Int) (j c : Nat) (Bk Bb Bs : Nat) (sa ta : Option Addr) (sc tc : Nat) (w0 w : World)
    (hG : Grid G) (h40 : bk.trips.length ≤ 40) (hj : j < bk.trips.length) (hjt : r.trip = (j : Int)) (hc : r.call = (c : Int)) (hcl : c < bk.trips[j].calls.length) (hop : 1 ≤ r.op ∧ r.op ≤ 5) (hnum : r.op = 1 ∨ r.op = 2 → 0 ≤ r.n ∧ r.n ≤ 1000000)
    (htr : tripB bk.sts.length bk.trips[j] = true) (hwf : ∀ i (h : i < bk.trips[j].calls.length), (Lit.int .i64 bk.trips[j].calls[i].st).wf = true) (hws : (Lit.int .i64 s).wf = true) (hjG : j < G.length) (htk : ∀ x ∈ G[j].take bk.trips[j].calls.length, 1 ≤ x.track ∧ x.track ≤ 20) (hst : ∀ i (h : i < bk.sts.length), bk.sts[i].size ≤ 20)
    (hB : Below w0.heap.size w0 w) (hBk : w0.heap.size ≤ Bk) (hsa : StrsAt w0 sa bk.sts) (hta : TripsAt w0 ta bk.trips) (htab : Tab w0)
    (hg : w.heap[Bk]? = some (.cells (gridCells G).toArray 71 (0, 0))) (hb0 : w.cell? ⟨Bb, 0, none⟩ = some (.slice sa bk.sts.length sc)) (hb1 : w.cell? ⟨Bb, 1, none⟩ = some (.slice ta bk.trips.length tc)) (hsx : w.cell? ⟨Bs, 0, none⟩ = some (.int .i64 s)) (hne1 : Bb ≠ Bk) (hne2 : Bs ≠ Bk) :
    Calls Tryz.prog 61 #[msgV r (lastB bk r), repV r, .pointer (some ⟨Bk, 0, none⟩), .pointer (some ⟨Bb, 0, none⟩), .pointer (some ⟨Bs, 0, none⟩)] w fun e w' =>
      ∃ al : Bool, (∀ (h : c < G[j].length), al = allowsX G[j] c (lastB bk r) G[j][c] r) ∧ e = .returned (.string (tellS bk G r s j al)) ∧ w'.heap[Bk]? = some (.cells (gridCells (G.set j (if al then doRow r G[j] else G[j]))).toArray 71 (0, 0)) ∧ w.grownBy w' (some Bk) := by
  have hG20 : G[j].length = 20 := hG.at j hjG
  have h20 := tripB_len htr
  have hcG : c < G[j].length := by omega
  have HSA : Hid (StrsAt w0 sa bk.sts) := hsa
  have HTA : Hid (TripsAt w0 ta bk.trips) := hta
  have HST : Hid (∀ i (h : i < bk.sts.length), bk.sts[i].size ≤ 20) := hst
  have HTK : Hid (∀ x ∈ G[j].take bk.trips[j].calls.length, 1 ≤ x.track ∧ x.track ≤ 20) := htk
  have HTE : Hid (∀ al, tellS bk G r s j al = if al = true then textT bk bk.trips[j] (G[j].take bk.trips[j].calls.length) r s else ⟨#[]⟩) := fun al => tellS_at hj hjG
  obtain ⟨ti, mv, hmv, _, _⟩ := msgV_where r (lastB bk r)
  have HAL : Hid (∀ w, Calls Tryz.prog 51 #[.agg (rowCells G[j]).toArray, .iface ti mv] w fun e w' => e = .returned (.bool (allowsX G[j] c (lastB bk r) G[j][c] r)) ∧ Below w.heap.size w w') := fun w => by
    have := allows_any G[j] r (lastB bk r) c w hG20 hc hcG hop
    rw [hmv] at this; exact this
  have HAF : Hid (∀ w, Calls Tryz.prog 29 #[.agg (rowCells G[j]).toArray, .iface ti mv] w fun e w' => e = .returned (.agg (rowCells (if allowsX G[j] c (lastB bk r) G[j][c] r then doRow r G[j] else G[j])).toArray) ∧ Below w.heap.size w w') := fun w => by
    have := after_any G[j] r (lastB bk r) c w hG20 hc hcG hop
    rw [hmv] at this; exact this
  rw [hmv]
  have HRV : repV r = .agg #[.int .i64 r.tick, .int .i64 r.op, .int .i64 (j : Int), .int .i64 (c : Int), .int .i64 r.n] := by unfold repV; rw [hjt, hc]
  rw [HRV]
  have HRE : Hid (∀ (k : Int) (w : World), Calls Tryz.prog 62 #[.agg #[.int .i64 r.tick, .int .i64 r.op, .int .i64 (j : Int), .int .i64 (c : Int), .int .i64 r.n], .int .i64 k] w fun e w' => e = .returned (.bool (reachB r.op r.call k)) ∧ Below w.heap.size w w') := fun k w => by
    have := reaches_any r k w (by omega)
    rw [HRV] at this; exact this
  have HOP : Hid (1 ≤ r.op ∧ r.op ≤ 5) := hop
  have HNUM : Hid (r.op = 1 ∨ r.op = 2 → 0 ≤ r.n ∧ r.n ≤ 1000000) := hnum
  have HRC : Hid (0 ≤ r.call) := by unfold Hid; omega
  obtain ⟨V1, hV1⟩ : ∃ V1, w.alloc (.cells #[.int .i64 r.tick, .int .i64 r.op, .int .i64 (j : Int), .int .i64 (c : Int), .int .i64 r.n] 45) = V1 := ⟨_, rfl⟩
  have bV1 : Below w.heap.size w V1 := by subst hV1; exact (Below.refl _ _).alloc (Nat.le_refl _) _
  have r0 : V1.cell? ⟨w.heap.size, 0, none⟩ = some (.int .i64 r.tick) := by subst hV1; simp [go_sem]
  have r1 : V1.cell? ⟨w.heap.size, 1, none⟩ = some (.int .i64 r.op) := by subst hV1; simp [go_sem]
  have r2 : V1.cell? ⟨w.heap.size, 2, none⟩ = some (.int .i64 (j : Int)) := by subst hV1; simp [go_sem]
  have r3 : V1.cell? ⟨w.heap.size, 3, none⟩ = some (.int .i64 (c : Int)) := by subst hV1; simp [go_sem]
  have r4 : V1.cell? ⟨w.heap.size, 4, none⟩ = some (.int .i64 r.n) := by subst hV1; simp [go_sem]
  have hBkw : Bk < w.heap.size := (Array.getElem?_eq_some_iff.1 hg).1
  have HG1 : Hid (V1.heap[Bk]? = some (.cells (gridCells G).toArray 71 (0, 0))) := by unfold Hid; rw [bV1.block _ hBkw]; exact hg
  have hz := zeroT
  have HIR : Hid ((Tryz.prog.info? 69).map (·.size) = some (rowCells G[j]).toArray.size) := rowCells_size hG20
  have HJI : Hid ((Tryz.prog.info? 69).map (·.size) = some (rowCells G[j]).length) := rowCells_len hG20
  have HIZ : Hid ((Tryz.prog.info? 69).map (·.size) = some (rowCells zeroRow).toArray.size) := rowCells_size rfl
  have HSZ : Hid ((rowCells zeroRow).toArray.size = (rowCells G[j]).toArray.size) := Option.some.inj (HIZ.out.symm.trans HIR.out)
  have HONE : Hid ((rowCells G[j]).toArray.all (·.oneCell') = true) := rowCells_all _
  have HSRC : Hid (∀ i u, (rowCells G[j])[i]? = some u → V1.cell? ⟨Bk, j * 100 + i, none⟩ = some u) := grid_row hG j hjG HG1.out
  have hj0 : (0 : Int) ≤ (j : Int) := by omega
  have hj40 : (j : Int) < 40 := by omega
  have hj1 : (j : Int) < (bk.trips.length : Int) := by omega
  have HALX : Hid (allowsX G[j] c (lastB bk r) G[j][c] r = allowsX G[j] c (lastB bk r) G[j][c] r) := rfl
  generalize hZ : (rowCells zeroRow).toArray = Z at *
  obtain ⟨V2, hV2⟩ : ∃ V2, (V1.alloc (.cells Z 69)).setRow V1.heap.size (rowCells G[j]).toArray = V2 := ⟨_, rfl⟩
  have HA2 : Hid (V2.heap[V1.heap.size]? = some (.cells (rowCells G[j]).toArray 69 (0, 0))) := by unfold Hid; rw [← hV2]; exact setRow_heap _ _ _ _ _ _ (heap_alloc_last V1 _)
  have bV2 : Below V1.heap.size V1 V2 := by rw [← hV2]; exact below_setRow ((Below.refl _ _).alloc (Nat.le_refl _) _) _ _ (Nat.le_refl _)
  have HG2 : Hid (V2.heap[Bk]? = some (.cells (gridCells G).toArray 71 (0, 0))) := by unfold Hid; rw [bV2.block _ (Nat.lt_of_lt_of_le hBkw bV1.size)]; exact HG1.out
  have B2 : Below w.heap.size w V2 := bV1.trans (bV2.mono bV1.size)
  clear hmv HRV hjt hc htk hst hsa hta hop hnum
  go_enter Tryz.func61, Tryz.ntmps61
  go_upto_region 2 with (first
    | (refine wpList_load_part (by rfl) 69 (.tmp 15) (by rfl) Bk (j * 100) (by rfl) (rowCells G[j]) _ HSRC.out underT rfl HJI.out ?_)
    | (refine wpList_store_row (by rfl) 69 (.tmp 8) (.tmp 16) (by rfl) V1.heap.size (rowCells G[j]).toArray (by rfl) (by rfl) 69 Z (heap_alloc_last V1 _) HIR.out HSZ.out HONE.out ?_))
  rw [hV2]
  go_wp2_with (refine wpList_load_row (by rfl) 69 (.tmp 8) (by rfl) V1.heap.size (by rfl) 69 (rowCells G[j]).toArray (0, 0) _ HA2.out underT rfl HIR.out ?_)
  refine (HAL.out _).mono ?_
  rintro e w3 ⟨rfl, hb3⟩
  have hBk2 : Bk < V2.heap.size := Nat.lt_of_lt_of_le hBkw B2.size
  have hA2l : V1.heap.size < V2.heap.size := (Array.getElem?_eq_some_iff.1 HA2.out).1
  have HG3 : Hid (w3.heap[Bk]? = some (.cells (gridCells G).toArray 71 (0, 0))) := by unfold Hid; rw [hb3.block _ hBk2]; exact HG2.out
  have HA3 : Hid (w3.heap[V1.heap.size]? = some (.cells (rowCells G[j]).toArray 69 (0, 0))) := by unfold Hid; rw [hb3.block _ hA2l]; exact HA2.out
  have B3 : Below w.heap.size w w3 := B2.trans (hb3.mono B2.size)
  have B3' : Below V1.heap.size V1 w3 := bV2.trans (hb3.mono bV2.size)
  have q0 := cell_keep B3' r0
  have q1 := cell_keep B3' r1
  have q2 := cell_keep B3' r2
  have q3 := cell_keep B3' r3
  have q4 := cell_keep B3' r4
  have d0 := cell_keep B3 hb0
  have d1 := cell_keep B3 hb1
  have d2 := cell_keep B3 hsx
  have hRB : w.heap.size ≠ Bk := by omega
  have hAB : V1.heap.size ≠ Bk := by have := bV1.size; omega
  obtain ⟨al, hal⟩ : ∃ al, allowsX G[j] c (lastB bk r) G[j][c] r = al := ⟨_, rfl⟩
  have HALE : Hid (allowsX G[j] c (lastB bk r) G[j][c] r = al) := hal
  rw [hal] at HAF ⊢
  clear hal hV1 hV2 hz r0 r1 r2 r3 r4 hb0 hb1 hsx HSRC HG1 HG2 HA2 hg HALX HAL HIZ HSZ HONE
  cases al
  · have HT : Hid (tellS bk G r s j false = ⟨#[]⟩) := by unfold Hid; rw [HTE.out]; rfl
    have HGS : Hid (G.set j (if false = true then doRow r G[j] else G[j]) = G) := by unfold Hid; simp
    go_wp2_with fail
    go_ret
    exact ⟨false, fun _ => HALE.out.symm, ret_str HT.out.symm, by rw [HGS.out]; exact HG3.out, below_grown B3⟩
  · have HAF' : Hid (∀ w, Calls Tryz.prog 29 #[.agg (rowCells G[j]).toArray, .iface ti mv] w fun e w' => e = .returned (.agg (rowCells (doRow r G[j])).toArray) ∧ Below w.heap.size w w') := fun w => by simpa using HAF.out w
    have hrow : (doRow r G[j]).length = 20 := by rw [doRow_length]; exact hG20
    have HPT : Hid (putAt (gridCells G).toArray (j * 100) (rowCells (doRow r G[j])) = (gridCells (G.set j (doRow r G[j]))).toArray) := hG.put j hjG _ hrow
    have HRI : Hid ((Tryz.prog.info? 69).map (·.size) = some (rowCells (doRow r G[j])).length) := rowCells_len hrow
    have HFT : Hid (j * 100 + (rowCells (doRow r G[j])).length ≤ (gridCells G).toArray.size) := by unfold Hid; rw [rowCells_length, hrow, hG.size]; omega
    have HSR3 : Hid (∀ i u, (rowCells G[j])[i]? = some u → w3.drew.cell? ⟨V1.heap.size, 0 + i, none⟩ = some u) := fun i u hu => by
      rw [Nat.zero_add]
      show w3.cell? _ = _
      rw [cell_of_row _ _ _ _ _ _ HA3.out]
      simpa using hu
    have HT : Hid (tellS bk G r s j true = textT bk bk.trips[j] (G[j].take bk.trips[j].calls.length) r s) := by unfold Hid; rw [HTE.out]; rfl
    clear HAF HTE
    go_upto_region 4 with fail
    go_cut [22] (fun t wx => t = .int .i64 (j : Int) ∧ Hid (wx.heap[Bk]? = some (.cells (gridCells (G.set j (doRow r G[j]))).toArray 71 (0, 0))) ∧ Hid (w3.grownBy wx (some Bk)))
    case first =>
      have hR2 : w3.rangeAt V1.heap.size 0 (rowCells G[j]) := range_of_block HA3.out
      have hT2 : w3.there Bk (j * 100) 100 := there_of_block HG3.out (by rw [hG.size]; omega)
      have HSC : Hid (∀ w4 : World, w4.heap[Bk]? = some (.cells (gridCells G).toArray 71 (0, 0)) → w4.setCells Bk (j * 100) (rowCells (doRow r G[j])) = w4.setRow Bk (gridCells (G.set j (doRow r G[j]))).toArray) := fun w4 h4 => by
        rw [setCells_row (P := Tryz.prog) h4 HRI.out HFT.out (rowCells_one _), HPT.out]
      have hl1 : (rowCells G[j]).length = 100 := by rw [rowCells_length, hG20]
      have hl2 : (rowCells (doRow r G[j])).length = 100 := by rw [rowCells_length, hrow]
      have h11 := rowCells_one G[j]
      have h12 := rowCells_one (doRow r G[j])
      have hu := underT
      have hi1 := HJI.out
      have hi2 := HRI.out
      have HGB : Hid (Bk < w3.heap.size) := (Array.getElem?_eq_some_iff.1 HG3.out).1
      have HAB : Hid (∀ w4 : World, Below w3.heap.size w3.drew w4 → w4.rangeAt V1.heap.size 0 (rowCells G[j]) ∧ w4.there Bk (j * 100) 100 ∧ w4.heap[Bk]? = some (.cells (gridCells G).toArray 71 (0, 0))) := fun w4 hb4 => by
        have h1 : w4.heap[Bk]? = some (.cells (gridCells G).toArray 71 (0, 0)) := by rw [hb4.block _ HGB.out]; exact HG3.out
        have h2 : w4.heap[V1.heap.size]? = some (.cells (rowCells G[j]).toArray 69 (0, 0)) := by rw [hb4.block _ (by exact (Array.getElem?_eq_some_iff.1 HA3.out).1)]; exact HA3.out
        exact ⟨range_of_block h2, there_of_block h1 (by rw [hG.size]; omega), h1⟩
      have HS5 : Hid (∀ w4 : World, Below w3.heap.size w3.drew w4 → (w4.setCells Bk (j * 100) (rowCells (doRow r G[j]))).cell? ⟨w.heap.size, 2, none⟩ = some (.int .i64 (j : Int)) ∧ (w4.setCells Bk (j * 100) (rowCells (doRow r G[j]))).rangeAt V1.heap.size 0 (rowCells G[j]) ∧ (w4.setCells Bk (j * 100) (rowCells (doRow r G[j]))).there Bk (j * 100) 100) := fun w4 hb4 => by
        have h1 : w4.heap[Bk]? = some (.cells (gridCells G).toArray 71 (0, 0)) := by rw [hb4.block _ HGB.out]; exact HG3.out
        have h2 : w4.heap[V1.heap.size]? = some (.cells (rowCells G[j]).toArray 69 (0, 0)) := by rw [hb4.block _ (by exact (Array.getElem?_eq_some_iff.1 HA3.out).1)]; exact HA3.out
        have h3 := cell_keep ((Below.refl _ _).drew.trans hb4) q2
        rw [HSC.out w4 h1]
        have hgr := grown_row w4 Bk (gridCells (G.set j (doRow r G[j]))).toArray
        refine ⟨?_, range_of_block (t := 69) ?_, there_of_block (setRow_heap _ _ _ _ _ _ h1) (by rw [(hG.set j _ hrow).size]; omega)⟩
        · rw [World.cell?_of_block (w := w4) (hgr.block _ (cell_lt h3) (fun e => hRB (by cases e; rfl)))]; exact h3
        · rw [hgr.block _ (Array.getElem?_eq_some_iff.1 h2).1 (fun e => hAB (by cases e; rfl))]; exact h2
      clear HIR HSR3 HPT HFT
      generalize rowCells G[j] = cs at *
      generalize hds : rowCells (doRow r G[j]) = ds at *
      go_region_held3 (fun w' => w'.cell? ⟨w.heap.size, 2, none⟩ = some (.int .i64 (j : Int)) ∧ w'.rangeAt V1.heap.size 0 cs ∧ w'.there Bk (j * 100) 100)
        (first | exact ⟨cell_keep hb4 (by exact q2), (HAB.out _ (by exact hb4)).1, (HAB.out _ (by exact hb4)).2.1⟩ | exact HS5.out _ (by exact hb4) | go_keep_ranges)
        (first | (go_at_call 29; refine (HAF'.out _).mono ?_; rintro e w4 ⟨rfl, hb4⟩))
      have G5 : w4.setCells Bk (j * 100) ds = w4.setRow Bk (gridCells (G.set j (doRow r G[j]))).toArray := HSC.out _ (HAB.out _ (by exact hb4)).2.2
      have HH5 : Hid ((w4.setCells Bk (j * 100) ds).heap[Bk]? = some (.cells (gridCells (G.set j (doRow r G[j]))).toArray 71 (0, 0))) := by unfold Hid; rw [G5]; exact setRow_heap _ _ _ _ _ _ (HAB.out _ (by exact hb4)).2.2
      have HGR5 : Hid (w3.grownBy (w4.setCells Bk (j * 100) ds) (some Bk)) := by unfold Hid; rw [G5]; exact (below_grown ((Below.refl _ _).drew.trans (by exact hb4))).trans (grown_row _ _ _)
      clear G5
      go_wp2_with fail
      go_meet
      exact ⟨rfl, HH5, HGR5⟩
    case rest =>
      rename World => V4
      obtain ⟨rfl, HG4, HGR⟩ := hcut
      have keep4 : ∀ {b o : Nat} {v : Value}, b ≠ Bk → w3.cell? ⟨b, o, none⟩ = some v → V4.cell? ⟨b, o, none⟩ = some v := fun {b o v} hne hc => by
        rw [World.cell?_of_block (w := w3) (HGR.out.block _ (cell_lt hc) (fun e => hne (by cases e; rfl)))]; exact hc
      have q0' := keep4 hRB q0
      have q1' := keep4 hRB q1
      have q2' := keep4 hRB q2
      have q3' := keep4 hRB q3
      have q4' := keep4 hRB q4
      have d0' := keep4 hne1 d0
      have d1' := keep4 hne1 d1
      have d2' := keep4 hne2 d2
      have hlA : V1.heap.size < w3.heap.size := (Array.getElem?_eq_some_iff.1 HA3.out).1
      have HA4 : Hid (V4.heap[V1.heap.size]? = some (.cells (rowCells G[j]).toArray 69 (0, 0))) := by unfold Hid; rw [HGR.out.block _ hlA (fun e => hAB (by cases e; rfl))]; exact HA3.out
      have GR4 : Hid (w.grownBy V4 (some Bk)) := (below_grown B3).trans HGR.out
      have B4 : Below w0.heap.size w0 V4 := Below.grown hB GR4.out (Nat.le_of_lt (by omega)) (fun x hx => by cases hx; exact hBk)
      have HFIN : Hid (∀ w' : World, Below V4.heap.size V4 w' → w'.heap[Bk]? = some (.cells (gridCells (G.set j (if true = true then doRow r G[j] else G[j]))).toArray 71 (0, 0)) ∧ w.grownBy w' (some Bk)) := fun w' hb => ⟨by rw [if_pos rfl, hb.block _ (Array.getElem?_eq_some_iff.1 HG4.out).1]; exact HG4.out, GR4.out.trans (below_grown hb)⟩
      obtain ⟨tb, tof, ca, cc, rfl, n0, n1, hca⟩ := HTA.out.keep B4 j hj
      have HCA : Hid (CallsAt V4 ca bk.trips[j].calls) := hca
      have hnd := tripB_nodup htr
      have hn20 := nameB_size (tripB_named htr)
      obtain ⟨V5, hV5⟩ : ∃ V5, V4.alloc (.cells #[.string bk.trips[j].name, .slice ca bk.trips[j].calls.length cc] 49) = V5 := ⟨_, rfl⟩
      have bV5 : Below V4.heap.size V4 V5 := by subst hV5; exact (Below.refl _ _).alloc (Nat.le_refl _) _
      have t0 : V5.cell? ⟨V4.heap.size, 0, none⟩ = some (.string bk.trips[j].name) := by subst hV5; simp [go_sem]
      have t1 : V5.cell? ⟨V4.heap.size, 1, none⟩ = some (.slice ca bk.trips[j].calls.length cc) := by subst hV5; simp [go_sem]
      have e2 := cell_keep bV5 d2'
      clear q0 q1 q2 q3 q4 d0 d1 d2 HG3 HA3 HGR keep4 hca HAF' HPT HRI HFT HSR3 HIR HJI hb3 bV2 B2 B3 B3' bV1
      have HCO : Hid (∀ w', Below V4.heap.size V4 w' → Calls Tryz.prog 45 #[.agg #[.string bk.trips[j].name, .slice ca bk.trips[j].calls.length cc], .int .i64 s] w' fun e w'' => e = .returned (.int .i64 (callAtC bk.trips[j].calls s)) ∧ Below w'.heap.size w' w'') := fun w' hb => callOf_any _ ca cc bk.trips[j].calls s w' (by omega) hws hwf hnd (HCA.out.keep hb)
      go_upto_region 7 with fail
      refine (HCO.out _ (by exact bV5)).mono ?_
      rintro e w6 ⟨rfl, hb6⟩
      have B6 : Below V4.heap.size V4 w6 := bV5.trans (hb6.mono bV5.size)
      have f0 := cell_keep B6 q0'
      have f1 := cell_keep B6 q1'
      have f2 := cell_keep B6 q2'
      have f3 := cell_keep B6 q3'
      have f4 := cell_keep B6 q4'
      have h0 := cell_keep B6 d0'
      have h1 := cell_keep B6 d1'
      have u0 := cell_keep hb6 t0
      have u1 := cell_keep hb6 t1
      have hlA4 : V1.heap.size < V4.heap.size := (Array.getElem?_eq_some_iff.1 HA4.out).1
      have HA6 : Hid (w6.heap[V1.heap.size]? = some (.cells (rowCells G[j]).toArray 69 (0, 0))) := by unfold Hid; rw [B6.block _ hlA4]; exact HA4.out
      clear q0' q1' q2' q3' q4' d0' d1' d2' e2 t0 t1 hb6 HA4 hV5 bV5 HCO n0 n1
      go_upto_region 7 with fail
      obtain ⟨LK, hLK⟩ : ∃ LK, callAtC bk.trips[j].calls s = LK := ⟨_, rfl⟩
      have HLK : Hid (callAtC bk.trips[j].calls s = LK) := hLK
      rw [hLK]
      clear hLK
      cases hre : reachB r.op r.call LK
      · have HTX : Hid (tellS bk G r s j true = ⟨#[]⟩) := by
          unfold Hid; rw [HT.out]
          rcases callAtC_inv (cs := bk.trips[j].calls) (s := s) with hk | ⟨k, hkl, hkc, hks⟩
          · exact textT_none hk
          · rw [textT_at hkc (by rw [List.length_take]; omega), if_neg (fun h => by
              have h1 := h.1
              rw [← hkc, HLK.out, hre] at h1
              exact absurd h1 (by decide))]
        have HRF : Hid (∀ w, Calls Tryz.prog 62 #[.agg #[.int .i64 r.tick, .int .i64 r.op, .int .i64 (j : Int), .int .i64 (c : Int), .int .i64 r.n], .int .i64 LK] w fun e w' => e = .returned (.bool false) ∧ Below w.heap.size w w') := fun w => by have := HRE.out LK w; rw [hre] at this; exact this
        clear hre HRE
        first
          | (go_region_with (go_at_call 62; refine (HRF.out _).mono ?_; rintro e w7 ⟨rfl, hb7⟩))
          | fail
        all_goals
          have B7 : Below V4.heap.size V4 w7 := B6.trans (((Below.refl _ _).drew.trans (by exact hb7)).mono B6.size)
          go_wp2_with fail
          go_ret
          exact ⟨true, fun _ => HALE.out.symm, ret_str HTX.out.symm, HFIN.out _ B7⟩
      · rcases callAtC_inv (cs := bk.trips[j].calls) (s := s) with hk | ⟨k, hkl, hkc, hks⟩
        · exfalso
          rw [HLK.out] at hk
          rw [hk] at hre
          have := HRC.out
          unfold reachB at hre
          simp at hre
        · have hkG : k < G[j].length := by omega
          have hkT : k < (G[j].take bk.trips[j].calls.length).length := by rw [List.length_take]; omega
          have hxe : (G[j].take bk.trips[j].calls.length)[k] = G[j][k] := List.getElem_take
          have HLKk : LK = (k : Int) := by rw [← HLK.out, hkc]
          subst HLKk
          have HTY : Hid (tellS bk G r s j true = if spokenB G[j][k] r.op = true then sayX bk.trips[j].name (endS bk bk.trips[j].calls (G[j].take bk.trips[j].calls.length)) (decide (endD bk.trips[j].calls (G[j].take bk.trips[j].calls.length) = s)) G[j][k] r.op r.n else ⟨#[]⟩) := by
            unfold Hid; rw [HT.out, textT_at hkc hkT, hxe]
            by_cases hsp : spokenB G[j][k] r.op = true
            · rw [if_pos ⟨hre, hsp⟩, if_pos hsp]
            · rw [if_neg (fun h => hsp h.2), if_neg hsp]
          have HRT : Hid (∀ w, Calls Tryz.prog 62 #[.agg #[.int .i64 r.tick, .int .i64 r.op, .int .i64 (j : Int), .int .i64 (c : Int), .int .i64 r.n], .int .i64 (k : Int)] w fun e w' => e = .returned (.bool true) ∧ Below w.heap.size w w') := fun w => by have := HRE.out k w; rw [hre] at this; exact this
          have HSP : Hid (∀ w, Calls Tryz.prog 63 #[.agg #[.int .i64 G[j][k].late, .int .i64 G[j][k].track, .bool G[j][k].off, .bool G[j][k].here, .bool G[j][k].gone], .int .i64 r.op] w fun e w' => e = .returned (.bool (spokenB G[j][k] r.op)) ∧ Below w.heap.size w w') := fun w => isSpoken_any G[j][k] r.op w
          obtain ⟨y0, y1, y2, y3, y4⟩ := block_cells HA6.out k hkG
          have hk0 : (0 : Int) ≤ (k : Int) := by omega
          have hk20 : (k : Int) < 20 := by omega
          have HXO : Hid (G[j][k].off = false → ∃ (e : Nat) (he : e < bk.trips[j].calls.length), endIdx (G[j].take bk.trips[j].calls.length) (G[j].take bk.trips[j].calls.length).length = (e : Int) ∧ k ≤ e ∧ endD bk.trips[j].calls (G[j].take bk.trips[j].calls.length) = bk.trips[j].calls[e].st ∧ (0 ≤ bk.trips[j].calls[e].st ∧ bk.trips[j].calls[e].st < bk.sts.length) ∧ (bk.trips[j].calls[e].st = bk.trips[j].calls[k].st ↔ e = k)) := fun ho => end_facts htr (by rw [List.length_take]; omega) hkl (by rw [hxe]; exact ho)
          have HTRK : Hid (1 ≤ G[j][k].track ∧ G[j][k].track ≤ 20) := by have := HTK.out _ (List.getElem_mem hkT); rw [hxe] at this; exact this
          have HKS : Hid (bk.trips[j].calls[k].st = s) := hks
          generalize G[j][k] = x at *
          clear hre HRE HT
          go_region_held3 (fun w' => w'.cell? ⟨w.heap.size, 0, none⟩ = some (.int .i64 r.tick) ∧ w'.cell? ⟨w.heap.size, 1, none⟩ = some (.int .i64 r.op) ∧ w'.cell? ⟨w.heap.size, 2, none⟩ = some (.int .i64 (j : Int)) ∧ w'.cell? ⟨w.heap.size, 3, none⟩ = some (.int .i64 (c : Int)) ∧ w'.cell? ⟨w.heap.size, 4, none⟩ = some (.int .i64 r.n) ∧ w'.cell? ⟨V1.heap.size, k * 5, none⟩ = some (.int .i64 x.late) ∧ w'.cell? ⟨V1.heap.size, k * 5 + 1, none⟩ = some (.int .i64 x.track) ∧ w'.cell? ⟨V1.heap.size, k * 5 + 2, none⟩ = some (.bool x.off) ∧ w'.cell? ⟨V1.heap.size, k * 5 + 3, none⟩ = some (.bool x.here) ∧ w'.cell? ⟨V1.heap.size, k * 5 + 4, none⟩ = some (.bool x.gone))
            (first
              | exact ⟨cell_keep hb8 (cell_keep hb7 (by exact f0)), cell_keep hb8 (cell_keep hb7 (by exact f1)), cell_keep hb8 (cell_keep hb7 (by exact f2)), cell_keep hb8 (cell_keep hb7 (by exact f3)), cell_keep hb8 (cell_keep hb7 (by exact f4)), cell_keep hb8 (cell_keep hb7 (by exact y0)), cell_keep hb8 (cell_keep hb7 (by exact y1)), cell_keep hb8 (cell_keep hb7 (by exact y2)), cell_keep hb8 (cell_keep hb7 (by exact y3)), cell_keep hb8 (cell_keep hb7 (by exact y4))⟩
              | exact ⟨cell_keep hb7 (by exact f0), cell_keep hb7 (by exact f1), cell_keep hb7 (by exact f2), cell_keep hb7 (by exact f3), cell_keep hb7 (by exact f4), cell_keep hb7 (by exact y0), cell_keep hb7 (by exact y1), cell_keep hb7 (by exact y2), cell_keep hb7 (by exact y3), cell_keep hb7 (by exact y4)⟩
              | go_keep)
            (first
              | (go_at_call 62; refine (HRT.out _).mono ?_; rintro e w7 ⟨rfl, hb7⟩)
              | (go_at_call 63; refine (HSP.out _).mono ?_; rintro e w8 ⟨rfl, hb8⟩))
          have hb68 : Below w6.heap.size w6 w8 := ((Below.refl _ _).drew.trans (by exact hb7)).trans (hb8.mono (by have := hb7.size; exact this))
          have B8 : Below V4.heap.size V4 w8 := B6.trans (hb68.mono B6.size)
          have F1 := cell_keep hb68 f1
          have F4 := cell_keep hb68 f4
          have H0 := cell_keep hb68 h0
          have U0 := cell_keep hb68 u0
          have U1 := cell_keep hb68 u1
          have Y0 := cell_keep hb68 y0
          have Y1 := cell_keep hb68 y1
          have Y2 := cell_keep hb68 y2
          have Y3 := cell_keep hb68 y3
          have Y4 := cell_keep hb68 y4
          have hlA6 : V1.heap.size < w6.heap.size := (Array.getElem?_eq_some_iff.1 HA6.out).1
          have HA8 : Hid (w8.heap[V1.heap.size]? = some (.cells (rowCells G[j]).toArray 69 (0, 0))) := by unfold Hid; rw [hb68.block _ hlA6]; exact HA6.out
          clear f0 f1 f2 f3 f4 h0 h1 u0 u1 y0 y1 y2 y3 y4 hb7 hb8 HRT HSP HA6
          cases hsp : spokenB x r.op
          · have HTX : Hid (tellS bk G r s j true = ⟨#[]⟩) := by unfold Hid; rw [HTY.out, if_neg (by rw [hsp]; simp)]
            clear hsp
            go_wp2_with fail
            go_ret
            exact ⟨true, fun _ => HALE.out.symm, ret_str HTX.out.symm, HFIN.out _ B8⟩
          · have ho : x.off = false := (spokenB_off hsp).2.1
            obtain ⟨e, he, hei, hke, hD, ⟨d0, d1⟩, hiff⟩ := HXO.out ho
            obtain ⟨q, hq⟩ := Int.eq_ofNat_of_zero_le d0
            have hql : q < bk.sts.length := by omega
            obtain ⟨cb, cof, hcae, k0, k1, k2, k3⟩ := HCA.out.keep B8 e he
            subst hcae
            obtain ⟨sb, sof, hse, m0⟩ := HSA.out.keep (B4.trans (B8.mono B4.size)) q hql
            subst hse
            rw [hq] at k0
            obtain ⟨EN, hEN⟩ : ∃ EN, decide ((q : Int) = s) = EN := ⟨_, rfl⟩
            have hqs : (q : Int) = s ↔ e = k := by rw [← hq, ← HKS.out]; exact hiff
            have hEN1 : ((k : Int) == (e : Int)) = EN := by
              rw [← hEN]
              by_cases h : e = k
              · rw [decide_eq_true (hqs.2 h)]; simp [h]
              · rw [decide_eq_false (fun h2 => h (hqs.1 h2))]; simp; omega
            have hEN2 : (k == e) = EN := by rw [← hEN1, Bool.eq_iff_iff]; simp only [beq_iff_eq]; omega
            have HT : Hid (tellS bk G r s j true = sayX bk.trips[j].name bk.sts[q] EN x r.op r.n) := by
              unfold Hid
              have hDq : endD bk.trips[j].calls (G[j].take bk.trips[j].calls.length) = (q : Int) := by rw [hD, hq]
              rw [HTY.out, if_pos hsp, hDq, hEN]
              unfold endS
              rw [hDq, Int.toNat_natCast, List.getElem?_eq_getElem hql]
              rfl
            have hs20 := HST.out q hql
            have HEO : Hid (Calls Tryz.prog 64 #[.slice (some ⟨V1.heap.size, 0, none⟩) bk.trips[j].calls.length 20] w8 fun e' w'' => e' = .returned (.int .i64 (e : Int)) ∧ w'' = w8) := by
              have hlt : (G[j].take bk.trips[j].calls.length).length = bk.trips[j].calls.length := by rw [List.length_take]; omega
              have := endOf_any (some ⟨V1.heap.size, 0, none⟩) 20 (G[j].take bk.trips[j].calls.length) w8 (by omega) (block_news HA8.out _)
              rw [hei, hlt] at this
              exact this
            have he0 : (0 : Int) ≤ (e : Int) := by omega
            have he1 : (e : Int) < (bk.trips[j].calls.length : Int) := by omega
            have hq0 : (0 : Int) ≤ (q : Int) := by omega
            have hq1 : (q : Int) < (bk.sts.length : Int) := by omega
            have hc20 : (bk.trips[j].calls.length : Int) ≤ 20 := by omega
            have l0 := cell_lt U0
            have l1 := cell_lt Y0
            have l2 := cell_lt H0
            have l3 := cell_lt k0
            have l4 := cell_lt m0
            have l5 := cell_lt F4
            have HTEX : Hid (∀ w', Below w8.heap.size w8 w' → Calls Tryz.prog 65 #[.agg #[.string bk.trips[j].name, .string bk.sts[q], .int .i64 r.n, .int .i64 x.late, .int .i64 x.track, .bool x.off, .bool x.here, .bool x.gone, .bool EN], .int .i64 r.op] w' fun e w'' => e = .returned (.string (sayX bk.trips[j].name bk.sts[q] EN x r.op r.n)) ∧ Below w'.heap.size w' w'') := fun w' hb' => text_any hit _ _ r.n x EN r.op w' hn20 hs20 HOP.out HNUM.out HTRK.out (hit.keep _ _ ((B4.trans (B8.mono B4.size)).trans (hb'.mono ((B4.trans (B8.mono B4.size)).size))) htab)
            clear k1 k2 k3 hwf hsp ho hei hke hD d0 d1 hiff hq hEN hqs HXO HTY HKS HTK HST HCA HSA HTA hxe hkT hkG hkc hks hb68
            generalize bk.trips[j].calls.length = cl at *
            generalize bk.trips[j].name = nm at *
            generalize bk.sts[q] = sn at *
            go_upto_region 10 with fail
            refine HEO.out.mono ?_
            rintro e' w9 ⟨rfl, rfl⟩
            clear HEO
            go_upto_region 10 with fail
            go_cut [12] (fun t wx => t = .pointer (some ⟨w9.heap.size, 0, none⟩) ∧ (wx.cell? ⟨w9.heap.size, 0, none⟩ = some (.string nm) ∧ wx.cell? ⟨w9.heap.size, 1, none⟩ = some (.string sn) ∧ wx.cell? ⟨w9.heap.size, 2, none⟩ = some (.int .i64 r.n) ∧ wx.cell? ⟨w9.heap.size, 3, none⟩ = some (.int .i64 x.late) ∧ wx.cell? ⟨w9.heap.size, 4, none⟩ = some (.int .i64 x.track) ∧ wx.cell? ⟨w9.heap.size, 5, none⟩ = some (.bool x.off) ∧ wx.cell? ⟨w9.heap.size, 6, none⟩ = some (.bool x.here) ∧ wx.cell? ⟨w9.heap.size, 7, none⟩ = some (.bool x.gone) ∧ wx.cell? ⟨w9.heap.size, 8, none⟩ = some (.bool EN)) ∧ Below w9.heap.size w9 wx)
            case first =>
              have nn0 := World.new_ne w9 _ U0
              have nn1 := World.new_ne w9 _ U1
              have nn2 := World.new_ne w9 _ H0
              have nn3 := World.new_ne w9 _ k0
              have nn4 := World.new_ne w9 _ m0
              have nn5 := World.new_ne w9 _ F4
              have nn6 := World.new_ne w9 _ Y0
              have nn7 := World.new_ne w9 _ Y1
              have nn8 := World.new_ne w9 _ Y2
              have nn9 := World.new_ne w9 _ Y3
              have nn10 := World.new_ne w9 _ Y4
              go_region_held3 (fun w' => w'.cell? ⟨V4.heap.size, 0, none⟩ = some (.string nm) ∧ w'.cell? ⟨V4.heap.size, 1, none⟩ = some (.slice (some ⟨cb, cof, none⟩) cl cc) ∧ w'.cell? ⟨Bb, 0, none⟩ = some (.slice (some ⟨sb, sof, none⟩) bk.sts.length sc) ∧ w'.cell? ⟨cb, cof + e * 4, none⟩ = some (.int .i64 (q : Int)) ∧ w'.cell? ⟨sb, sof + q, none⟩ = some (.string sn) ∧ w'.cell? ⟨w.heap.size, 4, none⟩ = some (.int .i64 r.n) ∧ w'.cell? ⟨V1.heap.size, k * 5, none⟩ = some (.int .i64 x.late) ∧ w'.cell? ⟨V1.heap.size, k * 5 + 1, none⟩ = some (.int .i64 x.track) ∧ w'.cell? ⟨V1.heap.size, k * 5 + 2, none⟩ = some (.bool x.off) ∧ w'.cell? ⟨V1.heap.size, k * 5 + 3, none⟩ = some (.bool x.here) ∧ w'.cell? ⟨V1.heap.size, k * 5 + 4, none⟩ = some (.bool x.gone))
                (go_keep) (fail)
              all_goals
                go_wp2_with fail
                go_meet
                exact ⟨rfl, ⟨by simp [go_sem], by simp [go_sem], by simp [go_sem], by simp [go_sem], by simp [go_sem], by simp [go_sem], by simp [go_sem], by simp [go_sem], by simp [go_sem]⟩, ((Below.refl _ _).alloc (Nat.le_refl _) _).drew⟩
            case rest =>
              rename World => V10
              obtain ⟨rfl, ⟨a0, a1, a2, a3, a4, a5, a6, a7, a8⟩, hb10⟩ := hcut
              have F1' := cell_keep hb10 F1
              have B10 : Below V4.heap.size V4 V10 := B8.trans (hb10.mono B8.size)
              go_wp2_with fail
              refine (HTEX.out _ (by exact hb10)).mono ?_
              rintro e' w11 ⟨rfl, hb11⟩
              have B11 : Below V4.heap.size V4 w11 := B10.trans (hb11.mono B10.size)
              go_wp2_with fail
              go_ret
              exact ⟨true, fun _ => HALE.out.symm, ret_str HT.out.symm, HFIN.out _ B11⟩

end Go.Proofs.YtjioingdpfgadaaGreatDoor
