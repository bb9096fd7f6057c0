import Derived.Test.YtjioingdpfgadabGreatDoorProg
import Derived.Test.YtjioingdpfgadabGreatDoorChkD
import Derived.Test.YtjioingdpfgadabGreatDoorAsM
namespace Go.Proofs.YtjioingdpfgadabGreatDoor
open Go Go.RowKit Go.Deep

theorem rowIs_triple (w : World) (x y z : Value) (t : TypeId) : (w.alloc (.cells #[x, y, z] t)).rowIs w.heap.size t 3 (fun i => if i = 0 then x else if i = 1 then y else z) :=
  ⟨_, blk_alloc_new _ _, rfl, fun i hi => by
    match i, hi with
    | 0, _ => rfl
    | 1, _ => rfl
    | 2, _ => rfl⟩

set_option maxRecDepth 100000 in
set_option maxHeartbeats 2000000 in
theorem implBookOk_any (v : Value) (bk : BookD) (w : World) (hn : bookSize bk ≤ 1048576) (hwf : ∀ t ∈ bk.trips, ∀ i (h : i < t.calls.length), (Lit.int .i64 t.calls[i].st).wf = true) (hat : BookAt w v bk) (hev : ErrVars w) :
    Calls Tryz.prog 95 #[v] w fun e w' => e = .returned (.agg #[.int .i64 (faultD bk).1, .int .i64 (faultD bk).2]) ∧ Below w.heap.size w w' := by
  obtain ⟨sa, sc, ta, tc, rfl, hsa, hta⟩ := hat
  have hb0 : Below w.heap.size w (((w.alloc (.cells #[.slice sa bk.sts.length sc, .slice ta bk.trips.length tc] 33)).alloc (.cells #[.int .i64 0, .int .i64 0] 147)).alloc (.cells #[.int .i64 0, .int .i64 0, .nilIface] 176)) := (((Below.refl _ _).alloc (Nat.le_refl _) _).alloc (by simp) _).alloc (by simp; omega) _
  have HWF : Hid (∀ t ∈ bk.trips, ∀ i (h : i < t.calls.length), (Lit.int .i64 t.calls[i].st).wf = true) := hwf
  clear hwf
  go_enter Tryz.func95, Tryz.ntmps95
  go_wp2_with fail
  refine (checkBook_any _ bk _ hn HWF.out (by exact ⟨sa, sc, ta, tc, rfl, hsa.keep hb0, hta.keep hb0⟩) (by exact hev.keep hb0)).mono ?_
  rintro e w1 ⟨he, hb1⟩
  have hB1 : Below w.heap.size w w1 := hb0.trans (hb1.mono (by simp; omega))
  have hz : w.heap.size + 1 + 1 + 1 ≤ w1.heap.size := by have := hb1.size; simpa using this
  have r0 : w1.cell? ⟨w.heap.size + 1, 0, none⟩ = some (.int .i64 0) := by
    rw [hb1.cell (p := ⟨w.heap.size + 1, 0, none⟩) (by simp)]; simp [go_sem]
  have r1 : w1.cell? ⟨w.heap.size + 1, 1, none⟩ = some (.int .i64 0) := by
    rw [hb1.cell (p := ⟨w.heap.size + 1, 1, none⟩) (by simp)]; simp [go_sem]
  have fr : ∀ o, w1.frozen? ⟨w.heap.size + 1, o, none⟩ = false := by
    intro o
    rw [hb1.frozen (p := ⟨w.heap.size + 1, o, none⟩) (by simp)]; simp [go_sem]
  have s0 : w1.cell? ⟨w.heap.size + 1 + 1, 0, none⟩ = some (.int .i64 0) := by
    rw [hb1.cell (p := ⟨w.heap.size + 1 + 1, 0, none⟩) (by simp)]; simp [go_sem]
  have s1 : w1.cell? ⟨w.heap.size + 1 + 1, 1, none⟩ = some (.int .i64 0) := by
    rw [hb1.cell (p := ⟨w.heap.size + 1 + 1, 1, none⟩) (by simp)]; simp [go_sem]
  have s2 : w1.cell? ⟨w.heap.size + 1 + 1, 2, none⟩ = some .nilIface := by
    rw [hb1.cell (p := ⟨w.heap.size + 1 + 1, 2, none⟩) (by simp)]; simp [go_sem]
  have fs : ∀ o, w1.frozen? ⟨w.heap.size + 1 + 1, o, none⟩ = false := by
    intro o
    rw [hb1.frozen (p := ⟨w.heap.size + 1 + 1, o, none⟩) (by simp)]; simp [go_sem]
  have hty := (hev.keep hB1).type
  have rr : w1.rowIs (w.heap.size + 1 + 1) 176 3 (fun i => if i = 0 then .int .i64 0 else if i = 1 then .int .i64 0 else .nilIface) := by
    refine World.rowIs.of_block ?_ (hb1.block _ (by simp))
    have h := rowIs_triple ((w.alloc (.cells #[.slice sa bk.sts.length sc, .slice ta bk.trips.length tc] 33)).alloc (.cells #[.int .i64 0, .int .i64 0] 147)) (.int .i64 0) (.int .i64 0) .nilIface 176
    rwa [nblk_alloc, nblk_alloc] at h
  have RR : Hid (w1.rowIs (w.heap.size + 1 + 1) 176 3 (fun i => if i = 0 then .int .i64 0 else if i = 1 then .int .i64 0 else .nilIface)) := rr
  clear rr
  generalize hf : faultD bk = f at *
  have HFF : Hid (faultD bk = f) := hf
  clear hf
  rcases he with ⟨rfl, rfl⟩ | ⟨hne, z, cz, rfl⟩
  · clear hb1 hb0 hsa hta hev hty
    go_wp2_with fail
    refine (as_nil _ _).mono ?_
    rintro e w2 ⟨rfl, rfl⟩
    go_wp2_with fail
    exact bodyPost_ret (v := .agg #[.int .i64 0, .int .i64 0]) (by simp [results, Tryz.results95, go_sem, r0, r1]) rfl ⟨by rw [HFF.out], (hB1.setCell (by simp) _).setCell (by simp) _⟩
  · clear hb1 hb0 hsa hta hev
    go_wp2_with fail
    refine (as_hit _ _ _ _ _ _ _ _ cz hty s0 s1 s2 fs).mono ?_
    rintro e w2 ⟨rfl, hw2⟩
    have hB2 : Below w.heap.size w w2 := by
      subst hw2
      exact ((((((((hB1.alloc hB1.size _).alloc (by have := hB1.size; simp; omega) _).alloc (by have := hB1.size; simp; omega) _).alloc (by have := hB1.size; simp; omega) _).setCell (by simp; omega) _).setCell (by simp; omega) _).setCell (by simp; omega) _))
    have hlt2 : w.heap.size + 1 < w1.heap.size := by omega
    have hlt3 : w.heap.size + 1 + 1 < w1.heap.size := by omega
    have k0 : w2.cell? ⟨w.heap.size + 1, 0, none⟩ = some (.int .i64 0) := by
      subst hw2
      rw [cell_other (by simp), cell_other (by simp), cell_other (by simp), World.cell?_alloc_lt _ _ ⟨_, 0, none⟩ (by simp; omega), World.cell?_alloc_lt _ _ ⟨_, 0, none⟩ (by simp; omega), World.cell?_alloc_lt _ _ ⟨_, 0, none⟩ (by simp; omega), World.cell?_alloc_lt _ _ ⟨_, 0, none⟩ hlt2]; exact r0
    have k1 : w2.cell? ⟨w.heap.size + 1, 1, none⟩ = some (.int .i64 0) := by
      subst hw2
      rw [cell_other (by simp), cell_other (by simp), cell_other (by simp), World.cell?_alloc_lt _ _ ⟨_, 1, none⟩ (by simp; omega), World.cell?_alloc_lt _ _ ⟨_, 1, none⟩ (by simp; omega), World.cell?_alloc_lt _ _ ⟨_, 1, none⟩ (by simp; omega), World.cell?_alloc_lt _ _ ⟨_, 1, none⟩ hlt2]; exact r1
    have kf : ∀ o, w2.frozen? ⟨w.heap.size + 1, o, none⟩ = false := by
      intro o
      subst hw2
      rw [World.frozen?_setCell, World.frozen?_setCell, World.frozen?_setCell, World.frozen?_alloc_old _ _ ⟨_, o, none⟩ (by simp; omega), World.frozen?_alloc_old _ _ ⟨_, o, none⟩ (by simp; omega), World.frozen?_alloc_old _ _ ⟨_, o, none⟩ (by simp; omega), World.frozen?_alloc_old _ _ ⟨_, o, none⟩ (Nat.ne_of_lt hlt2)]; exact fr o
    obtain ⟨m0, m1⟩ : w2.cell? ⟨w.heap.size + 1 + 1, 0, none⟩ = some (.int .i64 f.1) ∧ w2.cell? ⟨w.heap.size + 1 + 1, 1, none⟩ = some (.int .i64 f.2) := by
      subst hw2
      have r := ((((((RR.out.alloc (.cells #[.pointer (some ⟨w.heap.size + 1 + 1, 0, none⟩)] 179)).alloc (.cells #[.pointer (some ⟨12, 179, none⟩), .pointer (some ⟨w1.heap.size, 0, none⟩), .int .u64 150] 188)).alloc (.cells #[.pointer (some ⟨12, 179, none⟩), .pointer (some ⟨w1.heap.size, 0, none⟩), .int .u64 150] 188)).alloc (.cells #[.int .i64 f.1, .int .i64 f.2, z] 176)).set 0 (.int .i64 f.1)).set 1 (.int .i64 f.2)).set 2 z
      have c0 := r.cell (i := 0) (by omega)
      have c1 := r.cell (i := 1) (by omega)
      simp only [] at c0 c1
      exact ⟨by rw [c0]; rfl, by rw [c1]; rfl⟩
    clear hw2
    go_wp2_with fail
    exact bodyPost_ret (v := .agg #[.int .i64 f.1, .int .i64 f.2]) (by simp [results, Tryz.results95, go_sem, k0, k1]) rfl ⟨by rw [HFF.out], (hB2.setCell (by simp) _).setCell (by simp) _⟩

end Go.Proofs.YtjioingdpfgadabGreatDoor
