import Derived.Test.YtjioingdpfgadaaDoorProg
import Derived.Test.YtjioingdpfgadaaDoorSpecOM
import Derived.BigRegion
import Derived.Deep.Cut
import Derived.Deep.DeepCutAuto
import Derived.Deep.RegionHeld3
import Derived.Deep.WholeRow
namespace Go.Proofs.YtjioingdpfgadaaDoor
open Go Go.RowKit Go.Deep

/-- What a board says of call k of a trip, and whether it stands there. -/
def rowAt (cs : List CallD) (ns : List NewsD) (trip : Int) (k : Nat) (c : CallD) (x : NewsD) (tick : Int) : RowD × Bool :=
  if k + 1 = cs.length ∨ x.gone = true then (⟨trip, endD cs ns, c.go, c.go + x.late, x.track, 0⟩, false)
  else if x.off = true then (⟨trip, (cs[cs.length - 1]?.map (·.st)).getD 0, c.go, c.go + x.late, x.track, 3⟩, decide (tick - 10 ≤ c.go))
  else if x.here = true then (⟨trip, endD cs ns, c.go, c.go + x.late, x.track, 2⟩, endD cs ns != c.st)
  else if 0 < x.late then (⟨trip, endD cs ns, c.go, c.go + x.late, x.track, 1⟩, endD cs ns != c.st)
  else (⟨trip, endD cs ns, c.go, c.go + x.late, x.track, 0⟩, endD cs ns != c.st)

theorem six_cells {w : World} {g : Nat} {a b c d e f : Value} {T : TypeId} (h : w.heap[g]? = some (.cells #[a, b, c, d, e, f] T (0, 0))) :
    (w.cell? ⟨g, 0, none⟩ = some a ∧ w.cell? ⟨g, 1, none⟩ = some b ∧ w.cell? ⟨g, 2, none⟩ = some c ∧ w.cell? ⟨g, 3, none⟩ = some d ∧ w.cell? ⟨g, 4, none⟩ = some e ∧ w.cell? ⟨g, 5, none⟩ = some f) ∧ (∀ i, w.frozen? ⟨g, i, none⟩ = false) := by
  refine ⟨⟨?_, ?_, ?_, ?_, ?_, ?_⟩, fun i => ?_⟩ <;> simp [World.cell?, World.frozen?, h]
theorem six_set {w : World} {g : Nat} {cs : Array Value} {T : TypeId} (h : w.heap[g]? = some (.cells cs T (0, 0))) (i : Nat) (v : Value) : (w.setCell ⟨g, i, none⟩ v).heap[g]? = some (.cells (cs.setIfInBounds i v) T (0, 0)) := by
  rw [setCell_eq_setRow _ _ _ _ _ _ _ h, setRow_heap _ _ _ _ _ _ h]

theorem results_row_tmp {P : Program} {fn : Func} {p q : Tmp} {ty : TypeId} (h : fn.results = #[.cell p ty, .tmp q]) (tmps : Array Value) (w : World) (g : Nat) (t : TypeId) (cs : Array Value) (fr : Nat × Nat) (d : TypeDesc)
    (hp : tmps.getD p undef = .pointer (some ⟨g, 0, none⟩)) (hg : w.heap[g]? = some (.cells cs t fr))
    (hu : P.underlying ty = some d) (hd : (match d with | .struct _ | .array _ _ => true | _ => false) = true) (hi : (P.info? ty).map (·.size) = some cs.size) :
    (results fn tmps).run P w = .ok (.tuple #[.agg cs, tmps.getD q undef]) w := by
  have hp' : tmps[p]?.getD undef = .pointer (some ⟨g, 0, none⟩) := by simpa using hp
  simp [results, h, hp', asAddr, run_loadVar_row w g t ty cs fr d hg hu hd hi]
theorem infRow : (Tryd.prog.info? 38).map (·.size) = some 6 := by kernel_rfl

set_option maxRecDepth 100000 in
set_option maxHeartbeats 8000000 in
theorem l3row_any (v : Value) (bk : BookD) (na : Option Addr) (nc : Nat) (nss : List (List NewsD)) (j k : Nat) (tick : Int) (w : World) (hj : j < bk.trips.length) (hjn : j < nss.length) (hlen : nss[j].length = bk.trips[j].calls.length) (hm : bk.trips[j].calls.length ≤ 20) (hk : k < bk.trips[j].calls.length) (hkn : k < nss[j].length)
    (hgo : 0 ≤ bk.trips[j].calls[k].go ∧ bk.trips[j].calls[k].go ≤ 1000000) (hla : 0 ≤ nss[j][k].late ∧ nss[j][k].late ≤ 100000) (htk : 0 ≤ tick ∧ tick ≤ 1000000) (hat : BookAt w v bk) (hna : NewsSSAt w na nss) :
    Calls Tryd.prog 52 #[v, .slice na nss.length nc, .int .i64 j, .int .i64 k, .int .i64 tick] w fun e w' => e = .returned (.tuple #[rowV (rowAt bk.trips[j].calls nss[j] j k bk.trips[j].calls[k] nss[j][k] tick).1, .bool (rowAt bk.trips[j].calls nss[j] j k bk.trips[j].calls[k] nss[j][k] tick).2]) ∧ Below w.heap.size w w' := by
  have HL3 : Hid (∀ v na nc w, BookAt w v bk → NewsSSAt w na nss → Calls Tryd.prog 90 #[v, .slice na nss.length nc, .int .i64 j] w fun e w' => e = .returned (.int .i64 (endD bk.trips[j].calls nss[j])) ∧ Below w.heap.size w w') := fun v na nc w h1 h2 => l3to_any v bk na nc nss j w hj hjn hlen (by omega) h1 h2
  obtain ⟨sa, sc, ta, tc, rfl, hsa, hta⟩ := hat
  have HBK : Hid (BookAt w (.agg #[.slice sa bk.sts.length sc, .slice ta bk.trips.length tc]) bk) := ⟨sa, sc, ta, tc, rfl, hsa, hta⟩
  have HNA : Hid (NewsSSAt w na nss) := hna
  obtain ⟨b, o, ca, cc, rfl, c0, c1, hca⟩ := hta j hj
  obtain ⟨b', o', na', nc', rfl, e0, hn⟩ := hna j hjn
  obtain ⟨b2, o2, rfl, d0, d1, d2, d3⟩ := hca k hk
  obtain ⟨b3, o3, rfl, x0, x1, x2, x3, x4⟩ := hn k hkn
  have hj0 : (0 : Int) ≤ (j : Int) := by omega
  have hj1 : (j : Int) < (bk.trips.length : Int) := by omega
  have hj2 : (j : Int) < (nss.length : Int) := by omega
  have hk0 : (0 : Int) ≤ (k : Int) := by omega
  have hk1 : (k : Int) < (bk.trips[j].calls.length : Int) := by omega
  have hk2 : (k : Int) < (nss[j].length : Int) := by omega
  obtain ⟨g1, g2⟩ := hgo
  obtain ⟨g3, g4⟩ := hla
  obtain ⟨g5, g6⟩ := htk
  have HLC : Hid (∃ cl, bk.trips[j].calls[bk.trips[j].calls.length - 1]? = some cl ∧ w.cell? ⟨b2, o2 + (bk.trips[j].calls.length - 1) * 4, none⟩ = some (.int .i64 cl.st)) := by
    obtain ⟨b4, o4, e4, q0, _⟩ := hca (bk.trips[j].calls.length - 1) (by omega)
    simp only [Option.some.injEq, Addr.mk.injEq] at e4
    obtain ⟨rfl, rfl, _⟩ := e4
    exact ⟨_, List.getElem?_eq_getElem (by omega), q0⟩
  generalize bk.trips[j].calls[k] = c at *
  generalize nss[j][k] = x at *
  generalize hcs : bk.trips[j].calls = cs at *
  generalize hns : nss[j] = ns at *
  obtain ⟨W2, hW2⟩ : ∃ W2, ((w.alloc (.cells #[.slice sa bk.sts.length sc, .slice (some ⟨b, o, none⟩) bk.trips.length tc] 26)).alloc (.cells #[.int .i64 0, .int .i64 0, .int .i64 0, .int .i64 0, .int .i64 0, .int .i64 0] 38)).alloc (.cells #[.int .i64 c.st, .int .i64 c.co, .int .i64 c.go, .int .i64 c.tr] 56) = W2 := ⟨_, rfl⟩
  have hs2 : W2.heap.size = w.heap.size + 1 + 1 + 1 := by subst hW2; simp
  have hb2 : Below w.heap.size w W2 := by
    subst hW2
    exact (((Below.refl _ _).alloc (Nat.le_refl _) _).alloc (by simp) _).alloc (by simp; omega) _
  have p0 : W2.cell? ⟨w.heap.size, 0, none⟩ = some (.slice sa bk.sts.length sc) := by subst hW2; simp [go_sem]
  have p1 : W2.cell? ⟨w.heap.size, 1, none⟩ = some (.slice (some ⟨b, o, none⟩) bk.trips.length tc) := by subst hW2; simp [go_sem]
  have p2 : W2.cell? ⟨w.heap.size + 1 + 1, 0, none⟩ = some (.int .i64 c.st) := by subst hW2; simp [go_sem]
  have p3 : W2.cell? ⟨w.heap.size + 1 + 1, 2, none⟩ = some (.int .i64 c.go) := by subst hW2; simp [go_sem]
  have HR2 : Hid (W2.heap[w.heap.size + 1]? = some (.cells #[.int .i64 0, .int .i64 0, .int .i64 0, .int .i64 0, .int .i64 0, .int .i64 0] 38 (0, 0))) := by
    unfold Hid; rw [← hW2, heap_alloc_old _ _ (by simp)]
    have := heap_alloc_last (w.alloc (.cells #[.slice sa bk.sts.length sc, .slice (some ⟨b, o, none⟩) bk.trips.length tc] 26)) (.cells #[.int .i64 0, .int .i64 0, .int .i64 0, .int .i64 0, .int .i64 0, .int .i64 0] 38)
    have e : (w.alloc (.cells #[.slice sa bk.sts.length sc, .slice (some ⟨b, o, none⟩) bk.trips.length tc] 26)).heap.size = w.heap.size + 1 := by simp
    rw [e] at this; exact this
  have e2 := cell_keep hb2 e0
  have y0 := cell_keep hb2 x0
  have y1 := cell_keep hb2 x1
  have y2 := cell_keep hb2 x2
  have y3 := cell_keep hb2 x3
  have y4 := cell_keep hb2 x4
  obtain ⟨W3, hW3⟩ : ∃ W3, W2.alloc (.cells #[.int .i64 x.late, .int .i64 x.track, .bool x.off, .bool x.here, .bool x.gone] 41) = W3 := ⟨_, rfl⟩
  have hs3 : W3.heap.size = w.heap.size + 1 + 1 + 1 + 1 := by subst hW3; simp [hs2]
  have hb23 : Below W2.heap.size W2 W3 := by subst hW3; exact bx_below _ _
  have hb3 : Below w.heap.size w W3 := hb2.trans (hb23.mono hb2.size)
  have r0 := cell_keep hb23 p0
  have r1 := cell_keep hb23 p1
  have r2 := cell_keep hb23 p2
  have r3 := cell_keep hb23 p3
  have n0 : W3.cell? ⟨w.heap.size + 1 + 1 + 1, 0, none⟩ = some (.int .i64 x.late) := by subst hW3; rw [← hs2]; simp [go_sem]
  have n1 : W3.cell? ⟨w.heap.size + 1 + 1 + 1, 1, none⟩ = some (.int .i64 x.track) := by subst hW3; rw [← hs2]; simp [go_sem]
  have n2 : W3.cell? ⟨w.heap.size + 1 + 1 + 1, 2, none⟩ = some (.bool x.off) := by subst hW3; rw [← hs2]; simp [go_sem]
  have n3 : W3.cell? ⟨w.heap.size + 1 + 1 + 1, 3, none⟩ = some (.bool x.here) := by subst hW3; rw [← hs2]; simp [go_sem]
  have n4 : W3.cell? ⟨w.heap.size + 1 + 1 + 1, 4, none⟩ = some (.bool x.gone) := by subst hW3; rw [← hs2]; simp [go_sem]
  have HR3 : Hid (W3.heap[w.heap.size + 1]? = some (.cells #[.int .i64 0, .int .i64 0, .int .i64 0, .int .i64 0, .int .i64 0, .int .i64 0] 38 (0, 0))) := by unfold Hid; rw [hb23.block _ (by omega)]; exact HR2.out
  have HBK3 : Hid (BookAt W3 (.agg #[.slice sa bk.sts.length sc, .slice (some ⟨b, o, none⟩) bk.trips.length tc]) bk) := HBK.out.keep hb3
  have HNA3 : Hid (NewsSSAt W3 (some ⟨b', o', none⟩) nss) := HNA.out.keep hb3
  have HC13 : Hid (W3.cell? ⟨b, o + j * 2 + 1, none⟩ = some (.slice (some ⟨b2, o2, none⟩) cs.length cc)) := cell_keep hb3 c1
  have HW : Hid (IntKind.i64.wrap (c.go + x.late) = c.go + x.late) := by unfold Hid; rw [IntKind.wrap_i64]; omega
  have l0 := cell_lt c0
  have l1 := cell_lt e0
  have l2 := cell_lt d0
  have l3 := cell_lt x0
  clear hsa hta hna hca hn
  go_enter Tryd.func52, Tryd.ntmps52
  go_upto_region 3 with fail
  go_cut [14] (fun s wx => ∃ g, s = .pointer (some ⟨g, 0, none⟩) ∧ W3.heap.size ≤ g ∧ wx.heap[g]? = some (.cells #[.int .i64 j, .int .i64 (endD cs ns), .int .i64 c.go, .int .i64 (c.go + x.late), .int .i64 x.track, .int .i64 0] 38 (0, 0)) ∧ Below W3.heap.size W3 wx)
  case first =>
    have HS3 : Hid (W3.heap.size = w.heap.size + 1 + 1 + 1 + 1) := hs3
    clear hs3 hs2
    clear y0 y1 y2 y3 y4 e2 p0 p1 p2 p3 hW2 hW3 c0 c1 d0 d1 d2 d3 x0 x1 x2 x3 x4 e0 HLC HC13
    go_region_held3 (fun w' => w'.cell? ⟨w.heap.size, 0, none⟩ = some (.slice sa bk.sts.length sc) ∧ w'.cell? ⟨w.heap.size, 1, none⟩ = some (.slice (some ⟨b, o, none⟩) bk.trips.length tc) ∧ w'.cell? ⟨w.heap.size + 1 + 1, 2, none⟩ = some (.int .i64 c.go) ∧ w'.cell? ⟨w.heap.size + 1 + 1 + 1, 0, none⟩ = some (.int .i64 x.late) ∧ w'.cell? ⟨w.heap.size + 1 + 1 + 1, 1, none⟩ = some (.int .i64 x.track))
      (first
        | go_keep
        | ((try dsimp only); (repeat' apply And.intro); all_goals (first | (rw [cell_other, cell_other, cell_other, cell_other, cell_other, cell_other] <;> first | (show _ ≠ W3.heap.size; have := HS3.out; omega) | (exact cell_keep hb4 (cell_keep (Below.drew (bx_below _ _)) (by first | exact r0 | exact r1 | exact r3 | exact n0 | exact n1)))) | (exact cell_keep (bx_below w4 _) (cell_keep hb4 (by first | exact r0 | exact r1 | exact r3 | exact n0 | exact n1))) | (exact cell_keep hb4 (by first | exact r0 | exact r1 | exact r3 | exact n0 | exact n1)) | (exact cell_keep hb4 (cell_keep (Below.drew (bx_below _ _)) (by first | exact r0 | exact r1 | exact r3 | exact n0 | exact n1))))))
      (first
        | (go_at_call 90; refine (HL3.out _ _ _ _ (by exact HBK3.out) (by exact HNA3.out)).mono ?_; rintro e w4 ⟨rfl, hb4⟩)
        | (go_at_call 90; refine (HL3.out _ _ _ _ (by exact HBK3.out.keep (Below.drew (bx_below _ _))) (by exact HNA3.out.keep (Below.drew (bx_below _ _)))).mono ?_; rintro e w4 ⟨rfl, hb4⟩; have hz4 : w4.heap[W3.heap.size]? = some (.cells #[.int .i64 0, .int .i64 0, .int .i64 0, .int .i64 0, .int .i64 0, .int .i64 0] 38 (0, 0)) := (hb4.block _ (by simp)).trans (by exact heap_alloc_last W3 _); obtain ⟨⟨u0, u1, u2, u3, u4, u5⟩, uf⟩ := six_cells hz4; have uf0 := uf 0; have uf1 := uf 1; have uf2 := uf 2; have uf3 := uf 3; have uf4 := uf 4; have uf5 := uf 5; clear uf))
    · have Z4 : Below W3.heap.size W3 w4 := (Below.refl _ _).drew.trans (by exact hb4)
      have HG4 : Hid ((w4.alloc (.cells #[.int .i64 j, .int .i64 (endD cs ns), .int .i64 c.go, .int .i64 (IntKind.i64.wrap (c.go + x.late)), .int .i64 x.track, .int .i64 0] 38)).heap[w4.heap.size]? = some (.cells #[.int .i64 j, .int .i64 (endD cs ns), .int .i64 c.go, .int .i64 (c.go + x.late), .int .i64 x.track, .int .i64 0] 38 (0, 0))) := by
        unfold Hid; rw [HW.out]; exact heap_alloc_last w4 _
      go_wp2_with fail
      go_meet
      exact ⟨_, rfl, Z4.size, HG4.out, Z4.alloc Z4.size _⟩
    · have Z4 : Below W3.heap.size W3 w4 := ((bx_below _ _).drew).trans ((show Below (W3.heap.size + 1) _ w4 from by simpa using hb4).mono (by omega))
      have HG4 : Hid (((((((w4.setCell ⟨W3.heap.size, 0, none⟩ (.int .i64 j)).setCell ⟨W3.heap.size, 1, none⟩ (.int .i64 (endD cs ns))).setCell ⟨W3.heap.size, 2, none⟩ (.int .i64 c.go)).setCell ⟨W3.heap.size, 3, none⟩ (.int .i64 (IntKind.i64.wrap (c.go + x.late)))).setCell ⟨W3.heap.size, 4, none⟩ (.int .i64 x.track)).setCell ⟨W3.heap.size, 5, none⟩ (.int .i64 0)).heap[W3.heap.size]? = some (.cells #[.int .i64 j, .int .i64 (endD cs ns), .int .i64 c.go, .int .i64 (c.go + x.late), .int .i64 x.track, .int .i64 0] 38 (0, 0))) := by
        unfold Hid; rw [HW.out, six_set (six_set (six_set (six_set (six_set (six_set hz4 0 _) 1 _) 2 _) 3 _) 4 _) 5 _]; simp
      go_wp2_with fail
      go_meet
      exact ⟨_, rfl, Nat.le_refl _, HG4.out, (((((Z4.setCell (Nat.le_refl _) _).setCell (Nat.le_refl _) _).setCell (Nat.le_refl _) _).setCell (Nat.le_refl _) _).setCell (Nat.le_refl _) _).setCell (Nat.le_refl _) _⟩
  case rest =>
    obtain ⟨g, rfl, hgl, hgr, hbx⟩ := hcut
    rename World => wx
    have hBx : Below w.heap.size w wx := hb3.trans (hbx.mono hb3.size)
    have R0 := cell_keep hbx r0
    have R1 := cell_keep hbx r1
    have R2 := cell_keep hbx r2
    have R3 := cell_keep hbx r3
    have N0 := cell_keep hbx n0
    have N1 := cell_keep hbx n1
    have N2 := cell_keep hbx n2
    have N3 := cell_keep hbx n3
    have N4 := cell_keep hbx n4
    have C1 := cell_keep hbx HC13.out
    have HRx : wx.heap[w.heap.size + 1]? = some (.cells #[.int .i64 0, .int .i64 0, .int .i64 0, .int .i64 0, .int .i64 0, .int .i64 0] 38 (0, 0)) := by rw [hbx.block _ (by omega)]; exact HR3.out
    have HRX : Hid (wx.heap[w.heap.size + 1]? = some (.cells #[.int .i64 0, .int .i64 0, .int .i64 0, .int .i64 0, .int .i64 0, .int .i64 0] 38 (0, 0))) := HRx
    obtain ⟨⟨z0, z1, z2, z3, z4, z5⟩, zf⟩ := six_cells HRx
    obtain ⟨⟨v0, v1, v2, v3, v4, v5⟩, vf⟩ := six_cells hgr
    have zf0 := zf 0
    have zf1 := zf 1
    have zf2 := zf 2
    have zf3 := zf 3
    have zf4 := zf 4
    have zf5 := zf 5
    have vf1 := vf 1
    have vf5 := vf 5
    have ne0 : ¬ g = w.heap.size := by omega
    have ne1 : ¬ g = w.heap.size + 1 := by omega
    have ne2 : ¬ g = w.heap.size + 1 + 1 := by omega
    have ne3 : ¬ g = w.heap.size + 1 + 1 + 1 := by omega
    have nf0 : ¬ w.heap.size = g := by omega
    have nf1 : ¬ w.heap.size + 1 = g := by omega
    have nf2 : ¬ w.heap.size + 1 + 1 = g := by omega
    have nf3 : ¬ w.heap.size + 1 + 1 + 1 = g := by omega
    have nb : ¬ b = g := by omega
    have nb2 : ¬ b2 = g := by omega
    have Hbx : Hid (Below w.heap.size w wx) := hBx
    have Hgs : Hid (w.heap.size + 1 + 1 + 1 < g) := by unfold Hid; omega
    have HGZ : Hid (w.heap.size ≤ g) := by unfold Hid; omega
    clear hW2 hW3 p0 p1 p2 p3 r0 r1 r2 r3 n0 n1 n2 n3 n4 y0 y1 y2 y3 y4 e2 x0 x1 x2 x3 x4 e0 c0 c1 d0 d1 d2 d3 HR2 HR3 HBK3 HNA3 HBK HNA HL3 zf vf hgr HRx hbx hb2 hb23 hb3 hs2 hs3 hgl HC13 hBx
    obtain ⟨q, hq⟩ : ∃ q, cs.length = q + 1 := ⟨cs.length - 1, by omega⟩
    obtain ⟨cl, hcl, hclc⟩ := HLC.out
    have LC : wx.cell? ⟨b2, o2 + q * 4, none⟩ = some (.int .i64 cl.st) := by
      have := cell_keep Hbx.out hclc
      rw [hq] at this; exact this
    have HCL : Hid ((cs[cs.length - 1]?.map (·.st)).getD 0 = cl.st) := by unfold Hid; rw [hcl]; rfl
    have HCK : Hid (cs.length = q + 1) := hq
    rw [hq] at C1
    have j0 : ((↑(q + 1) : Int) - 1) = (q : Int) := by omega
    have j1 : (q : Int) < ((q + 1 : Nat) : Int) := by omega
    have j2 : (0 : Int) ≤ (q : Int) := by omega
    have hq20 : q ≤ 20 := by omega
    clear hclc hcl HLC hq
    by_cases hlast : k = q
    · have HV : Hid (rowAt cs ns j k c x tick = (⟨j, endD cs ns, c.go, c.go + x.late, x.track, 0⟩, false)) := by unfold Hid rowAt; rw [if_pos (Or.inl (by rw [HCK.out, hlast]))]
      subst hlast
      go_wp2_with fail
      refine bodyPost_ret (v := .tuple #[rowV ⟨j, endD cs ns, c.go, c.go + x.late, x.track, 0⟩, .bool (false)]) ?_ rfl ⟨by rw [HV.out], ?_⟩
      · exact results_row_tmp Tryd.results52 _ _ (w.heap.size + 1) 38 _ (0, 0) _ rfl (by simp [World.setCell, Array.getElem?_modify, HRX.out]) Tryd.underlying38 rfl infRow
      exact (Below.setCell (Below.setCell (Below.setCell (Below.setCell (Below.setCell (Below.setCell Hbx.out (Nat.le_succ _) _) (Nat.le_succ _) _) (Nat.le_succ _) _) (Nat.le_succ _) _) (Nat.le_succ _) _) (Nat.le_succ _) _)
    · have hqq : ((k : Int) == (q : Int)) = false := by simp; omega
      have hqn : (k == q) = false := by simp; omega
      have hqd : decide (k = q) = false := decide_eq_false hlast
      have HNL : Hid (¬ k + 1 = cs.length) := by unfold Hid; rw [HCK.out]; omega
      have hqz : ¬ (k : Int) = (q : Int) := by omega
      cases hg : x.gone
      · rw [hg] at N4
        cases hof : x.off
        · rw [hof] at N2
          cases hhe : x.here
          · rw [hhe] at N3
            by_cases hlt : 0 < x.late
            · have HV : Hid (rowAt cs ns j k c x tick = (⟨j, endD cs ns, c.go, c.go + x.late, x.track, 1⟩, endD cs ns != c.st)) := by
                unfold Hid rowAt; rw [if_neg (by simp [HNL.out, hg]), if_neg (by simp [hof]), if_neg (by simp [hhe]), if_pos hlt]
              clear hg hof hhe
              go_wp2_with fail
              go_region
              go_wp2_with fail
              refine bodyPost_ret (v := .tuple #[rowV ⟨j, endD cs ns, c.go, c.go + x.late, x.track, 1⟩, .bool (endD cs ns != c.st)]) ?_ rfl ⟨by rw [HV.out], ?_⟩
              · exact results_row_tmp Tryd.results52 _ _ (w.heap.size + 1) 38 _ (0, 0) _ rfl (by simp [World.setCell, World.drew, Array.getElem?_modify, HRX.out, ne1]) Tryd.underlying38 rfl infRow
              exact Below.drew (Below.setCell (Below.setCell (Below.setCell (Below.setCell (Below.setCell (Below.setCell (Below.setCell Hbx.out HGZ.out _) (Nat.le_succ _) _) (Nat.le_succ _) _) (Nat.le_succ _) _) (Nat.le_succ _) _) (Nat.le_succ _) _) (Nat.le_succ _) _)
            · have HV : Hid (rowAt cs ns j k c x tick = (⟨j, endD cs ns, c.go, c.go + x.late, x.track, 0⟩, endD cs ns != c.st)) := by
                unfold Hid rowAt; rw [if_neg (by simp [HNL.out, hg]), if_neg (by simp [hof]), if_neg (by simp [hhe]), if_neg hlt]
              have hld : decide (0 < x.late) = false := decide_eq_false hlt
              clear hg hof hhe
              go_wp2_with fail
              go_region
              go_wp2_with fail
              refine bodyPost_ret (v := .tuple #[rowV ⟨j, endD cs ns, c.go, c.go + x.late, x.track, 0⟩, .bool (endD cs ns != c.st)]) ?_ rfl ⟨by rw [HV.out], ?_⟩
              · exact results_row_tmp Tryd.results52 _ _ (w.heap.size + 1) 38 _ (0, 0) _ rfl (by simp [World.setCell, World.drew, Array.getElem?_modify, HRX.out]) Tryd.underlying38 rfl infRow
              exact Below.drew (Below.setCell (Below.setCell (Below.setCell (Below.setCell (Below.setCell (Below.setCell Hbx.out (Nat.le_succ _) _) (Nat.le_succ _) _) (Nat.le_succ _) _) (Nat.le_succ _) _) (Nat.le_succ _) _) (Nat.le_succ _) _)
          · rw [hhe] at N3
            have HV : Hid (rowAt cs ns j k c x tick = (⟨j, endD cs ns, c.go, c.go + x.late, x.track, 2⟩, endD cs ns != c.st)) := by
              unfold Hid rowAt; rw [if_neg (by simp [HNL.out, hg]), if_neg (by simp [hof]), if_pos hhe]
            clear hg hof hhe
            go_wp2_with fail
            go_region
            go_wp2_with fail
            refine bodyPost_ret (v := .tuple #[rowV ⟨j, endD cs ns, c.go, c.go + x.late, x.track, 2⟩, .bool (endD cs ns != c.st)]) ?_ rfl ⟨by rw [HV.out], ?_⟩
            · exact results_row_tmp Tryd.results52 _ _ (w.heap.size + 1) 38 _ (0, 0) _ rfl (by simp [World.setCell, World.drew, Array.getElem?_modify, HRX.out, ne1]) Tryd.underlying38 rfl infRow
            exact Below.drew (Below.setCell (Below.setCell (Below.setCell (Below.setCell (Below.setCell (Below.setCell (Below.setCell Hbx.out HGZ.out _) (Nat.le_succ _) _) (Nat.le_succ _) _) (Nat.le_succ _) _) (Nat.le_succ _) _) (Nat.le_succ _) _) (Nat.le_succ _) _)
        · rw [hof] at N2
          have HV : Hid (rowAt cs ns j k c x tick = (⟨j, cl.st, c.go, c.go + x.late, x.track, 3⟩, decide (tick - 10 ≤ c.go))) := by
            unfold Hid rowAt; rw [if_neg (by simp [HNL.out, hg]), if_pos hof, HCL.out]
          clear hg hof
          go_wp2_with fail
          go_region
          go_wp2_with fail
          go_region
          go_wp2_with fail
          refine bodyPost_ret (v := .tuple #[rowV ⟨j, cl.st, c.go, c.go + x.late, x.track, 3⟩, .bool (decide (tick - 10 ≤ c.go))]) ?_ rfl ⟨by rw [HV.out], ?_⟩
          · exact results_row_tmp Tryd.results52 _ _ (w.heap.size + 1) 38 _ (0, 0) _ rfl (by simp [World.setCell, World.drew, Array.getElem?_modify, HRX.out, ne1]) Tryd.underlying38 rfl infRow
          exact Below.drew (Below.drew (Below.setCell (Below.setCell (Below.setCell (Below.setCell (Below.setCell (Below.setCell (Below.setCell (Below.setCell Hbx.out HGZ.out _) HGZ.out _) (Nat.le_succ _) _) (Nat.le_succ _) _) (Nat.le_succ _) _) (Nat.le_succ _) _) (Nat.le_succ _) _) (Nat.le_succ _) _))
      · rw [hg] at N4
        have HV : Hid (rowAt cs ns j k c x tick = (⟨j, endD cs ns, c.go, c.go + x.late, x.track, 0⟩, false)) := by unfold Hid rowAt; rw [if_pos (Or.inr hg)]
        clear hg
        go_wp2_with fail
        refine bodyPost_ret (v := .tuple #[rowV ⟨j, endD cs ns, c.go, c.go + x.late, x.track, 0⟩, .bool (false)]) ?_ rfl ⟨by rw [HV.out], ?_⟩
        · exact results_row_tmp Tryd.results52 _ _ (w.heap.size + 1) 38 _ (0, 0) _ rfl (by simp [World.setCell, Array.getElem?_modify, HRX.out]) Tryd.underlying38 rfl infRow
        exact (Below.setCell (Below.setCell (Below.setCell (Below.setCell (Below.setCell (Below.setCell Hbx.out (Nat.le_succ _) _) (Nat.le_succ _) _) (Nat.le_succ _) _) (Nat.le_succ _) _) (Nat.le_succ _) _) (Nat.le_succ _) _)

end Go.Proofs.YtjioingdpfgadaaDoor
