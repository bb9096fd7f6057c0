import Derived.Test.YtjioingdpfgadaaDoorProg
import Derived.Test.YtjioingdpfgadaaDoorBrdAM
import Derived.Test.YtjioingdpfgadaaDoorBaseM
import Derived.Deep.RegionHeld3
import Derived.BigRegion
import Derived.Deep.Cut
import Derived.Deep.DeepCutAuto
namespace Go.Proofs.YtjioingdpfgadaaDoor
open Go Go.RowKit Go.Deep

theorem endTo_idx (cs : List CallD) (ns : List NewsD) (n : Nat) (h1 : n ≤ cs.length) (h2 : n ≤ ns.length) : endTo cs ns n = if endIdx ns n < 0 then -1 else (cs[(endIdx ns n).toNat]?.map (·.st)).getD (-1) := by
  induction n with
  | zero => simp [endTo, endIdx]
  | succ n ih =>
    rw [endTo_succ cs ns n (by omega) (by omega), endIdx_succ ns n (by omega)]
    split
    · exact ih (by omega) (by omega)
    · rw [if_neg (by omega), Int.toNat_natCast, List.getElem?_eq_getElem (by omega)]; rfl
theorem boundD_range (ns : List NewsD) (k : Nat) (hk : k < ns.length) : 0 ≤ boundD ns ns[k] ∧ boundD ns ns[k] < ns.length := by
  unfold boundD
  split
  · omega
  · rename_i h
    have h1 := endIdx_ge ns k ns.length hk (Nat.le_refl _) (by simpa using h)
    have h2 := endIdx_lt ns ns.length
    omega
/-- What the program shows is what the document asks. -/
theorem rowAt_shown (cs : List CallD) (ns : List NewsD) (trip : Int) (k : Nat) (tick : Int) (hl : ns.length = cs.length) (hk : k < cs.length) (hkn : k < ns.length) (hnd : (cs.map (·.st)).Nodup) :
    (rowAt cs ns trip k cs[k] ns[k] tick).2 = shownD ns k cs[k] ns[k] tick ∧ (shownD ns k cs[k] ns[k] tick = true → (rowAt cs ns trip k cs[k] ns[k] tick).1 = rowD cs ns trip cs[k] ns[k]) := by
  cases hg : ns[k].gone
  · cases ho : ns[k].off
    · have hb : boundD ns ns[k] = endIdx ns ns.length := by unfold boundD; rw [ho]; rfl
      have hge := endIdx_ge ns k ns.length hkn (Nat.le_refl _) ho
      have hlt := (endIdx_lt ns ns.length).2
      have he : endD cs ns = (cs[(endIdx ns ns.length).toNat]?.map (·.st)).getD (-1) := by
        unfold endD
        rw [← hl, endTo_idx cs ns ns.length (by omega) (Nat.le_refl _), if_neg (by omega)]
      have hq : (endIdx ns ns.length).toNat < cs.length := by omega
      have he2 : endD cs ns = (cs[(endIdx ns ns.length).toNat]'hq).st := by rw [he, List.getElem?_eq_getElem hq]; rfl
      have hne : (endD cs ns != cs[k].st) = !decide ((k : Int) = endIdx ns ns.length) := by
        rw [he2]
        by_cases e : (k : Int) = endIdx ns ns.length
        · have : (endIdx ns ns.length).toNat = k := by omega
          simp [this, e]
        · have e3 : (endIdx ns ns.length).toNat ≠ k := by omega
          have e4 : (cs[(endIdx ns ns.length).toNat]'hq).st ≠ cs[k].st := fun h => e3 (by
            have := (List.getElem_inj (h₀ := by simpa using hq) (h₁ := by simpa using hk) hnd).1 (by simpa using h)
            exact this)
          simp [e4, e]
      by_cases hlast : k + 1 = cs.length
      · have hk2 : (k : Int) = endIdx ns ns.length := by omega
        have hs : shownD ns k cs[k] ns[k] tick = false := shownD_end (by rw [hb]; exact hk2)
        rw [hs]
        unfold rowAt
        rw [if_pos (.inl hlast)]
        exact ⟨rfl, fun h => by simp at h⟩
      · by_cases e : (k : Int) = endIdx ns ns.length
        · have hs : shownD ns k cs[k] ns[k] tick = false := shownD_end (by rw [hb]; exact e)
          rw [hs]
          refine ⟨?_, fun h => by simp at h⟩
          have hne' : (endD cs ns != cs[k].st) = false := by rw [hne]; simp [e]
          unfold rowAt
          rw [if_neg (by simp [hlast, hg]), ho, if_neg (by simp)]
          split
          · exact hne'
          · split
            · exact hne'
            · exact hne'
        · have hs : shownD ns k cs[k] ns[k] tick = true := by rw [shownD_else hg (by rw [hb]; exact e), ho]; rfl
          rw [hs]
          have hne' : (endD cs ns != cs[k].st) = true := by rw [hne]; simp [e]
          have hto : (cs[(boundD ns ns[k]).toNat]?.map (·.st)).getD 0 = endD cs ns := by rw [hb, he2, List.getElem?_eq_getElem hq]; rfl
          unfold rowAt rowD stateD
          rw [if_neg (by simp [hlast, hg]), hto, ho, if_neg (by simp)]
          cases hh : ns[k].here
          · rw [if_neg (by simp)]
            by_cases hla : 0 < ns[k].late
            · simp [hla, hne']
            · simp [hla, hne']
          · simp [hne']
    · have hb : boundD ns ns[k] = (ns.length : Int) - 1 := by unfold boundD; rw [ho]; rfl
      by_cases hlast : k + 1 = cs.length
      · have hs : shownD ns k cs[k] ns[k] tick = false := shownD_end (by rw [hb]; omega)
        rw [hs]
        unfold rowAt
        rw [if_pos (.inl hlast)]
        exact ⟨rfl, fun h => by simp at h⟩
      · have hs : shownD ns k cs[k] ns[k] tick = decide (tick - 10 ≤ cs[k].go) := by rw [shownD_else hg (by rw [hb]; omega), ho]; simp
        have hbn : (boundD ns ns[k]).toNat = cs.length - 1 := by rw [hb]; omega
        rw [hs]
        unfold rowAt rowD stateD
        rw [if_neg (by simp [hlast, hg]), ho, hbn]
        simp
  · have hs : shownD ns k cs[k] ns[k] tick = false := shownD_gone hg
    rw [hs]
    unfold rowAt
    rw [if_pos (.inr hg)]
    exact ⟨rfl, fun h => by simp at h⟩

end Go.Proofs.YtjioingdpfgadaaDoor
namespace Go.Proofs.YtjioingdpfgadaaDoor
open Go Go.RowKit Go.Deep

theorem heap_alloc_at {n : Nat} (w : World) (o : Obj) (h : n = w.heap.size) : (w.alloc o).heap[n]? = some o := by rw [h]; exact heap_alloc_last w o

set_option maxRecDepth 100000 in
set_option maxHeartbeats 8000000 in
theorem rowOf_any (v : Value) (bk : BookD) (j k : Nat) (na : Option Addr) (nc : Nat) (ns : List NewsD) (w : World) (hj : j < bk.trips.length) (hk : k < bk.trips[j].calls.length) (hkn : k < ns.length) (hl : ns.length = bk.trips[j].calls.length) (hm : ns.length ≤ 20)
    (hgo : 0 ≤ bk.trips[j].calls[k].go ∧ bk.trips[j].calls[k].go ≤ 1000000) (hla : 0 ≤ ns[k].late ∧ ns[k].late ≤ 100000) (hat : BookAt w v bk) (hna : NewsAt w na ns) :
    Calls Tryd.prog 87 #[v, .int .i64 j, .int .i64 k, .slice na ns.length nc] w fun e w' => e = .returned (rowV (rowD bk.trips[j].calls ns j bk.trips[j].calls[k] ns[k])) ∧ Below w.heap.size w w' := by
  obtain ⟨r1, r2⟩ := boundD_range ns k hkn
  have HBF : Hid (∀ w, NewsAt w na ns → Calls Tryd.prog 112 #[.int .i64 k, .slice na ns.length nc] w fun e w' => e = .returned (.int .i64 (boundD ns ns[k])) ∧ w' = w) := fun w h => boundFor_any k _ nc ns w hkn (by omega) h
  obtain ⟨q, hq⟩ := Int.eq_ofNat_of_zero_le r1
  have HR : Hid (rowD bk.trips[j].calls ns j bk.trips[j].calls[k] ns[k] = ⟨j, (bk.trips[j].calls[q]'(by omega)).st, bk.trips[j].calls[k].go, bk.trips[j].calls[k].go + ns[k].late, ns[k].track, stateD ns[k]⟩) := by
    unfold Hid rowD; rw [hq, Int.toNat_natCast, List.getElem?_eq_getElem (by omega)]; rfl
  rw [hq] at HBF r2
  obtain ⟨sa, sc, ta, tc, rfl, hsa, hta⟩ := hat
  obtain ⟨b, o, ca, cc, rfl, c0, c1, hca⟩ := hta j hj
  obtain ⟨b2, o2, rfl, d0, d1, d2, d3⟩ := hca k hk
  obtain ⟨b4, o4, e4, s0, s1, s2, s3⟩ := hca q (by omega)
  simp only [Option.some.injEq, Addr.mk.injEq, and_true] at e4
  obtain ⟨rfl, rfl⟩ := e4
  obtain ⟨b3, o3, rfl, x0, x1, x2, x3, x4⟩ := hna k hkn
  have HN : Hid (NewsAt w (some ⟨b3, o3, none⟩) ns) := hna
  have hj0 : (0 : Int) ≤ (j : Int) := by omega
  have hj1 : (j : Int) < (bk.trips.length : Int) := by omega
  have hk0 : (0 : Int) ≤ (k : Int) := by omega
  have hk1 : (k : Int) < (bk.trips[j].calls.length : Int) := by omega
  have hk2 : (k : Int) < (ns.length : Int) := by omega
  have hq0 : (0 : Int) ≤ (q : Int) := by omega
  have hq1 : (q : Int) < (bk.trips[j].calls.length : Int) := by omega
  obtain ⟨g1, g2⟩ := hgo
  obtain ⟨g3, g4⟩ := hla
  have HW : Hid (IntKind.i64.wrap (bk.trips[j].calls[k].go + ns[k].late) = bk.trips[j].calls[k].go + ns[k].late) := by unfold Hid; rw [IntKind.wrap_i64]; omega
  have l0 := cell_lt c0
  have l1 := cell_lt d0
  have l2 := cell_lt x0
  generalize bk.trips[j].calls[q] = cq at *
  generalize bk.trips[j].calls[k] = c at *
  generalize ns[k] = x at *
  generalize hcs : bk.trips[j].calls = cs at *
  clear hca hsa hta hna hcs hq r1 r2 hk hkn hl
  obtain ⟨W2, hW2⟩ : ∃ W2, (w.alloc (.cells #[.slice sa bk.sts.length sc, .slice (some ⟨b, o, none⟩) bk.trips.length tc] 26)).alloc (.cells #[.int .i64 0, .int .i64 0, .int .i64 0, .int .i64 0, .int .i64 0, .int .i64 0] 38) = W2 := ⟨_, rfl⟩
  have hs2 : W2.heap.size = w.heap.size + 1 + 1 := by subst hW2; simp
  have hb2 : Below w.heap.size w W2 := by subst hW2; exact ((Below.refl _ _).alloc (Nat.le_refl _) _).alloc (by simp) _
  have p0 : W2.cell? ⟨w.heap.size, 0, none⟩ = some (.slice sa bk.sts.length sc) := by subst hW2; simp [go_sem]
  have p1 : W2.cell? ⟨w.heap.size, 1, none⟩ = some (.slice (some ⟨b, o, none⟩) bk.trips.length tc) := by subst hW2; simp [go_sem]
  have hgz : W2.heap[w.heap.size + 1]? = some (.cells #[.int .i64 0, .int .i64 0, .int .i64 0, .int .i64 0, .int .i64 0, .int .i64 0] 38 (0, 0)) := by subst hW2; exact heap_alloc_at _ _ (by simp)
  have HZ : Hid (W2.heap[w.heap.size + 1]? = some (.cells #[.int .i64 0, .int .i64 0, .int .i64 0, .int .i64 0, .int .i64 0, .int .i64 0] 38 (0, 0))) := hgz
  clear hgz
  have c1' := cell_keep hb2 c1
  have d2' := cell_keep hb2 d2
  have s0' := cell_keep hb2 s0
  have x0' := cell_keep hb2 x0
  have x1' := cell_keep hb2 x1
  have x2' := cell_keep hb2 x2
  have x3' := cell_keep hb2 x3
  have x4' := cell_keep hb2 x4
  have HN2 : Hid (NewsAt W2 (some ⟨b3, o3, none⟩) ns) := HN.out.keep hb2
  clear c0 c1 d0 d1 d2 d3 s0 s1 s2 s3 x0 x1 x2 x3 x4 HN
  go_enter Tryd.func87, Tryd.ntmps87
  go_wp2_with fail
  clear hW2
  go_region_held3 (fun w' => w'.cell? ⟨b2, o2 + q * 4, none⟩ = some (.int .i64 cq.st) ∧ w'.cell? ⟨b2, o2 + k * 4 + 2, none⟩ = some (.int .i64 c.go) ∧ w'.cell? ⟨b3, o3 + k * 5, none⟩ = some (.int .i64 x.late) ∧ w'.cell? ⟨b3, o3 + k * 5 + 1, none⟩ = some (.int .i64 x.track) ∧ w'.cell? ⟨b3, o3 + k * 5 + 2, none⟩ = some (.bool x.off) ∧ w'.cell? ⟨b3, o3 + k * 5 + 3, none⟩ = some (.bool x.here) ∧ w'.cell? ⟨b3, o3 + k * 5 + 4, none⟩ = some (.bool x.gone))
    (first
      | ((try dsimp only); (refine ⟨?_, ?_, ?_, ?_, ?_, ?_, ?_⟩) <;> (rw [cell_other, cell_other, cell_other, cell_other, cell_other, cell_other] <;> first | (show _ ≠ w.heap.size + 1; omega) | (exact cell_keep hb4 (by first | exact s0' | exact d2' | exact x0' | exact x1' | exact x2' | exact x3' | exact x4'))))
      | (exact ⟨cell_keep hb4 (by exact s0'), cell_keep hb4 (by exact d2'), cell_keep hb4 (by exact x0'), cell_keep hb4 (by exact x1'), cell_keep hb4 (by exact x2'), cell_keep hb4 (by exact x3'), cell_keep hb4 (by exact x4')⟩)
      | go_keep)
    (first
      | (go_at_call 112; refine (HBF.out _ (by exact HN2.out)).mono ?_; rintro e w3 ⟨rfl, rfl⟩)
      | (go_at_call 113; refine (stateOf_any x _).mono ?_; rintro e w4 ⟨rfl, hb4⟩; have hz4 : w4.heap[w.heap.size + 1]? = some (.cells #[.int .i64 0, .int .i64 0, .int .i64 0, .int .i64 0, .int .i64 0, .int .i64 0] 38 (0, 0)) := (hb4.block _ (by simp [hs2])).trans (by exact HZ.out); have HZ4 : Hid (w4.heap[w.heap.size + 1]? = some (.cells #[.int .i64 0, .int .i64 0, .int .i64 0, .int .i64 0, .int .i64 0, .int .i64 0] 38 (0, 0))) := hz4; obtain ⟨⟨u0, u1, u2, u3, u4, u5⟩, uf⟩ := six_cells hz4; have uf0 := uf 0; have uf1 := uf 1; have uf2 := uf 2; have uf3 := uf 3; have uf4 := uf 4; have uf5 := uf 5; clear uf hz4))
  have Z4 : Below W2.heap.size W2 w4 := (Below.refl _ _).drew.trans (by exact hb4)
  have HB4 : Below w.heap.size w w4 := hb2.trans (Z4.mono hb2.size)
  go_wp2
  refine bodyPost_ret (v := rowV (rowD cs ns j c x)) ?_ rfl ?_
  · rw [HR.out]
    exact results_cell_row Tryd.results87 _ _ (w.heap.size + 1) 38 _ (0, 0) _ rfl (by simp [World.setCell, Array.getElem?_modify, HZ4.out, HW.out]) Tryd.underlying38 rfl infRow
  · exact ⟨rfl, (((((HB4.setCell (p := ⟨w.heap.size + 1, 0, none⟩) (by simp) _).setCell (p := ⟨w.heap.size + 1, 1, none⟩) (by simp) _).setCell (p := ⟨w.heap.size + 1, 2, none⟩) (by simp) _).setCell (p := ⟨w.heap.size + 1, 3, none⟩) (by simp) _).setCell (p := ⟨w.heap.size + 1, 4, none⟩) (by simp) _).setCell (p := ⟨w.heap.size + 1, 5, none⟩) (by simp) _⟩

end Go.Proofs.YtjioingdpfgadaaDoor
