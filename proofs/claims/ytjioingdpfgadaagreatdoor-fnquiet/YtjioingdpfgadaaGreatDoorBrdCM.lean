import Derived.Test.YtjioingdpfgadaaGreatDoorProg
import Derived.Test.YtjioingdpfgadaaGreatDoorBoardHM
import Derived.Test.YtjioingdpfgadaaGreatDoorBaseM
import Derived.Deep.RegionHeld3
import Derived.BigRegion
import Derived.Deep.Cut
import Derived.Deep.DeepCutAuto
import Derived.Test.YtjioingdpfgadaaGreatDoorBoardCM
namespace Go.Proofs.YtjioingdpfgadaaGreatDoor
open Go Go.RowKit Go.Deep

theorem endTo_idx (cs : List CallD) (ns : List NewsD) (n : Nat) (h1 : n ≤ cs.length) (h2 : n ≤ ns.length) : endTo cs ns n = if endIdx ns n < 0 then -1 else (cs[(endIdx ns n).toNat]?.map (·.st)).getD (-1) := by
  induction n with
  | zero => simp [endTo, endIdx]
  | succ n ih =>
    rw [endTo_succ cs ns n (by omega) (by omega), endIdx_succ ns n (by omega)]
    split
    · exact ih (by omega) (by omega)
    · rw [if_neg (by omega), Int.toNat_natCast, List.getElem?_eq_getElem (by omega)]; rfl
theorem boundD_range (ns : List NewsD) (k : Nat) (hk : k < ns.length) : 0 ≤ boundD ns ns[k] ∧ boundD ns ns[k] < ns.length := by
  unfold boundD
  split
  · omega
  · rename_i h
    have h1 := endIdx_ge ns k ns.length hk (Nat.le_refl _) (by simpa using h)
    have h2 := endIdx_lt ns ns.length
    omega
/-- What the program shows is what the document asks. -/
theorem rowAt_shown (cs : List CallD) (ns : List NewsD) (trip : Int) (k : Nat) (tick : Int) (hl : ns.length = cs.length) (hk : k < cs.length) (hkn : k < ns.length) (hnd : (cs.map (·.st)).Nodup) :
    (rowAt cs ns trip k cs[k] ns[k] tick).2 = shownD ns k cs[k] ns[k] tick ∧ (shownD ns k cs[k] ns[k] tick = true → (rowAt cs ns trip k cs[k] ns[k] tick).1 = rowD cs ns trip cs[k] ns[k]) := by
  cases hg : ns[k].gone
  · cases ho : ns[k].off
    · have hb : boundD ns ns[k] = endIdx ns ns.length := by unfold boundD; rw [ho]; rfl
      have hge := endIdx_ge ns k ns.length hkn (Nat.le_refl _) ho
      have hlt := (endIdx_lt ns ns.length).2
      have he : endD cs ns = (cs[(endIdx ns ns.length).toNat]?.map (·.st)).getD (-1) := by
        unfold endD
        rw [← hl, endTo_idx cs ns ns.length (by omega) (Nat.le_refl _), if_neg (by omega)]
      have hq : (endIdx ns ns.length).toNat < cs.length := by omega
      have he2 : endD cs ns = (cs[(endIdx ns ns.length).toNat]'hq).st := by rw [he, List.getElem?_eq_getElem hq]; rfl
      have hne : (endD cs ns != cs[k].st) = !decide ((k : Int) = endIdx ns ns.length) := by
        rw [he2]
        by_cases e : (k : Int) = endIdx ns ns.length
        · have : (endIdx ns ns.length).toNat = k := by omega
          simp [this, e]
        · have e3 : (endIdx ns ns.length).toNat ≠ k := by omega
          have e4 : (cs[(endIdx ns ns.length).toNat]'hq).st ≠ cs[k].st := fun h => e3 (by
            have := (List.getElem_inj (h₀ := by simpa using hq) (h₁ := by simpa using hk) hnd).1 (by simpa using h)
            exact this)
          simp [e4, e]
      by_cases hlast : k + 1 = cs.length
      · have hk2 : (k : Int) = endIdx ns ns.length := by omega
        have hs : shownD ns k cs[k] ns[k] tick = false := shownD_end (by rw [hb]; exact hk2)
        rw [hs]
        unfold rowAt
        rw [if_pos (.inl hlast)]
        exact ⟨rfl, fun h => by simp at h⟩
      · by_cases e : (k : Int) = endIdx ns ns.length
        · have hs : shownD ns k cs[k] ns[k] tick = false := shownD_end (by rw [hb]; exact e)
          rw [hs]
          refine ⟨?_, fun h => by simp at h⟩
          have hne' : (endD cs ns != cs[k].st) = false := by rw [hne]; simp [e]
          unfold rowAt
          rw [if_neg (by simp [hlast, hg]), ho, if_neg (by simp)]
          split
          · exact hne'
          · split
            · exact hne'
            · exact hne'
        · have hs : shownD ns k cs[k] ns[k] tick = true := by rw [shownD_else hg (by rw [hb]; exact e), ho]; rfl
          rw [hs]
          have hne' : (endD cs ns != cs[k].st) = true := by rw [hne]; simp [e]
          have hto : (cs[(boundD ns ns[k]).toNat]?.map (·.st)).getD 0 = endD cs ns := by rw [hb, he2, List.getElem?_eq_getElem hq]; rfl
          unfold rowAt rowD stateD
          rw [if_neg (by simp [hlast, hg]), hto, ho, if_neg (by simp)]
          cases hh : ns[k].here
          · rw [if_neg (by simp)]
            by_cases hla : 0 < ns[k].late
            · simp [hla, hne']
            · simp [hla, hne']
          · simp [hne']
    · have hb : boundD ns ns[k] = (ns.length : Int) - 1 := by unfold boundD; rw [ho]; rfl
      by_cases hlast : k + 1 = cs.length
      · have hs : shownD ns k cs[k] ns[k] tick = false := shownD_end (by rw [hb]; omega)
        rw [hs]
        unfold rowAt
        rw [if_pos (.inl hlast)]
        exact ⟨rfl, fun h => by simp at h⟩
      · have hs : shownD ns k cs[k] ns[k] tick = decide (tick - 10 ≤ cs[k].go) := by rw [shownD_else hg (by rw [hb]; omega), ho]; simp
        have hbn : (boundD ns ns[k]).toNat = cs.length - 1 := by rw [hb]; omega
        rw [hs]
        unfold rowAt rowD stateD
        rw [if_neg (by simp [hlast, hg]), ho, hbn]
        simp
  · have hs : shownD ns k cs[k] ns[k] tick = false := shownD_gone hg
    rw [hs]
    unfold rowAt
    rw [if_pos (.inr hg)]
    exact ⟨rfl, fun h => by simp at h⟩

end Go.Proofs.YtjioingdpfgadaaGreatDoor
namespace Go.Proofs.YtjioingdpfgadaaGreatDoor
open Go Go.RowKit Go.Deep

theorem heap_alloc_at {n : Nat} (w : World) (o : Obj) (h : n = w.heap.size) : (w.alloc o).heap[n]? = some o := by rw [h]; exact heap_alloc_last w o

set_option maxRecDepth 100000 in
set_option maxHeartbeats 8000000 in
theorem rowOf_any (v : Value) (bk : BookD) (j k : Nat) (na : Option Addr) (nc : Nat) (ns : List NewsD) (w : World) (hj : j < bk.trips.length) (hk : k < bk.trips[j].calls.length) (hkn : k < ns.length) (hl : ns.length = bk.trips[j].calls.length) (hm : ns.length ≤ 20)
    (hgo : 0 ≤ bk.trips[j].calls[k].go ∧ bk.trips[j].calls[k].go ≤ 1000000) (hla : 0 ≤ ns[k].late ∧ ns[k].late ≤ 100000) (hat : BookAt w v bk) (hna : NewsAt w na ns) :
    Calls Tryz.prog 55 #[v, .int .i64 j, .int .i64 k, .slice na ns.length nc] w fun e w' => e = .returned (rowV (rowD bk.trips[j].calls ns j bk.trips[j].calls[k] ns[k])) ∧ Below w.heap.size w w' := by
  obtain ⟨r1, r2⟩ := boundD_range ns k hkn
  have HBF : Hid (∀ w, NewsAt w na ns → Calls Tryz.prog 71 #[.int .i64 k, .slice na ns.length nc] w fun e w' => e = .returned (.int .i64 (boundD ns ns[k])) ∧ w' = w) := fun w h => boundFor_any k _ nc ns w hkn (by omega) h
  obtain ⟨q, hq⟩ := Int.eq_ofNat_of_zero_le r1
  have HR : Hid (rowD bk.trips[j].calls ns j bk.trips[j].calls[k] ns[k] = ⟨j, (bk.trips[j].calls[q]'(by omega)).st, bk.trips[j].calls[k].go, bk.trips[j].calls[k].go + ns[k].late, ns[k].track, stateD ns[k]⟩) := by
    unfold Hid rowD; rw [hq, Int.toNat_natCast, List.getElem?_eq_getElem (by omega)]; rfl
  rw [hq] at HBF r2
  obtain ⟨sa, sc, ta, tc, rfl, hsa, hta⟩ := hat
  obtain ⟨b, o, ca, cc, rfl, c0, c1, hca⟩ := hta j hj
  obtain ⟨b2, o2, rfl, d0, d1, d2, d3⟩ := hca k hk
  obtain ⟨b4, o4, e4, s0, s1, s2, s3⟩ := hca q (by omega)
  simp only [Option.some.injEq, Addr.mk.injEq, and_true] at e4
  obtain ⟨rfl, rfl⟩ := e4
  obtain ⟨b3, o3, rfl, x0, x1, x2, x3, x4⟩ := hna k hkn
  have HN : Hid (NewsAt w (some ⟨b3, o3, none⟩) ns) := hna
  have hj0 : (0 : Int) ≤ (j : Int) := by omega
  have hj1 : (j : Int) < (bk.trips.length : Int) := by omega
  have hk0 : (0 : Int) ≤ (k : Int) := by omega
  have hk1 : (k : Int) < (bk.trips[j].calls.length : Int) := by omega
  have hk2 : (k : Int) < (ns.length : Int) := by omega
  have hq0 : (0 : Int) ≤ (q : Int) := by omega
  have hq1 : (q : Int) < (bk.trips[j].calls.length : Int) := by omega
  obtain ⟨g1, g2⟩ := hgo
  obtain ⟨g3, g4⟩ := hla
  have HW : Hid (IntKind.i64.wrap (bk.trips[j].calls[k].go + ns[k].late) = bk.trips[j].calls[k].go + ns[k].late) := by unfold Hid; rw [IntKind.wrap_i64]; omega
  have l0 := cell_lt c0
  have l1 := cell_lt d0
  have l2 := cell_lt x0
  generalize bk.trips[j].calls[q] = cq at *
  generalize bk.trips[j].calls[k] = c at *
  generalize ns[k] = x at *
  generalize hcs : bk.trips[j].calls = cs at *
  clear hca hsa hta hna hcs hq r1 r2 hk hkn hl
  obtain ⟨W2, hW2⟩ : ∃ W2, (w.alloc (.cells #[.slice sa bk.sts.length sc, .slice (some ⟨b, o, none⟩) bk.trips.length tc] 26)).alloc (.cells #[.int .i64 0, .int .i64 0, .int .i64 0, .int .i64 0, .int .i64 0, .int .i64 0] 52) = W2 := ⟨_, rfl⟩
  have hs2 : W2.heap.size = w.heap.size + 1 + 1 := by subst hW2; simp
  have hb2 : Below w.heap.size w W2 := by subst hW2; exact ((Below.refl _ _).alloc (Nat.le_refl _) _).alloc (by simp) _
  have p0 : W2.cell? ⟨w.heap.size, 0, none⟩ = some (.slice sa bk.sts.length sc) := by subst hW2; simp [go_sem]
  have p1 : W2.cell? ⟨w.heap.size, 1, none⟩ = some (.slice (some ⟨b, o, none⟩) bk.trips.length tc) := by subst hW2; simp [go_sem]
  have hgz : W2.heap[w.heap.size + 1]? = some (.cells #[.int .i64 0, .int .i64 0, .int .i64 0, .int .i64 0, .int .i64 0, .int .i64 0] 52 (0, 0)) := by subst hW2; exact heap_alloc_at _ _ (by simp)
  have HZ : Hid (W2.heap[w.heap.size + 1]? = some (.cells #[.int .i64 0, .int .i64 0, .int .i64 0, .int .i64 0, .int .i64 0, .int .i64 0] 52 (0, 0))) := hgz
  clear hgz
  have c1' := cell_keep hb2 c1
  have d2' := cell_keep hb2 d2
  have s0' := cell_keep hb2 s0
  have x0' := cell_keep hb2 x0
  have x1' := cell_keep hb2 x1
  have x2' := cell_keep hb2 x2
  have x3' := cell_keep hb2 x3
  have x4' := cell_keep hb2 x4
  have HN2 : Hid (NewsAt W2 (some ⟨b3, o3, none⟩) ns) := HN.out.keep hb2
  clear c0 c1 d0 d1 d2 d3 s0 s1 s2 s3 x0 x1 x2 x3 x4 HN
  go_enter Tryz.func55, Tryz.ntmps55
  go_wp2_with fail
  clear hW2
  go_region_held3 (fun w' => w'.cell? ⟨b2, o2 + q * 4, none⟩ = some (.int .i64 cq.st) ∧ w'.cell? ⟨b2, o2 + k * 4 + 2, none⟩ = some (.int .i64 c.go) ∧ w'.cell? ⟨b3, o3 + k * 5, none⟩ = some (.int .i64 x.late) ∧ w'.cell? ⟨b3, o3 + k * 5 + 1, none⟩ = some (.int .i64 x.track) ∧ w'.cell? ⟨b3, o3 + k * 5 + 2, none⟩ = some (.bool x.off) ∧ w'.cell? ⟨b3, o3 + k * 5 + 3, none⟩ = some (.bool x.here) ∧ w'.cell? ⟨b3, o3 + k * 5 + 4, none⟩ = some (.bool x.gone))
    (first
      | ((try dsimp only); (refine ⟨?_, ?_, ?_, ?_, ?_, ?_, ?_⟩) <;> (rw [cell_other, cell_other, cell_other, cell_other, cell_other, cell_other] <;> first | (show _ ≠ w.heap.size + 1; omega) | (exact cell_keep hb4 (by first | exact s0' | exact d2' | exact x0' | exact x1' | exact x2' | exact x3' | exact x4'))))
      | (exact ⟨cell_keep hb4 (by exact s0'), cell_keep hb4 (by exact d2'), cell_keep hb4 (by exact x0'), cell_keep hb4 (by exact x1'), cell_keep hb4 (by exact x2'), cell_keep hb4 (by exact x3'), cell_keep hb4 (by exact x4')⟩)
      | go_keep)
    (first
      | (go_at_call 71; refine (HBF.out _ (by exact HN2.out)).mono ?_; rintro e w3 ⟨rfl, rfl⟩)
      | (go_at_call 72; refine (stateOf_any x _).mono ?_; rintro e w4 ⟨rfl, hb4⟩; have hz4 : w4.heap[w.heap.size + 1]? = some (.cells #[.int .i64 0, .int .i64 0, .int .i64 0, .int .i64 0, .int .i64 0, .int .i64 0] 52 (0, 0)) := (hb4.block _ (by simp [hs2])).trans (by exact HZ.out); have HZ4 : Hid (w4.heap[w.heap.size + 1]? = some (.cells #[.int .i64 0, .int .i64 0, .int .i64 0, .int .i64 0, .int .i64 0, .int .i64 0] 52 (0, 0))) := hz4; obtain ⟨⟨u0, u1, u2, u3, u4, u5⟩, uf⟩ := six_cells hz4; have uf0 := uf 0; have uf1 := uf 1; have uf2 := uf 2; have uf3 := uf 3; have uf4 := uf 4; have uf5 := uf 5; clear uf hz4))
  have Z4 : Below W2.heap.size W2 w4 := (Below.refl _ _).drew.trans (by exact hb4)
  have HB4 : Below w.heap.size w w4 := hb2.trans (Z4.mono hb2.size)
  go_wp2
  refine bodyPost_ret (v := rowV (rowD cs ns j c x)) ?_ rfl ?_
  · rw [HR.out]
    exact results_cell_row Tryz.results55 _ _ (w.heap.size + 1) 52 _ (0, 0) _ rfl (by simp [World.setCell, Array.getElem?_modify, HZ4.out, HW.out]) Tryz.underlying52 rfl infRow
  · exact ⟨rfl, (((((HB4.setCell (p := ⟨w.heap.size + 1, 0, none⟩) (by simp) _).setCell (p := ⟨w.heap.size + 1, 1, none⟩) (by simp) _).setCell (p := ⟨w.heap.size + 1, 2, none⟩) (by simp) _).setCell (p := ⟨w.heap.size + 1, 3, none⟩) (by simp) _).setCell (p := ⟨w.heap.size + 1, 4, none⟩) (by simp) _).setCell (p := ⟨w.heap.size + 1, 5, none⟩) (by simp) _⟩

end Go.Proofs.YtjioingdpfgadaaGreatDoor
namespace Go.Proofs.YtjioingdpfgadaaGreatDoor
open Go Go.RowKit Go.Deep

/-- Whether a may stand ahead of b. -/
def leD (a b : RowD) : Prop := lessD b a = false
theorem lessD_iff (a b : RowD) : lessD a b = true ↔ (a.expect < b.expect ∨ (a.expect = b.expect ∧ (a.due < b.due ∨ (a.due = b.due ∧ a.trip < b.trip)))) := by
  unfold lessD
  split
  · rename_i h; simp only [decide_eq_true_eq]; omega
  · split
    · rename_i h h'; simp only [decide_eq_true_eq]; omega
    · rename_i h h'; simp only [decide_eq_true_eq]; omega
theorem leD_iff (a b : RowD) : leD a b ↔ ¬ (b.expect < a.expect ∨ (b.expect = a.expect ∧ (b.due < a.due ∨ (b.due = a.due ∧ b.trip < a.trip)))) := by
  unfold leD; rw [← lessD_iff]; simp
theorem leD.refl (a : RowD) : leD a a := by rw [leD_iff]; omega
theorem leD.trans {a b c : RowD} (h1 : leD a b) (h2 : leD b c) : leD a c := by rw [leD_iff] at *; omega
theorem leD_of_less {a b : RowD} (h : lessD a b = true) : leD a b := by rw [leD_iff]; rw [lessD_iff] at h; omega
theorem leD_trip {a b : RowD} (h1 : leD a b) (h2 : leD b a) : a.trip = b.trip := by rw [leD_iff] at *; omega

/-- The row at a place. -/
def rowIn (L : List RowD) (i : Nat) : RowD := L[i]?.getD ⟨0, 0, 0, 0, 0, 0⟩
theorem rowIn_eq (L : List RowD) (i : Nat) (h : i < L.length) : rowIn L i = L[i] := by simp [rowIn, List.getElem?_eq_getElem h]
/-- Two rows change their places. -/
def swapL (L : List RowD) (i j : Nat) : List RowD := (L.set i (rowIn L j)).set j (rowIn L i)
theorem swapL_length (L : List RowD) (i j : Nat) : (swapL L i j).length = L.length := by simp [swapL]
theorem rowIn_swap (L : List RowD) (i j k : Nat) (hi : i < L.length) (hj : j < L.length) : rowIn (swapL L i j) k = if k = j then rowIn L i else if k = i then rowIn L j else rowIn L k := by
  unfold rowIn swapL
  rw [List.getElem?_set]
  by_cases h1 : j = k
  · subst h1; rw [if_pos rfl, if_pos rfl]; simp [hj, rowIn]
  · rw [if_neg h1, if_neg (fun e => h1 e.symm), List.getElem?_set]
    by_cases h2 : i = k
    · subst h2; rw [if_pos rfl, if_pos rfl]; simp [hi, rowIn]
    · rw [if_neg h2, if_neg (fun e => h2 e.symm)]
theorem swapL_perm (L : List RowD) (i j : Nat) (hi : i < L.length) (hj : j < L.length) : (swapL L i j).Perm L := by
  unfold swapL; rw [rowIn_eq L i hi, rowIn_eq L j hj]; exact List.set_set_perm hi hj

/-- No row stands ahead of the one above it. -/
def IsHeap (L : List RowD) : Prop := ∀ i, 0 < i → i < L.length → leD (rowIn L ((i - 1) / 2)) (rowIn L i)
/-- But for the one at place a, which may have to go up. -/
def UpHeap (L : List RowD) (a : Nat) : Prop := (∀ i, 0 < i → i < L.length → i ≠ a → leD (rowIn L ((i - 1) / 2)) (rowIn L i)) ∧ (∀ i, 0 < i → i < L.length → (i - 1) / 2 = a → 0 < a → leD (rowIn L ((a - 1) / 2)) (rowIn L i))
/-- But for those below place a, whose row may have to go down. -/
def DownHeap (L : List RowD) (a : Nat) : Prop := (∀ i, 0 < i → i < L.length → (i - 1) / 2 ≠ a → leD (rowIn L ((i - 1) / 2)) (rowIn L i)) ∧ (∀ i, 0 < i → i < L.length → (i - 1) / 2 = a → 0 < a → leD (rowIn L ((a - 1) / 2)) (rowIn L i))

theorem IsHeap.nil : IsHeap [] := fun i _ h => by simp at h
theorem IsHeap.snoc {L : List RowD} (h : IsHeap L) (x : RowD) : UpHeap (L ++ [x]) L.length := by
  have e : ∀ i, i < L.length → rowIn (L ++ [x]) i = rowIn L i := fun i hi => by unfold rowIn; rw [List.getElem?_append_left hi]
  refine ⟨fun i h0 hi hn => ?_, fun i h0 hi hp ha => ?_⟩
  · rw [List.length_append, List.length_singleton] at hi
    rw [e i (by omega), e _ (by omega)]
    exact h i h0 (by omega)
  · rw [List.length_append, List.length_singleton] at hi
    omega
theorem UpHeap.top {L : List RowD} {a : Nat} (h : UpHeap L a) (he : a = 0 ∨ lessD (rowIn L a) (rowIn L ((a - 1) / 2)) = false) : IsHeap L := by
  intro i h0 hi
  by_cases e : i = a
  · subst e
    rcases he with e | e
    · omega
    · exact e
  · exact h.1 i h0 hi e
theorem UpHeap.step {L : List RowD} {a : Nat} (h : UpHeap L a) (h0 : 0 < a) (ha : a < L.length) (hl : lessD (rowIn L a) (rowIn L ((a - 1) / 2)) = true) : UpHeap (swapL L a ((a - 1) / 2)) ((a - 1) / 2) := by
  have hp : (a - 1) / 2 < a := by omega
  have hpl : (a - 1) / 2 < L.length := by omega
  have hs := fun k => rowIn_swap L a ((a - 1) / 2) k ha hpl
  refine ⟨fun i i0 hi hn => ?_, fun i i0 hi hp' hp0 => ?_⟩
  · rw [swapL_length] at hi
    by_cases e : i = a
    · subst e
      rw [hs, hs, if_pos rfl, if_neg (by omega), if_pos rfl]
      exact leD_of_less hl
    · by_cases e1 : (i - 1) / 2 = a
      · rw [hs, hs i, e1, if_neg (by omega), if_pos rfl, if_neg hn, if_neg e]
        exact h.2 i i0 hi e1 h0
      · by_cases e2 : (i - 1) / 2 = (a - 1) / 2
        · rw [hs, hs i, e2, if_pos rfl, if_neg hn, if_neg e]
          have := h.1 i i0 hi e
          rw [e2] at this
          exact (leD_of_less hl).trans this
        · rw [hs, hs i, if_neg e2, if_neg e1, if_neg hn, if_neg e]
          exact h.1 i i0 hi e
  · rw [swapL_length] at hi
    have hq : ((a - 1) / 2 - 1) / 2 < (a - 1) / 2 := by omega
    rw [hs, hs i, if_neg (by omega), if_neg (by omega)]
    have h1 := h.1 ((a - 1) / 2) hp0 hpl (by omega)
    by_cases e : i = a
    · subst e
      rw [if_neg (by omega), if_pos rfl]
      exact h1
    · rw [if_neg (by omega), if_neg e]
      have h2 := h.1 i i0 hi e
      rw [hp'] at h2
      exact h1.trans h2

/-- The place of the first of a row and the two below it. -/
def first1 (L : List RowD) (a : Nat) : Nat := if 2 * a + 1 < L.length ∧ lessD (rowIn L (2 * a + 1)) (rowIn L a) = true then 2 * a + 1 else a
def firstD (L : List RowD) (a : Nat) : Nat := if 2 * a + 2 < L.length ∧ lessD (rowIn L (2 * a + 2)) (rowIn L (first1 L a)) = true then 2 * a + 2 else first1 L a
theorem firstD_cases (L : List RowD) (a : Nat) (ha : a < L.length) : (firstD L a = a ∨ (a < firstD L a ∧ (firstD L a - 1) / 2 = a)) ∧ firstD L a < L.length ∧ leD (rowIn L (firstD L a)) (rowIn L a) ∧ ∀ c, 0 < c → c < L.length → (c - 1) / 2 = a → leD (rowIn L (firstD L a)) (rowIn L c) := by
  have h1 : (first1 L a = a ∨ first1 L a = 2 * a + 1) ∧ first1 L a < L.length ∧ leD (rowIn L (first1 L a)) (rowIn L a) ∧ (2 * a + 1 < L.length → leD (rowIn L (first1 L a)) (rowIn L (2 * a + 1))) := by
    unfold first1
    split
    · rename_i h; exact ⟨.inr rfl, h.1, leD_of_less h.2, fun _ => leD.refl _⟩
    · rename_i h
      refine ⟨.inl rfl, ha, leD.refl _, fun hl => ?_⟩
      unfold leD
      cases hx : lessD (rowIn L (2 * a + 1)) (rowIn L a)
      · rfl
      · exact (h ⟨hl, hx⟩).elim
  obtain ⟨k1, k2, k3, k4⟩ := h1
  unfold firstD
  split
  · rename_i h
    have hl := leD_of_less h.2
    refine ⟨.inr ⟨by omega, by omega⟩, h.1, hl.trans k3, fun c c0 hc hp => ?_⟩
    have : c = 2 * a + 1 ∨ c = 2 * a + 2 := by omega
    rcases this with rfl | rfl
    · exact hl.trans (k4 hc)
    · exact leD.refl _
  · rename_i h
    refine ⟨by omega, k2, k3, fun c c0 hc hp => ?_⟩
    have : c = 2 * a + 1 ∨ c = 2 * a + 2 := by omega
    rcases this with rfl | rfl
    · exact k4 hc
    · unfold leD
      cases hx : lessD (rowIn L (2 * a + 2)) (rowIn L (first1 L a))
      · rfl
      · exact (h ⟨hc, hx⟩).elim
theorem DownHeap.end {L : List RowD} {a : Nat} (h : DownHeap L a) (ha : a < L.length) (he : firstD L a = a) : IsHeap L := by
  have hf := firstD_cases L a ha
  rw [he] at hf
  intro i h0 hi
  by_cases e : (i - 1) / 2 = a
  · rw [e]; exact hf.2.2.2 i h0 hi e
  · exact h.1 i h0 hi e
theorem DownHeap.out {L : List RowD} {a : Nat} (h : DownHeap L a) (ha : L.length ≤ a) : IsHeap L := fun i h0 hi => h.1 i h0 hi (by omega)
theorem DownHeap.step {L : List RowD} {a : Nat} (h : DownHeap L a) (ha : a < L.length) (hne : firstD L a ≠ a) : DownHeap (swapL L a (firstD L a)) (firstD L a) := by
  obtain ⟨f1, f2, f3, f4⟩ := firstD_cases L a ha
  generalize firstD L a = f at *
  have hfa : a < f ∧ (f - 1) / 2 = a := by omega
  have hs := fun k => rowIn_swap L a f k ha f2
  refine ⟨fun i i0 hi hn => ?_, fun i i0 hi hp hp0 => ?_⟩
  · rw [swapL_length] at hi
    by_cases e : (i - 1) / 2 = a
    · rw [hs, hs i, if_neg hn, if_pos e]
      by_cases e1 : i = f
      · rw [if_pos e1]; exact f3
      · rw [if_neg e1, if_neg (by omega)]; exact f4 i i0 hi e
    · by_cases e1 : i = a
      · rw [hs, hs i, if_neg hn, if_neg e, if_neg (by omega), if_pos e1]
        have := h.2 f (by omega) f2 hfa.2 (by omega)
        rw [e1]; exact this
      · rw [hs, hs i, if_neg hn, if_neg e, if_neg (by omega), if_neg e1]
        exact h.1 i i0 hi e
  · rw [swapL_length] at hi
    rw [hs, hs i, if_neg (by omega), if_pos hfa.2, if_neg (by omega), if_neg (by omega)]
    have := h.1 i i0 hi (by omega)
    rw [hp] at this
    exact this

/-- What is left when the first has changed places with the last. -/
def popped (L : List RowD) : List RowD := (swapL L 0 (L.length - 1)).take (L.length - 1)
theorem popped_length (L : List RowD) : (popped L).length = L.length - 1 := by rw [popped, List.length_take, swapL_length]; omega
theorem IsHeap.popped {L : List RowD} (h : IsHeap L) (h0 : 0 < L.length) : DownHeap (popped L) 0 := by
  have e : ∀ i, 0 < i → i < L.length - 1 → rowIn (Go.Proofs.YtjioingdpfgadaaGreatDoor.popped L) i = rowIn L i := fun i i0 hi => by
    have hs := rowIn_swap L 0 (L.length - 1) i h0 (by omega)
    rw [if_neg (by omega), if_neg (by omega)] at hs
    rw [← hs]
    unfold rowIn Go.Proofs.YtjioingdpfgadaaGreatDoor.popped
    rw [List.getElem?_take, if_pos hi]
  refine ⟨fun i i0 hi hn => ?_, fun i i0 hi hp ha => by omega⟩
  rw [popped_length] at hi
  rw [e i i0 hi, e _ (by omega) (by omega)]
  exact h i i0 (by omega)
theorem popped_perm (L : List RowD) (h0 : 0 < L.length) : L.Perm (rowIn L 0 :: popped L) := by
  have hs := (swapL_perm L 0 (L.length - 1) h0 (by omega)).symm
  refine hs.trans ?_
  have hl := swapL_length L 0 (L.length - 1)
  have hlast : (swapL L 0 (L.length - 1))[L.length - 1]'(by rw [hl]; omega) = rowIn L 0 := by
    have := rowIn_swap L 0 (L.length - 1) (L.length - 1) h0 (by omega)
    rw [if_pos rfl, rowIn_eq _ _ (by rw [hl]; omega)] at this
    exact this
  have hcut : swapL L 0 (L.length - 1) = popped L ++ [rowIn L 0] := by
    have := List.take_append_drop (L.length - 1) (swapL L 0 (L.length - 1))
    rw [List.drop_eq_getElem_cons (by rw [hl]; omega), List.drop_eq_nil_of_le (by rw [hl]; omega), hlast] at this
    exact this.symm
  rw [hcut]
  exact List.perm_append_singleton _ _
theorem IsHeap.least {L : List RowD} (h : IsHeap L) : ∀ i, i < L.length → leD (rowIn L 0) (rowIn L i) := by
  intro i
  induction i using Nat.strongRecOn with
  | _ i ih =>
    intro hi
    by_cases e : i = 0
    · subst e; exact leD.refl _
    · exact (ih ((i - 1) / 2) (by omega) (by omega)).trans (h i (by omega) hi)

/-- No two rows are of one trip. -/
def OneEach (L : List RowD) : Prop := (L.map (·.trip)).Nodup
theorem OneEach.perm {A B : List RowD} (h : OneEach A) (p : A.Perm B) : OneEach B := (p.map _).nodup_iff.1 h
theorem OneEach.same {L : List RowD} (h : OneEach L) {a b : RowD} (ha : a ∈ L) (hb : b ∈ L) (e : a.trip = b.trip) : a = b := by
  unfold OneEach at h
  induction L with
  | nil => simp at ha
  | cons x l ih =>
    rw [List.map_cons, List.nodup_cons] at h
    rcases List.mem_cons.1 ha with rfl | ha'
    · rcases List.mem_cons.1 hb with rfl | hb'
      · rfl
      · exact (h.1 (by rw [e]; exact List.mem_map_of_mem hb')).elim
    · rcases List.mem_cons.1 hb with rfl | hb'
      · exact (h.1 (by rw [← e]; exact List.mem_map_of_mem ha')).elim
      · exact ih h.2 ha' hb'
theorem bestTo_least (L : List RowD) (k : Nat) (hk : k ≤ L.length) : ∀ i, i < k → leD (rowIn L (bestTo L k)) (rowIn L i) := by
  induction k with
  | zero => intro i hi; omega
  | succ k ih =>
    intro i hi
    have hb := bestTo_lt L k (by omega) (by omega)
    have ih' := ih (by omega)
    rw [bestTo_succ L k (by omega) hb]
    rw [← rowIn_eq L k (by omega), ← rowIn_eq L _ hb]
    split
    · rename_i hl
      by_cases e : i = k
      · subst e; exact leD.refl _
      · exact (leD_of_less hl).trans (ih' i (by omega))
    · rename_i hl
      by_cases e : i = k
      · subst e; unfold leD; simpa using hl
      · exact ih' i (by omega)
theorem bestOf_lt (L : List RowD) (h : 0 < L.length) : bestOf L < L.length := bestTo_lt L _ h (Nat.le_refl _)
theorem bestOf_least (L : List RowD) (h : 0 < L.length) : ∀ x ∈ L, leD (L[bestOf L]'(bestOf_lt L h)) x := by
  intro x hx
  obtain ⟨i, hi, rfl⟩ := List.getElem_of_mem hx
  have := bestTo_least L L.length (Nat.le_refl _) i hi
  rw [rowIn_eq _ _ hi] at this
  rw [← rowIn_eq L (bestOf L) (bestOf_lt L h)]
  exact this
theorem cut_perm (L : List RowD) (i : Nat) (h : i < L.length) : L.Perm (L[i] :: L.eraseIdx i) := by
  have e : L = L.take i ++ L[i] :: L.drop (i + 1) := by rw [← List.drop_eq_getElem_cons h, List.take_append_drop]
  rw [List.eraseIdx_eq_take_drop_succ]
  exact List.Perm.trans (by rw [← e]) List.perm_middle
theorem bestOf_perm (L : List RowD) (h : 0 < L.length) : L.Perm (L[bestOf L]'(bestOf_lt L h) :: L.eraseIdx (bestOf L)) := cut_perm L _ (bestOf_lt L h)
/-- The choice hangs on which rows there are, not on their places. -/
theorem pick_perm (m : Nat) : ∀ {A B : List RowD}, OneEach A → A.Perm B → pick m A = pick m B := by
  induction m with
  | zero => intro A B _ _; rfl
  | succ m ih =>
    intro A B hA hp
    by_cases h0 : A.length = 0
    · have hB : B.length = 0 := by rw [← hp.length_eq]; exact h0
      rw [List.length_eq_zero_iff.1 h0, List.length_eq_zero_iff.1 hB]
    · have a0 : 0 < A.length := by omega
      have b0 : 0 < B.length := by rw [← hp.length_eq]; exact a0
      rw [pick_cons m A (bestOf_lt A a0), pick_cons m B (bestOf_lt B b0)]
      have e : A[bestOf A]'(bestOf_lt A a0) = B[bestOf B]'(bestOf_lt B b0) := by
        refine hA.same (List.getElem_mem _) (hp.mem_iff.2 (List.getElem_mem _)) (leD_trip ?_ ?_)
        · exact bestOf_least A a0 _ (hp.mem_iff.2 (List.getElem_mem _))
        · exact bestOf_least B b0 _ (hp.mem_iff.1 (List.getElem_mem _))
      have p1 := (bestOf_perm A a0).symm.trans (hp.trans (bestOf_perm B b0))
      rw [e] at p1
      have p2 := List.Perm.cons_inv p1
      have hA2 : OneEach (A.eraseIdx (bestOf A)) := by
        have := hA.perm (bestOf_perm A a0)
        unfold OneEach at this ⊢
        rw [List.map_cons, List.nodup_cons] at this
        exact this.2
      rw [e, ih hA2 p2]
/-- What a heap gives first is what is chosen first. -/
theorem pick_heap (m : Nat) {L R : List RowD} (h : IsHeap L) (h0 : 0 < L.length) (hd : OneEach L) (hp : L.Perm (rowIn L 0 :: R)) : pick (m + 1) L = rowIn L 0 :: pick m R := by
  have e : L[bestOf L]'(bestOf_lt L h0) = rowIn L 0 := by
    have hm : rowIn L 0 ∈ L := by rw [rowIn_eq L 0 h0]; exact List.getElem_mem _
    refine hd.same (List.getElem_mem _) hm (leD_trip (bestOf_least L h0 _ hm) ?_)
    have := h.least (bestOf L) (bestOf_lt L h0)
    rw [rowIn_eq L _ (bestOf_lt L h0)] at this
    exact this
  rw [pick_cons m L (bestOf_lt L h0), e]
  have p1 := (bestOf_perm L h0).symm.trans hp
  rw [e] at p1
  have hd2 : OneEach (L.eraseIdx (bestOf L)) := by
    have := hd.perm (bestOf_perm L h0)
    unfold OneEach at this ⊢
    rw [List.map_cons, List.nodup_cons] at this
    exact this.2
  rw [pick_perm m hd2 (List.Perm.cons_inv p1)]

end Go.Proofs.YtjioingdpfgadaaGreatDoor
