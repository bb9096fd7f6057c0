import Derived.Test.YtjioingdpfgadaaDoorProg
import Derived.Test.YtjioingdpfgadaaDoorImplAM
import Derived.Test.YtjioingdpfgadaaDoorImplWM
namespace Go.Proofs.YtjioingdpfgadaaDoor
open Go Go.RowKit Go.Deep

theorem irow_store {wi : World} {g : Nat} {cur : List NewsD} {T : TypeId} (hg : wi.heap[g]? = some (.cells (rowCells cur).toArray T (0, 0))) (m c : Nat) (u : Value) (x : NewsD) (hm : m < cur.length) (hc : c < 5) (hx : newsCells x = (newsCells cur[m]).set c u) :
    (wi.setCell ⟨g, m * 5 + c, none⟩ u).heap[g]? = some (.cells (rowCells (cur.set m x)).toArray T (0, 0)) := by
  rw [setCell_eq_setRow _ _ _ _ _ _ _ hg, setRow_heap _ _ _ _ _ _ hg, ← rowCells_set cur m c u x hm hc hx]
  congr 2
  apply Array.ext'
  simp
theorem irow_cell {wi : World} {g : Nat} {cur : List NewsD} {T : TypeId} (hg : wi.heap[g]? = some (.cells (rowCells cur).toArray T (0, 0))) (m c : Nat) (hm : m < cur.length) (hc : c < 5) :
    wi.cell? ⟨g, m * 5 + c, none⟩ = (newsCells cur[m])[c]? := by
  rw [cell_of_row _ _ _ _ _ _ hg]
  simp only [List.getElem?_toArray]
  exact rowCells_get cur m c hm hc
theorem irow_thaw {wi : World} {g : Nat} {cs : Array Value} {T : TypeId} (hg : wi.heap[g]? = some (.cells cs T (0, 0))) (m : Nat) : wi.frozen? ⟨g, m, none⟩ = false := by simp [World.frozen?, hg]
theorem iblock_lt {wi : World} {g : Nat} {o : Obj} (hg : wi.heap[g]? = some o) : g < wi.heap.size := (Array.getElem?_eq_some_iff.1 hg).1
theorem rowCells_all (ns : List NewsD) : (rowCells ns).toArray.all (·.oneCell') = true := by
  rw [Array.all_eq_true_iff_forall_mem]; intro x hx; exact rowCells_one _ x (by simpa using hx)
theorem rowCells_size {ns : List NewsD} (h : ns.length = 20) : (Tryd.prog.info? 105).map (·.size) = some (rowCells ns).toArray.size := by
  simp only [List.size_toArray]; rw [rowCells_length, h]; exact sizeT
theorem doRow_1 {r : RepD} (h : r.op = 1) {m : Nat} {x : NewsD} (hc : r.call ≤ m) : doNews r m x = { x with late := r.n } := by unfold doNews; simp [h, hc]
theorem doRow_3 {r : RepD} (h : r.op = 3) {m : Nat} {x : NewsD} (hc : r.call ≤ m) : doNews r m x = { x with off := true } := by unfold doNews; simp [h, hc]

set_option maxRecDepth 100000 in
set_option maxHeartbeats 4000000 in
theorem after_1 (ns : List NewsD) (r : RepD) (last : Bool) (k : Nat) (w : World) (hlen : ns.length = 20) (hkk : r.call = (k : Int)) (hk : k < ns.length) (hop : r.op = 1) (hal : allowsX ns k last ns[k] r = true) :
    Calls Tryd.prog 56 #[.agg (rowCells ns).toArray, msgV r last] w fun e w' => e = .returned (.agg (rowCells (doRow r ns)).toArray) ∧ Below w.heap.size w w' := by
  have HM : Hid (msgV r last = .iface 155 (.agg #[.int .i64 r.trip, .int .i64 (k : Int), .bool last, .int .i64 r.n])) := by unfold Hid msgV; simp [hop, hkk]
  have HAL : Hid (∀ w, Calls Tryd.prog 81 #[.agg (rowCells ns).toArray, .iface 155 (.agg #[.int .i64 r.trip, .int .i64 (k : Int), .bool last, .int .i64 r.n])] w fun e w' => e = .returned (.bool true) ∧ Below w.heap.size w w') := fun w => by
    have := allows_any ns r last k w hlen hkk hk (by omega)
    rw [hal, HM.out] at this
    exact this
  rw [HM.out]
  have hz := zeroT
  have HIZ : Hid ((Tryd.prog.info? 105).map (·.size) = some (rowCells zeroRow).toArray.size) := rowCells_size rfl
  have HIN : Hid ((Tryd.prog.info? 105).map (·.size) = some (rowCells ns).toArray.size) := rowCells_size hlen
  have HID : Hid ((Tryd.prog.info? 105).map (·.size) = some (rowCells (doRow r ns)).toArray.size) := rowCells_size (by rw [doRow_length]; exact hlen)
  have HSZ : Hid ((rowCells zeroRow).toArray.size = (rowCells (doRow r ns)).toArray.size) := Option.some.inj (HIZ.out.symm.trans HID.out)
  have HOP : Hid (r.op = 1) := hop
  have HCK : Hid (r.call = (k : Int)) := hkk
  generalize hZ : (rowCells zeroRow).toArray = Z at *
  obtain ⟨R, hR⟩ : ∃ R, (rowCells ns).toArray = R := ⟨_, rfl⟩
  have HR : Hid ((rowCells ns).toArray = R) := hR
  rw [hR] at HAL HIN ⊢
  obtain ⟨W1, hW1⟩ : ∃ W1, (w.alloc (.cells R 105)).alloc (.cells Z 105) = W1 := ⟨_, rfl⟩
  have hb0 : Below w.heap.size w W1 := by subst hW1; exact (ibox _ _).alloc (by simp) _
  have HA1 : Hid (W1.heap[w.heap.size]? = some (.cells R 105 (0, 0))) := by
    unfold Hid; rw [← hW1, heap_alloc_old _ _ (by simp)]; exact heap_alloc_last w _
  have HB1 : Hid (W1.heap[w.heap.size + 1]? = some (.cells Z 105 (0, 0))) := by
    have := heap_alloc_last (w.alloc (.cells R 105)) (.cells Z 105)
    rw [hW1] at this
    have e : (w.alloc (.cells R 105)).heap.size = w.heap.size + 1 := by simp
    rw [e] at this; exact this
  have hf1 := fld1
  have hm := mLate
  have hn := nLate
  have ha1 := ta11
  have i0 : (0 : Int) ≤ (k : Int) := by omega
  have i1 : (k : Int) < 20 := by omega
  clear hop hkk hal hR
  go_enter Tryd.func56, Tryd.ntmps56
  go_wp2_with (refine wpList_load_row (by rfl) 105 (.tmp 2) (by rfl) w.heap.size (by rfl) 105 R (0, 0) _ HA1.out underT rfl HIN.out ?_)
  refine (HAL.out _).mono ?_
  rintro e w1 ⟨rfl, hb1⟩
  go_wp2_with fail
  refine (where_any _ _ _ _).mono ?_
  rintro e w2 ⟨rfl, hb2⟩
  have C2 : Below W1.heap.size W1 w2 := hb1.trans (hb2.mono hb1.size)
  have hB2 : Below w.heap.size w w2 := hb0.trans (C2.mono hb0.size)
  have HA2 : Hid (w2.heap[w.heap.size]? = some (.cells (rowCells ns).toArray 105 (0, 0))) := by unfold Hid; rw [C2.block _ (iblock_lt HA1.out), HR.out]; exact HA1.out
  have HB2 : Hid (w2.heap[w.heap.size + 1]? = some (.cells Z 105 (0, 0))) := by unfold Hid; rw [C2.block _ (iblock_lt HB1.out)]; exact HB1.out
  have z2 : w.heap.size + 1 < w2.heap.size := iblock_lt HB2.out
  clear HA1 HB1 hb1 hb2 C2 hW1 hz hm hn HAL HM HIN HIZ hb0
  go_wp2_with fail
  go_loopw [7] (fun i wr => ∃ m : Nat, k ≤ m ∧ m ≤ 20 ∧ i = .int .i64 m ∧ Hid (wr.heap[w.heap.size]? = some (.cells (rowCells (upTo r m ns)).toArray 105 (0, 0))) ∧ Hid (wr.heap[w.heap.size + 1]? = some (.cells Z 105 (0, 0))) ∧ wr.cell? ⟨w2.heap.size, 3, none⟩ = some (.int .i64 r.n) ∧ Below w.heap.size w wr) (fun i _ => 20 - (intOf i).toNat)
  case atStart =>
    refine ⟨k, Nat.le_refl _, by omega, rfl, ?_, ?_, by simp [go_sem], hB2.alloc hB2.size _⟩
    · rw [upTo_start r k ns HCK.out (Or.inl HOP.out), heap_alloc_old _ _ (by omega)]; exact HA2.out
    · rw [heap_alloc_old _ _ (by omega)]; exact HB2.out
  case round =>
    obtain ⟨m, hkm, hm, rfl, hA, hBk, hms, hbel⟩ := hrel
    clear HA2 HB2
    by_cases hlt : m < 20
    · have hmn : m < ns.length := by omega
      have hun : m < (upTo r m ns).length := by rw [upTo_length]; exact hmn
      have hcm : (upTo r m ns)[m]'hun = ns[m] := by rw [upTo_get r m ns m hmn, if_neg (by omega)]
      have hce : wr.cell? ⟨w.heap.size, m * 5, none⟩ = some (.int .i64 ns[m].late) := by
        have := irow_cell hA.out m 0 hun (by omega)
        rw [hcm] at this; exact this
      have hfr : wr.frozen? ⟨w.heap.size, m * 5, none⟩ = false := irow_thaw hA.out _
      have HST : Hid ((wr.setCell ⟨w.heap.size, m * 5, none⟩ (.int .i64 r.n)).heap[w.heap.size]? = some (.cells (rowCells (upTo r (m + 1) ns)).toArray 105 (0, 0))) := by
        unfold Hid
        rw [upTo_succ r m ns hmn]
        exact irow_store hA.out m 0 _ _ hun (by omega) (by rw [hcm, doRow_1 HOP.out (by rw [HCK.out]; omega)]; rfl)
      have HBS : Hid ((wr.setCell ⟨w.heap.size, m * 5, none⟩ (.int .i64 r.n)).heap[w.heap.size + 1]? = some (.cells Z 105 (0, 0))) := by
        unfold Hid; rw [heap_setCell_other _ _ _ _ (by show w.heap.size + 1 ≠ w.heap.size; omega)]; exact hBk.out
      have j0 : (0 : Int) ≤ (m : Int) := by omega
      have j1 : (m : Int) < 20 := by omega
      clear hcm hA hBk
      go_wp2_with fail
      go_roundw
      case rel =>
        refine ⟨m + 1, by omega, by omega, by go_num, HST, HBS, ?_, Below.setCell hbel (Nat.le_refl _) _⟩
        rw [cell_other (by show w2.heap.size ≠ w.heap.size; omega)]; exact hms
      case measure => simp [intOf]; omega
    · have hm' : m = ns.length := by omega
      have HA3 : Hid (wr.heap[w.heap.size]? = some (.cells (rowCells (doRow r ns)).toArray 105 (0, 0))) := by
        have := hA.out
        rw [hm', upTo_end] at this; exact this
      have z3 : w.heap.size + 1 < wr.heap.size := iblock_lt hBk.out
      clear hA
      go_wp2_with (first
        | (refine wpList_load_row (by rfl) 105 (.tmp 2) (by rfl) w.heap.size (by rfl) 105 (rowCells (doRow r ns)).toArray (0, 0) _ HA3.out underT rfl HID.out ?_)
        | (refine wpList_store_row (by rfl) 105 (.tmp 4) (.tmp 69) (by rfl) (w.heap.size + 1) (rowCells (doRow r ns)).toArray (by rfl) (by rfl) 105 Z hBk.out HID.out HSZ.out (rowCells_all _) ?_))
      refine bodyPost_ret (v := .agg (rowCells (doRow r ns)).toArray) ?_ rfl ⟨rfl, below_setRow hbel _ _ (by omega)⟩
      exact results_cell_row Tryd.results56 _ _ (w.heap.size + 1) 105 (rowCells (doRow r ns)).toArray (0, 0) _ rfl (setRow_heap _ _ _ _ _ _ hBk.out) underT rfl HID.out

set_option maxRecDepth 100000 in
set_option maxHeartbeats 4000000 in
theorem after_3 (ns : List NewsD) (r : RepD) (last : Bool) (k : Nat) (w : World) (hlen : ns.length = 20) (hkk : r.call = (k : Int)) (hk : k < ns.length) (hop : r.op = 3) (hal : allowsX ns k last ns[k] r = true) :
    Calls Tryd.prog 56 #[.agg (rowCells ns).toArray, msgV r last] w fun e w' => e = .returned (.agg (rowCells (doRow r ns)).toArray) ∧ Below w.heap.size w w' := by
  have HM : Hid (msgV r last = .iface 159 (.agg #[.int .i64 r.trip, .int .i64 (k : Int), .bool last])) := by unfold Hid msgV; simp [hop, hkk]
  have HAL : Hid (∀ w, Calls Tryd.prog 81 #[.agg (rowCells ns).toArray, .iface 159 (.agg #[.int .i64 r.trip, .int .i64 (k : Int), .bool last])] w fun e w' => e = .returned (.bool true) ∧ Below w.heap.size w w') := fun w => by
    have := allows_any ns r last k w hlen hkk hk (by omega)
    rw [hal, HM.out] at this
    exact this
  rw [HM.out]
  have hz := zeroT
  have HIZ : Hid ((Tryd.prog.info? 105).map (·.size) = some (rowCells zeroRow).toArray.size) := rowCells_size rfl
  have HIN : Hid ((Tryd.prog.info? 105).map (·.size) = some (rowCells ns).toArray.size) := rowCells_size hlen
  have HID : Hid ((Tryd.prog.info? 105).map (·.size) = some (rowCells (doRow r ns)).toArray.size) := rowCells_size (by rw [doRow_length]; exact hlen)
  have HSZ : Hid ((rowCells zeroRow).toArray.size = (rowCells (doRow r ns)).toArray.size) := Option.some.inj (HIZ.out.symm.trans HID.out)
  have HOP : Hid (r.op = 3) := hop
  have HCK : Hid (r.call = (k : Int)) := hkk
  generalize hZ : (rowCells zeroRow).toArray = Z at *
  obtain ⟨R, hR⟩ : ∃ R, (rowCells ns).toArray = R := ⟨_, rfl⟩
  have HR : Hid ((rowCells ns).toArray = R) := hR
  rw [hR] at HAL HIN ⊢
  obtain ⟨W1, hW1⟩ : ∃ W1, (w.alloc (.cells R 105)).alloc (.cells Z 105) = W1 := ⟨_, rfl⟩
  have hb0 : Below w.heap.size w W1 := by subst hW1; exact (ibox _ _).alloc (by simp) _
  have HA1 : Hid (W1.heap[w.heap.size]? = some (.cells R 105 (0, 0))) := by
    unfold Hid; rw [← hW1, heap_alloc_old _ _ (by simp)]; exact heap_alloc_last w _
  have HB1 : Hid (W1.heap[w.heap.size + 1]? = some (.cells Z 105 (0, 0))) := by
    have := heap_alloc_last (w.alloc (.cells R 105)) (.cells Z 105)
    rw [hW1] at this
    have e : (w.alloc (.cells R 105)).heap.size = w.heap.size + 1 := by simp
    rw [e] at this; exact this
  have hf1 := fld1
  have hm := mStop
  have hn := nStop
  have ha1 := ta31
  have ha2 := ta32
  have ha3 := ta33
  have i0 : (0 : Int) ≤ (k : Int) := by omega
  have i1 : (k : Int) < 20 := by omega
  clear hop hkk hal hR
  go_enter Tryd.func56, Tryd.ntmps56
  go_wp2_with (refine wpList_load_row (by rfl) 105 (.tmp 2) (by rfl) w.heap.size (by rfl) 105 R (0, 0) _ HA1.out underT rfl HIN.out ?_)
  refine (HAL.out _).mono ?_
  rintro e w1 ⟨rfl, hb1⟩
  go_wp2_with fail
  refine (where_any _ _ _ _).mono ?_
  rintro e w2 ⟨rfl, hb2⟩
  have C2 : Below W1.heap.size W1 w2 := hb1.trans (hb2.mono hb1.size)
  have hB2 : Below w.heap.size w w2 := hb0.trans (C2.mono hb0.size)
  have HA2 : Hid (w2.heap[w.heap.size]? = some (.cells (rowCells ns).toArray 105 (0, 0))) := by unfold Hid; rw [C2.block _ (iblock_lt HA1.out), HR.out]; exact HA1.out
  have HB2 : Hid (w2.heap[w.heap.size + 1]? = some (.cells Z 105 (0, 0))) := by unfold Hid; rw [C2.block _ (iblock_lt HB1.out)]; exact HB1.out
  have z2 : w.heap.size + 1 < w2.heap.size := iblock_lt HB2.out
  clear HA1 HB1 hb1 hb2 C2 hW1 hz hm hn HAL HM HIN HIZ hb0
  go_wp2_with fail
  go_loopw [10] (fun i wr => ∃ m : Nat, k ≤ m ∧ m ≤ 20 ∧ i = .int .i64 m ∧ Hid (wr.heap[w.heap.size]? = some (.cells (rowCells (upTo r m ns)).toArray 105 (0, 0))) ∧ Hid (wr.heap[w.heap.size + 1]? = some (.cells Z 105 (0, 0))) ∧ Below w.heap.size w wr) (fun i _ => 20 - (intOf i).toNat)
  case atStart =>
    refine ⟨k, Nat.le_refl _, by omega, rfl, ?_, ?_, hB2.alloc hB2.size _⟩
    · rw [upTo_start r k ns HCK.out (Or.inr HOP.out), heap_alloc_old _ _ (by omega)]; exact HA2.out
    · rw [heap_alloc_old _ _ (by omega)]; exact HB2.out
  case round =>
    obtain ⟨m, hkm, hm, rfl, hA, hBk, hbel⟩ := hrel
    clear HA2 HB2
    by_cases hlt : m < 20
    · have hmn : m < ns.length := by omega
      have hun : m < (upTo r m ns).length := by rw [upTo_length]; exact hmn
      have hcm : (upTo r m ns)[m]'hun = ns[m] := by rw [upTo_get r m ns m hmn, if_neg (by omega)]
      have hce : wr.cell? ⟨w.heap.size, m * 5 + 2, none⟩ = some (.bool ns[m].off) := by
        have := irow_cell hA.out m 2 hun (by omega)
        rw [hcm] at this; exact this
      have hfr : wr.frozen? ⟨w.heap.size, m * 5 + 2, none⟩ = false := irow_thaw hA.out _
      have HST : Hid ((wr.setCell ⟨w.heap.size, m * 5 + 2, none⟩ (.bool true)).heap[w.heap.size]? = some (.cells (rowCells (upTo r (m + 1) ns)).toArray 105 (0, 0))) := by
        unfold Hid
        rw [upTo_succ r m ns hmn]
        exact irow_store hA.out m 2 _ _ hun (by omega) (by rw [hcm, doRow_3 HOP.out (by rw [HCK.out]; omega)]; rfl)
      have HBS : Hid ((wr.setCell ⟨w.heap.size, m * 5 + 2, none⟩ (.bool true)).heap[w.heap.size + 1]? = some (.cells Z 105 (0, 0))) := by
        unfold Hid; rw [heap_setCell_other _ _ _ _ (by show w.heap.size + 1 ≠ w.heap.size; omega)]; exact hBk.out
      have j0 : (0 : Int) ≤ (m : Int) := by omega
      have j1 : (m : Int) < 20 := by omega
      clear hcm hA hBk
      go_wp2_with fail
      go_roundw
      case rel =>
        refine ⟨m + 1, by omega, by omega, by go_num, HST, HBS, Below.setCell hbel (Nat.le_refl _) _⟩
      case measure => simp [intOf]; omega
    · have hm' : m = ns.length := by omega
      have HA3 : Hid (wr.heap[w.heap.size]? = some (.cells (rowCells (doRow r ns)).toArray 105 (0, 0))) := by
        have := hA.out
        rw [hm', upTo_end] at this; exact this
      have z3 : w.heap.size + 1 < wr.heap.size := iblock_lt hBk.out
      clear hA
      go_wp2_with (first
        | (refine wpList_load_row (by rfl) 105 (.tmp 2) (by rfl) w.heap.size (by rfl) 105 (rowCells (doRow r ns)).toArray (0, 0) _ HA3.out underT rfl HID.out ?_)
        | (refine wpList_store_row (by rfl) 105 (.tmp 4) (.tmp 69) (by rfl) (w.heap.size + 1) (rowCells (doRow r ns)).toArray (by rfl) (by rfl) 105 Z hBk.out HID.out HSZ.out (rowCells_all _) ?_))
      refine bodyPost_ret (v := .agg (rowCells (doRow r ns)).toArray) ?_ rfl ⟨rfl, below_setRow hbel _ _ (by omega)⟩
      exact results_cell_row Tryd.results56 _ _ (w.heap.size + 1) 105 (rowCells (doRow r ns)).toArray (0, 0) _ rfl (setRow_heap _ _ _ _ _ _ hBk.out) underT rfl HID.out

set_option maxRecDepth 100000 in
set_option maxHeartbeats 4000000 in
theorem after_2 (ns : List NewsD) (r : RepD) (last : Bool) (k : Nat) (w : World) (hlen : ns.length = 20) (hkk : r.call = (k : Int)) (hk : k < ns.length) (hop : r.op = 2) (hal : allowsX ns k last ns[k] r = true) :
    Calls Tryd.prog 56 #[.agg (rowCells ns).toArray, msgV r last] w fun e w' => e = .returned (.agg (rowCells (doRow r ns)).toArray) ∧ Below w.heap.size w w' := by
  have HM : Hid (msgV r last = .iface 157 (.agg #[.int .i64 r.trip, .int .i64 (k : Int), .bool last, .int .i64 r.n])) := by unfold Hid msgV; simp [hop, hkk]
  have HAL : Hid (∀ w, Calls Tryd.prog 81 #[.agg (rowCells ns).toArray, .iface 157 (.agg #[.int .i64 r.trip, .int .i64 (k : Int), .bool last, .int .i64 r.n])] w fun e w' => e = .returned (.bool true) ∧ Below w.heap.size w w') := fun w => by
    have := allows_any ns r last k w hlen hkk hk (by omega)
    rw [hal, HM.out] at this
    exact this
  rw [HM.out]
  have hz := zeroT
  have HIZ : Hid ((Tryd.prog.info? 105).map (·.size) = some (rowCells zeroRow).toArray.size) := rowCells_size rfl
  have HIN : Hid ((Tryd.prog.info? 105).map (·.size) = some (rowCells ns).toArray.size) := rowCells_size hlen
  have HID : Hid ((Tryd.prog.info? 105).map (·.size) = some (rowCells (doRow r ns)).toArray.size) := rowCells_size (by rw [doRow_length]; exact hlen)
  have HSZ : Hid ((rowCells zeroRow).toArray.size = (rowCells (doRow r ns)).toArray.size) := Option.some.inj (HIZ.out.symm.trans HID.out)
  have HOP : Hid (r.op = 2) := hop
  have HCK : Hid (r.call = (k : Int)) := hkk
  generalize hZ : (rowCells zeroRow).toArray = Z at *
  obtain ⟨R, hR⟩ : ∃ R, (rowCells ns).toArray = R := ⟨_, rfl⟩
  have HR : Hid ((rowCells ns).toArray = R) := hR
  rw [hR] at HAL HIN ⊢
  obtain ⟨W1, hW1⟩ : ∃ W1, (w.alloc (.cells R 105)).alloc (.cells Z 105) = W1 := ⟨_, rfl⟩
  have hb0 : Below w.heap.size w W1 := by subst hW1; exact (ibox _ _).alloc (by simp) _
  have HA1 : Hid (W1.heap[w.heap.size]? = some (.cells R 105 (0, 0))) := by
    unfold Hid; rw [← hW1, heap_alloc_old _ _ (by simp)]; exact heap_alloc_last w _
  have HB1 : Hid (W1.heap[w.heap.size + 1]? = some (.cells Z 105 (0, 0))) := by
    have := heap_alloc_last (w.alloc (.cells R 105)) (.cells Z 105)
    rw [hW1] at this
    have e : (w.alloc (.cells R 105)).heap.size = w.heap.size + 1 := by simp
    rw [e] at this; exact this
  have hf1 := fld1
  have hm := mTrack
  have hn := nTrack
  have ha1 := ta21
  have ha2 := ta22
  have i0 : (0 : Int) ≤ (k : Int) := by omega
  have i1 : (k : Int) < 20 := by omega
  clear hop hkk hal hR
  go_enter Tryd.func56, Tryd.ntmps56
  go_wp2_with (refine wpList_load_row (by rfl) 105 (.tmp 2) (by rfl) w.heap.size (by rfl) 105 R (0, 0) _ HA1.out underT rfl HIN.out ?_)
  refine (HAL.out _).mono ?_
  rintro e w1 ⟨rfl, hb1⟩
  go_wp2_with fail
  refine (where_any _ _ _ _).mono ?_
  rintro e w2 ⟨rfl, hb2⟩
  have C2 : Below W1.heap.size W1 w2 := hb1.trans (hb2.mono hb1.size)
  have hB2 : Below w.heap.size w w2 := hb0.trans (C2.mono hb0.size)
  have HA2 : Hid (w2.heap[w.heap.size]? = some (.cells (rowCells ns).toArray 105 (0, 0))) := by unfold Hid; rw [C2.block _ (iblock_lt HA1.out), HR.out]; exact HA1.out
  have HB2 : Hid (w2.heap[w.heap.size + 1]? = some (.cells Z 105 (0, 0))) := by unfold Hid; rw [C2.block _ (iblock_lt HB1.out)]; exact HB1.out
  have z2 : w.heap.size + 1 < w2.heap.size := iblock_lt HB2.out
  clear HA1 HB1 hb1 hb2 C2 hW1 hz hm hn HAL HM HIN HIZ hb0
  obtain ⟨W3, hW3⟩ : ∃ W3, w2.alloc (.cells #[.int .i64 r.trip, .int .i64 (k : Int), .bool last, .int .i64 r.n] 157) = W3 := ⟨_, rfl⟩
  have hB3 : Below w.heap.size w W3 := by subst hW3; exact hB2.alloc hB2.size _
  have HA3 : Hid (W3.heap[w.heap.size]? = some (.cells (rowCells ns).toArray 105 (0, 0))) := by unfold Hid; rw [← hW3, heap_alloc_old _ _ (by omega)]; exact HA2.out
  have HB3 : Hid (W3.heap[w.heap.size + 1]? = some (.cells Z 105 (0, 0))) := by unfold Hid; rw [← hW3, heap_alloc_old _ _ (by omega)]; exact HB2.out
  have hms : W3.cell? ⟨w2.heap.size, 3, none⟩ = some (.int .i64 r.n) := by subst hW3; simp [go_sem]
  have hce : W3.cell? ⟨w.heap.size, k * 5 + 1, none⟩ = some (.int .i64 ns[k].track) := irow_cell HA3.out k 1 hk (by omega)
  have hfr : W3.frozen? ⟨w.heap.size, k * 5 + 1, none⟩ = false := irow_thaw HA3.out _
  have HST : Hid ((W3.setCell ⟨w.heap.size, k * 5 + 1, none⟩ (.int .i64 r.n)).heap[w.heap.size]? = some (.cells (rowCells (doRow r ns)).toArray 105 (0, 0))) := by
    unfold Hid
    rw [doRow_one r k ns HCK.out hk (by rw [HOP.out]; decide) (by rw [HOP.out]; decide)]
    exact irow_store HA3.out k 1 _ _ hk (by omega) (by unfold doNews; simp [HOP.out, HCK.out, newsCells])
  have HBS : Hid ((W3.setCell ⟨w.heap.size, k * 5 + 1, none⟩ (.int .i64 r.n)).heap[w.heap.size + 1]? = some (.cells Z 105 (0, 0))) := by
    unfold Hid; rw [heap_setCell_other _ _ _ _ (by show w.heap.size + 1 ≠ w.heap.size; omega)]; exact HB3.out
  have HBL : Hid (Below w.heap.size w (W3.setCell ⟨w.heap.size, k * 5 + 1, none⟩ (.int .i64 r.n))) := Below.setCell hB3 (Nat.le_refl _) _
  clear HA2 HB2 HA3 HB3
  go_wp2_with (first
    | (refine wpList_load_row (by rfl) 105 (.tmp 2) (by rfl) w.heap.size (by rfl) 105 (rowCells (doRow r ns)).toArray (0, 0) _ HST.out underT rfl HID.out ?_)
    | (refine wpList_store_row (by rfl) 105 (.tmp 4) (.tmp 69) (by rfl) (w.heap.size + 1) (rowCells (doRow r ns)).toArray (by rfl) (by rfl) 105 Z HBS.out HID.out HSZ.out (rowCells_all _) ?_))
  refine bodyPost_ret (v := .agg (rowCells (doRow r ns)).toArray) ?_ rfl ⟨rfl, below_setRow HBL.out _ _ (by omega)⟩
  exact results_cell_row Tryd.results56 _ _ (w.heap.size + 1) 105 (rowCells (doRow r ns)).toArray (0, 0) _ rfl (setRow_heap _ _ _ _ _ _ HBS.out) underT rfl HID.out

set_option maxRecDepth 100000 in
set_option maxHeartbeats 4000000 in
theorem after_4 (ns : List NewsD) (r : RepD) (last : Bool) (k : Nat) (w : World) (hlen : ns.length = 20) (hkk : r.call = (k : Int)) (hk : k < ns.length) (hop : r.op = 4) (hal : allowsX ns k last ns[k] r = true) :
    Calls Tryd.prog 56 #[.agg (rowCells ns).toArray, msgV r last] w fun e w' => e = .returned (.agg (rowCells (doRow r ns)).toArray) ∧ Below w.heap.size w w' := by
  have HM : Hid (msgV r last = .iface 160 (.agg #[.int .i64 r.trip, .int .i64 (k : Int), .bool last])) := by unfold Hid msgV; simp [hop, hkk]
  have HAL : Hid (∀ w, Calls Tryd.prog 81 #[.agg (rowCells ns).toArray, .iface 160 (.agg #[.int .i64 r.trip, .int .i64 (k : Int), .bool last])] w fun e w' => e = .returned (.bool true) ∧ Below w.heap.size w w') := fun w => by
    have := allows_any ns r last k w hlen hkk hk (by omega)
    rw [hal, HM.out] at this
    exact this
  rw [HM.out]
  have hz := zeroT
  have HIZ : Hid ((Tryd.prog.info? 105).map (·.size) = some (rowCells zeroRow).toArray.size) := rowCells_size rfl
  have HIN : Hid ((Tryd.prog.info? 105).map (·.size) = some (rowCells ns).toArray.size) := rowCells_size hlen
  have HID : Hid ((Tryd.prog.info? 105).map (·.size) = some (rowCells (doRow r ns)).toArray.size) := rowCells_size (by rw [doRow_length]; exact hlen)
  have HSZ : Hid ((rowCells zeroRow).toArray.size = (rowCells (doRow r ns)).toArray.size) := Option.some.inj (HIZ.out.symm.trans HID.out)
  have HOP : Hid (r.op = 4) := hop
  have HCK : Hid (r.call = (k : Int)) := hkk
  generalize hZ : (rowCells zeroRow).toArray = Z at *
  obtain ⟨R, hR⟩ : ∃ R, (rowCells ns).toArray = R := ⟨_, rfl⟩
  have HR : Hid ((rowCells ns).toArray = R) := hR
  rw [hR] at HAL HIN ⊢
  obtain ⟨W1, hW1⟩ : ∃ W1, (w.alloc (.cells R 105)).alloc (.cells Z 105) = W1 := ⟨_, rfl⟩
  have hb0 : Below w.heap.size w W1 := by subst hW1; exact (ibox _ _).alloc (by simp) _
  have HA1 : Hid (W1.heap[w.heap.size]? = some (.cells R 105 (0, 0))) := by
    unfold Hid; rw [← hW1, heap_alloc_old _ _ (by simp)]; exact heap_alloc_last w _
  have HB1 : Hid (W1.heap[w.heap.size + 1]? = some (.cells Z 105 (0, 0))) := by
    have := heap_alloc_last (w.alloc (.cells R 105)) (.cells Z 105)
    rw [hW1] at this
    have e : (w.alloc (.cells R 105)).heap.size = w.heap.size + 1 := by simp
    rw [e] at this; exact this
  have hf1 := fld1
  have hm := mHere
  have hn := nHere
  have ha1 := ta41
  have ha2 := ta42
  have ha3 := ta43
  have ha4 := ta44
  have i0 : (0 : Int) ≤ (k : Int) := by omega
  have i1 : (k : Int) < 20 := by omega
  clear hop hkk hal hR
  go_enter Tryd.func56, Tryd.ntmps56
  go_wp2_with (refine wpList_load_row (by rfl) 105 (.tmp 2) (by rfl) w.heap.size (by rfl) 105 R (0, 0) _ HA1.out underT rfl HIN.out ?_)
  refine (HAL.out _).mono ?_
  rintro e w1 ⟨rfl, hb1⟩
  go_wp2_with fail
  refine (where_any _ _ _ _).mono ?_
  rintro e w2 ⟨rfl, hb2⟩
  have C2 : Below W1.heap.size W1 w2 := hb1.trans (hb2.mono hb1.size)
  have hB2 : Below w.heap.size w w2 := hb0.trans (C2.mono hb0.size)
  have HA2 : Hid (w2.heap[w.heap.size]? = some (.cells (rowCells ns).toArray 105 (0, 0))) := by unfold Hid; rw [C2.block _ (iblock_lt HA1.out), HR.out]; exact HA1.out
  have HB2 : Hid (w2.heap[w.heap.size + 1]? = some (.cells Z 105 (0, 0))) := by unfold Hid; rw [C2.block _ (iblock_lt HB1.out)]; exact HB1.out
  have z2 : w.heap.size + 1 < w2.heap.size := iblock_lt HB2.out
  clear HA1 HB1 hb1 hb2 C2 hW1 hz hm hn HAL HM HIN HIZ hb0
  obtain ⟨W3, hW3⟩ : ∃ W3, w2.alloc (.cells #[.int .i64 r.trip, .int .i64 (k : Int), .bool last] 160) = W3 := ⟨_, rfl⟩
  have hB3 : Below w.heap.size w W3 := by subst hW3; exact hB2.alloc hB2.size _
  have HA3 : Hid (W3.heap[w.heap.size]? = some (.cells (rowCells ns).toArray 105 (0, 0))) := by unfold Hid; rw [← hW3, heap_alloc_old _ _ (by omega)]; exact HA2.out
  have HB3 : Hid (W3.heap[w.heap.size + 1]? = some (.cells Z 105 (0, 0))) := by unfold Hid; rw [← hW3, heap_alloc_old _ _ (by omega)]; exact HB2.out
  have hce : W3.cell? ⟨w.heap.size, k * 5 + 3, none⟩ = some (.bool ns[k].here) := irow_cell HA3.out k 3 hk (by omega)
  have hfr : W3.frozen? ⟨w.heap.size, k * 5 + 3, none⟩ = false := irow_thaw HA3.out _
  have HST : Hid ((W3.setCell ⟨w.heap.size, k * 5 + 3, none⟩ (.bool true)).heap[w.heap.size]? = some (.cells (rowCells (doRow r ns)).toArray 105 (0, 0))) := by
    unfold Hid
    rw [doRow_one r k ns HCK.out hk (by rw [HOP.out]; decide) (by rw [HOP.out]; decide)]
    exact irow_store HA3.out k 3 _ _ hk (by omega) (by unfold doNews; simp [HOP.out, HCK.out, newsCells])
  have HBS : Hid ((W3.setCell ⟨w.heap.size, k * 5 + 3, none⟩ (.bool true)).heap[w.heap.size + 1]? = some (.cells Z 105 (0, 0))) := by
    unfold Hid; rw [heap_setCell_other _ _ _ _ (by show w.heap.size + 1 ≠ w.heap.size; omega)]; exact HB3.out
  have HBL : Hid (Below w.heap.size w (W3.setCell ⟨w.heap.size, k * 5 + 3, none⟩ (.bool true))) := Below.setCell hB3 (Nat.le_refl _) _
  clear HA2 HB2 HA3 HB3
  go_wp2_with (first
    | (refine wpList_load_row (by rfl) 105 (.tmp 2) (by rfl) w.heap.size (by rfl) 105 (rowCells (doRow r ns)).toArray (0, 0) _ HST.out underT rfl HID.out ?_)
    | (refine wpList_store_row (by rfl) 105 (.tmp 4) (.tmp 69) (by rfl) (w.heap.size + 1) (rowCells (doRow r ns)).toArray (by rfl) (by rfl) 105 Z HBS.out HID.out HSZ.out (rowCells_all _) ?_))
  refine bodyPost_ret (v := .agg (rowCells (doRow r ns)).toArray) ?_ rfl ⟨rfl, below_setRow HBL.out _ _ (by omega)⟩
  exact results_cell_row Tryd.results56 _ _ (w.heap.size + 1) 105 (rowCells (doRow r ns)).toArray (0, 0) _ rfl (setRow_heap _ _ _ _ _ _ HBS.out) underT rfl HID.out

set_option maxRecDepth 100000 in
set_option maxHeartbeats 4000000 in
theorem after_5 (ns : List NewsD) (r : RepD) (last : Bool) (k : Nat) (w : World) (hlen : ns.length = 20) (hkk : r.call = (k : Int)) (hk : k < ns.length) (hop : r.op = 5) (hal : allowsX ns k last ns[k] r = true) :
    Calls Tryd.prog 56 #[.agg (rowCells ns).toArray, msgV r last] w fun e w' => e = .returned (.agg (rowCells (doRow r ns)).toArray) ∧ Below w.heap.size w w' := by
  have HM : Hid (msgV r last = .iface 161 (.agg #[.int .i64 r.trip, .int .i64 (k : Int), .bool last])) := by unfold Hid msgV; simp [hop, hkk]
  have HAL : Hid (∀ w, Calls Tryd.prog 81 #[.agg (rowCells ns).toArray, .iface 161 (.agg #[.int .i64 r.trip, .int .i64 (k : Int), .bool last])] w fun e w' => e = .returned (.bool true) ∧ Below w.heap.size w w') := fun w => by
    have := allows_any ns r last k w hlen hkk hk (by omega)
    rw [hal, HM.out] at this
    exact this
  rw [HM.out]
  have hz := zeroT
  have HIZ : Hid ((Tryd.prog.info? 105).map (·.size) = some (rowCells zeroRow).toArray.size) := rowCells_size rfl
  have HIN : Hid ((Tryd.prog.info? 105).map (·.size) = some (rowCells ns).toArray.size) := rowCells_size hlen
  have HID : Hid ((Tryd.prog.info? 105).map (·.size) = some (rowCells (doRow r ns)).toArray.size) := rowCells_size (by rw [doRow_length]; exact hlen)
  have HSZ : Hid ((rowCells zeroRow).toArray.size = (rowCells (doRow r ns)).toArray.size) := Option.some.inj (HIZ.out.symm.trans HID.out)
  have HOP : Hid (r.op = 5) := hop
  have HCK : Hid (r.call = (k : Int)) := hkk
  generalize hZ : (rowCells zeroRow).toArray = Z at *
  obtain ⟨R, hR⟩ : ∃ R, (rowCells ns).toArray = R := ⟨_, rfl⟩
  have HR : Hid ((rowCells ns).toArray = R) := hR
  rw [hR] at HAL HIN ⊢
  obtain ⟨W1, hW1⟩ : ∃ W1, (w.alloc (.cells R 105)).alloc (.cells Z 105) = W1 := ⟨_, rfl⟩
  have hb0 : Below w.heap.size w W1 := by subst hW1; exact (ibox _ _).alloc (by simp) _
  have HA1 : Hid (W1.heap[w.heap.size]? = some (.cells R 105 (0, 0))) := by
    unfold Hid; rw [← hW1, heap_alloc_old _ _ (by simp)]; exact heap_alloc_last w _
  have HB1 : Hid (W1.heap[w.heap.size + 1]? = some (.cells Z 105 (0, 0))) := by
    have := heap_alloc_last (w.alloc (.cells R 105)) (.cells Z 105)
    rw [hW1] at this
    have e : (w.alloc (.cells R 105)).heap.size = w.heap.size + 1 := by simp
    rw [e] at this; exact this
  have hf1 := fld1
  have hm := mGone
  have hn := nGone
  have ha1 := ta51
  have ha2 := ta52
  have ha3 := ta53
  have ha4 := ta54
  have ha5 := ta55
  have i0 : (0 : Int) ≤ (k : Int) := by omega
  have i1 : (k : Int) < 20 := by omega
  clear hop hkk hal hR
  go_enter Tryd.func56, Tryd.ntmps56
  go_wp2_with (refine wpList_load_row (by rfl) 105 (.tmp 2) (by rfl) w.heap.size (by rfl) 105 R (0, 0) _ HA1.out underT rfl HIN.out ?_)
  refine (HAL.out _).mono ?_
  rintro e w1 ⟨rfl, hb1⟩
  go_wp2_with fail
  refine (where_any _ _ _ _).mono ?_
  rintro e w2 ⟨rfl, hb2⟩
  have C2 : Below W1.heap.size W1 w2 := hb1.trans (hb2.mono hb1.size)
  have hB2 : Below w.heap.size w w2 := hb0.trans (C2.mono hb0.size)
  have HA2 : Hid (w2.heap[w.heap.size]? = some (.cells (rowCells ns).toArray 105 (0, 0))) := by unfold Hid; rw [C2.block _ (iblock_lt HA1.out), HR.out]; exact HA1.out
  have HB2 : Hid (w2.heap[w.heap.size + 1]? = some (.cells Z 105 (0, 0))) := by unfold Hid; rw [C2.block _ (iblock_lt HB1.out)]; exact HB1.out
  have z2 : w.heap.size + 1 < w2.heap.size := iblock_lt HB2.out
  clear HA1 HB1 hb1 hb2 C2 hW1 hz hm hn HAL HM HIN HIZ hb0
  obtain ⟨W3, hW3⟩ : ∃ W3, w2.alloc (.cells #[.int .i64 r.trip, .int .i64 (k : Int), .bool last] 161) = W3 := ⟨_, rfl⟩
  have hB3 : Below w.heap.size w W3 := by subst hW3; exact hB2.alloc hB2.size _
  have HA3 : Hid (W3.heap[w.heap.size]? = some (.cells (rowCells ns).toArray 105 (0, 0))) := by unfold Hid; rw [← hW3, heap_alloc_old _ _ (by omega)]; exact HA2.out
  have HB3 : Hid (W3.heap[w.heap.size + 1]? = some (.cells Z 105 (0, 0))) := by unfold Hid; rw [← hW3, heap_alloc_old _ _ (by omega)]; exact HB2.out
  have hce : W3.cell? ⟨w.heap.size, k * 5 + 3, none⟩ = some (.bool ns[k].here) := irow_cell HA3.out k 3 hk (by omega)
  have hfr : W3.frozen? ⟨w.heap.size, k * 5 + 3, none⟩ = false := irow_thaw HA3.out _
  have hs4 := irow_store HA3.out k 3 (.bool false) { ns[k] with here := false } hk (by omega) rfl
  have hk4 : k < (ns.set k { ns[k] with here := false }).length := by rw [List.length_set]; exact hk
  have hg4 : (ns.set k { ns[k] with here := false })[k]'hk4 = { ns[k] with here := false } := List.getElem_set_self _
  have hce4 : (W3.setCell ⟨w.heap.size, k * 5 + 3, none⟩ (.bool false)).cell? ⟨w.heap.size, k * 5 + 4, none⟩ = some (.bool ns[k].gone) := by
    have := irow_cell hs4 k 4 hk4 (by omega)
    rw [hg4] at this; exact this
  have hfr4 : (W3.setCell ⟨w.heap.size, k * 5 + 3, none⟩ (.bool false)).frozen? ⟨w.heap.size, k * 5 + 4, none⟩ = false := irow_thaw hs4 _
  have HST : Hid (((W3.setCell ⟨w.heap.size, k * 5 + 3, none⟩ (.bool false)).setCell ⟨w.heap.size, k * 5 + 4, none⟩ (.bool true)).heap[w.heap.size]? = some (.cells (rowCells (doRow r ns)).toArray 105 (0, 0))) := by
    unfold Hid
    rw [doRow_one r k ns HCK.out hk (by rw [HOP.out]; decide) (by rw [HOP.out]; decide)]
    have := irow_store hs4 k 4 (.bool true) { ns[k] with here := false, gone := true } hk4 (by omega) (by rw [hg4]; rfl)
    rw [List.set_set] at this
    rw [this]
    unfold doNews; simp [HOP.out, HCK.out]
  have HBS : Hid (((W3.setCell ⟨w.heap.size, k * 5 + 3, none⟩ (.bool false)).setCell ⟨w.heap.size, k * 5 + 4, none⟩ (.bool true)).heap[w.heap.size + 1]? = some (.cells Z 105 (0, 0))) := by
    unfold Hid; rw [heap_setCell_other _ _ _ _ (by show w.heap.size + 1 ≠ w.heap.size; omega), heap_setCell_other _ _ _ _ (by show w.heap.size + 1 ≠ w.heap.size; omega)]; exact HB3.out
  have HBL : Hid (Below w.heap.size w ((W3.setCell ⟨w.heap.size, k * 5 + 3, none⟩ (.bool false)).setCell ⟨w.heap.size, k * 5 + 4, none⟩ (.bool true))) := Below.setCell (Below.setCell hB3 (Nat.le_refl _) _) (Nat.le_refl _) _
  clear HA2 HB2 HA3 HB3 hs4 hg4
  go_wp2_with (first
    | (refine wpList_load_row (by rfl) 105 (.tmp 2) (by rfl) w.heap.size (by rfl) 105 (rowCells (doRow r ns)).toArray (0, 0) _ HST.out underT rfl HID.out ?_)
    | (refine wpList_store_row (by rfl) 105 (.tmp 4) (.tmp 69) (by rfl) (w.heap.size + 1) (rowCells (doRow r ns)).toArray (by rfl) (by rfl) 105 Z HBS.out HID.out HSZ.out (rowCells_all _) ?_))
  refine bodyPost_ret (v := .agg (rowCells (doRow r ns)).toArray) ?_ rfl ⟨rfl, below_setRow HBL.out _ _ (by omega)⟩
  exact results_cell_row Tryd.results56 _ _ (w.heap.size + 1) 105 (rowCells (doRow r ns)).toArray (0, 0) _ rfl (setRow_heap _ _ _ _ _ _ HBS.out) underT rfl HID.out

end Go.Proofs.YtjioingdpfgadaaDoor
