import Derived.Test.YtjioingdpfgadaaDoorProg
import Derived.Test.YtjioingdpfgadaaDoorImplWM
namespace Go.Proofs.YtjioingdpfgadaaDoor
open Go Go.RowKit Go.Deep

set_option maxRecDepth 100000 in
set_option maxHeartbeats 4000000 in
theorem allows_1 (ns : List NewsD) (r : RepD) (last : Bool) (k : Nat) (w : World) (hlen : ns.length = 20) (hkk : r.call = (k : Int)) (hk : k < ns.length) (hop : r.op = 1) :
    Calls Tryd.prog 81 #[.agg (rowCells ns).toArray, msgV r last] w fun e w' => e = .returned (.bool (allowsX ns k last ns[k] r)) ∧ Below w.heap.size w w' := by
  obtain ⟨W, hW⟩ : ∃ W, w.alloc (.cells (rowCells ns).toArray 105) = W := ⟨_, rfl⟩
  have hb0 : Below w.heap.size w W := by subst hW; exact ibox _ _
  obtain ⟨c0, c1, c2, c3, c4⟩ := rowBox_cells ns w W _ hW k hk
  have Hpv : Hid (∀ i (h : i < ns.length), W.cell? ⟨w.heap.size, i * 5 + 4, none⟩ = some (.bool ns[i].gone)) := fun i h => (rowBox_cells ns w W _ hW i h).2.2.2.2
  have i0 : (0 : Int) ≤ (k : Int) := by omega
  have i1 : (k : Int) < 20 := by omega
  have HM : Hid (msgV r last = .iface 155 (.agg #[.int .i64 r.trip, .int .i64 (k : Int), .bool last, .int .i64 r.n])) := by unfold Hid msgV; simp [hop, hkk]
  rw [HM.out]
  have hf1 := fld1
  have hm := mLate
  have ha1 := ta11
  have hn := nLate
  have HA : Hid (ns[k].gone = false → ns[k].off = false → allowsX ns k last ns[k] r = (ns[k].late != r.n)) := fun h1 h2 => by unfold allowsX; simp [h1, h2, hop]
  clear hlen
  clear hop hkk
  cases hg : ns[k].gone
  · cases ho : ns[k].off
    · rw [hg] at c4; rw [ho] at c2
      have HX := HA.out hg ho
      have HX : Hid _ := HX
      clear HA hg ho
      go_enter Tryd.func81, Tryd.ntmps81
      go_wp2_with fail
      refine (where_any _ _ _ _).mono ?_
      rintro e w1 ⟨rfl, hb1⟩
      have hB1 : Below w.heap.size w w1 := hb0.trans (hb1.mono hb0.size)
      have d0 := cell_keep hb1 c0
      have d1 := cell_keep hb1 c1
      have d2 := cell_keep hb1 c2
      have d3 := cell_keep hb1 c3
      have d4 := cell_keep hb1 c4
      have z0 := cell_lt d0
      clear c0 c1 c2 c3 c4 hb1 hW HM hm hn
      go_wp2_with fail
      go_ret
      refine ⟨ret_bool HX.out.symm, ?_⟩
      exact (hB1.alloc hB1.size _).alloc (by have := hB1.size; simp; omega) _
    · rw [hg] at c4; rw [ho] at c2
      have HX : Hid (allowsX ns k last ns[k] r = false) := allowsX_off ho
      clear HA hg ho
      go_enter Tryd.func81, Tryd.ntmps81
      go_wp2_with fail
      refine (where_any _ _ _ _).mono ?_
      rintro e w1 ⟨rfl, hb1⟩
      have hB1 : Below w.heap.size w w1 := hb0.trans (hb1.mono hb0.size)
      have d0 := cell_keep hb1 c0
      have d1 := cell_keep hb1 c1
      have d2 := cell_keep hb1 c2
      have d3 := cell_keep hb1 c3
      have d4 := cell_keep hb1 c4
      have z0 := cell_lt d0
      clear c0 c1 c2 c3 c4 hb1 hW HM hm hn
      go_wp2_with fail
      go_ret
      refine ⟨ret_bool HX.out.symm, ?_⟩
      exact hB1.alloc hB1.size _
  · rw [hg] at c4
    have HX : Hid (allowsX ns k last ns[k] r = false) := allowsX_gone hg
    clear HA hg
    go_enter Tryd.func81, Tryd.ntmps81
    go_wp2_with fail
    refine (where_any _ _ _ _).mono ?_
    rintro e w1 ⟨rfl, hb1⟩
    have hB1 : Below w.heap.size w w1 := hb0.trans (hb1.mono hb0.size)
    have d0 := cell_keep hb1 c0
    have d1 := cell_keep hb1 c1
    have d2 := cell_keep hb1 c2
    have d3 := cell_keep hb1 c3
    have d4 := cell_keep hb1 c4
    have z0 := cell_lt d0
    clear c0 c1 c2 c3 c4 hb1 hW HM hm hn
    go_wp2_with fail
    go_ret
    refine ⟨ret_bool HX.out.symm, ?_⟩
    exact hB1.alloc hB1.size _

set_option maxRecDepth 100000 in
set_option maxHeartbeats 4000000 in
theorem allows_2 (ns : List NewsD) (r : RepD) (last : Bool) (k : Nat) (w : World) (hlen : ns.length = 20) (hkk : r.call = (k : Int)) (hk : k < ns.length) (hop : r.op = 2) :
    Calls Tryd.prog 81 #[.agg (rowCells ns).toArray, msgV r last] w fun e w' => e = .returned (.bool (allowsX ns k last ns[k] r)) ∧ Below w.heap.size w w' := by
  obtain ⟨W, hW⟩ : ∃ W, w.alloc (.cells (rowCells ns).toArray 105) = W := ⟨_, rfl⟩
  have hb0 : Below w.heap.size w W := by subst hW; exact ibox _ _
  obtain ⟨c0, c1, c2, c3, c4⟩ := rowBox_cells ns w W _ hW k hk
  have Hpv : Hid (∀ i (h : i < ns.length), W.cell? ⟨w.heap.size, i * 5 + 4, none⟩ = some (.bool ns[i].gone)) := fun i h => (rowBox_cells ns w W _ hW i h).2.2.2.2
  have i0 : (0 : Int) ≤ (k : Int) := by omega
  have i1 : (k : Int) < 20 := by omega
  have HM : Hid (msgV r last = .iface 157 (.agg #[.int .i64 r.trip, .int .i64 (k : Int), .bool last, .int .i64 r.n])) := by unfold Hid msgV; simp [hop, hkk]
  rw [HM.out]
  have hf1 := fld1
  have hm := mTrack
  have ha1 := ta21
  have ha2 := ta22
  have hn := nTrack
  have HA : Hid (ns[k].gone = false → ns[k].off = false → allowsX ns k last ns[k] r = (!ns[k].here && (ns[k].track != r.n))) := fun h1 h2 => by unfold allowsX; simp [h1, h2, hop]
  clear hlen
  clear hop hkk
  cases hg : ns[k].gone
  · cases ho : ns[k].off
    · rw [hg] at c4; rw [ho] at c2
      have HX := HA.out hg ho
      have HX : Hid _ := HX
      clear HA hg ho
      cases hh : ns[k].here
      · rw [hh] at c3 HX
        clear hh
        go_enter Tryd.func81, Tryd.ntmps81
        go_wp2_with fail
        refine (where_any _ _ _ _).mono ?_
        rintro e w1 ⟨rfl, hb1⟩
        have hB1 : Below w.heap.size w w1 := hb0.trans (hb1.mono hb0.size)
        have d0 := cell_keep hb1 c0
        have d1 := cell_keep hb1 c1
        have d2 := cell_keep hb1 c2
        have d3 := cell_keep hb1 c3
        have d4 := cell_keep hb1 c4
        have z0 := cell_lt d0
        clear c0 c1 c2 c3 c4 hb1 hW HM hm hn
        go_wp2_with fail
        go_ret
        refine ⟨ret_bool (by rw [HX.out]; simp), ?_⟩
        exact (hB1.alloc hB1.size _).alloc (by have := hB1.size; simp; omega) _
      · rw [hh] at c3 HX
        clear hh
        go_enter Tryd.func81, Tryd.ntmps81
        go_wp2_with fail
        refine (where_any _ _ _ _).mono ?_
        rintro e w1 ⟨rfl, hb1⟩
        have hB1 : Below w.heap.size w w1 := hb0.trans (hb1.mono hb0.size)
        have d0 := cell_keep hb1 c0
        have d1 := cell_keep hb1 c1
        have d2 := cell_keep hb1 c2
        have d3 := cell_keep hb1 c3
        have d4 := cell_keep hb1 c4
        have z0 := cell_lt d0
        clear c0 c1 c2 c3 c4 hb1 hW HM hm hn
        go_wp2_with fail
        go_ret
        refine ⟨ret_bool (by rw [HX.out]; simp), ?_⟩
        exact (hB1.alloc hB1.size _).alloc (by have := hB1.size; simp; omega) _
    · rw [hg] at c4; rw [ho] at c2
      have HX : Hid (allowsX ns k last ns[k] r = false) := allowsX_off ho
      clear HA hg ho
      go_enter Tryd.func81, Tryd.ntmps81
      go_wp2_with fail
      refine (where_any _ _ _ _).mono ?_
      rintro e w1 ⟨rfl, hb1⟩
      have hB1 : Below w.heap.size w w1 := hb0.trans (hb1.mono hb0.size)
      have d0 := cell_keep hb1 c0
      have d1 := cell_keep hb1 c1
      have d2 := cell_keep hb1 c2
      have d3 := cell_keep hb1 c3
      have d4 := cell_keep hb1 c4
      have z0 := cell_lt d0
      clear c0 c1 c2 c3 c4 hb1 hW HM hm hn
      go_wp2_with fail
      go_ret
      refine ⟨ret_bool HX.out.symm, ?_⟩
      exact hB1.alloc hB1.size _
  · rw [hg] at c4
    have HX : Hid (allowsX ns k last ns[k] r = false) := allowsX_gone hg
    clear HA hg
    go_enter Tryd.func81, Tryd.ntmps81
    go_wp2_with fail
    refine (where_any _ _ _ _).mono ?_
    rintro e w1 ⟨rfl, hb1⟩
    have hB1 : Below w.heap.size w w1 := hb0.trans (hb1.mono hb0.size)
    have d0 := cell_keep hb1 c0
    have d1 := cell_keep hb1 c1
    have d2 := cell_keep hb1 c2
    have d3 := cell_keep hb1 c3
    have d4 := cell_keep hb1 c4
    have z0 := cell_lt d0
    clear c0 c1 c2 c3 c4 hb1 hW HM hm hn
    go_wp2_with fail
    go_ret
    refine ⟨ret_bool HX.out.symm, ?_⟩
    exact hB1.alloc hB1.size _

set_option maxRecDepth 100000 in
set_option maxHeartbeats 4000000 in
theorem allows_3 (ns : List NewsD) (r : RepD) (last : Bool) (k : Nat) (w : World) (hlen : ns.length = 20) (hkk : r.call = (k : Int)) (hk : k < ns.length) (hop : r.op = 3) :
    Calls Tryd.prog 81 #[.agg (rowCells ns).toArray, msgV r last] w fun e w' => e = .returned (.bool (allowsX ns k last ns[k] r)) ∧ Below w.heap.size w w' := by
  obtain ⟨W, hW⟩ : ∃ W, w.alloc (.cells (rowCells ns).toArray 105) = W := ⟨_, rfl⟩
  have hb0 : Below w.heap.size w W := by subst hW; exact ibox _ _
  obtain ⟨c0, c1, c2, c3, c4⟩ := rowBox_cells ns w W _ hW k hk
  have Hpv : Hid (∀ i (h : i < ns.length), W.cell? ⟨w.heap.size, i * 5 + 4, none⟩ = some (.bool ns[i].gone)) := fun i h => (rowBox_cells ns w W _ hW i h).2.2.2.2
  have i0 : (0 : Int) ≤ (k : Int) := by omega
  have i1 : (k : Int) < 20 := by omega
  have HM : Hid (msgV r last = .iface 159 (.agg #[.int .i64 r.trip, .int .i64 (k : Int), .bool last])) := by unfold Hid msgV; simp [hop, hkk]
  rw [HM.out]
  have hf1 := fld1
  have hm := mStop
  have ha1 := ta31
  have ha2 := ta32
  have ha3 := ta33
  have hn := nStop
  have HA : Hid (ns[k].gone = false → ns[k].off = false → allowsX ns k last ns[k] r = (!ns[k].here)) := fun h1 h2 => by unfold allowsX; simp [h1, h2, hop]
  clear hlen
  clear hop hkk
  cases hg : ns[k].gone
  · cases ho : ns[k].off
    · rw [hg] at c4; rw [ho] at c2
      have HX := HA.out hg ho
      have HX : Hid _ := HX
      clear HA hg ho
      go_enter Tryd.func81, Tryd.ntmps81
      go_wp2_with fail
      refine (where_any _ _ _ _).mono ?_
      rintro e w1 ⟨rfl, hb1⟩
      have hB1 : Below w.heap.size w w1 := hb0.trans (hb1.mono hb0.size)
      have d0 := cell_keep hb1 c0
      have d1 := cell_keep hb1 c1
      have d2 := cell_keep hb1 c2
      have d3 := cell_keep hb1 c3
      have d4 := cell_keep hb1 c4
      have z0 := cell_lt d0
      clear c0 c1 c2 c3 c4 hb1 hW HM hm hn
      go_wp2_with fail
      go_ret
      refine ⟨ret_bool HX.out.symm, ?_⟩
      exact (hB1.alloc hB1.size _).alloc (by have := hB1.size; simp; omega) _
    · rw [hg] at c4; rw [ho] at c2
      have HX : Hid (allowsX ns k last ns[k] r = false) := allowsX_off ho
      clear HA hg ho
      go_enter Tryd.func81, Tryd.ntmps81
      go_wp2_with fail
      refine (where_any _ _ _ _).mono ?_
      rintro e w1 ⟨rfl, hb1⟩
      have hB1 : Below w.heap.size w w1 := hb0.trans (hb1.mono hb0.size)
      have d0 := cell_keep hb1 c0
      have d1 := cell_keep hb1 c1
      have d2 := cell_keep hb1 c2
      have d3 := cell_keep hb1 c3
      have d4 := cell_keep hb1 c4
      have z0 := cell_lt d0
      clear c0 c1 c2 c3 c4 hb1 hW HM hm hn
      go_wp2_with fail
      go_ret
      refine ⟨ret_bool HX.out.symm, ?_⟩
      exact hB1.alloc hB1.size _
  · rw [hg] at c4
    have HX : Hid (allowsX ns k last ns[k] r = false) := allowsX_gone hg
    clear HA hg
    go_enter Tryd.func81, Tryd.ntmps81
    go_wp2_with fail
    refine (where_any _ _ _ _).mono ?_
    rintro e w1 ⟨rfl, hb1⟩
    have hB1 : Below w.heap.size w w1 := hb0.trans (hb1.mono hb0.size)
    have d0 := cell_keep hb1 c0
    have d1 := cell_keep hb1 c1
    have d2 := cell_keep hb1 c2
    have d3 := cell_keep hb1 c3
    have d4 := cell_keep hb1 c4
    have z0 := cell_lt d0
    clear c0 c1 c2 c3 c4 hb1 hW HM hm hn
    go_wp2_with fail
    go_ret
    refine ⟨ret_bool HX.out.symm, ?_⟩
    exact hB1.alloc hB1.size _

set_option maxRecDepth 100000 in
set_option maxHeartbeats 4000000 in
theorem allows_4 (ns : List NewsD) (r : RepD) (last : Bool) (k : Nat) (w : World) (hlen : ns.length = 20) (hkk : r.call = (k : Int)) (hk : k < ns.length) (hop : r.op = 4) :
    Calls Tryd.prog 81 #[.agg (rowCells ns).toArray, msgV r last] w fun e w' => e = .returned (.bool (allowsX ns k last ns[k] r)) ∧ Below w.heap.size w w' := by
  obtain ⟨W, hW⟩ : ∃ W, w.alloc (.cells (rowCells ns).toArray 105) = W := ⟨_, rfl⟩
  have hb0 : Below w.heap.size w W := by subst hW; exact ibox _ _
  obtain ⟨c0, c1, c2, c3, c4⟩ := rowBox_cells ns w W _ hW k hk
  have Hpv : Hid (∀ i (h : i < ns.length), W.cell? ⟨w.heap.size, i * 5 + 4, none⟩ = some (.bool ns[i].gone)) := fun i h => (rowBox_cells ns w W _ hW i h).2.2.2.2
  have i0 : (0 : Int) ≤ (k : Int) := by omega
  have i1 : (k : Int) < 20 := by omega
  have HM : Hid (msgV r last = .iface 160 (.agg #[.int .i64 r.trip, .int .i64 (k : Int), .bool last])) := by unfold Hid msgV; simp [hop, hkk]
  rw [HM.out]
  have hf1 := fld1
  have hm := mHere
  have ha1 := ta41
  have ha2 := ta42
  have ha3 := ta43
  have ha4 := ta44
  have hn := nHere
  have HA : Hid (ns[k].gone = false → ns[k].off = false → allowsX ns k last ns[k] r = (!ns[k].here && (decide (k = 0) || ((ns[k - 1]?.map (·.gone)).getD false)))) := fun h1 h2 => by unfold allowsX; simp [h1, h2, hop]
  clear hlen
  clear hop hkk
  cases hg : ns[k].gone
  · cases ho : ns[k].off
    · rw [hg] at c4; rw [ho] at c2
      have HX := HA.out hg ho
      have HX : Hid _ := HX
      clear HA hg ho
      cases hh : ns[k].here
      · rw [hh] at c3 HX
        clear hh
        by_cases hk0 : k = 0
        · have e0 : ((k : Int) == 0) = true := by simp [hk0]
          have HX : Hid (allowsX ns k last ns[k] r = true) := by unfold Hid; rw [HX.out]; simp [hk0]
          clear hk0
          go_enter Tryd.func81, Tryd.ntmps81
          go_wp2_with fail
          refine (where_any _ _ _ _).mono ?_
          rintro e w1 ⟨rfl, hb1⟩
          have hB1 : Below w.heap.size w w1 := hb0.trans (hb1.mono hb0.size)
          have d0 := cell_keep hb1 c0
          have d1 := cell_keep hb1 c1
          have d2 := cell_keep hb1 c2
          have d3 := cell_keep hb1 c3
          have d4 := cell_keep hb1 c4
          have z0 := cell_lt d0
          clear c0 c1 c2 c3 c4 hb1 hW HM hm hn
          go_wp2_with fail
          go_ret
          refine ⟨ret_bool (by rw [HX.out]), ?_⟩
          exact (hB1.alloc hB1.size _).alloc (by have := hB1.size; simp; omega) _
        · have e0 : ((k : Int) == 0) = false := by simp; omega
          obtain ⟨m, rfl⟩ : ∃ m, k = m + 1 := ⟨k - 1, by omega⟩
          have p4 := Hpv.out m (by omega)
          have HX : Hid (allowsX ns (m + 1) last ns[m + 1] r = ns[m].gone) := by unfold Hid; rw [HX.out]; simp [List.getElem?_eq_getElem (show m < ns.length by omega)]
          have e1 : Hid (((m : Int) + 1 == 0) = false) := by unfold Hid; simp; omega
          have j0 : ((↑(m + 1) : Int) - 1) = (m : Int) := by omega
          have j1 : (m : Int) < 20 := by omega
          have j2 : (0 : Int) ≤ (m : Int) := by omega
          clear hk0 Hpv
          go_enter Tryd.func81, Tryd.ntmps81
          go_wp2_with fail
          refine (where_any _ _ _ _).mono ?_
          rintro e w1 ⟨rfl, hb1⟩
          have hB1 : Below w.heap.size w w1 := hb0.trans (hb1.mono hb0.size)
          have d0 := cell_keep hb1 c0
          have d1 := cell_keep hb1 c1
          have d2 := cell_keep hb1 c2
          have d3 := cell_keep hb1 c3
          have d4 := cell_keep hb1 c4
          have z0 := cell_lt d0
          have p5 := cell_keep hb1 p4
          clear c0 c1 c2 c3 c4 hb1 hW HM hm hn
          go_wp2_with fail
          go_ret
          refine ⟨ret_bool (by rw [HX.out, e1.out]; rfl), ?_⟩
          exact (hB1.alloc hB1.size _).alloc (by have := hB1.size; simp; omega) _
      · rw [hh] at c3 HX
        clear hh
        go_enter Tryd.func81, Tryd.ntmps81
        go_wp2_with fail
        refine (where_any _ _ _ _).mono ?_
        rintro e w1 ⟨rfl, hb1⟩
        have hB1 : Below w.heap.size w w1 := hb0.trans (hb1.mono hb0.size)
        have d0 := cell_keep hb1 c0
        have d1 := cell_keep hb1 c1
        have d2 := cell_keep hb1 c2
        have d3 := cell_keep hb1 c3
        have d4 := cell_keep hb1 c4
        have z0 := cell_lt d0
        clear c0 c1 c2 c3 c4 hb1 hW HM hm hn
        go_wp2_with fail
        go_ret
        refine ⟨ret_bool (by rw [HX.out]; simp), ?_⟩
        exact (hB1.alloc hB1.size _).alloc (by have := hB1.size; simp; omega) _
    · rw [hg] at c4; rw [ho] at c2
      have HX : Hid (allowsX ns k last ns[k] r = false) := allowsX_off ho
      clear HA hg ho
      go_enter Tryd.func81, Tryd.ntmps81
      go_wp2_with fail
      refine (where_any _ _ _ _).mono ?_
      rintro e w1 ⟨rfl, hb1⟩
      have hB1 : Below w.heap.size w w1 := hb0.trans (hb1.mono hb0.size)
      have d0 := cell_keep hb1 c0
      have d1 := cell_keep hb1 c1
      have d2 := cell_keep hb1 c2
      have d3 := cell_keep hb1 c3
      have d4 := cell_keep hb1 c4
      have z0 := cell_lt d0
      clear c0 c1 c2 c3 c4 hb1 hW HM hm hn
      go_wp2_with fail
      go_ret
      refine ⟨ret_bool HX.out.symm, ?_⟩
      exact hB1.alloc hB1.size _
  · rw [hg] at c4
    have HX : Hid (allowsX ns k last ns[k] r = false) := allowsX_gone hg
    clear HA hg
    go_enter Tryd.func81, Tryd.ntmps81
    go_wp2_with fail
    refine (where_any _ _ _ _).mono ?_
    rintro e w1 ⟨rfl, hb1⟩
    have hB1 : Below w.heap.size w w1 := hb0.trans (hb1.mono hb0.size)
    have d0 := cell_keep hb1 c0
    have d1 := cell_keep hb1 c1
    have d2 := cell_keep hb1 c2
    have d3 := cell_keep hb1 c3
    have d4 := cell_keep hb1 c4
    have z0 := cell_lt d0
    clear c0 c1 c2 c3 c4 hb1 hW HM hm hn
    go_wp2_with fail
    go_ret
    refine ⟨ret_bool HX.out.symm, ?_⟩
    exact hB1.alloc hB1.size _

set_option maxRecDepth 100000 in
set_option maxHeartbeats 4000000 in
theorem allows_5 (ns : List NewsD) (r : RepD) (last : Bool) (k : Nat) (w : World) (hlen : ns.length = 20) (hkk : r.call = (k : Int)) (hk : k < ns.length) (hop : r.op = 5) :
    Calls Tryd.prog 81 #[.agg (rowCells ns).toArray, msgV r last] w fun e w' => e = .returned (.bool (allowsX ns k last ns[k] r)) ∧ Below w.heap.size w w' := by
  obtain ⟨W, hW⟩ : ∃ W, w.alloc (.cells (rowCells ns).toArray 105) = W := ⟨_, rfl⟩
  have hb0 : Below w.heap.size w W := by subst hW; exact ibox _ _
  obtain ⟨c0, c1, c2, c3, c4⟩ := rowBox_cells ns w W _ hW k hk
  have Hpv : Hid (∀ i (h : i < ns.length), W.cell? ⟨w.heap.size, i * 5 + 4, none⟩ = some (.bool ns[i].gone)) := fun i h => (rowBox_cells ns w W _ hW i h).2.2.2.2
  have i0 : (0 : Int) ≤ (k : Int) := by omega
  have i1 : (k : Int) < 20 := by omega
  have HM : Hid (msgV r last = .iface 161 (.agg #[.int .i64 r.trip, .int .i64 (k : Int), .bool last])) := by unfold Hid msgV; simp [hop, hkk]
  rw [HM.out]
  have hf1 := fld1
  have hm := mGone
  have ha1 := ta51
  have ha2 := ta52
  have ha3 := ta53
  have ha4 := ta54
  have ha5 := ta55
  have hn := nGone
  have HA : Hid (ns[k].gone = false → ns[k].off = false → allowsX ns k last ns[k] r = (ns[k].here && !last)) := fun h1 h2 => by unfold allowsX; simp [h1, h2, hop]
  clear hlen
  clear hop hkk
  cases hg : ns[k].gone
  · cases ho : ns[k].off
    · rw [hg] at c4; rw [ho] at c2
      have HX := HA.out hg ho
      have HX : Hid _ := HX
      clear HA hg ho
      cases hh : ns[k].here
      · rw [hh] at c3 HX
        clear hh
        go_enter Tryd.func81, Tryd.ntmps81
        go_wp2_with fail
        refine (where_any _ _ _ _).mono ?_
        rintro e w1 ⟨rfl, hb1⟩
        have hB1 : Below w.heap.size w w1 := hb0.trans (hb1.mono hb0.size)
        have d0 := cell_keep hb1 c0
        have d1 := cell_keep hb1 c1
        have d2 := cell_keep hb1 c2
        have d3 := cell_keep hb1 c3
        have d4 := cell_keep hb1 c4
        have z0 := cell_lt d0
        clear c0 c1 c2 c3 c4 hb1 hW HM hm hn
        go_wp2_with fail
        go_ret
        refine ⟨ret_bool (by rw [HX.out]; simp), ?_⟩
        exact (hB1.alloc hB1.size _).alloc (by have := hB1.size; simp; omega) _
      · rw [hh] at c3 HX
        clear hh
        go_enter Tryd.func81, Tryd.ntmps81
        go_wp2_with fail
        refine (where_any _ _ _ _).mono ?_
        rintro e w1 ⟨rfl, hb1⟩
        have hB1 : Below w.heap.size w w1 := hb0.trans (hb1.mono hb0.size)
        have d0 := cell_keep hb1 c0
        have d1 := cell_keep hb1 c1
        have d2 := cell_keep hb1 c2
        have d3 := cell_keep hb1 c3
        have d4 := cell_keep hb1 c4
        have z0 := cell_lt d0
        clear c0 c1 c2 c3 c4 hb1 hW HM hm hn
        go_wp2_with fail
        go_ret
        refine ⟨ret_bool (by rw [HX.out]; simp), ?_⟩
        exact (hB1.alloc hB1.size _).alloc (by have := hB1.size; simp; omega) _
    · rw [hg] at c4; rw [ho] at c2
      have HX : Hid (allowsX ns k last ns[k] r = false) := allowsX_off ho
      clear HA hg ho
      go_enter Tryd.func81, Tryd.ntmps81
      go_wp2_with fail
      refine (where_any _ _ _ _).mono ?_
      rintro e w1 ⟨rfl, hb1⟩
      have hB1 : Below w.heap.size w w1 := hb0.trans (hb1.mono hb0.size)
      have d0 := cell_keep hb1 c0
      have d1 := cell_keep hb1 c1
      have d2 := cell_keep hb1 c2
      have d3 := cell_keep hb1 c3
      have d4 := cell_keep hb1 c4
      have z0 := cell_lt d0
      clear c0 c1 c2 c3 c4 hb1 hW HM hm hn
      go_wp2_with fail
      go_ret
      refine ⟨ret_bool HX.out.symm, ?_⟩
      exact hB1.alloc hB1.size _
  · rw [hg] at c4
    have HX : Hid (allowsX ns k last ns[k] r = false) := allowsX_gone hg
    clear HA hg
    go_enter Tryd.func81, Tryd.ntmps81
    go_wp2_with fail
    refine (where_any _ _ _ _).mono ?_
    rintro e w1 ⟨rfl, hb1⟩
    have hB1 : Below w.heap.size w w1 := hb0.trans (hb1.mono hb0.size)
    have d0 := cell_keep hb1 c0
    have d1 := cell_keep hb1 c1
    have d2 := cell_keep hb1 c2
    have d3 := cell_keep hb1 c3
    have d4 := cell_keep hb1 c4
    have z0 := cell_lt d0
    clear c0 c1 c2 c3 c4 hb1 hW HM hm hn
    go_wp2_with fail
    go_ret
    refine ⟨ret_bool HX.out.symm, ?_⟩
    exact hB1.alloc hB1.size _

theorem allows_any (ns : List NewsD) (r : RepD) (last : Bool) (k : Nat) (w : World) (hlen : ns.length = 20) (hkk : r.call = (k : Int)) (hk : k < ns.length) (hop : 1 ≤ r.op ∧ r.op ≤ 5) :
    Calls Tryd.prog 81 #[.agg (rowCells ns).toArray, msgV r last] w fun e w' => e = .returned (.bool (allowsX ns k last ns[k] r)) ∧ Below w.heap.size w w' := by
  have : r.op = 1 ∨ r.op = 2 ∨ r.op = 3 ∨ r.op = 4 ∨ r.op = 5 := by omega
  rcases this with h | h | h | h | h
  · exact allows_1 ns r last k w hlen hkk hk h
  · exact allows_2 ns r last k w hlen hkk hk h
  · exact allows_3 ns r last k w hlen hkk hk h
  · exact allows_4 ns r last k w hlen hkk hk h
  · exact allows_5 ns r last k w hlen hkk hk h

end Go.Proofs.YtjioingdpfgadaaDoor
