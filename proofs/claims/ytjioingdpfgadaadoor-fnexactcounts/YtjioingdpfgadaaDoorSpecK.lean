import Derived.Test.YtjioingdpfgadaaDoorProg
import Derived.Test.YtjioingdpfgadaaDoorBaseR
import Derived.Test.YtjioingdpfgadaaDoorLater
namespace Go.Proofs.YtjioingdpfgadaaDoor
open Go Go.RowKit

/-- A report says something that can still be, of the call x, k-th of a trip's. -/
def countsX (ns : List NewsD) (k : Nat) (x : NewsD) (r : RepD) : Bool :=
  if x.gone then false else if x.off then false
  else if r.op = 2 then !x.here && (x.track != r.n)
  else if r.op = 3 then !x.here
  else if r.op = 4 then !x.here && (decide (k = 0) || ((ns[k - 1]?.map (·.gone)).getD false))
  else if r.op = 5 then x.here && decide (k + 1 < ns.length)
  else x.late != r.n
theorem countsX_gone {ns : List NewsD} {k : Nat} {x : NewsD} {r : RepD} (h : x.gone = true) : countsX ns k x r = false := by unfold countsX; rw [h]; rfl
theorem countsX_off {ns : List NewsD} {k : Nat} {x : NewsD} {r : RepD} (h : x.off = true) : countsX ns k x r = false := by unfold countsX; rw [h]; cases x.gone <;> rfl
theorem countsX_2 {ns : List NewsD} {k : Nat} {x : NewsD} {r : RepD} (h1 : x.gone = false) (h2 : x.off = false) (ho : r.op = 2) : countsX ns k x r = (!x.here && (x.track != r.n)) := by unfold countsX; simp [h1, h2, ho]
theorem countsX_3 {ns : List NewsD} {k : Nat} {x : NewsD} {r : RepD} (h1 : x.gone = false) (h2 : x.off = false) (ho : r.op = 3) : countsX ns k x r = !x.here := by unfold countsX; simp [h1, h2, ho]
theorem countsX_4 {ns : List NewsD} {k : Nat} {x : NewsD} {r : RepD} (h1 : x.gone = false) (h2 : x.off = false) (ho : r.op = 4) : countsX ns k x r = (!x.here && (decide (k = 0) || ((ns[k - 1]?.map (·.gone)).getD false))) := by unfold countsX; simp [h1, h2, ho]
theorem countsX_5 {ns : List NewsD} {k : Nat} {x : NewsD} {r : RepD} (h1 : x.gone = false) (h2 : x.off = false) (ho : r.op = 5) : countsX ns k x r = (x.here && decide (k + 1 < ns.length)) := by unfold countsX; simp [h1, h2, ho]
theorem countsX_1 {ns : List NewsD} {k : Nat} {x : NewsD} {r : RepD} (h1 : x.gone = false) (h2 : x.off = false) (o2 : r.op ≠ 2) (o3 : r.op ≠ 3) (o4 : r.op ≠ 4) (o5 : r.op ≠ 5) : countsX ns k x r = (x.late != r.n) := by unfold countsX; simp [h1, h2, o2, o3, o4, o5]

set_option maxRecDepth 100000 in
set_option maxHeartbeats 4000000 in
theorem l2counts_any (na : Option Addr) (nc : Nat) (nss : List (List NewsD)) (r : RepD) (j k : Nat) (w : World) (hj : j < nss.length) (hjk : r.trip = (j : Int)) (hk : k < nss[j].length) (hkk : r.call = (k : Int)) (hm2 : nss[j].length ≤ 1048576) (hat : NewsSSAt w na nss) :
    Calls Tryd.prog 48 #[.slice na nss.length nc, repV r] w fun e w' => e = .returned (.bool (countsX nss[j] k nss[j][k] r)) ∧ Below w.heap.size w w' := by
  have hb0 := (Below.refl w.heap.size w).alloc (Nat.le_refl _) (.cells #[.int .i64 r.tick, .int .i64 r.op, .int .i64 j, .int .i64 k, .int .i64 r.n] 45)
  unfold repV
  rw [hjk, hkk]
  obtain ⟨b, o, ca, cc, rfl, c0, hna⟩ := hat j hj
  obtain ⟨b', o', rfl, d0, d1, d2, d3, d4⟩ := hna k hk
  have l0 := cell_lt c0
  have l1 := cell_lt d0
  have hj1 : (j : Int) < (nss.length : Int) := by omega
  have hk1 : (k : Int) < (nss[j].length : Int) := by omega
  have HPREV : Hid (∀ m (hm : m < nss[j].length), ∃ b o, some (⟨b', o', none⟩ : Addr) = some ⟨b, o, none⟩ ∧ w.cell? ⟨b, o + m * 5 + 4, none⟩ = some (.bool nss[j][m].gone)) := fun m hm => by
    obtain ⟨b2, o2, e2, _, _, _, _, g4⟩ := hna m hm
    exact ⟨b2, o2, e2, g4⟩
  generalize hx : nss[j][k] = x at *
  generalize hl : nss[j] = ns at *
  have Hx : Hid (ns[k]? = some x) := by unfold Hid; rw [List.getElem?_eq_getElem (by omega)]; subst hl; rw [hx]
  clear hx hl hat hna hjk hkk
  cases hg : x.gone
  · cases hof : x.off
    · rw [hg] at d4
      rw [hof] at d2
      by_cases o2 : r.op = 2
      · have hb2 : (r.op == 2) = true := by simp [o2]
        have HF0 := countsX_2 (ns := ns) (k := k) hg hof o2
        cases hh : x.here
        · rw [hh] at d3 HF0
          have HF : Hid (countsX ns k x r = (x.track != r.n)) := by unfold Hid; rw [HF0]; rfl
          clear HF0 o2 hg hof hh
          go_enter Tryd.func48, Tryd.ntmps48
          go_wp2
          go_ret
          exact ⟨ret_bool (by rw [HF.out]), hb0.alloc (by simp) _⟩
        · rw [hh] at d3 HF0
          have HF : Hid (countsX ns k x r = false) := by unfold Hid; rw [HF0]; rfl
          clear HF0 o2 hg hof hh
          go_enter Tryd.func48, Tryd.ntmps48
          go_wp2
          go_ret
          exact ⟨ret_bool (by rw [HF.out]), hb0.alloc (by simp) _⟩
      · have hb2 : (r.op == 2) = false := by simp [o2]
        by_cases o3 : r.op = 3
        · have hb3 : (r.op == 3) = true := by simp [o3]
          have HF : Hid (countsX ns k x r = !x.here) := countsX_3 hg hof o3
          clear o2 o3 hg hof
          go_enter Tryd.func48, Tryd.ntmps48
          go_wp2
          go_ret
          exact ⟨ret_bool (by rw [HF.out]), hb0.alloc (by simp) _⟩
        · have hb3 : (r.op == 3) = false := by simp [o3]
          by_cases o4 : r.op = 4
          · have hb4 : (r.op == 4) = true := by simp [o4]
            have HF0 := countsX_4 (ns := ns) (k := k) hg hof o4
            cases hh : x.here
            · rw [hh] at d3 HF0
              by_cases hk0 : k = 0
              · have hkz : ((k : Int) == 0) = true := by simp [hk0]
                have HF : Hid (countsX ns k x r = true) := by unfold Hid; rw [HF0]; simp [hk0]
                clear HF0 o2 o3 o4 hg hof hh hk0
                go_enter Tryd.func48, Tryd.ntmps48
                go_wp2
                go_ret
                exact ⟨ret_bool (by rw [HF.out]), hb0.alloc (by simp) _⟩
              · obtain ⟨m, rfl⟩ : ∃ m, k = m + 1 := ⟨k - 1, by omega⟩
                have hml : m < ns.length := by omega
                obtain ⟨b2, o2', e2, g4⟩ := HPREV.out m hml
                simp only [Option.some.injEq, Addr.mk.injEq] at e2
                obtain ⟨rfl, rfl, _⟩ := e2
                have HF : Hid (countsX ns (m + 1) x r = ns[m].gone) := by unfold Hid; rw [HF0]; simp [List.getElem?_eq_getElem hml]
                have hkz : (((m : Int) + 1) == 0) = false := by simp; omega
                have hm1 : (m : Int) < (ns.length : Int) := by omega
                clear HF0 o2 o3 o4 hg hof hh hk0
                go_enter Tryd.func48, Tryd.ntmps48
                go_wp2
                go_ret
                exact ⟨ret_bool (by rw [HF.out]), ((Below.refl _ _).alloc (Nat.le_refl _) _).alloc (by simp) _⟩
            · rw [hh] at d3 HF0
              have HF : Hid (countsX ns k x r = false) := by unfold Hid; rw [HF0]; rfl
              clear HF0 o2 o3 o4 hg hof hh
              go_enter Tryd.func48, Tryd.ntmps48
              go_wp2
              go_ret
              exact ⟨ret_bool (by rw [HF.out]), hb0.alloc (by simp) _⟩
          · have hb4 : (r.op == 4) = false := by simp [o4]
            by_cases o5 : r.op = 5
            · have hb5 : (r.op == 5) = true := by simp [o5]
              have HF0 := countsX_5 (ns := ns) (k := k) hg hof o5
              cases hh : x.here
              · rw [hh] at d3 HF0
                have HF : Hid (countsX ns k x r = false) := by unfold Hid; rw [HF0]; rfl
                clear HF0 o2 o3 o4 o5 hg hof hh
                go_enter Tryd.func48, Tryd.ntmps48
                go_wp2
                go_ret
                exact ⟨ret_bool (by rw [HF.out]), hb0.alloc (by simp) _⟩
              · rw [hh] at d3 HF0
                have HF : Hid (countsX ns k x r = decide (k + 1 < ns.length)) := by unfold Hid; rw [HF0]; rfl
                clear HF0 o2 o3 o4 o5 hg hof hh
                go_enter Tryd.func48, Tryd.ntmps48
                go_wp2
                go_ret
                exact ⟨ret_bool (by rw [HF.out]; simp; omega), hb0.alloc (by simp) _⟩
            · have hb5 : (r.op == 5) = false := by simp [o5]
              have HF : Hid (countsX ns k x r = (x.late != r.n)) := countsX_1 hg hof o2 o3 o4 o5
              clear o2 o3 o4 o5 hg hof
              cases hln : (x.late != r.n)
              all_goals
                have HF' : Hid (countsX ns k x r = _) := HF.out.trans hln
                go_enter Tryd.func48, Tryd.ntmps48
                go_wp2
                go_ret
                exact ⟨ret_bool HF'.out.symm, hb0.alloc (by simp) _⟩
    · have HF : Hid (countsX ns k x r = false) := countsX_off hof
      rw [hof] at d2
      rw [hg] at d4
      by_cases o1 : r.op = 1
      · have hb1 : (r.op != 1) = false := by simp [o1]
        have hb2 : (r.op == 2) = false := by simp [o1]
        have hb3 : (r.op == 3) = false := by simp [o1]
        have hb4 : (r.op == 4) = false := by simp [o1]
        have hb5 : (r.op == 5) = false := by simp [o1]
        clear o1
        cases hln : (x.late != r.n)
        all_goals
          go_enter Tryd.func48, Tryd.ntmps48
          go_wp2
          go_ret
          exact ⟨ret_bool HF.out.symm, hb0.alloc (by simp) _⟩
      · have hb1 : (r.op != 1) = true := by simp [o1]
        clear o1
        go_enter Tryd.func48, Tryd.ntmps48
        go_wp2
        go_ret
        exact ⟨ret_bool HF.out.symm, hb0.alloc (by simp) _⟩
  · have HF : Hid (countsX ns k x r = false) := countsX_gone hg
    rw [hg] at d4
    go_enter Tryd.func48, Tryd.ntmps48
    go_wp2
    go_ret
    exact ⟨ret_bool HF.out.symm, hb0.alloc (by simp) _⟩

end Go.Proofs.YtjioingdpfgadaaDoor
