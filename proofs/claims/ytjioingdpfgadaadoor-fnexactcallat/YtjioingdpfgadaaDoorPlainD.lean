import Derived.Test.YtjioingdpfgadaaDoorPlainC
namespace Go.Proofs.YtjioingdpfgadaaDoor
open Go Go.RowKit Go.WideMaps Go.Maps

theorem first_none_inv {p : Nat → Bool} {n : Nat} (h : firstIdx p n = none) : ∀ j, j < n → p j = false := by
  intro j hj
  unfold firstIdx at h; rw [List.find?_eq_none] at h
  simpa using h j (List.mem_range.2 hj)
theorem fault4_not3 (b : BookD) : (fault4 b).1 = 0 → fault4 b = (0, 0) := by
  unfold fault4; split
  · intro h; simp at h
  · intro _; rfl
theorem faultD_zero {b : BookD} (h : (faultD b).1 = 0) : faultD b = (0, 0) ∧ ∀ i (hi : i < b.trips.length), tripB b.sts.length b.trips[i] = true := by
  by_cases g : 30 < b.sts.length ∨ 40 < b.trips.length
  · rw [faultD_1 g] at h; simp at h
  · rw [faultD_2 g] at h ⊢
    cases h2 : firstIdx (badName b.sts) b.sts.length with
    | some i => rw [fault2_some h2] at h; simp at h
    | none =>
      rw [fault2_none h2] at h ⊢
      cases h3 : firstIdx (badTrip b.sts.length b.trips) b.trips.length with
      | some i => rw [fault3_some h3] at h; simp at h
      | none =>
        rw [fault3_none h3] at h ⊢
        refine ⟨fault4_not3 b h, fun i hi => ?_⟩
        have := first_none_inv h3 i hi
        rw [badTrip_at _ _ i hi] at this
        simpa using this
theorem faultD_pos {b : BookD} (h : (faultD b).1 ≠ 0) : faultD b ≠ (0, 0) := fun e => h (by rw [e])
theorem tripB_nodup {n : Int} {t : TripD} (h : tripB n t = true) : (stationsOf t.calls).Nodup := by
  cases hd : dupB t.calls
  · unfold dupB at hd; simpa using hd
  · rw [tripB_dup hd] at h; exact absurd h (by decide)
/-- Call i is at station s. -/
def atStation (cs : List CallD) (s : Int) (i : Nat) : Bool :=
  match cs[i]? with
  | none => false
  | some c => c.st == s
theorem atStation_at (cs : List CallD) (s : Int) (i : Nat) (h : i < cs.length) : atStation cs s i = (cs[i].st == s) := by
  unfold atStation; rw [List.getElem?_eq_getElem h]
/-- The call at a station; -1 when there is none. -/
def callAtC (cs : List CallD) (s : Int) : Int :=
  match firstIdx (atStation cs s) cs.length with
  | some i => i
  | none => -1
theorem callAtC_some {cs : List CallD} {s : Int} {i : Nat} (h : firstIdx (atStation cs s) cs.length = some i) : callAtC cs s = i := by unfold callAtC; rw [h]
theorem callAtC_none {cs : List CallD} {s : Int} (h : firstIdx (atStation cs s) cs.length = none) : callAtC cs s = -1 := by unfold callAtC; rw [h]
/-- In a trip that comes to no station twice the map tells the call. -/
theorem callAtC_of_map {cs : List CallD} {s : Int} {D : DataW Unit} (m : IntsMap (cs.map (·.st)) D) (hn : (stationsOf cs).Nodup) {c : Int} (hc : D.atKey (.int .i64 s) (.lit (.int .i64 0)) = .lit (.int .i64 c)) (hh : Maps.has D (.int .i64 s) = true) : callAtC cs s = c := by
  rw [m.has] at hh
  have hmem : s ∈ cs.map (·.st) := by simpa using hh
  obtain ⟨j, hj, hjs⟩ := List.getElem_of_mem hmem
  have hjl : j < cs.length := by simpa using hj
  have hget : (cs.map (·.st))[j] = cs[j].st := by simp
  have ha := m.atKey hn j hj
  rw [hjs, hc] at ha
  have hcj : c = j := by simpa using ha
  rw [hget] at hjs
  subst hcj
  refine callAtC_some (first_some hjl (by rw [atStation_at _ _ _ hjl]; simpa using hjs) (fun i hi => ?_))
  rw [atStation_at _ _ i (by omega)]
  have hp : (cs.map (·.st)).Pairwise (· ≠ ·) := List.nodup_iff_pairwise_ne.1 hn
  rw [List.pairwise_iff_getElem] at hp
  have := hp i j (by simp; omega) hj hi
  simp at this
  simp; rw [← hjs]; exact this
theorem callAtC_absent {cs : List CallD} {s : Int} {D : DataW Unit} (m : IntsMap (cs.map (·.st)) D) (hh : Maps.has D (.int .i64 s) = false) : callAtC cs s = -1 := by
  rw [m.has] at hh
  refine callAtC_none (first_none (fun j hj => ?_))
  rw [atStation_at _ _ j hj]
  simp at hh
  simpa using hh cs[j] (List.getElem_mem hj)
/-- What CallAt answers. -/
def callAtD (b : BookD) (trip s : Int) : Int :=
  if (faultD b).1 = 0 ∧ 0 ≤ trip ∧ trip < b.trips.length then callAtC (b.trips.getD trip.toNat ⟨ByteArray.empty, []⟩).calls s else -1
theorem callAtD_no {b : BookD} {trip s : Int} (h : ¬ ((faultD b).1 = 0 ∧ 0 ≤ trip ∧ trip < b.trips.length)) : callAtD b trip s = -1 := by unfold callAtD; rw [if_neg h]
theorem callAtD_yes {b : BookD} {k : Nat} {s : Int} (h : (faultD b).1 = 0) (hk : k < b.trips.length) : callAtD b k s = callAtC b.trips[k].calls s := by
  unfold callAtD; rw [if_pos ⟨h, by omega, by omega⟩]
  simp [List.getD, List.getElem?_eq_getElem hk]

end Go.Proofs.YtjioingdpfgadaaDoor
