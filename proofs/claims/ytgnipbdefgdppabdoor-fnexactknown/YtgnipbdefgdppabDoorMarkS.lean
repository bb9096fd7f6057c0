import Derived.Test.YtgnipbdefgdppabDoorProg
import Derived.Test.YtgnipbdefgdppabDoorMarkN
namespace Go.Proofs.YtgnipbdefgdppabDoor
open Go Go.RowKit Go.Deep

/-- Where the marks of row i begin. -/
def offK (k : Nat) (nss : List (List NewsD)) (i : Nat) : Nat := k + sumLens (nss.take i) * 5
theorem offK_zero (k : Nat) (nss : List (List NewsD)) : offK k nss 0 = k := by simp [offK, sumLens]
theorem offK_succ (k : Nat) (nss : List (List NewsD)) (i : Nat) (h : i < nss.length) : offK k nss (i + 1) = offK k nss i + nss[i].length * 5 := by
  unfold offK; rw [sumLens_take nss i h]; omega
theorem offK_end (k : Nat) (nss : List (List NewsD)) : offK k nss nss.length = k + sumLens nss * 5 := by unfold offK; rw [List.take_length]
theorem offK_le (k : Nat) (nss : List (List NewsD)) (i : Nat) : offK k nss i ≤ k + sumLens nss * 5 := by
  unfold offK; have := sumLens_take_le nss i; omega
def mixAll (k m : Nat) (nss : List (List NewsD)) : List (List NewsD) := nss.mapIdx fun i ns => if i < m then markRow (offK k nss i) ns.length else ns
def markAll (k : Nat) (nss : List (List NewsD)) : List (List NewsD) := nss.mapIdx fun i ns => markRow (offK k nss i) ns.length
theorem mixAll_length (k m : Nat) (nss : List (List NewsD)) : (mixAll k m nss).length = nss.length := by simp [mixAll]
theorem markAll_length (k : Nat) (nss : List (List NewsD)) : (markAll k nss).length = nss.length := by simp [markAll]
theorem markAll_get (k : Nat) (nss : List (List NewsD)) (i : Nat) (h : i < nss.length) : (markAll k nss)[i]'(by rw [markAll_length]; exact h) = markRow (offK k nss i) nss[i].length := by simp [markAll]
theorem mixAll_get (k m : Nat) (nss : List (List NewsD)) (h : m < nss.length) : (mixAll k m nss)[m]'(by rw [mixAll_length]; exact h) = nss[m] := by simp [mixAll]
theorem mixAll_start (k : Nat) (nss : List (List NewsD)) : mixAll k 0 nss = nss := by
  apply List.ext_getElem (mixAll_length k 0 nss)
  intro i h1 h2
  simp [mixAll]
theorem mixAll_end (k : Nat) (nss : List (List NewsD)) : mixAll k nss.length nss = markAll k nss := by
  apply List.ext_getElem (by rw [mixAll_length, markAll_length])
  intro i h1 h2
  rw [markAll_length] at h2
  simp [mixAll, markAll, h2]
theorem mixAll_succ (k m : Nat) (nss : List (List NewsD)) (h : m < nss.length) : mixAll k (m + 1) nss = (mixAll k m nss).set m (markRow (offK k nss m) nss[m].length) := by
  apply List.ext_getElem (by rw [List.length_set, mixAll_length, mixAll_length])
  intro i h1 h2
  rw [List.getElem_set]
  by_cases e : m = i
  · subst e; simp [mixAll]
  · rw [if_neg e]
    simp only [mixAll, List.getElem_mapIdx]
    by_cases h' : i < m
    · rw [if_pos (by omega), if_pos h']
    · rw [if_neg (by omega), if_neg h']

theorem markNewsS_nil (k : Nat) (w : World) :
    Calls Tryd.prog 36 #[.slice none 0 0, .int .i64 k] w fun e w' => e = .returned (.int .i64 (k : Int)) ∧ w' = w := by
  go_enter Tryd.func36, Tryd.ntmps36
  go_wp2
  go_loopw [1, 5] (fun q i wr => i = .int .i64 0 ∧ q = .int .i64 (k : Int) ∧ wr = w) (fun _ _ _ => 0)
  case atStart => exact ⟨rfl, rfl, rfl⟩
  case round =>
    obtain ⟨rfl, rfl, rfl⟩ := hrel
    go_wp2
    go_ret
    exact ⟨rfl, rfl⟩

theorem markNewsS_own (B k : Nat) (v : Value) (ns : List NewsD) (w : World) (hn : ns.length ≤ 1048576) (hk : k ≤ 100000000) (hr : w.ownsRow B 60 5 v ns.length (rowCells ns)) :
    Calls Tryd.prog 36 #[v, .int .i64 k] w fun e w' => e = .returned (.int .i64 ((k + ns.length * 5 : Nat) : Int)) ∧ w'.ownsRow B 60 5 v (markRow k ns.length).length (rowCells (markRow k ns.length)) ∧ w.grownBy w' v.ownBlock := by
  rw [markRow_length]
  rcases hr.2 with ⟨rfl, h0⟩ | ⟨g, cap, cur, rfl, _⟩
  · refine (markNewsS_nil k w).mono ?_
    rintro e w' ⟨rfl, rfl⟩
    refine ⟨by simp [h0], ?_, World.grownBy.refl _ _⟩
    rw [h0]
    exact World.ownsRow_nil _ _ _ _
  · exact markNewsS_some B g cap k ns w hn hk hr

set_option maxRecDepth 100000 in
set_option maxHeartbeats 1000000 in
theorem markNewsSS_any (B k : Nat) (v : Value) (nss : List (List NewsD)) (vs : List Value) (w : World) (hn : newsSize nss ≤ 1048576) (hk : k ≤ 1000000) (hB : B ≤ w.heap.size) (hat : NewsOwnAt B w v nss vs) :
    Calls Tryd.prog 15 #[v, .int .i64 k] w fun e w' => e = .returned (.int .i64 ((k + sumLens nss * 5 : Nat) : Int)) ∧ NewsOwnAt B w' v (markAll k nss) vs ∧ Below B w w' := by
  have m2 : nss.length ≤ 1048576 := by unfold newsSize at hn; omega
  have m3 : Hid (∀ i (h : i < nss.length), nss[i].length ≤ 1048576) := by
    intro i h
    have := sumLens_get nss i h
    unfold newsSize at hn; omega
  have HO : Hid (∀ i, offK k nss i ≤ 100000000) := fun i => by have := offK_le k nss i; unfold newsSize at hn; omega
  have HS := mixAll_start k nss
  have HE := mixAll_end k nss
  have HOE := offK_end k nss
  have HOZ := offK_zero k nss
  clear hn
  obtain ⟨va, vc, rfl⟩ := owns_slice hat.outer
  go_enter Tryd.func15, Tryd.ntmps15
  go_wp2
  go_loopw [1, 5] (fun q i wr => ∃ m : Nat, m ≤ nss.length ∧ i = .int .i64 m ∧ q = .int .i64 (offK k nss m : Int) ∧ Hid (NewsOwnAt B wr (.slice va nss.length vc) (mixAll k m nss) vs) ∧ Below B w wr) (fun _ i _ => nss.length - (intOf i).toNat)
  case atStart => exact ⟨0, Nat.zero_le _, rfl, by rw [HOZ], by rw [HS]; exact hat, Below.refl _ _⟩
  case round =>
    obtain ⟨m, hm, rfl, rfl, hown, hb⟩ := hrel
    clear hat
    have hzz := hb.size
    by_cases hlt : m < nss.length
    · have hl := mixAll_length k m nss
      have hg := mixAll_get k m nss hlt
      have hm' : m < vs.length := by rw [hown.out.len, hl]; exact hlt
      have ho := hown.out.outer
      rw [hl] at ho
      obtain ⟨gv, cv, e, _, hgv⟩ := ho.form (by omega)
      simp only [Value.slice.injEq, true_and] at e
      obtain ⟨rfl, rfl⟩ := e
      have hv : wr.cell? ⟨gv, m, none⟩ = some vs[m] := by rw [ho.cellAt m (by omega), List.getElem?_eq_getElem hm']
      have hr := hown.out.rows m (by rw [hl]; exact hlt) hm'
      rw [hg] at hr
      have HR : Hid (wr.ownsRow B 60 5 vs[m] nss[m].length (rowCells nss[m])) := hr
      have HX := mixAll_succ k m nss hlt
      have HOS := offK_succ k nss m hlt
      have hok := HO.out m
      have hm3 := m3.out m hlt
      generalize hoq : offK k nss m = q at *
      obtain ⟨ra, rc, e2⟩ := owns_slice hr
      rw [e2] at hv
      have HV : Hid (vs[m] = .slice ra nss[m].length rc) := e2
      clear hr e2 ho hg
      go_wp2_with fail
      rw [← HV.out]
      refine (markNewsS_own B q _ nss[m] _ hm3 hok HR.out).mono ?_
      rintro e w1 ⟨rfl, hr1, hg1⟩
      have HN : Hid (NewsOwnAt B w1 (.slice (some ⟨gv, 0, none⟩) nss.length vc) (mixAll k (m + 1) nss) vs) := by
        unfold Hid; rw [HX]; exact hown.out.stored m (by rw [hl]; exact hlt) hm' hr1 hg1
      have hb1 : Below B w w1 := hb.grown hg1 (by omega) fun g hg => (World.ownsRow.lt HR.out g hg).1
      clear hr1 hg1 HX
      go_wp2_with fail
      go_roundw
      case rel => exact ⟨m + 1, by omega, by go_num, by rw [HOS]; try go_num, HN, hb1⟩
      case measure => simp [intOf]; omega
    · have : m = nss.length := by omega
      subst this
      rw [HE] at hown
      rw [HOE]
      go_wp2_with fail
      go_ret
      exact ⟨rfl, hown.out, hb⟩

set_option maxRecDepth 100000 in
set_option maxHeartbeats 1000000 in
theorem heldNewsSS_any (a : Option Addr) (c k : Nat) (nss : List (List NewsD)) (w : World) (hn : newsSize nss ≤ 1048576) (hk : k ≤ 1000000) (hat : NewsSSAt w a (markAll k nss)) :
    Calls Tryd.prog 16 #[.slice a nss.length c, .int .i64 k] w fun e w' => e = .returned (.int .i64 ((k + sumLens nss * 5 : Nat) : Int)) ∧ w' = w := by
  have m2 : nss.length ≤ 1048576 := by unfold newsSize at hn; omega
  have m3 : Hid (∀ i (h : i < nss.length), nss[i].length ≤ 1048576) := by
    intro i h
    have := sumLens_get nss i h
    unfold newsSize at hn; omega
  have HO : Hid (∀ i, offK k nss i ≤ 100000000) := fun i => by have := offK_le k nss i; unfold newsSize at hn; omega
  have HOE := offK_end k nss
  have HOZ := offK_zero k nss
  have HAT : Hid _ := hat
  clear hn hat
  go_enter Tryd.func16, Tryd.ntmps16
  go_wp2
  go_loopw [1, 5] (fun q i wr => ∃ m : Nat, m ≤ nss.length ∧ i = .int .i64 m ∧ q = .int .i64 (offK k nss m : Int) ∧ wr = w) (fun _ i _ => nss.length - (intOf i).toNat)
  case atStart => exact ⟨0, Nat.zero_le _, rfl, by rw [HOZ], rfl⟩
  case round =>
    obtain ⟨m, hm, rfl, rfl, rfl⟩ := hrel
    by_cases hlt : m < nss.length
    · obtain ⟨b, o, ca, cc, rfl, c0, hrow⟩ := HAT.out m (by rw [markAll_length]; exact hlt)
      rw [markAll_get k nss m hlt] at hrow c0
      rw [markRow_length] at c0
      have HR : Hid _ := hrow
      have HOS := offK_succ k nss m hlt
      have hok := HO.out m
      have hm3 := m3.out m hlt
      generalize hoq : offK k nss m = q at *
      generalize nss[m].length = l at *
      clear hrow
      go_wp2_with fail
      refine (heldNewsS_any _ l _ q _ hm3 hok HR.out).mono ?_
      rintro e w1 ⟨rfl, rfl⟩
      go_wp2_with fail
      go_roundw
      case rel => exact ⟨m + 1, by omega, by go_num, by rw [HOS]; simp, trivial⟩
      case measure => simp [intOf]; omega
    · have : m = nss.length := by omega
      subst this
      rw [HOE]
      go_wp2_with fail
      go_ret
      exact ⟨rfl, rfl⟩

end Go.Proofs.YtgnipbdefgdppabDoor
