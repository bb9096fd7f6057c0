import Derived.Test.YtjioingdpfgadaaDoorProg
import Derived.Test.YtjioingdpfgadaaDoorBrdFM
import Derived.Deep.RegionHeld3
namespace Go.Proofs.YtjioingdpfgadaaDoor
open Go Go.RowKit Go.Deep

theorem mBef (a b c d e f : Value) (w : World) : (Go.method 376 38 (.agg #[a, b, c, d, e, f]) "loop.example/tannoy/impl.before").run Tryd.prog w = .ok (163, .agg #[a, b, c, d, e, f]) w := by kernel_rfl
theorem nBef (a b c d e f : Value) (w : World) : (Go.nilAhead 376 38 (.agg #[a, b, c, d, e, f]) "loop.example/tannoy/impl.before").run Tryd.prog w = .ok (some false) w := by kernel_rfl

theorem HeapAt.keep {w w' : World} {B n0 : Nat} {L : List RowD} {v : Value} (h : HeapAt w B n0 L v) (hb : Below w.heap.size w w') : HeapAt w' B n0 L v :=
  ⟨(hb.block B h.box.lt).trans h.box, owns_below h.rows hb (owns_lt h.rows), h.low⟩
theorem first1_no {L : List RowD} {a : Nat} (h : L.length ≤ 2 * a + 1) : first1 L a = a := by unfold first1; rw [if_neg (by omega)]
theorem firstD_no {L : List RowD} {a : Nat} (h : L.length ≤ 2 * a + 2) : firstD L a = first1 L a := by unfold firstD; rw [if_neg (by omega)]
theorem first1_yes {L : List RowD} {a : Nat} (h : 2 * a + 1 < L.length) (hl : lessD (rowIn L (2 * a + 1)) (rowIn L a) = true) : first1 L a = 2 * a + 1 := by unfold first1; rw [if_pos ⟨h, hl⟩]
theorem first1_same {L : List RowD} {a : Nat} (hl : lessD (rowIn L (2 * a + 1)) (rowIn L a) = false) : first1 L a = a := by unfold first1; rw [if_neg (by simp [hl])]
theorem firstD_yes {L : List RowD} {a : Nat} (h : 2 * a + 2 < L.length) (hl : lessD (rowIn L (2 * a + 2)) (rowIn L (first1 L a)) = true) : firstD L a = 2 * a + 2 := by unfold firstD; rw [if_pos ⟨h, hl⟩]
theorem firstD_same {L : List RowD} {a : Nat} (hl : lessD (rowIn L (2 * a + 2)) (rowIn L (first1 L a)) = false) : firstD L a = first1 L a := by unfold firstD; rw [if_neg (by simp [hl])]
/-- The first of the row at a and the first s of the two below it. -/
def firstTo (L : List RowD) (a : Nat) : Nat → Nat
  | 0 => a
  | 1 => first1 L a
  | _ => firstD L a
theorem firstTo_out {L : List RowD} {a s : Nat} (hs : s ≤ 2) (h : s = 2 ∨ L.length ≤ 2 * a + 1 + s) : firstTo L a s = firstD L a := by
  have : s = 0 ∨ s = 1 ∨ s = 2 := by omega
  rcases this with rfl | rfl | rfl
  · rw [firstD_no (by omega), first1_no (by omega)]; rfl
  · rw [firstD_no (by omega)]; rfl
  · rfl
theorem firstTo_succ {L : List RowD} {a s : Nat} (hs : s < 2) (h : 2 * a + 1 + s < L.length) : firstTo L a (s + 1) = if lessD (rowIn L (2 * a + 1 + s)) (rowIn L (firstTo L a s)) then 2 * a + 1 + s else firstTo L a s := by
  have : s = 0 ∨ s = 1 := by omega
  rcases this with rfl | rfl
  · show first1 L a = _
    unfold first1 firstTo
    by_cases e : lessD (rowIn L (2 * a + 1)) (rowIn L a) = true
    · rw [if_pos ⟨by omega, e⟩]; simp [e]
    · rw [if_neg (fun h => e h.2)]; simp [e]
  · show firstD L a = _
    unfold firstD firstTo
    by_cases e : lessD (rowIn L (2 * a + 2)) (rowIn L (first1 L a)) = true
    · rw [if_pos ⟨by omega, e⟩]; simp [e]
    · rw [if_neg (fun h => e h.2)]; simp [e]
theorem firstTo_lt {L : List RowD} {a s : Nat} (ha : a < L.length) : firstTo L a s < L.length := by
  have h1 : first1 L a < L.length := by unfold first1; split <;> omega
  have h2 : firstD L a < L.length := by unfold firstD; split <;> omega
  unfold firstTo
  split <;> assumption

set_option maxRecDepth 100000 in
set_option maxHeartbeats 8000000 in
theorem firstOf_any (B n0 g cap a : Nat) (L : List RowD) (w : World) (hm : L.length ≤ 1000) (ham : a ≤ 1000) (h : HeapAt w B n0 L (.slice (some ⟨g, 0, none⟩) L.length cap)) :
    Calls Tryd.prog 89 #[.pointer (some ⟨B, 0, none⟩), .int .i64 a] w fun e w' => e = .returned (.int .i64 (firstD L a)) ∧ Below w.heap.size w w' := by
  have HH : Hid (HeapAt w B n0 L (.slice (some ⟨g, 0, none⟩) L.length cap)) := h
  clear h
  go_enter Tryd.func89, Tryd.ntmps89
  go_wp2_with fail
  go_loopw [5, 6] (fun q i wr => ∃ s : Nat, s ≤ 2 ∧ i = .int .i64 ((2 * a + 1 + s : Nat) : Int) ∧ q = .int .i64 (firstTo L a s) ∧ Hid (Below w.heap.size w wr)) (fun _ i _ => 2 * a + 3 - (intOf i).toNat)
  case atStart => exact ⟨0, by omega, by go_num, rfl, Below.refl _ _⟩
  case round =>
    obtain ⟨s, hs, rfl, rfl, hB⟩ := hrel
    have HW : Hid (HeapAt wr B n0 L (.slice (some ⟨g, 0, none⟩) L.length cap)) := HH.out.keep hB.out
    have hc := HW.out.box.cell
    by_cases hs2 : s < 2
    · by_cases hlt : 2 * a + 1 + s < L.length
      · have hf := firstTo_lt (L := L) (a := a) (s := s) (by omega)
        have HSU := firstTo_succ hs2 hlt
        obtain ⟨a0, a1, a2, a3, a4, a5⟩ := heap_at HW.out (2 * a + 1 + s) hlt
        obtain ⟨b0, b1, b2, b3, b4, b5⟩ := heap_at HW.out (firstTo L a s) hf
        generalize firstTo L a s = f at *
        generalize hd : 2 * a + 1 + s = d at *
        generalize rowIn L d = x at *
        generalize rowIn L f = y at *
        have hd2 : (d : Int) ≤ 2 * (a : Int) + 2 := by omega
        have hd0 : (0 : Int) ≤ (d : Int) := by omega
        have hd1 : (d : Int) < (L.length : Int) := by omega
        have hf0 : (0 : Int) ≤ (f : Int) := by omega
        have hf1 : (f : Int) < (L.length : Int) := by omega
        have mb := mBef
        have nb := nBef
        cases hl : lessD x y
        · have HSU' : Hid (firstTo L a (s + 1) = f) := by unfold Hid; rw [HSU, hl]; rfl
          clear HSU
          generalize L.length = n at *
          go_wp2_with fail
          go_region_held3 (fun w' => w'.cell? ⟨B, 0, none⟩ = some (.slice (some ⟨g, 0, none⟩) n cap) ∧ w'.cell? ⟨g, d * 6, none⟩ = some (.int .i64 x.trip) ∧ w'.cell? ⟨g, d * 6 + 1, none⟩ = some (.int .i64 x.to) ∧ w'.cell? ⟨g, d * 6 + 2, none⟩ = some (.int .i64 x.due) ∧ w'.cell? ⟨g, d * 6 + 3, none⟩ = some (.int .i64 x.expect) ∧ w'.cell? ⟨g, d * 6 + 4, none⟩ = some (.int .i64 x.track) ∧ w'.cell? ⟨g, d * 6 + 5, none⟩ = some (.int .i64 x.state) ∧ w'.cell? ⟨g, f * 6, none⟩ = some (.int .i64 y.trip) ∧ w'.cell? ⟨g, f * 6 + 1, none⟩ = some (.int .i64 y.to) ∧ w'.cell? ⟨g, f * 6 + 2, none⟩ = some (.int .i64 y.due) ∧ w'.cell? ⟨g, f * 6 + 3, none⟩ = some (.int .i64 y.expect) ∧ w'.cell? ⟨g, f * 6 + 4, none⟩ = some (.int .i64 y.track) ∧ w'.cell? ⟨g, f * 6 + 5, none⟩ = some (.int .i64 y.state))
            (first | go_keep | exact ⟨cell_keep hb1 (by exact hc), cell_keep hb1 (by exact a0), cell_keep hb1 (by exact a1), cell_keep hb1 (by exact a2), cell_keep hb1 (by exact a3), cell_keep hb1 (by exact a4), cell_keep hb1 (by exact a5), cell_keep hb1 (by exact b0), cell_keep hb1 (by exact b1), cell_keep hb1 (by exact b2), cell_keep hb1 (by exact b3), cell_keep hb1 (by exact b4), cell_keep hb1 (by exact b5)⟩)
            (first | (go_at_call 163; refine (before_any x y _).mono ?_; rintro e w1 ⟨rfl, hb1⟩; rw [hl]))
          go_wp2_with fail
          go_roundw
          case rel => exact ⟨s + 1, by omega, by go_num, by rw [HSU'.out], hB.out.drew.trans (by exact hb1.mono hB.out.size)⟩
          case measure => simp [intOf]; omega
        · have HSU' : Hid (firstTo L a (s + 1) = d) := by unfold Hid; rw [HSU, hl]; rfl
          clear HSU
          generalize L.length = n at *
          go_wp2_with fail
          go_region_held3 (fun w' => w'.cell? ⟨B, 0, none⟩ = some (.slice (some ⟨g, 0, none⟩) n cap) ∧ w'.cell? ⟨g, d * 6, none⟩ = some (.int .i64 x.trip) ∧ w'.cell? ⟨g, d * 6 + 1, none⟩ = some (.int .i64 x.to) ∧ w'.cell? ⟨g, d * 6 + 2, none⟩ = some (.int .i64 x.due) ∧ w'.cell? ⟨g, d * 6 + 3, none⟩ = some (.int .i64 x.expect) ∧ w'.cell? ⟨g, d * 6 + 4, none⟩ = some (.int .i64 x.track) ∧ w'.cell? ⟨g, d * 6 + 5, none⟩ = some (.int .i64 x.state) ∧ w'.cell? ⟨g, f * 6, none⟩ = some (.int .i64 y.trip) ∧ w'.cell? ⟨g, f * 6 + 1, none⟩ = some (.int .i64 y.to) ∧ w'.cell? ⟨g, f * 6 + 2, none⟩ = some (.int .i64 y.due) ∧ w'.cell? ⟨g, f * 6 + 3, none⟩ = some (.int .i64 y.expect) ∧ w'.cell? ⟨g, f * 6 + 4, none⟩ = some (.int .i64 y.track) ∧ w'.cell? ⟨g, f * 6 + 5, none⟩ = some (.int .i64 y.state))
            (first | go_keep | exact ⟨cell_keep hb1 (by exact hc), cell_keep hb1 (by exact a0), cell_keep hb1 (by exact a1), cell_keep hb1 (by exact a2), cell_keep hb1 (by exact a3), cell_keep hb1 (by exact a4), cell_keep hb1 (by exact a5), cell_keep hb1 (by exact b0), cell_keep hb1 (by exact b1), cell_keep hb1 (by exact b2), cell_keep hb1 (by exact b3), cell_keep hb1 (by exact b4), cell_keep hb1 (by exact b5)⟩)
            (first | (go_at_call 163; refine (before_any x y _).mono ?_; rintro e w1 ⟨rfl, hb1⟩; rw [hl]))
          go_wp2_with fail
          go_roundw
          case rel => exact ⟨s + 1, by omega, by go_num, by rw [HSU'.out], hB.out.drew.trans (by exact hb1.mono hB.out.size)⟩
          case measure => simp [intOf]; omega
      · have HO : Hid (firstTo L a s = firstD L a) := firstTo_out hs (Or.inr (by omega))
        have hd2 : ((2 * a + 1 + s : Nat) : Int) ≤ 2 * (a : Int) + 2 := by omega
        have hd1 : ¬ ((2 * a + 1 + s : Nat) : Int) < (L.length : Int) := by omega
        generalize 2 * a + 1 + s = d at *
        generalize L.length = n at *
        go_wp2_with fail
        go_ret
        exact ⟨ret_int (by rw [HO.out]), hB.out⟩
    · have HO : Hid (firstTo L a s = firstD L a) := firstTo_out hs (Or.inl (by omega))
      have hd2 : ¬ ((2 * a + 1 + s : Nat) : Int) ≤ 2 * (a : Int) + 2 := by omega
      generalize 2 * a + 1 + s = d at *
      go_wp2_with fail
      go_ret
      exact ⟨ret_int (by rw [HO.out]), hB.out⟩

end Go.Proofs.YtjioingdpfgadaaDoor
