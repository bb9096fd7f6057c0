import Derived.Test.YtjioingdpfgadaaDoorProg
import Derived.Test.YtjioingdpfgadaaDoorSpecOM
import Derived.Deep.RegionHeld3
namespace Go.Proofs.YtjioingdpfgadaaDoor
open Go Go.RowKit Go.Deep

set_option maxRecDepth 100000 in
theorem isNaN_any (x : Int) (w : World) :
    Calls Tryd.prog 166 #[.int .i64 x] w fun e w' => e = .returned (.bool false) ∧ w' = w := by
  go_enter Tryd.func166, Tryd.ntmps166
  go_wp2
  go_ret
  exact ⟨rfl, rfl⟩

/-- -1, 0 or 1. -/
def cmpD (x y : Int) : Int := if x < y then -1 else if y < x then 1 else 0

set_option maxRecDepth 100000 in
set_option maxHeartbeats 1000000 in
theorem compare_any (x y : Int) (w : World) :
    Calls Tryd.prog 165 #[.int .i64 x, .int .i64 y] w fun e w' => e = .returned (.int .i64 (cmpD x y)) ∧ w' = w := by
  by_cases h1 : x < y
  · have HC : Hid (cmpD x y = -1) := by unfold Hid cmpD; rw [if_pos h1]
    go_enter Tryd.func165, Tryd.ntmps165
    go_wp2_with (go_at_call 166; refine (isNaN_any _ _).mono ?_; rintro e w1 ⟨rfl, rfl⟩)
    go_ret
    exact ⟨ret_int HC.out.symm, rfl⟩
  · by_cases h2 : y < x
    · have HC : Hid (cmpD x y = 1) := by unfold Hid cmpD; rw [if_neg h1, if_pos h2]
      go_enter Tryd.func165, Tryd.ntmps165
      go_wp2_with (go_at_call 166; refine (isNaN_any _ _).mono ?_; rintro e w1 ⟨rfl, rfl⟩)
      go_ret
      exact ⟨ret_int HC.out.symm, rfl⟩
    · have HC : Hid (cmpD x y = 0) := by unfold Hid cmpD; rw [if_neg h1, if_neg h2]
      go_enter Tryd.func165, Tryd.ntmps165
      go_wp2_with (go_at_call 166; refine (isNaN_any _ _).mono ?_; rintro e w1 ⟨rfl, rfl⟩)
      go_ret
      exact ⟨ret_int HC.out.symm, rfl⟩

/-- The first of three numbers that is not 0. -/
def orD (a b c : Int) : Int := if a ≠ 0 then a else if b ≠ 0 then b else c
theorem orD_1 {a b c : Int} (h : a ≠ 0) : orD a b c = a := by unfold orD; rw [if_pos h]
theorem orD_2 {a b c : Int} (h : a = 0) (h2 : b ≠ 0) : orD a b c = b := by unfold orD; rw [if_neg (by simp [h]), if_pos h2]
theorem orD_3 {a b c : Int} (h : a = 0) (h2 : b = 0) : orD a b c = c := by unfold orD; rw [if_neg (by simp [h]), if_neg (by simp [h2])]

set_option maxRecDepth 100000 in
set_option maxHeartbeats 2000000 in
theorem or_any (a b c : Int) (g : Nat) (w : World) (h0 : w.cell? ⟨g, 0, none⟩ = some (.int .i64 a)) (h1 : w.cell? ⟨g, 1, none⟩ = some (.int .i64 b)) (h2 : w.cell? ⟨g, 2, none⟩ = some (.int .i64 c)) :
    Calls Tryd.prog 164 #[.slice (some ⟨g, 0, none⟩) 3 3] w fun e w' => e = .returned (.int .i64 (orD a b c)) ∧ w' = w := by
  have H0 : Hid (w.cell? ⟨g, 0, none⟩ = some (.int .i64 a)) := h0
  have H1 : Hid (w.cell? ⟨g, 1, none⟩ = some (.int .i64 b)) := h1
  have H2 : Hid (w.cell? ⟨g, 2, none⟩ = some (.int .i64 c)) := h2
  clear h0 h1 h2
  go_enter Tryd.func164, Tryd.ntmps164
  go_wp2
  go_loopw [8] (fun i wr => ∃ k : Nat, k ≤ 3 ∧ i = .int .i64 k ∧ Hid ((0 < k → a = 0) ∧ (1 < k → b = 0) ∧ (2 < k → c = 0)) ∧ Hid (wr = w)) (fun i _ => 3 - (intOf i).toNat)
  case atStart => exact ⟨0, by omega, rfl, ⟨by omega, by omega, by omega⟩, rfl⟩
  case round =>
    obtain ⟨k, hk, rfl, hz, hw0⟩ := hrel
    obtain rfl : wr = w := hw0.out
    have hcase : k = 0 ∨ k = 1 ∨ k = 2 ∨ k = 3 := by omega
    rcases hcase with rfl | rfl | rfl | rfl
    · have h0 := H0.out
      by_cases ha : a = 0
      · subst ha
        go_wp2_with fail
        go_roundw
        case rel => exact ⟨1, by omega, by go_num, by simp [Hid], by simp [Hid]⟩
        case measure => simp [intOf]
      · have HA : Hid (orD a b c = a) := orD_1 ha
        have hab : (a != 0) = true := by simp [ha]
        clear ha
        go_wp2_with fail
        go_ret
        exact ⟨ret_int HA.out.symm, rfl⟩
    · have h1 := H1.out
      by_cases hb : b = 0
      · subst hb
        go_wp2_with fail
        go_roundw
        case rel => exact ⟨2, by omega, by go_num, by have := hz.out.1 (by omega); simp [Hid, this], by simp [Hid]⟩
        case measure => simp [intOf]
      · have HA : Hid (orD a b c = b) := orD_2 (hz.out.1 (by omega)) hb
        have hab : (b != 0) = true := by simp [hb]
        clear hb
        go_wp2_with fail
        go_ret
        exact ⟨ret_int HA.out.symm, rfl⟩
    · have h2 := H2.out
      by_cases hc : c = 0
      · subst hc
        go_wp2_with fail
        go_roundw
        case rel => exact ⟨3, by omega, by go_num, by have := hz.out.1 (by omega); have := hz.out.2.1 (by omega); simp [Hid, *], by simp [Hid]⟩
        case measure => simp [intOf]
      · have HA : Hid (orD a b c = c) := orD_3 (hz.out.1 (by omega)) (hz.out.2.1 (by omega))
        have hab : (c != 0) = true := by simp [hc]
        clear hc
        go_wp2_with fail
        go_ret
        exact ⟨ret_int HA.out.symm, rfl⟩
    · have HA : Hid (orD a b c = 0) := by unfold Hid; rw [orD_3 (hz.out.1 (by omega)) (hz.out.2.1 (by omega))]; exact hz.out.2.2 (by omega)
      go_wp2_with fail
      go_ret
      exact ⟨ret_int HA.out.symm, rfl⟩

theorem lessD_cmp (a b : RowD) : decide (orD (cmpD a.expect b.expect) (cmpD a.due b.due) (cmpD a.trip b.trip) < 0) = lessD a b := by
  have hc : ∀ x y : Int, (x < y ∧ cmpD x y = -1) ∨ (y < x ∧ cmpD x y = 1) ∨ (x = y ∧ cmpD x y = 0) := fun x y => by
    unfold cmpD
    by_cases h1 : x < y
    · exact .inl ⟨h1, if_pos h1⟩
    · by_cases h2 : y < x
      · exact .inr (.inl ⟨h2, by rw [if_neg h1, if_pos h2]⟩)
      · exact .inr (.inr ⟨by omega, by rw [if_neg h1, if_neg h2]⟩)
  unfold lessD
  rcases hc a.expect b.expect with ⟨h, e⟩ | ⟨h, e⟩ | ⟨h, e⟩
  · rw [e, orD_1 (by omega), if_pos (by omega)]; simp [h]
  · rw [e, orD_1 (by omega), if_pos (by omega)]; simp; omega
  · rw [e, if_neg (by simp [h])]
    rcases hc a.due b.due with ⟨h', e'⟩ | ⟨h', e'⟩ | ⟨h', e'⟩
    · rw [e', orD_2 rfl (by omega), if_pos (by omega)]; simp [h']
    · rw [e', orD_2 rfl (by omega), if_pos (by omega)]; simp; omega
    · rw [e', orD_3 rfl rfl, if_neg (by simp [h'])]
      rcases hc a.trip b.trip with ⟨h3, e3⟩ | ⟨h3, e3⟩ | ⟨h3, e3⟩
      · rw [e3]; simp [h3]
      · rw [e3]; simp; omega
      · rw [e3]; simp; omega

theorem three_cells {w : World} {a b c : Value} {T : TypeId} : ((w.alloc (.cells #[a, b, c] T)).cell? ⟨w.heap.size, 0, none⟩ = some a ∧ (w.alloc (.cells #[a, b, c] T)).cell? ⟨w.heap.size, 1, none⟩ = some b ∧ (w.alloc (.cells #[a, b, c] T)).cell? ⟨w.heap.size, 2, none⟩ = some c) := by
  refine ⟨?_, ?_, ?_⟩ <;> simp [go_sem]

set_option maxRecDepth 100000 in
set_option maxHeartbeats 4000000 in
theorem before_any (a b : RowD) (w : World) :
    Calls Tryd.prog 163 #[rowV a, rowV b] w fun e w' => e = .returned (.bool (lessD a b)) ∧ Below w.heap.size w w' := by
  have HL : Hid (decide (orD (cmpD a.expect b.expect) (cmpD a.due b.due) (cmpD a.trip b.trip) < 0) = lessD a b) := lessD_cmp a b
  unfold rowV
  obtain ⟨W2, hW2⟩ : ∃ W2, (w.alloc (.cells #[.int .i64 a.trip, .int .i64 a.to, .int .i64 a.due, .int .i64 a.expect, .int .i64 a.track, .int .i64 a.state] 38)).alloc (.cells #[.int .i64 b.trip, .int .i64 b.to, .int .i64 b.due, .int .i64 b.expect, .int .i64 b.track, .int .i64 b.state] 38) = W2 := ⟨_, rfl⟩
  have hb2 : Below w.heap.size w W2 := by subst hW2; exact ((Below.refl _ _).alloc (Nat.le_refl _) _).alloc (by simp) _
  have p0 : W2.cell? ⟨w.heap.size, 0, none⟩ = some (.int .i64 a.trip) := by subst hW2; simp [go_sem]
  have p2 : W2.cell? ⟨w.heap.size, 2, none⟩ = some (.int .i64 a.due) := by subst hW2; simp [go_sem]
  have p3 : W2.cell? ⟨w.heap.size, 3, none⟩ = some (.int .i64 a.expect) := by subst hW2; simp [go_sem]
  have q0 : W2.cell? ⟨w.heap.size + 1, 0, none⟩ = some (.int .i64 b.trip) := by subst hW2; simp [go_sem]
  have q2 : W2.cell? ⟨w.heap.size + 1, 2, none⟩ = some (.int .i64 b.due) := by subst hW2; simp [go_sem]
  have q3 : W2.cell? ⟨w.heap.size + 1, 3, none⟩ = some (.int .i64 b.expect) := by subst hW2; simp [go_sem]
  go_enter Tryd.func163, Tryd.ntmps163
  go_wp2_with fail
  clear hW2
  go_region_held3 (fun w' => w'.cell? ⟨w.heap.size, 0, none⟩ = some (.int .i64 a.trip) ∧ w'.cell? ⟨w.heap.size, 2, none⟩ = some (.int .i64 a.due) ∧ w'.cell? ⟨w.heap.size, 3, none⟩ = some (.int .i64 a.expect) ∧ w'.cell? ⟨w.heap.size + 1, 0, none⟩ = some (.int .i64 b.trip) ∧ w'.cell? ⟨w.heap.size + 1, 2, none⟩ = some (.int .i64 b.due) ∧ w'.cell? ⟨w.heap.size + 1, 3, none⟩ = some (.int .i64 b.expect))
    (go_keep)
    (first
      | (go_at_call 165; refine (compare_any _ _ _).mono ?_; rintro e w3 ⟨rfl, rfl⟩)
      | (go_at_call 164; refine (or_any _ _ _ _ _ (by exact three_cells.1) (by exact three_cells.2.1) (by exact three_cells.2.2)).mono ?_; rintro e w4 ⟨rfl, rfl⟩))
  all_goals
    go_wp2
    go_ret
    exact ⟨ret_bool HL.out, (hb2.alloc hb2.size _).drew⟩

end Go.Proofs.YtjioingdpfgadaaDoor
