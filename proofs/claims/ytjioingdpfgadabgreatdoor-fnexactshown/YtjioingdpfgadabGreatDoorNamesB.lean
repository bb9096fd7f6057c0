import Derived.Test.YtjioingdpfgadabGreatDoorProg
import Derived.Test.YtjioingdpfgadabGreatDoorPlainM
namespace Go.Proofs.YtjioingdpfgadabGreatDoor
open Go Go.RowKit

set_option maxHeartbeats 400000 in
theorem l1in_any (x a b : Int) (w : World) :
    Calls Tryz.prog 29 #[.int .i64 x, .int .i64 a, .int .i64 b] w fun e w' => e = .returned (.bool (decide (a ≤ x ∧ x ≤ b))) ∧ w' = w := by
  by_cases h : a ≤ x
  · by_cases h2 : x ≤ b
    · go_enter Tryz.func29, Tryz.ntmps29
      go_wp2
      go_ret
      exact ⟨ret_bool (by simp [h, h2]), rfl⟩
    · go_enter Tryz.func29, Tryz.ntmps29
      go_wp2
      go_ret
      exact ⟨ret_bool (by simp [h2]), rfl⟩
  · go_enter Tryz.func29, Tryz.ntmps29
    go_wp2
    go_ret
    exact ⟨ret_bool (by rw [decide_eq_false (by omega)]; rfl), rfl⟩

set_option maxRecDepth 100000 in
set_option maxHeartbeats 4000000 in
theorem l1name_any (s : ByteArray) (w : World) (hs : s.size ≤ 1048576) :
    Calls Tryz.prog 102 #[.string s] w fun e w' => e = .returned (.bool (nameB s)) ∧ w' = w := by
  go_enter Tryz.func102, Tryz.ntmps102
  go_wp2
  go_loop [3, 4] (fun bl i => ∃ (k : Nat) (b : Bool), k ≤ s.size ∧ i = .int .i64 k ∧ bl = .bool b ∧ Hid (scanB (s.data.toList.take k) = some b)) (fun _ i => s.size - (intOf i).toNat)
  case atStart => exact ⟨0, true, Nat.zero_le _, rfl, rfl, by unfold Hid; simp [scanB]⟩
  case round =>
    obtain ⟨k, b, hk, rfl, rfl, hsc⟩ := hrel
    by_cases hlt : k < s.size
    · obtain ⟨c0, c1⟩ := byte_lt s[k]
      have HS : Hid (scanB (s.data.toList.take (k + 1)) = stepB s[k].toNat b) := scanB_step s k hlt hsc.out
      by_cases h32 : (s[k].toNat : Int) = 32
      · have H32 : Hid ((s[k].toNat : Int) = 32) := h32
        have hb32 : ((s[k].toNat : Int) == 32) = true := by simp [h32]
        clear h32
        cases b
        · go_wp2
          go_round
          case rel => exact ⟨k + 1, true, by omega, by go_num, rfl, by unfold Hid; rw [HS.out, step_blank H32.out]⟩
          case measure => simp [intOf]; omega
        · go_wp2
          go_ret
          exact ⟨ret_bool (by rw [nameB_dead s (k + 1) (by rw [HS.out, step_blank_bad H32.out])]), rfl⟩
      · have hb32 : ((s[k].toNat : Int) == 32) = false := by simpa using h32
        have H32 : Hid ((s[k].toNat : Int) ≠ 32) := h32
        clear h32
        by_cases hl : 97 ≤ (s[k].toNat : Int) ∧ (s[k].toNat : Int) ≤ 122 ∨ 65 ≤ (s[k].toNat : Int) ∧ (s[k].toNat : Int) ≤ 90 ∨ 48 ≤ (s[k].toNat : Int) ∧ (s[k].toNat : Int) ≤ 57
        · have HL : Hid (ldB (s[k].toNat : Int) = true) := ldB_yes hl
          rcases hl with ⟨l1, l2⟩ | ⟨l1, l2⟩ | ⟨l1, l2⟩
          all_goals
            go_wp2
            go_round
            case rel => exact ⟨k + 1, false, by omega, by go_num, rfl, by unfold Hid; rw [HS.out, step_ld H32.out HL.out]⟩
            case measure => simp [intOf]; omega
        · have HL : Hid (ldB (s[k].toNat : Int) = false) := ldB_no hl
          have hdead : nameB s = false := nameB_dead s (k + 1) (by rw [HS.out, step_bad H32.out HL.out])
          have HD : Hid (nameB s = false) := hdead
          clear hdead
          by_cases g1 : (s[k].toNat : Int) < 48
          · clear hl
            go_wp2
            go_ret
            exact ⟨ret_bool HD.out.symm, rfl⟩
          · by_cases g2 : (s[k].toNat : Int) < 65
            · have g3 : decide ((s[k].toNat : Int) ≤ 57) = false := by simp; omega
              clear hl
              go_wp2
              go_ret
              exact ⟨ret_bool HD.out.symm, rfl⟩
            · by_cases g4 : (s[k].toNat : Int) < 97
              · have g3 : decide ((s[k].toNat : Int) ≤ 90) = false := by simp; omega
                have g5 : decide ((s[k].toNat : Int) ≤ 57) = false := by simp; omega
                clear hl
                go_wp2
                go_ret
                exact ⟨ret_bool HD.out.symm, rfl⟩
              · have g3 : decide ((s[k].toNat : Int) ≤ 122) = false := by simp; omega
                have g5 : decide ((s[k].toNat : Int) ≤ 57) = false := by simp; omega
                have g6 : decide ((s[k].toNat : Int) ≤ 90) = false := by simp; omega
                clear hl
                go_wp2
                go_ret
                exact ⟨ret_bool HD.out.symm, rfl⟩
    · by_cases hz : s.size = 0
      · have HZ : Hid (nameB s = false) := nameB_empty hz
        have hz' : ¬ (0 : Int) < (s.size : Int) := by omega
        clear hz
        go_wp2
        go_ret
        exact ⟨ret_bool HZ.out.symm, rfl⟩
      · by_cases h20 : s.size ≤ 20
        · go_wp2
          go_ret
          exact ⟨ret_bool (by rw [nameB_end s k (by omega) hsc.out]; simp [h20]), rfl⟩
        · go_wp2
          go_ret
          exact ⟨ret_bool (nameB_long h20).symm, rfl⟩

end Go.Proofs.YtjioingdpfgadabGreatDoor
