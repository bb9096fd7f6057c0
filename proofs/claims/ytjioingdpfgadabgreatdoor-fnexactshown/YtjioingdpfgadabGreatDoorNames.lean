import Derived.Test.YtjioingdpfgadabGreatDoorProg
import Derived.Test.YtjioingdpfgadabGreatDoorPlainM
namespace Go.Proofs.YtjioingdpfgadabGreatDoor
open Go Go.RowKit

set_option maxHeartbeats 400000 in
theorem isLetterOrDigit_any (c : Int) (w : World) (h0 : 0 ≤ c) (h1 : c < 256) :
    Calls Tryz.prog 133 #[.int .u8 c] w fun e w' => e = .returned (.bool (ldB c)) ∧ w' = w := by
  go_enter Tryz.func133, Tryz.ntmps133
  go_wp2
  all_goals go_ret
  all_goals exact ⟨ret_bool (by unfold ldB; rw [Bool.eq_iff_iff]; simp; omega), rfl⟩

set_option maxHeartbeats 400000 in
theorem isName_any (s : ByteArray) (w : World) (hs : s.size ≤ 1048576) :
    Calls Tryz.prog 129 #[.string s] w fun e w' => e = .returned (.bool (nameB s)) ∧ w' = w := by
  by_cases h20 : s.size ≤ 20
  · go_enter Tryz.func129, Tryz.ntmps129
    go_wp2
    go_loop [3, 4] (fun bl i => ∃ (k : Nat) (b : Bool), k ≤ s.size ∧ i = .int .i64 k ∧ bl = .bool b ∧ Hid (scanB (s.data.toList.take k) = some b)) (fun _ i => s.size - (intOf i).toNat)
    case atStart => exact ⟨0, true, Nat.zero_le _, rfl, rfl, by unfold Hid; simp [scanB]⟩
    case round =>
      obtain ⟨k, b, hk, rfl, rfl, hsc⟩ := hrel
      by_cases hlt : k < s.size
      · obtain ⟨c0, c1⟩ := byte_lt s[k]
        have HS : Hid (scanB (s.data.toList.take (k + 1)) = stepB s[k].toNat b) := scanB_step s k hlt hsc.out
        by_cases h32 : (s[k].toNat : Int) = 32
        · have H32 : Hid ((s[k].toNat : Int) = 32) := h32
          have hb32 : ((s[k].toNat : Int) == 32) = true := by simp [h32]
          clear h32
          cases b
          · go_wp2_with (go_at_call 133; refine (isLetterOrDigit_any _ _ c0 c1).mono ?_; rintro e w' ⟨rfl, rfl⟩)
            go_round
            case rel => exact ⟨k + 1, true, by omega, by go_num, rfl, by unfold Hid; rw [HS.out, step_blank H32.out]⟩
            case measure => simp [intOf]; omega
          · have hl : ldB (s[k].toNat : Int) = false := ldB_no (by have := H32.out; omega)
            go_wp2_with (go_at_call 133; refine (isLetterOrDigit_any _ _ c0 c1).mono ?_; rintro e w' ⟨rfl, rfl⟩; rw [hl])
            go_ret
            exact ⟨ret_bool (by rw [nameB_dead s (k + 1) (by rw [HS.out, step_blank_bad H32.out])]), rfl⟩
        · have hb32 : ((s[k].toNat : Int) == 32) = false := by simpa using h32
          have H32 : Hid ((s[k].toNat : Int) ≠ 32) := h32
          clear h32
          cases hl : ldB (s[k].toNat : Int)
          · go_wp2_with (go_at_call 133; refine (isLetterOrDigit_any _ _ c0 c1).mono ?_; rintro e w' ⟨rfl, rfl⟩; rw [hl])
            go_ret
            exact ⟨ret_bool (by rw [nameB_dead s (k + 1) (by rw [HS.out, step_bad H32.out hl])]), rfl⟩
          · go_wp2_with (go_at_call 133; refine (isLetterOrDigit_any _ _ c0 c1).mono ?_; rintro e w' ⟨rfl, rfl⟩; rw [hl])
            go_round
            case rel => exact ⟨k + 1, false, by omega, by go_num, rfl, by unfold Hid; rw [HS.out, step_ld H32.out hl]⟩
            case measure => simp [intOf]; omega
      · go_wp2
        go_ret
        exact ⟨ret_bool (by rw [nameB_end s k (by omega) hsc.out]; simp [h20]), rfl⟩
  · go_enter Tryz.func129, Tryz.ntmps129
    go_wp2
    go_ret
    exact ⟨ret_bool (nameB_long h20).symm, rfl⟩

end Go.Proofs.YtjioingdpfgadabGreatDoor
