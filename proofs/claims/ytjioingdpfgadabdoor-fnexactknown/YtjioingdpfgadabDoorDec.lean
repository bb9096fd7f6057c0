import Derived.Test.YtjioingdpfgadabDoorProg
import Derived.Test.YtjioingdpfgadabDoorBase
import Derived.Laws.IdiomStrings
namespace Go.Proofs.YtjioingdpfgadabDoor
open Go Go.RowKit

/-- The decimal signs of a number, none of nought; f: how many at most. -/
def decF : Nat → Nat → List UInt8
  | 0, _ => []
  | f + 1, k => if k = 0 then [] else decF f (k / 10) ++ [UInt8.ofNat (48 + k % 10)]

/-- The mark of a number. -/
def markL (k : Nat) : List UInt8 := 109 :: (if k = 0 then [48] else decF 20 k)
theorem markL_pos {k : Nat} (h : k ≠ 0) : markL k = 109 :: decF 20 k := by unfold markL; rw [if_neg h]
theorem ret_str {a b : ByteArray} (h : a = b) : Ending.returned (.string a) = .returned (.string b) := by rw [h]
theorem str_cons (c : UInt8) (l : List UInt8) : (⟨#[c]⟩ : ByteArray) ++ ⟨l.toArray⟩ = ⟨(c :: l).toArray⟩ := by
  apply ByteArray.ext; simp
theorem uBytes : Tryd.prog.underlying 119 = some (.slice 5) := by kernel_rfl
theorem uByte : Tryd.prog.underlying 5 = some (.int .u8) := by kernel_rfl
theorem uStr : Tryd.prog.underlying 9 = some .string := by kernel_rfl
theorem digit_nat (m : Nat) : ((UInt8.ofNat (48 + m % 10)).toNat : Int) = 48 + (m : Int) % 10 := by
  have : m % 10 < 10 := Nat.mod_lt _ (by omega)
  have e : (UInt8.ofNat (48 + m % 10)).toNat = 48 + m % 10 := by
    simp; omega
  rw [e]; omega
/-- string of a new slice of one byte: a decimal sign. -/
theorem run_digit (m : Nat) (w : World) : (convert 119 9 (.slice (some ⟨w.heap.size, 0, none⟩) 1 1)).run Tryd.prog (w.alloc (.cells #[.int .u8 (48 + (m : Int) % 10)] 5)) = .ok (.string ⟨[UInt8.ofNat (48 + m % 10)].toArray⟩) (w.alloc (.cells #[.int .u8 (48 + (m : Int) % 10)] 5)) := by
  refine run_convert_bytes_back _ 119 9 5 ⟨w.heap.size, 0, none⟩ 1 [UInt8.ofNat (48 + m % 10)] uBytes uByte uStr ?_
  intro j hj
  have hj0 : j = 0 := by simp at hj; omega
  subst hj0
  have := digit_nat m
  simp only [List.getElem_cons_zero]
  rw [this]
  simp [Addr.add, go_sem]
theorem decF_step (f m : Nat) (h : m ≠ 0) : decF (f + 1) m = decF f (m / 10) ++ [UInt8.ofNat (48 + m % 10)] := by
  simp [decF, h]
theorem decF_zero (f : Nat) : decF f 0 = [] := by cases f <;> simp [decF]

set_option maxRecDepth 100000 in
set_option maxHeartbeats 1000000 in
theorem markText_any (k : Nat) (w : World) (hk : k ≤ 1000000000000) :
    Calls Tryd.prog 55 #[.int .i64 k] w fun e w' => e = .returned (.string ⟨(markL k).toArray⟩) ∧ Below w.heap.size w w' := by
  by_cases h0 : k = 0
  · subst h0
    go_enter Tryd.func55, Tryd.ntmps55
    go_wp2
    go_ret
    exact ⟨rfl, Below.refl _ _⟩
  · have h1 : (0 : Int) < (k : Int) := by omega
    go_enter Tryd.func55, Tryd.ntmps55
    go_wp2
    go_loopw [0, 3] (fun n s wr => ∃ (f m : Nat) (out : List UInt8), n = .int .i64 m ∧ s = .string ⟨out.toArray⟩ ∧ m < 10 ^ f ∧ f ≤ 20 ∧ out.length + f = 20 ∧ m ≤ 1000000000000 ∧ Hid (decF f m ++ out = decF 20 k) ∧ Below w.heap.size w wr) (fun n _ _ => (intOf n).toNat)
    case atStart => exact ⟨20, k, [], rfl, rfl, by omega, by omega, rfl, hk, by unfold Hid; simp, Below.refl _ _⟩
    case round =>
      obtain ⟨f, m, out, rfl, rfl, hf, hf20, hol, hm, hd, hbel⟩ := hrel
      by_cases hm0 : m = 0
      · subst hm0
        have HO : Hid (out = decF 20 k) := by
          unfold Hid; have := hd.out; rw [decF_zero] at this; simpa using this
        have hlen : out.length ≤ 20 := by omega
        clear hf hf20 hol
        go_wp2
        all_goals try (exfalso; simp at *; omega)
        go_ret
        exact ⟨ret_str (by rw [markL_pos h0, ← HO.out]; exact str_cons _ _), hbel⟩
      · have hmp : (0 : Int) < (m : Int) := by omega
        obtain ⟨f', rfl⟩ : ∃ f', f = f' + 1 := ⟨f - 1, by
          rcases f with _ | f
          · simp at hf; omega
          · omega⟩
        have hrun := run_digit m wr
        have HD : Hid (decF f' (m / 10) ++ (UInt8.ofNat (48 + m % 10) :: out) = decF 20 k) := by
          unfold Hid
          have := hd.out
          rw [decF_step f' m hm0] at this
          simpa using this
        have hf1 : m / 10 < 10 ^ f' := by
          rw [Nat.pow_succ] at hf; omega
        have hlen : out.length ≤ 20 := by omega
        have HF : Hid (f' + 1 ≤ 20 ∧ out.length + (f' + 1) = 20) := ⟨hf20, hol⟩
        clear hf hf20 hol
        go_wp2
        all_goals try (exfalso; simp at *; omega)
        go_roundw
        case rel =>
          obtain ⟨g1, g2⟩ := HF.out
          exact ⟨f', m / 10, UInt8.ofNat (48 + m % 10) :: out, by go_num, by simp; rfl, hf1, by omega, by simp; omega, by omega, HD.out, hbel.alloc hbel.size _⟩
        case measure => simp [intOf]; omega

/-- A number in decimal signs. -/
def decL (k : Nat) : List UInt8 := if k = 0 then [48] else decF 20 k
theorem decL_pos {k : Nat} (h : k ≠ 0) : decL k = decF 20 k := by unfold decL; rw [if_neg h]

end Go.Proofs.YtjioingdpfgadabDoor
