import Derived.Test.YtjioingdpfgadaaDoorBase
namespace Go.Proofs.YtjioingdpfgadaaDoor
open Go Go.RowKit

/-- A letter or a digit. -/
def ldB (c : Int) : Bool := decide (97 ≤ c ∧ c ≤ 122 ∨ 65 ≤ c ∧ c ≤ 90 ∨ 48 ≤ c ∧ c ≤ 57)
theorem ldB_yes {c : Int} (h : 97 ≤ c ∧ c ≤ 122 ∨ 65 ≤ c ∧ c ≤ 90 ∨ 48 ≤ c ∧ c ≤ 57) : ldB c = true := decide_eq_true h
theorem ldB_no {c : Int} (h : ¬ (97 ≤ c ∧ c ≤ 122 ∨ 65 ≤ c ∧ c ≤ 90 ∨ 48 ≤ c ∧ c ≤ 57)) : ldB c = false := decide_eq_false h
/-- One sign of a name: 'b' says whether a blank (or the beginning) stands ahead. -/
def stepB (c : Int) (b : Bool) : Option Bool := if c = 32 then (if b then none else some true) else if ldB c then some false else none
def scanB (l : List UInt8) : Option Bool := l.foldl (fun o c => o.bind (stepB c.toNat)) (some true)
theorem scanB_snoc (l : List UInt8) (c : UInt8) : scanB (l ++ [c]) = (scanB l).bind (stepB c.toNat) := by simp [scanB]
theorem foldl_none (l : List UInt8) : l.foldl (fun (o : Option Bool) c => o.bind (stepB c.toNat)) none = none := by
  induction l with
  | nil => rfl
  | cons a l ih => simpa using ih
theorem scanB_dead (l m : List UInt8) (h : scanB l = none) : scanB (l ++ m) = none := by
  unfold scanB at *; rw [List.foldl_append, h, foldl_none]
def nameB (s : ByteArray) : Bool := decide (s.size ≤ 20) && (scanB s.data.toList == some false)
theorem btake_snoc (s : ByteArray) (k : Nat) (h : k < s.size) : s.data.toList.take (k + 1) = s.data.toList.take k ++ [s[k]] := by
  rw [List.take_succ_eq_append_getElem (by simpa using h)]; rfl
theorem scanB_step (s : ByteArray) (k : Nat) (h : k < s.size) {b : Bool} (hb : scanB (s.data.toList.take k) = some b) : scanB (s.data.toList.take (k + 1)) = stepB s[k].toNat b := by
  rw [btake_snoc s k h, scanB_snoc, hb]; rfl
theorem nameB_dead (s : ByteArray) (k : Nat) (h : scanB (s.data.toList.take k) = none) : nameB s = false := by
  have e := scanB_dead (s.data.toList.take k) (s.data.toList.drop k) h
  rw [List.take_append_drop] at e
  unfold nameB; rw [e]; simp
theorem nameB_end (s : ByteArray) (k : Nat) (hk : s.size ≤ k) {b : Bool} (h : scanB (s.data.toList.take k) = some b) : nameB s = (decide (s.size ≤ 20) && !b) := by
  rw [List.take_of_length_le (by simpa using hk)] at h
  unfold nameB; rw [h]; cases b <;> rfl
theorem step_blank_bad {c : Int} (h : c = 32) : stepB c true = none := by unfold stepB; simp [h]
theorem step_blank {c : Int} (h : c = 32) : stepB c false = some true := by unfold stepB; simp [h]
theorem step_ld {c : Int} {b : Bool} (h : c ≠ 32) (hl : ldB c = true) : stepB c b = some false := by unfold stepB; simp [h, hl]
theorem step_bad {c : Int} {b : Bool} (h : c ≠ 32) (hl : ldB c = false) : stepB c b = none := by unfold stepB; simp [h, hl]
theorem byte_lt (c : UInt8) : (0 : Int) ≤ (c.toNat : Int) ∧ (c.toNat : Int) < 256 := by
  have := c.toNat_lt; omega
theorem nameB_long {s : ByteArray} (h : ¬ s.size ≤ 20) : nameB s = false := by unfold nameB; simp [h]
theorem nameB_empty {s : ByteArray} (h : s.size = 0) : nameB s = false := by
  have e : s.data.toList = [] := List.eq_nil_of_length_eq_zero (by simpa using h)
  unfold nameB scanB; rw [e]; simp

end Go.Proofs.YtjioingdpfgadaaDoor
