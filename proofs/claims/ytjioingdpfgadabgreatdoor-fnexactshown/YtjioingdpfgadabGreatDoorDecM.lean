import Derived.Test.YtjioingdpfgadabGreatDoorProg
import Derived.Test.YtjioingdpfgadabGreatDoorBase
import Derived.Laws.IdiomStrings
import Derived.Test.YtjioingdpfgadabGreatDoorTo
namespace Go.Proofs.YtjioingdpfgadabGreatDoor
open Go Go.RowKit

/-- The decimal signs of a number, none of nought; f: how many at most. -/
def decF : Nat → Nat → List UInt8
  | 0, _ => []
  | f + 1, k => if k = 0 then [] else decF f (k / 10) ++ [UInt8.ofNat (48 + k % 10)]

/-- The mark of a number. -/
def markL (k : Nat) : List UInt8 := 109 :: (if k = 0 then [48] else decF 20 k)
theorem markL_pos {k : Nat} (h : k ≠ 0) : markL k = 109 :: decF 20 k := by unfold markL; rw [if_neg h]
theorem ret_str {a b : ByteArray} (h : a = b) : Ending.returned (.string a) = .returned (.string b) := by rw [h]
theorem str_cons (c : UInt8) (l : List UInt8) : (⟨#[c]⟩ : ByteArray) ++ ⟨l.toArray⟩ = ⟨(c :: l).toArray⟩ := by
  apply ByteArray.ext; simp
theorem uBytes : Tryz.prog.underlying 83 = some (.slice 5) := by kernel_rfl
theorem uByte : Tryz.prog.underlying 5 = some (.int .u8) := by kernel_rfl
theorem uStr : Tryz.prog.underlying 9 = some .string := by kernel_rfl
theorem digit_nat (m : Nat) : ((UInt8.ofNat (48 + m % 10)).toNat : Int) = 48 + (m : Int) % 10 := by
  have : m % 10 < 10 := Nat.mod_lt _ (by omega)
  have e : (UInt8.ofNat (48 + m % 10)).toNat = 48 + m % 10 := by
    simp; omega
  rw [e]; omega
/-- string of a new slice of one byte: a decimal sign. -/
theorem run_digit (m : Nat) (w : World) : (convert 83 9 (.slice (some ⟨w.heap.size, 0, none⟩) 1 1)).run Tryz.prog (w.alloc (.cells #[.int .u8 (48 + (m : Int) % 10)] 5)) = .ok (.string ⟨[UInt8.ofNat (48 + m % 10)].toArray⟩) (w.alloc (.cells #[.int .u8 (48 + (m : Int) % 10)] 5)) := by
  refine run_convert_bytes_back _ 83 9 5 ⟨w.heap.size, 0, none⟩ 1 [UInt8.ofNat (48 + m % 10)] uBytes uByte uStr ?_
  intro j hj
  have hj0 : j = 0 := by simp at hj; omega
  subst hj0
  have := digit_nat m
  simp only [List.getElem_cons_zero]
  rw [this]
  simp [Addr.add, go_sem]
theorem decF_step (f m : Nat) (h : m ≠ 0) : decF (f + 1) m = decF f (m / 10) ++ [UInt8.ofNat (48 + m % 10)] := by
  simp [decF, h]
theorem decF_zero (f : Nat) : decF f 0 = [] := by cases f <;> simp [decF]

set_option maxRecDepth 100000 in
set_option maxHeartbeats 1000000 in
theorem markText_any (k : Nat) (w : World) (hk : k ≤ 1000000000000) :
    Calls Tryz.prog 58 #[.int .i64 k] w fun e w' => e = .returned (.string ⟨(markL k).toArray⟩) ∧ Below w.heap.size w w' := by
  by_cases h0 : k = 0
  · subst h0
    go_enter Tryz.func58, Tryz.ntmps58
    go_wp2
    go_ret
    exact ⟨rfl, Below.refl _ _⟩
  · have h1 : (0 : Int) < (k : Int) := by omega
    go_enter Tryz.func58, Tryz.ntmps58
    go_wp2
    go_loopw [0, 3] (fun n s wr => ∃ (f m : Nat) (out : List UInt8), n = .int .i64 m ∧ s = .string ⟨out.toArray⟩ ∧ m < 10 ^ f ∧ f ≤ 20 ∧ out.length + f = 20 ∧ m ≤ 1000000000000 ∧ Hid (decF f m ++ out = decF 20 k) ∧ Below w.heap.size w wr) (fun n _ _ => (intOf n).toNat)
    case atStart => exact ⟨20, k, [], rfl, rfl, by omega, by omega, rfl, hk, by unfold Hid; simp, Below.refl _ _⟩
    case round =>
      obtain ⟨f, m, out, rfl, rfl, hf, hf20, hol, hm, hd, hbel⟩ := hrel
      by_cases hm0 : m = 0
      · subst hm0
        have HO : Hid (out = decF 20 k) := by
          unfold Hid; have := hd.out; rw [decF_zero] at this; simpa using this
        have hlen : out.length ≤ 20 := by omega
        clear hf hf20 hol
        go_wp2
        all_goals try (exfalso; simp at *; omega)
        go_ret
        exact ⟨ret_str (by rw [markL_pos h0, ← HO.out]; exact str_cons _ _), hbel⟩
      · have hmp : (0 : Int) < (m : Int) := by omega
        obtain ⟨f', rfl⟩ : ∃ f', f = f' + 1 := ⟨f - 1, by
          rcases f with _ | f
          · simp at hf; omega
          · omega⟩
        have hrun := run_digit m wr
        have HD : Hid (decF f' (m / 10) ++ (UInt8.ofNat (48 + m % 10) :: out) = decF 20 k) := by
          unfold Hid
          have := hd.out
          rw [decF_step f' m hm0] at this
          simpa using this
        have hf1 : m / 10 < 10 ^ f' := by
          rw [Nat.pow_succ] at hf; omega
        have hlen : out.length ≤ 20 := by omega
        have HF : Hid (f' + 1 ≤ 20 ∧ out.length + (f' + 1) = 20) := ⟨hf20, hol⟩
        clear hf hf20 hol
        go_wp2
        all_goals try (exfalso; simp at *; omega)
        go_roundw
        case rel =>
          obtain ⟨g1, g2⟩ := HF.out
          exact ⟨f', m / 10, UInt8.ofNat (48 + m % 10) :: out, by go_num, by simp; rfl, hf1, by omega, by simp; omega, by omega, HD.out, hbel.alloc hbel.size _⟩
        case measure => simp [intOf]; omega

/-- A number in decimal signs. -/
def decL (k : Nat) : List UInt8 := if k = 0 then [48] else decF 20 k
theorem decL_pos {k : Nat} (h : k ≠ 0) : decL k = decF 20 k := by unfold decL; rw [if_neg h]

set_option maxRecDepth 100000 in
set_option maxHeartbeats 1000000 in
theorem l3decimal_any (k : Nat) (w : World) (hk : k ≤ 1000000000000) :
    Calls Tryz.prog 47 #[.int .i64 k] w fun e w' => e = .returned (.string ⟨(decL k).toArray⟩) ∧ Below w.heap.size w w' := by
  by_cases h0 : k = 0
  · subst h0
    go_enter Tryz.func47, Tryz.ntmps47
    go_wp2
    go_ret
    exact ⟨rfl, Below.refl _ _⟩
  · have h1 : (0 : Int) < (k : Int) := by omega
    go_enter Tryz.func47, Tryz.ntmps47
    go_wp2
    go_loopw [0, 3] (fun n s wr => ∃ (f m : Nat) (out : List UInt8), n = .int .i64 m ∧ s = .string ⟨out.toArray⟩ ∧ m < 10 ^ f ∧ f ≤ 20 ∧ out.length + f = 20 ∧ m ≤ 1000000000000 ∧ Hid (decF f m ++ out = decF 20 k) ∧ Below w.heap.size w wr) (fun n _ _ => (intOf n).toNat)
    case atStart => exact ⟨20, k, [], rfl, rfl, by omega, by omega, rfl, hk, by unfold Hid; simp, Below.refl _ _⟩
    case round =>
      obtain ⟨f, m, out, rfl, rfl, hf, hf20, hol, hm, hd, hbel⟩ := hrel
      by_cases hm0 : m = 0
      · subst hm0
        have HO : Hid (out = decF 20 k) := by
          unfold Hid; have := hd.out; rw [decF_zero] at this; simpa using this
        have hlen : out.length ≤ 20 := by omega
        clear hf hf20 hol
        go_wp2
        all_goals try (exfalso; simp at *; omega)
        go_ret
        exact ⟨ret_str (by rw [decL_pos h0, ← HO.out]), hbel⟩
      · have hmp : (0 : Int) < (m : Int) := by omega
        obtain ⟨f', rfl⟩ : ∃ f', f = f' + 1 := ⟨f - 1, by
          rcases f with _ | f
          · simp at hf; omega
          · omega⟩
        have hrun := run_digit m wr
        have HD : Hid (decF f' (m / 10) ++ (UInt8.ofNat (48 + m % 10) :: out) = decF 20 k) := by
          unfold Hid
          have := hd.out
          rw [decF_step f' m hm0] at this
          simpa using this
        have hf1 : m / 10 < 10 ^ f' := by
          rw [Nat.pow_succ] at hf; omega
        have hlen : out.length ≤ 20 := by omega
        have HF : Hid (f' + 1 ≤ 20 ∧ out.length + (f' + 1) = 20) := ⟨hf20, hol⟩
        clear hf hf20 hol
        go_wp2
        all_goals try (exfalso; simp at *; omega)
        go_roundw
        case rel =>
          obtain ⟨g1, g2⟩ := HF.out
          exact ⟨f', m / 10, UInt8.ofNat (48 + m % 10) :: out, by go_num, by simp; rfl, hf1, by omega, by simp; omega, by omega, HD.out, hbel.alloc hbel.size _⟩
        case measure => simp [intOf]; omega

end Go.Proofs.YtjioingdpfgadabGreatDoor
namespace Go.Proofs.YtjioingdpfgadabGreatDoor
open Go Go.RowKit Go.Deep

/-- Blocks outside L .. R - 1 are as they were. -/
structure Kept (L R : Nat) (w w' : World) : Prop where
  os : w'.os = w.os
  tape : w'.tape = w.tape
  output : w'.output = w.output
  size : w.heap.size ≤ w'.heap.size
  block : ∀ k, k < w.heap.size → k < L ∨ R ≤ k → w'.heap[k]? = w.heap[k]?
theorem Kept.refl (L R : Nat) (w : World) : Kept L R w w := ⟨rfl, rfl, rfl, Nat.le_refl _, fun _ _ _ => rfl⟩
theorem Kept.trans {L R : Nat} {a b c : World} (h : Kept L R a b) (k : Kept L R b c) : Kept L R a c :=
  ⟨k.os.trans h.os, k.tape.trans h.tape, k.output.trans h.output, Nat.le_trans h.size k.size, fun i hi hr => (k.block i (Nat.lt_of_lt_of_le hi h.size) hr).trans (h.block i hi hr)⟩
theorem Kept.wide {L R L' R' : Nat} {a b : World} (h : Kept L R a b) (h1 : L' ≤ L) (h2 : R ≤ R') : Kept L' R' a b :=
  ⟨h.os, h.tape, h.output, h.size, fun i hi hr => h.block i hi (by omega)⟩
theorem Kept.of_below {L R : Nat} {w w' : World} (h : Below w.heap.size w w') : Kept L R w w' := ⟨h.os, h.tape, h.output, h.size, fun k hk _ => h.block k hk⟩
theorem Kept.setCell {L R : Nat} {a w : World} (h : Kept L R a w) {p : Addr} (h1 : L ≤ p.block) (h2 : p.block < R) (u : Value) : Kept L R a (w.setCell p u) :=
  h.trans ⟨rfl, rfl, rfl, by simp [World.setCell], fun k _ hr => Below.heap_setCell _ _ _ _ (by omega)⟩
theorem Kept.cell {L R : Nat} {w w' : World} (h : Kept L R w w') {b o : Nat} {v : Value} (hc : w.cell? ⟨b, o, none⟩ = some v) (hr : b < L ∨ R ≤ b) : w'.cell? ⟨b, o, none⟩ = some v := by
  rw [World.cell?_of_block (w := w) (h.block b (cell_lt hc) hr)]; exact hc
theorem Kept.row {L R : Nat} {w w' : World} (h : Kept L R w w') {b n : Nat} {t : TypeId} {f : Nat → Value} (hc : w.rowIs b t n f) (hr : b < L ∨ R ≤ b) : w'.rowIs b t n f :=
  hc.of_block (h.block b hc.lt hr)

/-- Each row keeps its type and its size. -/
def Shape (w w' : World) : Prop := ∀ b t n f, w.rowIs b t n f → ∃ f', w'.rowIs b t n f'
theorem Shape.refl (w : World) : Shape w w := fun _ _ _ f h => ⟨f, h⟩
theorem Shape.trans {a b c : World} (h : Shape a b) (k : Shape b c) : Shape a c := fun x t n f hx => by
  obtain ⟨f', h'⟩ := h x t n f hx; exact k x t n f' h'
theorem Shape.of_below {w w' : World} (h : Below w.heap.size w w') : Shape w w' := fun _ _ _ f hx => ⟨f, hx.of_block (h.block _ hx.lt)⟩
theorem Shape.setCell (w : World) (b o : Nat) (u : Value) : Shape w (w.setCell ⟨b, o, none⟩ u) := fun x t n f hx => by
  by_cases e : x = b
  · subst e; exact ⟨_, hx.set o u⟩
  · exact ⟨f, hx.setOther (by simpa using e) u⟩
theorem row_types {w : World} {b n m : Nat} {t u : TypeId} {f g : Nat → Value} (h : w.rowIs b t n f) (k : w.rowIs b u m g) : t = u := by
  obtain ⟨c, hb, _⟩ := h
  obtain ⟨d, hd, _⟩ := k
  rw [hb] at hd
  simp at hd
  exact hd.2

/-- Calls in a row of their own, in blocks L .. R - 1. -/
def CallsIn (L R : Nat) (w : World) (a : Option Addr) (n : Nat) : Prop := ∃ b f, a = some ⟨b, 0, none⟩ ∧ L ≤ b ∧ b < R ∧ w.rowIs b 113 (n * 4) f
theorem CallsIn.shape {L R : Nat} {w w' : World} {a : Option Addr} {n : Nat} (h : CallsIn L R w a n) (hs : Shape w w') : CallsIn L R w' a n := by
  obtain ⟨b, f, e, h1, h2, hr⟩ := h
  obtain ⟨f', hr'⟩ := hs _ _ _ _ hr
  exact ⟨b, f', e, h1, h2, hr'⟩

set_option maxHeartbeats 1000000 in
theorem markStringS_any (b n c : Nat) (k : Nat) (f : Nat → Value) (w : World) (hn : n ≤ 1048576) (hk : k ≤ 100000000) (hrow : w.rowIs b 9 n f) :
    Calls Tryz.prog 45 #[.slice (some ⟨b, 0, none⟩) n c, .int .i64 k] w fun e w' => e = .returned (.int .i64 ((k + n : Nat) : Int)) ∧ Kept b (b + 1) w w' ∧ Shape w w' := by
  go_enter Tryz.func45, Tryz.ntmps45
  go_wp2
  go_loopw [1, 5] (fun q i wr => ∃ m : Nat, m ≤ n ∧ i = .int .i64 m ∧ q = .int .i64 ((k + m : Nat) : Int) ∧ (∃ g, wr.rowIs b 9 n g) ∧ Kept b (b + 1) w wr ∧ Hid (Shape w wr)) (fun _ i _ => n - (intOf i).toNat)
  case atStart => exact ⟨0, Nat.zero_le _, rfl, rfl, ⟨f, hrow⟩, Kept.refl _ _ _, Shape.refl _⟩
  case round =>
    obtain ⟨m, hm, rfl, rfl, ⟨g, hg⟩, hkept, hsh⟩ := hrel
    clear hrow
    by_cases hlt : m < n
    · go_wp2_with fail
      refine (markText_any _ _ (by omega)).mono ?_
      rintro e w1 ⟨rfl, hb1⟩
      have hg1 := hg.of_block (hb1.block _ hg.lt)
      have hfr := hg1.frozen m
      have hce := hg1.cell hlt
      generalize (⟨(markL (k + m)).toArray⟩ : ByteArray) = s at *
      go_wp2_with fail
      go_roundw
      case rel =>
        exact ⟨m + 1, by omega, by go_num, by go_num, ⟨_, hg1.set m _⟩, (hkept.trans (Kept.of_below hb1)).setCell (Nat.le_refl _) (Nat.lt_succ_self _) _, (hsh.out.trans (Shape.of_below hb1)).trans (Shape.setCell _ _ _ _)⟩
      case measure => simp [intOf]; omega
    · go_wp2
      go_ret
      have : m = n := by omega
      subst this
      exact ⟨rfl, hkept, hsh.out⟩

set_option maxHeartbeats 1000000 in
theorem markCallS_any (b n c : Nat) (k : Nat) (f : Nat → Value) (w : World) (hn : n ≤ 10000000) (hk : k ≤ 100000000) (hrow : w.rowIs b 113 (n * 4) f) :
    Calls Tryz.prog 74 #[.slice (some ⟨b, 0, none⟩) n c, .int .i64 k] w fun e w' => e = .returned (.int .i64 ((k + n * 4 : Nat) : Int)) ∧ Kept b (b + 1) w w' ∧ Shape w w' := by
  go_enter Tryz.func74, Tryz.ntmps74
  go_wp2
  go_loopw [1, 5] (fun q i wr => ∃ m : Nat, m ≤ n ∧ i = .int .i64 m ∧ q = .int .i64 ((k + m * 4 : Nat) : Int) ∧ (∃ g, wr.rowIs b 113 (n * 4) g) ∧ Kept b (b + 1) w wr ∧ Hid (Shape w wr)) (fun _ i _ => n - (intOf i).toNat)
  case atStart => exact ⟨0, Nat.zero_le _, rfl, by simp, ⟨f, hrow⟩, Kept.refl _ _ _, Shape.refl _⟩
  case round =>
    obtain ⟨m, hm, rfl, rfl, ⟨g, hg⟩, hkept, hsh⟩ := hrel
    clear hrow
    by_cases hlt : m < n
    · have hfr := hg.frozen
      have hce0 := hg.cell (i := m * 4) (by omega)
      have hce1 := hg.cell (i := m * 4 + 1) (by omega)
      have hce2 := hg.cell (i := m * 4 + 2) (by omega)
      have hce3 := hg.cell (i := m * 4 + 3) (by omega)
      go_wp2
      go_roundw
      case rel =>
        refine ⟨m + 1, by omega, by go_num, by go_num, ⟨_, (((hg.set (m * 4) _).set (m * 4 + 1) _).set (m * 4 + 2) _).set (m * 4 + 3) _⟩, (((hkept.setCell (Nat.le_refl _) (Nat.lt_succ_self _) _).setCell (Nat.le_refl _) (Nat.lt_succ_self _) _).setCell (Nat.le_refl _) (Nat.lt_succ_self _) _).setCell (Nat.le_refl _) (Nat.lt_succ_self _) _, (((hsh.out.trans (Shape.setCell _ _ _ _)).trans (Shape.setCell _ _ _ _)).trans (Shape.setCell _ _ _ _)).trans (Shape.setCell _ _ _ _)⟩
      case measure => simp [intOf]; omega
    · go_wp2
      go_ret
      have : m = n := by omega
      subst this
      exact ⟨rfl, hkept, hsh.out⟩

/-- How many marks trips take whose calls are so many. -/
def sumMarks : List Nat → Nat
  | [] => 0
  | l :: r => 1 + l * 4 + sumMarks r
theorem sumMarks_append (l m : List Nat) : sumMarks (l ++ m) = sumMarks l + sumMarks m := by
  induction l with
  | nil => simp [sumMarks]
  | cons a l ih => simp [sumMarks, ih]; omega
theorem sumMarks_take (l : List Nat) (k : Nat) (h : k < l.length) : sumMarks (l.take (k + 1)) = sumMarks (l.take k) + (1 + l[k] * 4) := by
  rw [take_snoc l k h, sumMarks_append]; simp [sumMarks]
theorem sumMarks_take_le (l : List Nat) (k : Nat) : sumMarks (l.take k) ≤ sumMarks l := by
  have h := sumMarks_append (l.take k) (l.drop k)
  rw [List.take_append_drop] at h; omega
/-- Trips in a row of their own, their calls in rows of their own, all in blocks L .. R - 1. -/
def TripsIn (L R : Nat) (w : World) (a : Option Addr) (ls : List Nat) : Prop :=
  ∃ b f, a = some ⟨b, 0, none⟩ ∧ L ≤ b ∧ b < R ∧ w.rowIs b 81 (ls.length * 2) f ∧ ∀ i (h : i < ls.length), ∃ ca cc, f (i * 2 + 1) = .slice ca ls[i] cc ∧ CallsIn L R w ca ls[i]
def BookIn (L R : Nat) (w : World) (v : Value) (n : Nat) (ls : List Nat) : Prop :=
  ∃ b sc ta tc, v = .agg #[.slice (some ⟨b, 0, none⟩) n sc, .slice ta ls.length tc] ∧ L ≤ b ∧ b < R ∧ (∃ f, w.rowIs b 9 n f) ∧ TripsIn L R w ta ls

set_option maxHeartbeats 1000000 in
theorem markTripS_any (L R : Nat) (a : Option Addr) (ls : List Nat) (c : Nat) (k : Nat) (w : World) (hn : ls.length ≤ 1048576) (hs : sumMarks ls ≤ 10000000) (hk : k ≤ 10000000) (hin : TripsIn L R w a ls) :
    Calls Tryz.prog 46 #[.slice a ls.length c, .int .i64 k] w fun e w' => e = .returned (.int .i64 ((k + sumMarks ls : Nat) : Int)) ∧ Kept L R w w' ∧ Shape w w' := by
  obtain ⟨b, f, rfl, hL, hR, hrow, hcs⟩ := hin
  go_enter Tryz.func46, Tryz.ntmps46
  go_wp2
  go_loopw [1, 5] (fun q i wr => ∃ m : Nat, m ≤ ls.length ∧ i = .int .i64 m ∧ q = .int .i64 ((k + sumMarks (ls.take m) : Nat) : Int) ∧ (∃ g, wr.rowIs b 81 (ls.length * 2) g ∧ ∀ i (h : i < ls.length), ∃ ca cc, g (i * 2 + 1) = .slice ca ls[i] cc ∧ CallsIn L R wr ca ls[i]) ∧ Kept L R w wr ∧ Hid (Shape w wr)) (fun _ i _ => ls.length - (intOf i).toNat)
  case atStart => exact ⟨0, Nat.zero_le _, rfl, by simp [sumMarks], ⟨f, hrow, hcs⟩, Kept.refl _ _ _, Shape.refl _⟩
  case round =>
    obtain ⟨m, hm, rfl, rfl, ⟨g, hg, hgc⟩, hkept, hsh⟩ := hrel
    clear hrow hcs
    by_cases hlt : m < ls.length
    · have HT : Hid (sumMarks (ls.take (m + 1)) = sumMarks (ls.take m) + (1 + ls[m] * 4)) := sumMarks_take ls m hlt
      have HL : Hid (sumMarks (ls.take (m + 1)) ≤ sumMarks ls) := sumMarks_take_le ls (m + 1)
      have hle : sumMarks (ls.take m) ≤ sumMarks ls := sumMarks_take_le ls m
      have hl4 : ls[m] ≤ 10000000 := by have := HT.out; have := HL.out; omega
      obtain ⟨ca, cc, hca, hci⟩ := hgc m hlt
      have HG : Hid (∀ i (h : i < ls.length), ∃ ca cc, g (i * 2 + 1) = .slice ca ls[i] cc ∧ CallsIn L R wr ca ls[i]) := hgc
      generalize hq : sumMarks (ls.take m) = q at *
      clear hgc hq
      go_wp2_with fail
      refine (markText_any _ _ (by omega)).mono ?_
      rintro e w1 ⟨rfl, hb1⟩
      have hg1 := hg.of_block (hb1.block _ hg.lt)
      have hfr := hg1.frozen
      have hce := hg1.cell (i := m * 2) (by omega)
      have hce1 := hg1.cell (i := m * 2 + 1) (by omega)
      rw [hca] at hce1
      obtain ⟨bc, fc, rfl, hcL, hcR, hcrow⟩ := (hci.shape (Shape.of_below hb1))
      have hne : bc ≠ b := fun e => by
        subst e
        exact absurd (row_types hcrow hg1) (by decide)
      generalize (⟨(markL (k + q)).toArray⟩ : ByteArray) = s at *
      have hcrow2 := hcrow.setOther (a := ⟨b, m * 2, none⟩) (by simpa using hne) (.string s)
      have K1 : Kept L R w (w1.setCell ⟨b, m * 2, none⟩ (.string s)) := (hkept.trans (Kept.of_below hb1)).setCell hL hR _
      have S1 : Hid (Shape w (w1.setCell ⟨b, m * 2, none⟩ (.string s))) := (hsh.out.trans (Shape.of_below hb1)).trans (Shape.setCell _ _ _ _)
      have S0 : Hid (Shape wr (w1.setCell ⟨b, m * 2, none⟩ (.string s))) := (Shape.of_below hb1).trans (Shape.setCell _ _ _ _)
      have hg2 := hg1.set (m * 2) (.string s)
      have hz2 : (w1.setCell ⟨b, m * 2, none⟩ (.string s)).cell? ⟨b, m * 2 + 1, none⟩ = some (.slice (some ⟨bc, 0, none⟩) ls[m] cc) := by
        rw [hg2.cell (by omega)]; simp; exact hca
      go_wp2_with fail
      refine (markCallS_any bc ls[m] _ (k + q + 1) _ _ (by omega) (by omega) hcrow2).mono ?_
      rintro e w3 ⟨rfl, hk3, hs3⟩
      have hg3 := hk3.row hg2 (by omega)
      go_wp2_with fail
      go_roundw
      case rel =>
        refine ⟨m + 1, by omega, by go_num, ?_, ⟨_, hg3, fun i h => ?_⟩, K1.trans (hk3.wide hcL (by omega)), S1.out.trans hs3⟩
        · rw [HT.out]; go_num
        · obtain ⟨cb, cd, x1, x2⟩ := HG.out i h
          exact ⟨cb, cd, by rw [if_neg (by omega)]; exact x1, x2.shape (S0.out.trans hs3)⟩
      case measure => simp [intOf]; omega
    · go_wp2
      go_ret
      have e : ls.take m = ls := List.take_of_length_le (by omega)
      rw [e]
      exact ⟨rfl, hkept, hsh.out⟩

set_option maxHeartbeats 1000000 in
theorem markBook_any (L R : Nat) (v : Value) (n : Nat) (ls : List Nat) (k : Nat) (w : World) (hn : n ≤ 1048576) (hm : ls.length ≤ 1048576) (hs : sumMarks ls ≤ 10000000) (hk : k ≤ 1000000) (hin : BookIn L R w v n ls) :
    Calls Tryz.prog 15 #[v, .int .i64 k] w fun e w' => e = .returned (.int .i64 ((k + n + sumMarks ls : Nat) : Int)) ∧ Kept L R w w' ∧ Shape w w' := by
  obtain ⟨b, sc, ta, tc, rfl, hL, hR, ⟨f, hrow⟩, hts⟩ := hin
  have hb0 : Below w.heap.size w (w.alloc (.cells #[.slice (some ⟨b, 0, none⟩) n sc, .slice ta ls.length tc] 33)) := (Below.refl _ _).alloc (Nat.le_refl _) _
  have hrow0 := hrow.of_block (hb0.block _ hrow.lt)
  have hbl := hrow.lt
  go_enter Tryz.func15, Tryz.ntmps15
  go_wp2_with fail
  refine (markStringS_any b n _ k f _ hn (by omega) (by exact hrow0)).mono ?_
  rintro e w1 ⟨rfl, hk1, hs1⟩
  have q1 : w1.cell? ⟨w.heap.size, 1, none⟩ = some (.slice ta ls.length tc) := hk1.cell (by simp [go_sem]) (by omega)
  have HT : Hid (TripsIn L R w1 ta ls) := by
    obtain ⟨b', f', rfl, hL', hR', hrow', hcs'⟩ := hts
    have hr0 := hrow'.of_block (hb0.block _ hrow'.lt)
    have hne : b' ≠ b := fun e => by
      subst e
      exact absurd (row_types hrow' hrow) (by decide)
    have hr1 := hk1.row hr0 (by omega)
    refine ⟨b', f', rfl, hL', hR', hr1, fun i h => ?_⟩
    obtain ⟨ca, cc, x1, x2⟩ := hcs' i h
    exact ⟨ca, cc, x1, (x2.shape (Shape.of_below hb0)).shape hs1⟩
  clear hts hrow hrow0
  go_wp2_with fail
  refine (markTripS_any L R _ ls _ (k + n) _ hm hs (by omega) (by exact HT.out)).mono ?_
  rintro e w2 ⟨rfl, hk2, hs2⟩
  go_wp2_with fail
  go_ret
  exact ⟨ret_int (by omega), ((Kept.of_below hb0).trans (hk1.wide hL (by omega))).trans hk2, ((Shape.of_below hb0).trans hs1).trans hs2⟩

set_option maxHeartbeats 1000000 in
theorem markReportS_any (b n c : Nat) (k : Nat) (f : Nat → Value) (w : World) (hn : n ≤ 1048576) (hk : k ≤ 100000000) (hrow : w.rowIs b 64 (n * 5) f) :
    Calls Tryz.prog 16 #[.slice (some ⟨b, 0, none⟩) n c, .int .i64 k] w fun e w' => e = .returned (.int .i64 ((k + n * 5 : Nat) : Int)) ∧ Kept b (b + 1) w w' ∧ Shape w w' := by
  go_enter Tryz.func16, Tryz.ntmps16
  go_wp2
  go_loopw [1, 5] (fun q i wr => ∃ m : Nat, m ≤ n ∧ i = .int .i64 m ∧ q = .int .i64 ((k + m * 5 : Nat) : Int) ∧ (∃ g, wr.rowIs b 64 (n * 5) g) ∧ Kept b (b + 1) w wr ∧ Hid (Shape w wr)) (fun _ i _ => n - (intOf i).toNat)
  case atStart => exact ⟨0, Nat.zero_le _, rfl, by simp, ⟨f, hrow⟩, Kept.refl _ _ _, Shape.refl _⟩
  case round =>
    obtain ⟨m, hm, rfl, rfl, ⟨g, hg⟩, hkept, hsh⟩ := hrel
    clear hrow
    by_cases hlt : m < n
    · have hfr := hg.frozen
      have hce0 := hg.cell (i := m * 5) (by omega)
      have hce1 := hg.cell (i := m * 5 + 1) (by omega)
      have hce2 := hg.cell (i := m * 5 + 2) (by omega)
      have hce3 := hg.cell (i := m * 5 + 3) (by omega)
      have hce4 := hg.cell (i := m * 5 + 4) (by omega)
      go_wp2
      go_roundw
      case rel =>
        refine ⟨m + 1, by omega, by go_num, by go_num, ⟨_, ((((hg.set (m * 5) _).set (m * 5 + 1) _).set (m * 5 + 2) _).set (m * 5 + 3) _).set (m * 5 + 4) _⟩, ((((hkept.setCell (Nat.le_refl _) (Nat.lt_succ_self _) _).setCell (Nat.le_refl _) (Nat.lt_succ_self _) _).setCell (Nat.le_refl _) (Nat.lt_succ_self _) _).setCell (Nat.le_refl _) (Nat.lt_succ_self _) _).setCell (Nat.le_refl _) (Nat.lt_succ_self _) _, ((((hsh.out.trans (Shape.setCell _ _ _ _)).trans (Shape.setCell _ _ _ _)).trans (Shape.setCell _ _ _ _)).trans (Shape.setCell _ _ _ _)).trans (Shape.setCell _ _ _ _)⟩
      case measure => simp [intOf]; omega
    · go_wp2
      go_ret
      have : m = n := by omega
      subst this
      exact ⟨rfl, hkept, hsh.out⟩

end Go.Proofs.YtjioingdpfgadabGreatDoor
namespace Go.Proofs.YtjioingdpfgadabGreatDoor
open Go Go.RowKit Go.Deep

set_option maxHeartbeats 400000 in
theorem toStringS_own (a : Option Addr) (ss : List ByteArray) (c : Nat) (w : World) (hn : ss.length ≤ 1048576) (hat : StrsAt w a ss) :
    Calls Tryz.prog 34 #[.slice a ss.length c] w fun e w' => ∃ b, e = .returned (.slice (some ⟨b, 0, none⟩) ss.length ss.length) ∧ w.heap.size ≤ b ∧ StrsAt w' (some ⟨b, 0, none⟩) ss ∧ Below w.heap.size w w' ∧ ∃ f, w'.rowIs b 9 ss.length f := by
  have hmk := run_make_wide 22 9 (.string ByteArray.empty) 1 16 u22 info9 .i64 .i64 ss.length (by omega) (by omega)
  obtain ⟨f0, hf0⟩ := rowIs_wide w #[.string ByteArray.empty] (ss.length * 1) 9
  go_enter Tryz.func34, Tryz.ntmps34
  go_wp2
  go_loopw [4] (fun i wr => ∃ k : Nat, k ≤ ss.length ∧ i = .int .i64 k ∧ (∃ f, wr.rowIs w.heap.size 9 ss.length f ∧ ∀ j (_ : j < k) (h : j < ss.length), f j = .string ss[j]) ∧ Below w.heap.size w wr) (fun i _ => ss.length - (intOf i).toNat)
  case atStart =>
    rw [Nat.mul_one] at hf0
    exact ⟨0, Nat.zero_le _, rfl, ⟨f0, by simpa using hf0, fun j hj => by omega⟩, (Below.refl _ _).alloc (Nat.le_refl _) _⟩
  case round =>
    obtain ⟨k, hk, rfl, ⟨f, hrow, hf⟩, hbel⟩ := hrel
    clear hf0
    by_cases hlt : k < ss.length
    · obtain ⟨b, o, rfl, hc⟩ := hat.keep hbel k hlt
      have hfr := hrow.frozen k
      have hce := hrow.cell hlt
      have H : Hid (∀ j (_ : j < k) (h : j < ss.length), f j = .string ss[j]) := hf
      clear hmk hat hf
      go_wp2
      go_roundw
      case rel =>
        refine ⟨k + 1, by omega, by go_num, ⟨_, hrow.set k _, fun j hj h => ?_⟩, hbel.setCell (Nat.le_refl _) _⟩
        by_cases e : j = k
        · subst e; rw [if_pos rfl]
        · rw [if_neg e]; exact H.out j (by omega) h
      case measure => simp [intOf]; omega
    · go_wp2
      go_ret
      refine ⟨w.heap.size, rfl, Nat.le_refl _, fun i hi => ⟨_, _, rfl, ?_⟩, hbel, ⟨f, hrow⟩⟩
      rw [Nat.zero_add, hrow.cell hi, hf i (by omega) hi]

set_option maxHeartbeats 400000 in
theorem toCallS_own (a : Option Addr) (cs : List CallD) (c : Nat) (w : World) (hn : cs.length ≤ 1048576) (hat : CallsAt w a cs) :
    Calls Tryz.prog 87 #[.slice a cs.length c] w fun e w' => ∃ b, e = .returned (.slice (some ⟨b, 0, none⟩) cs.length cs.length) ∧ w.heap.size ≤ b ∧ CallsAt w' (some ⟨b, 0, none⟩) cs ∧ Below w.heap.size w w' ∧ ∃ f, w'.rowIs b 113 (cs.length * 4) f := by
  have hmk := run_make_wide 79 113 (.agg #[.int .i64 0, .int .i64 0, .int .i64 0, .int .i64 0]) 4 32 u42 info67 .i64 .i64 cs.length (by omega) (by omega)
  obtain ⟨f0, hf0⟩ := rowIs_wide w #[.int .i64 0, .int .i64 0, .int .i64 0, .int .i64 0] (cs.length * 4) 113
  go_enter Tryz.func87, Tryz.ntmps87
  go_wp2
  go_loopw [4] (fun i wr => ∃ k : Nat, k ≤ cs.length ∧ i = .int .i64 k ∧ (∃ f, wr.rowIs w.heap.size 113 (cs.length * 4) f ∧ ∀ j (_ : j < k) (h : j < cs.length), f (j * 4) = .int .i64 cs[j].st ∧ f (j * 4 + 1) = .int .i64 cs[j].co ∧ f (j * 4 + 2) = .int .i64 cs[j].go ∧ f (j * 4 + 3) = .int .i64 cs[j].tr) ∧ Below w.heap.size w wr) (fun i _ => cs.length - (intOf i).toNat)
  case atStart =>
    exact ⟨0, Nat.zero_le _, rfl, ⟨f0, by simpa using hf0, fun j hj => by omega⟩, (Below.refl _ _).alloc (Nat.le_refl _) _⟩
  case round =>
    obtain ⟨k, hk, rfl, ⟨f, hrow, hf⟩, hbel⟩ := hrel
    clear hf0
    by_cases hlt : k < cs.length
    · obtain ⟨b, o, rfl, hc0, hc1, hc2, hc3⟩ := hat.keep hbel k hlt
      have H : Hid (∀ j (_ : j < k) (h : j < cs.length), f (j * 4) = .int .i64 cs[j].st ∧ f (j * 4 + 1) = .int .i64 cs[j].co ∧ f (j * 4 + 2) = .int .i64 cs[j].go ∧ f (j * 4 + 3) = .int .i64 cs[j].tr) := hf
      clear hmk hat hf
      go_wp2_with fail
      refine (toCall_any _ _ _ _ _).mono ?_
      rintro e w1 ⟨rfl, hb1⟩
      have hrow1 := hrow.of_block (hb1.block _ hrow.lt)
      have hfr := hrow1.frozen
      have hce0 := hrow1.cell (i := k * 4) (by omega)
      have hce1 := hrow1.cell (i := k * 4 + 1) (by omega)
      have hce2 := hrow1.cell (i := k * 4 + 2) (by omega)
      have hce3 := hrow1.cell (i := k * 4 + 3) (by omega)
      clear hc0 hc1 hc2 hc3
      go_wp2_with fail
      go_roundw
      case rel =>
        have B1 := hbel.trans (hb1.mono hbel.size)
        refine ⟨k + 1, by omega, by go_num, ⟨_, (((hrow1.set (k * 4) _).set (k * 4 + 1) _).set (k * 4 + 2) _).set (k * 4 + 3) _, fun j hj h => ?_⟩, (((B1.setCell (Nat.le_refl _) _).setCell (Nat.le_refl _) _).setCell (Nat.le_refl _) _).setCell (Nat.le_refl _) _⟩
        by_cases e : j = k
        · subst e; simp
        · obtain ⟨e0, e1, e2, e3⟩ := H.out j (by omega) h
          refine ⟨?_, ?_, ?_, ?_⟩ <;> (rw [if_neg (by omega), if_neg (by omega), if_neg (by omega), if_neg (by omega)]; assumption)
      case measure => simp [intOf]; omega
    · go_wp2
      go_ret
      refine ⟨w.heap.size, rfl, Nat.le_refl _, fun i hi => ⟨_, _, rfl, ?_⟩, hbel, ⟨f, hrow⟩⟩
      obtain ⟨e0, e1, e2, e3⟩ := hf i (by omega) hi
      simp only [Nat.zero_add]
      exact ⟨by rw [hrow.cell (by omega), e0], by rw [hrow.cell (by omega), e1], by rw [hrow.cell (by omega), e2], by rw [hrow.cell (by omega), e3]⟩

set_option maxHeartbeats 400000 in
theorem toTrip_own (nm : ByteArray) (ca : Option Addr) (cs : List CallD) (cc : Nat) (w : World) (hn : cs.length ≤ 1048576) (hat : CallsAt w ca cs) :
    Calls Tryz.prog 63 #[.agg #[.string nm, .slice ca cs.length cc]] w fun e w' => ∃ b, e = .returned (.agg #[.string nm, .slice (some ⟨b, 0, none⟩) cs.length cs.length]) ∧ w.heap.size ≤ b ∧ CallsAt w' (some ⟨b, 0, none⟩) cs ∧ Below w.heap.size w w' ∧ ∃ f, w'.rowIs b 113 (cs.length * 4) f := by
  go_enter Tryz.func63, Tryz.ntmps63
  go_wp2_with fail
  refine (toCallS_own _ _ _ _ hn (by exact hat.keep ((((Below.refl _ _).alloc (Nat.le_refl _) _).alloc (by simp) _).alloc (by simp; omega) _))).mono ?_
  rintro e w1 ⟨b, rfl, hb, hat1, hb1, ⟨fc, hrc⟩⟩
  have HRC : Hid (w1.rowIs b 113 (cs.length * 4) fc) := hrc
  clear hrc
  obtain ⟨hc, hf⟩ := bcell hb1
  simp at hb
  go_wp2_with fail
  refine bodyPost_ret (v := .agg #[.string nm, .slice (some ⟨b, 0, none⟩) cs.length cs.length]) (by simp [results, Tryz.results63, go_sem, hc]) rfl ⟨b, rfl, by omega, ?_, ?_, ?_⟩
  · exact ((hat1.setOther (by simp; omega)).setOther (by simp; omega)).setOther (by simp; omega)
  · exact (((((((Below.refl _ _).alloc (Nat.le_refl _) _).alloc (by simp) _).alloc (by simp; omega) _).trans (hb1.mono (by simp; omega))).setCell (by simp; omega) _).setCell (by simp) _).setCell (by simp) _
  · exact ⟨fc, ((HRC.out.setOther (by simp; omega) _).setOther (by simp; omega) _).setOther (by simp; omega) _⟩

set_option maxHeartbeats 400000 in
theorem toTripS_own (a : Option Addr) (ts : List TripD) (c : Nat) (w : World) (hn : ts.length ≤ 1048576) (hns : ∀ i (h : i < ts.length), ts[i].calls.length ≤ 1048576) (hat : TripsAt w a ts) :
    Calls Tryz.prog 35 #[.slice a ts.length c] w fun e w' => ∃ b, e = .returned (.slice (some ⟨b, 0, none⟩) ts.length ts.length) ∧ w.heap.size ≤ b ∧ TripsFrom w.heap.size w' (some ⟨b, 0, none⟩) ts ∧ Below w.heap.size w w' ∧ TripsIn w.heap.size w'.heap.size w' (some ⟨b, 0, none⟩) (ts.map (·.calls.length)) := by
  have hmk := run_make_wide 31 81 (.agg #[.string ByteArray.empty, .slice none 0 0]) 2 40 u30 info44 .i64 .i64 ts.length (by omega) (by omega)
  obtain ⟨f0, hf0⟩ := rowIs_wide w #[.string ByteArray.empty, .slice none 0 0] (ts.length * 2) 81
  go_enter Tryz.func35, Tryz.ntmps35
  go_wp2
  go_loopw [4] (fun i wr => ∃ k : Nat, k ≤ ts.length ∧ i = .int .i64 k ∧ (∃ f, wr.rowIs w.heap.size 81 (ts.length * 2) f ∧ ∀ j (_ : j < k) (h : j < ts.length), f (j * 2) = .string ts[j].name ∧ ∃ b cc, w.heap.size < b ∧ f (j * 2 + 1) = .slice (some ⟨b, 0, none⟩) ts[j].calls.length cc ∧ CallsAt wr (some ⟨b, 0, none⟩) ts[j].calls ∧ ∃ g, wr.rowIs b 113 (ts[j].calls.length * 4) g) ∧ Below w.heap.size w wr) (fun i _ => ts.length - (intOf i).toNat)
  case atStart =>
    exact ⟨0, Nat.zero_le _, rfl, ⟨f0, by simpa using hf0, fun j hj => by omega⟩, (Below.refl _ _).alloc (Nat.le_refl _) _⟩
  case round =>
    obtain ⟨k, hk, rfl, ⟨f, hrow, hf⟩, hbel⟩ := hrel
    clear hf0
    by_cases hlt : k < ts.length
    · obtain ⟨b, o, ca, cc, rfl, hc0, hc1, hca⟩ := hat.keep hbel k hlt
      have H : Hid (∀ j (_ : j < k) (h : j < ts.length), f (j * 2) = .string ts[j].name ∧ ∃ b cc, w.heap.size < b ∧ f (j * 2 + 1) = .slice (some ⟨b, 0, none⟩) ts[j].calls.length cc ∧ CallsAt wr (some ⟨b, 0, none⟩) ts[j].calls ∧ ∃ g, wr.rowIs b 113 (ts[j].calls.length * 4) g) := hf
      have HC : Hid (CallsAt wr ca ts[k].calls) := hca
      have hnk := hns k hlt
      clear hmk hat hf hca hns
      go_wp2_with fail
      refine (toTrip_own _ _ _ _ _ hnk HC.out).mono ?_
      rintro e w1 ⟨b', rfl, hb', hat1, hb1, ⟨fc, hrc⟩⟩
      have HRC : Hid (w1.rowIs b' 113 (ts[k].calls.length * 4) fc) := hrc
      clear hrc
      have hrow1 := hrow.of_block (hb1.block _ hrow.lt)
      have hfr := hrow1.frozen
      have hce0 := hrow1.cell (i := k * 2) (by omega)
      have hce1 := hrow1.cell (i := k * 2 + 1) (by omega)
      have hlt1 := hrow.lt
      have HA : Hid (CallsAt w1 (some ⟨b', 0, none⟩) ts[k].calls) := hat1
      clear hc0 hc1 hat1
      go_wp2_with fail
      go_roundw
      case rel =>
        have B1 := hbel.trans (hb1.mono hbel.size)
        refine ⟨k + 1, by omega, by go_num, ⟨_, (hrow1.set (k * 2) _).set (k * 2 + 1) _, fun j hj h => ?_⟩, (B1.setCell (Nat.le_refl _) _).setCell (Nat.le_refl _) _⟩
        by_cases e : j = k
        · subst e
          refine ⟨by simp, b', _, by omega, by simp; rfl, ?_, ?_⟩
          · exact (HA.out.setOther (by simp; omega)).setOther (by simp; omega)
          · exact ⟨fc, (HRC.out.setOther (by simp; omega) _).setOther (by simp; omega) _⟩
        · obtain ⟨e0, bb, cx, e1, e2, e3, ⟨g4, e4⟩⟩ := H.out j (by omega) h
          refine ⟨?_, bb, cx, e1, ?_, ?_, ?_⟩
          · rw [if_neg (by omega), if_neg (by omega)]; exact e0
          · rw [if_neg (by omega), if_neg (by omega)]; exact e2
          · exact ((e3.keep hb1).setOther (by simp; omega)).setOther (by simp; omega)
          · exact ⟨g4, ((e4.of_block (hb1.block _ e4.lt)).setOther (by simp; omega) _).setOther (by simp; omega) _⟩
      case measure => simp [intOf]; omega
    · go_wp2
      go_ret
      refine ⟨w.heap.size, rfl, Nat.le_refl _, fun i hi => ?_, hbel, ⟨w.heap.size, f, rfl, Nat.le_refl _, hrow.lt, by simpa using hrow, fun i hi => ?_⟩⟩
      · obtain ⟨e0, bb, cx, e1, e2, e3, _⟩ := hf i (by omega) hi
        refine ⟨_, _, bb, cx, Nat.le_refl _, Nat.le_of_lt e1, rfl, ?_, ?_, e3⟩
        · simp only [Nat.zero_add]; rw [hrow.cell (by omega), e0]
        · simp only [Nat.zero_add]; rw [hrow.cell (by omega), e2]
      · have hi' : i < ts.length := by simpa using hi
        obtain ⟨e0, bb, cx, e1, e2, e3, ⟨g4, e4⟩⟩ := hf i (by omega) hi'
        refine ⟨some ⟨bb, 0, none⟩, cx, by simpa using e2, ⟨bb, g4, rfl, Nat.le_of_lt e1, e4.lt, by simpa using e4⟩⟩

set_option maxHeartbeats 400000 in
theorem toBook_own (v : Value) (bk : BookD) (w : World) (hn : bookSize bk ≤ 1048576) (hat : BookAt w v bk) :
    Calls Tryz.prog 9 #[v] w fun e w' => ∃ v', e = .returned v' ∧ BookAt w' v' bk ∧ Below w.heap.size w w' ∧ BookIn w.heap.size w'.heap.size w' v' bk.sts.length (bk.trips.map (·.calls.length)) := by
  obtain ⟨sa, sc, ta, tc, rfl, hsa, hta⟩ := hat
  have n1 : bk.sts.length ≤ 1048576 := by unfold bookSize strsSize at hn; omega
  have n2 : bk.trips.length ≤ 1048576 := by unfold bookSize tripsSize at hn; omega
  have n3 : ∀ i (h : i < bk.trips.length), bk.trips[i].calls.length ≤ 1048576 := by
    intro i h
    have := sumTrips_get bk.trips i h
    unfold bookSize tripsSize at hn; unfold tripSize at this; omega
  have hb0 : Below w.heap.size w (((w.alloc (.cells #[.slice sa bk.sts.length sc, .slice ta bk.trips.length tc] 25)).alloc (.cells #[.slice none 0 0, .slice none 0 0] 33)).alloc (.cells #[.slice none 0 0, .slice none 0 0] 33)) := (((Below.refl _ _).alloc (Nat.le_refl _) _).alloc (by simp) _).alloc (by simp; omega) _
  clear hn
  go_enter Tryz.func9, Tryz.ntmps9
  go_wp2_with fail
  refine (toStringS_own _ _ _ _ n1 (by exact hsa.keep hb0)).mono ?_
  rintro e w1 ⟨b1, rfl, hb1, hat1, hbe1, ⟨fs, hrs⟩⟩
  have HRS : Hid (w1.rowIs b1 9 bk.sts.length fs) := hrs
  clear hrs
  have hz : w.heap.size + 1 + 1 + 1 ≤ w1.heap.size := by have := hbe1.size; simpa using this
  simp at hb1
  have r1 : w1.rowIs (w.heap.size + 1) 33 2 (fun i => if i = 0 then .slice none 0 0 else .slice none 0 0) := by
    refine World.rowIs.of_block ?_ (hbe1.block _ (by simp))
    have h := (rowIs_pair (w.alloc (.cells #[.slice sa bk.sts.length sc, .slice ta bk.trips.length tc] 25)) (.slice none 0 0) (.slice none 0 0) 33).alloc (.cells #[.slice none 0 0, .slice none 0 0] 33)
    rwa [nblk_alloc] at h
  have r2 : w1.rowIs (w.heap.size + 1 + 1) 33 2 (fun i => if i = 0 then .slice none 0 0 else .slice none 0 0) := by
    refine World.rowIs.of_block ?_ (hbe1.block _ (by simp))
    have h := rowIs_pair ((w.alloc (.cells #[.slice sa bk.sts.length sc, .slice ta bk.trips.length tc] 25)).alloc (.cells #[.slice none 0 0, .slice none 0 0] 33)) (.slice none 0 0) (.slice none 0 0) 33
    rwa [nblk_alloc, nblk_alloc] at h
  have hold := hbe1.cell (p := ⟨w.heap.size, 1, none⟩) (by simp; omega)
  have hold' : w1.cell? ⟨w.heap.size, 1, none⟩ = some (.slice ta bk.trips.length tc) := by rw [hold]; simp [go_sem]
  have q1 := r2.cell (i := 0) (by omega)
  have q2 := r2.frozen 0
  have HS : Hid (StrsAt w1 (some ⟨b1, 0, none⟩) bk.sts) := hat1
  have hB1 : Below w.heap.size w w1 := hb0.trans (hbe1.mono (by simp; omega))
  clear hat1 hsa hbe1 hold
  go_wp2_with fail
  refine (toTripS_own _ _ _ _ n2 n3 (by exact hta.keep (hB1.setCell (by simp; omega) _))).mono ?_
  rintro e w2 ⟨b2, rfl, hb2, hat2, hbe2, hin2⟩
  have HIN : Hid (TripsIn (w1.setCell ⟨w.heap.size + 1 + 1, 0, none⟩ (.slice (some ⟨b1, 0, none⟩) bk.sts.length bk.sts.length)).heap.size w2.heap.size w2 (some ⟨b2, 0, none⟩) (bk.trips.map (·.calls.length))) := hin2
  clear hin2
  have hz2 : w1.heap.size ≤ w2.heap.size := by have := hbe2.size; simpa [World.setCell] using this
  have hb2' : w1.heap.size ≤ b2 := by simpa [World.setCell] using hb2
  have s1 := (r1.setOther (a := ⟨w.heap.size + 1 + 1, 0, none⟩) (by simp) (.slice (some ⟨b1, 0, none⟩) bk.sts.length bk.sts.length)).of_block (hbe2.block _ (by simp [World.setCell]; omega))
  have s2 := (r2.set 0 (.slice (some ⟨b1, 0, none⟩) bk.sts.length bk.sts.length)).of_block (hbe2.block _ (by simp [World.setCell]; omega))
  have c00 := s1.cell (i := 0) (by omega)
  have c01 := s1.cell (i := 1) (by omega)
  have f0 := s1.frozen
  have c10 := s2.cell (i := 0) (by omega)
  have c11 := s2.cell (i := 1) (by omega)
  have f1 := s2.frozen
  simp at c10 c11
  have HT : Hid (TripsFrom w1.heap.size w2 (some ⟨b2, 0, none⟩) bk.trips) := by
    unfold Hid; simpa [World.setCell] using hat2
  have hB2 : Below w.heap.size w w2 := (hB1.setCell (by simp; omega) _).trans (hbe2.mono (by simp [World.setCell]; omega))
  have HRS2 : Hid (w2.rowIs b1 9 bk.sts.length fs) := (HRS.out.setOther (by simp; omega) _).of_block (hbe2.block _ (by have := HRS.out.lt; simpa [World.setCell] using this))
  have HS2 : Hid (StrsAt w2 (some ⟨b1, 0, none⟩) bk.sts) := (HS.out.setOther (by simp; omega)).keep hbe2
  clear hat2 hb2 hta hbe2 r1 r2 q1 q2
  go_wp2_with fail
  refine bodyPost_ret (v := .agg #[.slice (some ⟨b1, 0, none⟩) bk.sts.length bk.sts.length, .slice (some ⟨b2, 0, none⟩) bk.trips.length bk.trips.length]) (by simp [results, Tryz.results9, go_sem, c00, c01]) rfl ⟨_, rfl, ⟨_, _, _, _, rfl, ?_, ?_⟩, ?_, ?_⟩
  · exact ((HS2.out.setOther (by simp; omega)).setOther (by simp; omega)).setOther (by simp; omega)
  · exact (((HT.out.setBelow (by simp; omega)).setBelow (by simp; omega)).setBelow (by simp; omega)).at
  · exact ((hB2.setCell (by simp; omega) _).setCell (by simp) _).setCell (by simp) _
  · refine ⟨b1, _, _, _, by rw [List.length_map], by omega, ?_, ⟨fs, ((HRS2.out.setOther (by simp; omega) _).setOther (by simp; omega) _).setOther (by simp; omega) _⟩, ?_⟩
    · have := HRS2.out.lt
      simpa [World.setCell] using this
    · obtain ⟨b', f', e', hL', hR', hrow', hcs'⟩ := HIN.out
      simp only [World.setCell, Array.size_modify] at hL'
      refine ⟨b', f', e', by omega, by simpa [World.setCell] using hR', ((hrow'.setOther (by simp; omega) _).setOther (by simp; omega) _).setOther (by simp; omega) _, fun i h => ?_⟩
      obtain ⟨ca, cc, x1, bc, fc, x2, x3, x4, x5⟩ := hcs' i h
      simp only [World.setCell, Array.size_modify] at x3
      exact ⟨ca, cc, x1, bc, fc, x2, by omega, by simpa [World.setCell] using x4, ((x5.setOther (by simp; omega) _).setOther (by simp; omega) _).setOther (by simp; omega) _⟩

end Go.Proofs.YtjioingdpfgadabGreatDoor
