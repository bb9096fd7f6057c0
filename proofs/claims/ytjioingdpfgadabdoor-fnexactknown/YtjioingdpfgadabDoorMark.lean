import Derived.Test.YtjioingdpfgadabDoorProg
import Derived.Test.YtjioingdpfgadabDoorDec
import Derived.Test.YtjioingdpfgadabDoorTo
namespace Go.Proofs.YtjioingdpfgadabDoor
open Go Go.RowKit Go.Deep

/-- Blocks outside L .. R - 1 are as they were. -/
structure Kept (L R : Nat) (w w' : World) : Prop where
  os : w'.os = w.os
  tape : w'.tape = w.tape
  output : w'.output = w.output
  size : w.heap.size ≤ w'.heap.size
  block : ∀ k, k < w.heap.size → k < L ∨ R ≤ k → w'.heap[k]? = w.heap[k]?
theorem Kept.refl (L R : Nat) (w : World) : Kept L R w w := ⟨rfl, rfl, rfl, Nat.le_refl _, fun _ _ _ => rfl⟩
theorem Kept.trans {L R : Nat} {a b c : World} (h : Kept L R a b) (k : Kept L R b c) : Kept L R a c :=
  ⟨k.os.trans h.os, k.tape.trans h.tape, k.output.trans h.output, Nat.le_trans h.size k.size, fun i hi hr => (k.block i (Nat.lt_of_lt_of_le hi h.size) hr).trans (h.block i hi hr)⟩
theorem Kept.wide {L R L' R' : Nat} {a b : World} (h : Kept L R a b) (h1 : L' ≤ L) (h2 : R ≤ R') : Kept L' R' a b :=
  ⟨h.os, h.tape, h.output, h.size, fun i hi hr => h.block i hi (by omega)⟩
theorem Kept.of_below {L R : Nat} {w w' : World} (h : Below w.heap.size w w') : Kept L R w w' := ⟨h.os, h.tape, h.output, h.size, fun k hk _ => h.block k hk⟩
theorem Kept.setCell {L R : Nat} {a w : World} (h : Kept L R a w) {p : Addr} (h1 : L ≤ p.block) (h2 : p.block < R) (u : Value) : Kept L R a (w.setCell p u) :=
  h.trans ⟨rfl, rfl, rfl, by simp [World.setCell], fun k _ hr => Below.heap_setCell _ _ _ _ (by omega)⟩
theorem Kept.cell {L R : Nat} {w w' : World} (h : Kept L R w w') {b o : Nat} {v : Value} (hc : w.cell? ⟨b, o, none⟩ = some v) (hr : b < L ∨ R ≤ b) : w'.cell? ⟨b, o, none⟩ = some v := by
  rw [World.cell?_of_block (w := w) (h.block b (cell_lt hc) hr)]; exact hc
theorem Kept.row {L R : Nat} {w w' : World} (h : Kept L R w w') {b n : Nat} {t : TypeId} {f : Nat → Value} (hc : w.rowIs b t n f) (hr : b < L ∨ R ≤ b) : w'.rowIs b t n f :=
  hc.of_block (h.block b hc.lt hr)

/-- Each row keeps its type and its size. -/
def Shape (w w' : World) : Prop := ∀ b t n f, w.rowIs b t n f → ∃ f', w'.rowIs b t n f'
theorem Shape.refl (w : World) : Shape w w := fun _ _ _ f h => ⟨f, h⟩
theorem Shape.trans {a b c : World} (h : Shape a b) (k : Shape b c) : Shape a c := fun x t n f hx => by
  obtain ⟨f', h'⟩ := h x t n f hx; exact k x t n f' h'
theorem Shape.of_below {w w' : World} (h : Below w.heap.size w w') : Shape w w' := fun _ _ _ f hx => ⟨f, hx.of_block (h.block _ hx.lt)⟩
theorem Shape.setCell (w : World) (b o : Nat) (u : Value) : Shape w (w.setCell ⟨b, o, none⟩ u) := fun x t n f hx => by
  by_cases e : x = b
  · subst e; exact ⟨_, hx.set o u⟩
  · exact ⟨f, hx.setOther (by simpa using e) u⟩
theorem row_types {w : World} {b n m : Nat} {t u : TypeId} {f g : Nat → Value} (h : w.rowIs b t n f) (k : w.rowIs b u m g) : t = u := by
  obtain ⟨c, hb, _⟩ := h
  obtain ⟨d, hd, _⟩ := k
  rw [hb] at hd
  simp at hd
  exact hd.2

/-- Calls in a row of their own, in blocks L .. R - 1. -/
def CallsIn (L R : Nat) (w : World) (a : Option Addr) (n : Nat) : Prop := ∃ b f, a = some ⟨b, 0, none⟩ ∧ L ≤ b ∧ b < R ∧ w.rowIs b 89 (n * 4) f
theorem CallsIn.shape {L R : Nat} {w w' : World} {a : Option Addr} {n : Nat} (h : CallsIn L R w a n) (hs : Shape w w') : CallsIn L R w' a n := by
  obtain ⟨b, f, e, h1, h2, hr⟩ := h
  obtain ⟨f', hr'⟩ := hs _ _ _ _ hr
  exact ⟨b, f', e, h1, h2, hr'⟩

set_option maxHeartbeats 1000000 in
theorem markStringS_any (b n c : Nat) (k : Nat) (f : Nat → Value) (w : World) (hn : n ≤ 1048576) (hk : k ≤ 100000000) (hrow : w.rowIs b 9 n f) :
    Calls Tryd.prog 40 #[.slice (some ⟨b, 0, none⟩) n c, .int .i64 k] w fun e w' => e = .returned (.int .i64 ((k + n : Nat) : Int)) ∧ Kept b (b + 1) w w' ∧ Shape w w' := by
  go_enter Tryd.func40, Tryd.ntmps40
  go_wp2
  go_loopw [1, 5] (fun q i wr => ∃ m : Nat, m ≤ n ∧ i = .int .i64 m ∧ q = .int .i64 ((k + m : Nat) : Int) ∧ (∃ g, wr.rowIs b 9 n g) ∧ Kept b (b + 1) w wr ∧ Hid (Shape w wr)) (fun _ i _ => n - (intOf i).toNat)
  case atStart => exact ⟨0, Nat.zero_le _, rfl, rfl, ⟨f, hrow⟩, Kept.refl _ _ _, Shape.refl _⟩
  case round =>
    obtain ⟨m, hm, rfl, rfl, ⟨g, hg⟩, hkept, hsh⟩ := hrel
    clear hrow
    by_cases hlt : m < n
    · go_wp2_with fail
      refine (markText_any _ _ (by omega)).mono ?_
      rintro e w1 ⟨rfl, hb1⟩
      have hg1 := hg.of_block (hb1.block _ hg.lt)
      have hfr := hg1.frozen m
      have hce := hg1.cell hlt
      generalize (⟨(markL (k + m)).toArray⟩ : ByteArray) = s at *
      go_wp2_with fail
      go_roundw
      case rel =>
        exact ⟨m + 1, by omega, by go_num, by go_num, ⟨_, hg1.set m _⟩, (hkept.trans (Kept.of_below hb1)).setCell (Nat.le_refl _) (Nat.lt_succ_self _) _, (hsh.out.trans (Shape.of_below hb1)).trans (Shape.setCell _ _ _ _)⟩
      case measure => simp [intOf]; omega
    · go_wp2
      go_ret
      have : m = n := by omega
      subst this
      exact ⟨rfl, hkept, hsh.out⟩

set_option maxHeartbeats 1000000 in
theorem markCallS_any (b n c : Nat) (k : Nat) (f : Nat → Value) (w : World) (hn : n ≤ 10000000) (hk : k ≤ 100000000) (hrow : w.rowIs b 89 (n * 4) f) :
    Calls Tryd.prog 56 #[.slice (some ⟨b, 0, none⟩) n c, .int .i64 k] w fun e w' => e = .returned (.int .i64 ((k + n * 4 : Nat) : Int)) ∧ Kept b (b + 1) w w' ∧ Shape w w' := by
  go_enter Tryd.func56, Tryd.ntmps56
  go_wp2
  go_loopw [1, 5] (fun q i wr => ∃ m : Nat, m ≤ n ∧ i = .int .i64 m ∧ q = .int .i64 ((k + m * 4 : Nat) : Int) ∧ (∃ g, wr.rowIs b 89 (n * 4) g) ∧ Kept b (b + 1) w wr ∧ Hid (Shape w wr)) (fun _ i _ => n - (intOf i).toNat)
  case atStart => exact ⟨0, Nat.zero_le _, rfl, by simp, ⟨f, hrow⟩, Kept.refl _ _ _, Shape.refl _⟩
  case round =>
    obtain ⟨m, hm, rfl, rfl, ⟨g, hg⟩, hkept, hsh⟩ := hrel
    clear hrow
    by_cases hlt : m < n
    · have hfr := hg.frozen
      have hce0 := hg.cell (i := m * 4) (by omega)
      have hce1 := hg.cell (i := m * 4 + 1) (by omega)
      have hce2 := hg.cell (i := m * 4 + 2) (by omega)
      have hce3 := hg.cell (i := m * 4 + 3) (by omega)
      go_wp2
      go_roundw
      case rel =>
        refine ⟨m + 1, by omega, by go_num, by go_num, ⟨_, (((hg.set (m * 4) _).set (m * 4 + 1) _).set (m * 4 + 2) _).set (m * 4 + 3) _⟩, (((hkept.setCell (Nat.le_refl _) (Nat.lt_succ_self _) _).setCell (Nat.le_refl _) (Nat.lt_succ_self _) _).setCell (Nat.le_refl _) (Nat.lt_succ_self _) _).setCell (Nat.le_refl _) (Nat.lt_succ_self _) _, (((hsh.out.trans (Shape.setCell _ _ _ _)).trans (Shape.setCell _ _ _ _)).trans (Shape.setCell _ _ _ _)).trans (Shape.setCell _ _ _ _)⟩
      case measure => simp [intOf]; omega
    · go_wp2
      go_ret
      have : m = n := by omega
      subst this
      exact ⟨rfl, hkept, hsh.out⟩

/-- How many marks trips take whose calls are so many. -/
def sumMarks : List Nat → Nat
  | [] => 0
  | l :: r => 1 + l * 4 + sumMarks r
theorem sumMarks_append (l m : List Nat) : sumMarks (l ++ m) = sumMarks l + sumMarks m := by
  induction l with
  | nil => simp [sumMarks]
  | cons a l ih => simp [sumMarks, ih]; omega
theorem sumMarks_take (l : List Nat) (k : Nat) (h : k < l.length) : sumMarks (l.take (k + 1)) = sumMarks (l.take k) + (1 + l[k] * 4) := by
  rw [take_snoc l k h, sumMarks_append]; simp [sumMarks]
theorem sumMarks_take_le (l : List Nat) (k : Nat) : sumMarks (l.take k) ≤ sumMarks l := by
  have h := sumMarks_append (l.take k) (l.drop k)
  rw [List.take_append_drop] at h; omega
/-- Trips in a row of their own, their calls in rows of their own, all in blocks L .. R - 1. -/
def TripsIn (L R : Nat) (w : World) (a : Option Addr) (ls : List Nat) : Prop :=
  ∃ b f, a = some ⟨b, 0, none⟩ ∧ L ≤ b ∧ b < R ∧ w.rowIs b 87 (ls.length * 2) f ∧ ∀ i (h : i < ls.length), ∃ ca cc, f (i * 2 + 1) = .slice ca ls[i] cc ∧ CallsIn L R w ca ls[i]
def BookIn (L R : Nat) (w : World) (v : Value) (n : Nat) (ls : List Nat) : Prop :=
  ∃ b sc ta tc, v = .agg #[.slice (some ⟨b, 0, none⟩) n sc, .slice ta ls.length tc] ∧ L ≤ b ∧ b < R ∧ (∃ f, w.rowIs b 9 n f) ∧ TripsIn L R w ta ls

set_option maxHeartbeats 1000000 in
theorem markTripS_any (L R : Nat) (a : Option Addr) (ls : List Nat) (c : Nat) (k : Nat) (w : World) (hn : ls.length ≤ 1048576) (hs : sumMarks ls ≤ 10000000) (hk : k ≤ 10000000) (hin : TripsIn L R w a ls) :
    Calls Tryd.prog 41 #[.slice a ls.length c, .int .i64 k] w fun e w' => e = .returned (.int .i64 ((k + sumMarks ls : Nat) : Int)) ∧ Kept L R w w' ∧ Shape w w' := by
  obtain ⟨b, f, rfl, hL, hR, hrow, hcs⟩ := hin
  go_enter Tryd.func41, Tryd.ntmps41
  go_wp2
  go_loopw [1, 5] (fun q i wr => ∃ m : Nat, m ≤ ls.length ∧ i = .int .i64 m ∧ q = .int .i64 ((k + sumMarks (ls.take m) : Nat) : Int) ∧ (∃ g, wr.rowIs b 87 (ls.length * 2) g ∧ ∀ i (h : i < ls.length), ∃ ca cc, g (i * 2 + 1) = .slice ca ls[i] cc ∧ CallsIn L R wr ca ls[i]) ∧ Kept L R w wr ∧ Hid (Shape w wr)) (fun _ i _ => ls.length - (intOf i).toNat)
  case atStart => exact ⟨0, Nat.zero_le _, rfl, by simp [sumMarks], ⟨f, hrow, hcs⟩, Kept.refl _ _ _, Shape.refl _⟩
  case round =>
    obtain ⟨m, hm, rfl, rfl, ⟨g, hg, hgc⟩, hkept, hsh⟩ := hrel
    clear hrow hcs
    by_cases hlt : m < ls.length
    · have HT : Hid (sumMarks (ls.take (m + 1)) = sumMarks (ls.take m) + (1 + ls[m] * 4)) := sumMarks_take ls m hlt
      have HL : Hid (sumMarks (ls.take (m + 1)) ≤ sumMarks ls) := sumMarks_take_le ls (m + 1)
      have hle : sumMarks (ls.take m) ≤ sumMarks ls := sumMarks_take_le ls m
      have hl4 : ls[m] ≤ 10000000 := by have := HT.out; have := HL.out; omega
      obtain ⟨ca, cc, hca, hci⟩ := hgc m hlt
      have HG : Hid (∀ i (h : i < ls.length), ∃ ca cc, g (i * 2 + 1) = .slice ca ls[i] cc ∧ CallsIn L R wr ca ls[i]) := hgc
      generalize hq : sumMarks (ls.take m) = q at *
      clear hgc hq
      go_wp2_with fail
      refine (markText_any _ _ (by omega)).mono ?_
      rintro e w1 ⟨rfl, hb1⟩
      have hg1 := hg.of_block (hb1.block _ hg.lt)
      have hfr := hg1.frozen
      have hce := hg1.cell (i := m * 2) (by omega)
      have hce1 := hg1.cell (i := m * 2 + 1) (by omega)
      rw [hca] at hce1
      obtain ⟨bc, fc, rfl, hcL, hcR, hcrow⟩ := (hci.shape (Shape.of_below hb1))
      have hne : bc ≠ b := fun e => by
        subst e
        exact absurd (row_types hcrow hg1) (by decide)
      generalize (⟨(markL (k + q)).toArray⟩ : ByteArray) = s at *
      have hcrow2 := hcrow.setOther (a := ⟨b, m * 2, none⟩) (by simpa using hne) (.string s)
      have K1 : Kept L R w (w1.setCell ⟨b, m * 2, none⟩ (.string s)) := (hkept.trans (Kept.of_below hb1)).setCell hL hR _
      have S1 : Hid (Shape w (w1.setCell ⟨b, m * 2, none⟩ (.string s))) := (hsh.out.trans (Shape.of_below hb1)).trans (Shape.setCell _ _ _ _)
      have S0 : Hid (Shape wr (w1.setCell ⟨b, m * 2, none⟩ (.string s))) := (Shape.of_below hb1).trans (Shape.setCell _ _ _ _)
      have hg2 := hg1.set (m * 2) (.string s)
      have hz2 : (w1.setCell ⟨b, m * 2, none⟩ (.string s)).cell? ⟨b, m * 2 + 1, none⟩ = some (.slice (some ⟨bc, 0, none⟩) ls[m] cc) := by
        rw [hg2.cell (by omega)]; simp; exact hca
      go_wp2_with fail
      refine (markCallS_any bc ls[m] _ (k + q + 1) _ _ (by omega) (by omega) hcrow2).mono ?_
      rintro e w3 ⟨rfl, hk3, hs3⟩
      have hg3 := hk3.row hg2 (by omega)
      go_wp2_with fail
      go_roundw
      case rel =>
        refine ⟨m + 1, by omega, by go_num, ?_, ⟨_, hg3, fun i h => ?_⟩, K1.trans (hk3.wide hcL (by omega)), S1.out.trans hs3⟩
        · rw [HT.out]; go_num
        · obtain ⟨cb, cd, x1, x2⟩ := HG.out i h
          exact ⟨cb, cd, by rw [if_neg (by omega)]; exact x1, x2.shape (S0.out.trans hs3)⟩
      case measure => simp [intOf]; omega
    · go_wp2
      go_ret
      have e : ls.take m = ls := List.take_of_length_le (by omega)
      rw [e]
      exact ⟨rfl, hkept, hsh.out⟩

set_option maxHeartbeats 1000000 in
theorem markBook_any (L R : Nat) (v : Value) (n : Nat) (ls : List Nat) (k : Nat) (w : World) (hn : n ≤ 1048576) (hm : ls.length ≤ 1048576) (hs : sumMarks ls ≤ 10000000) (hk : k ≤ 1000000) (hin : BookIn L R w v n ls) :
    Calls Tryd.prog 14 #[v, .int .i64 k] w fun e w' => e = .returned (.int .i64 ((k + n + sumMarks ls : Nat) : Int)) ∧ Kept L R w w' ∧ Shape w w' := by
  obtain ⟨b, sc, ta, tc, rfl, hL, hR, ⟨f, hrow⟩, hts⟩ := hin
  have hb0 : Below w.heap.size w (w.alloc (.cells #[.slice (some ⟨b, 0, none⟩) n sc, .slice ta ls.length tc] 33)) := (Below.refl _ _).alloc (Nat.le_refl _) _
  have hrow0 := hrow.of_block (hb0.block _ hrow.lt)
  have hbl := hrow.lt
  go_enter Tryd.func14, Tryd.ntmps14
  go_wp2_with fail
  refine (markStringS_any b n _ k f _ hn (by omega) (by exact hrow0)).mono ?_
  rintro e w1 ⟨rfl, hk1, hs1⟩
  have q1 : w1.cell? ⟨w.heap.size, 1, none⟩ = some (.slice ta ls.length tc) := hk1.cell (by simp [go_sem]) (by omega)
  have HT : Hid (TripsIn L R w1 ta ls) := by
    obtain ⟨b', f', rfl, hL', hR', hrow', hcs'⟩ := hts
    have hr0 := hrow'.of_block (hb0.block _ hrow'.lt)
    have hne : b' ≠ b := fun e => by
      subst e
      exact absurd (row_types hrow' hrow) (by decide)
    have hr1 := hk1.row hr0 (by omega)
    refine ⟨b', f', rfl, hL', hR', hr1, fun i h => ?_⟩
    obtain ⟨ca, cc, x1, x2⟩ := hcs' i h
    exact ⟨ca, cc, x1, (x2.shape (Shape.of_below hb0)).shape hs1⟩
  clear hts hrow hrow0
  go_wp2_with fail
  refine (markTripS_any L R _ ls _ (k + n) _ hm hs (by omega) (by exact HT.out)).mono ?_
  rintro e w2 ⟨rfl, hk2, hs2⟩
  go_wp2_with fail
  go_ret
  exact ⟨ret_int (by omega), ((Kept.of_below hb0).trans (hk1.wide hL (by omega))).trans hk2, ((Shape.of_below hb0).trans hs1).trans hs2⟩

set_option maxHeartbeats 1000000 in
theorem markReportS_any (b n c : Nat) (k : Nat) (f : Nat → Value) (w : World) (hn : n ≤ 1048576) (hk : k ≤ 100000000) (hrow : w.rowIs b 54 (n * 5) f) :
    Calls Tryd.prog 15 #[.slice (some ⟨b, 0, none⟩) n c, .int .i64 k] w fun e w' => e = .returned (.int .i64 ((k + n * 5 : Nat) : Int)) ∧ Kept b (b + 1) w w' ∧ Shape w w' := by
  go_enter Tryd.func15, Tryd.ntmps15
  go_wp2
  go_loopw [1, 5] (fun q i wr => ∃ m : Nat, m ≤ n ∧ i = .int .i64 m ∧ q = .int .i64 ((k + m * 5 : Nat) : Int) ∧ (∃ g, wr.rowIs b 54 (n * 5) g) ∧ Kept b (b + 1) w wr ∧ Hid (Shape w wr)) (fun _ i _ => n - (intOf i).toNat)
  case atStart => exact ⟨0, Nat.zero_le _, rfl, by simp, ⟨f, hrow⟩, Kept.refl _ _ _, Shape.refl _⟩
  case round =>
    obtain ⟨m, hm, rfl, rfl, ⟨g, hg⟩, hkept, hsh⟩ := hrel
    clear hrow
    by_cases hlt : m < n
    · have hfr := hg.frozen
      have hce0 := hg.cell (i := m * 5) (by omega)
      have hce1 := hg.cell (i := m * 5 + 1) (by omega)
      have hce2 := hg.cell (i := m * 5 + 2) (by omega)
      have hce3 := hg.cell (i := m * 5 + 3) (by omega)
      have hce4 := hg.cell (i := m * 5 + 4) (by omega)
      go_wp2
      go_roundw
      case rel =>
        refine ⟨m + 1, by omega, by go_num, by go_num, ⟨_, ((((hg.set (m * 5) _).set (m * 5 + 1) _).set (m * 5 + 2) _).set (m * 5 + 3) _).set (m * 5 + 4) _⟩, ((((hkept.setCell (Nat.le_refl _) (Nat.lt_succ_self _) _).setCell (Nat.le_refl _) (Nat.lt_succ_self _) _).setCell (Nat.le_refl _) (Nat.lt_succ_self _) _).setCell (Nat.le_refl _) (Nat.lt_succ_self _) _).setCell (Nat.le_refl _) (Nat.lt_succ_self _) _, ((((hsh.out.trans (Shape.setCell _ _ _ _)).trans (Shape.setCell _ _ _ _)).trans (Shape.setCell _ _ _ _)).trans (Shape.setCell _ _ _ _)).trans (Shape.setCell _ _ _ _)⟩
      case measure => simp [intOf]; omega
    · go_wp2
      go_ret
      have : m = n := by omega
      subst this
      exact ⟨rfl, hkept, hsh.out⟩

end Go.Proofs.YtjioingdpfgadabDoor
