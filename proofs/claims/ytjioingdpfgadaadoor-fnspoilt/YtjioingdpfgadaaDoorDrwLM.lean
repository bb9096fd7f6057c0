import Derived.Test.YtjioingdpfgadaaDoorHeapM
import Derived.Test.YtjioingdpfgadaaDoorDrwBM
import Derived.Test.YtjioingdpfgadaaDoorBoardCM
import Derived.Test.YtjioingdpfgadaaDoorProg
import Derived.Test.YtjioingdpfgadaaDoorToM
namespace Go.Proofs.YtjioingdpfgadaaDoor
open Go Go.RowKit Go.Deep

set_option maxRecDepth 100000 in
set_option maxHeartbeats 1000000 in
theorem wByte_any (ca : Option Addr) (bs : List Int) (cap i : Nat) (w : World) (hi : i ≤ 1000) (hl : bs.length ≤ 1048576) (h : BytesAt w ca bs) :
    Calls Tryd.prog 13 #[.slice ca bs.length cap, .int .i64 i] w fun e w' => ∃ r : Nat, r ≤ 255 ∧ e = .returned (.int .i64 r) ∧ w' = w := by
  by_cases h0 : bs.length = 0
  · have hz : (bs.length : Int) = 0 := by omega
    have hzb : ((bs.length : Int) == 0) = true := by simp [h0]
    clear h0
    go_enter Tryd.func13, Tryd.ntmps13
    go_wp2_with fail
    go_ret
    exact ⟨0, by omega, rfl, rfl⟩
  · have hz : ¬ (bs.length : Int) = 0 := by omega
    have hzb : ((bs.length : Int) == 0) = false := beq_eq_false_iff_ne.2 hz
    obtain ⟨q, hq⟩ : ∃ q : Nat, i % bs.length = q := ⟨_, rfl⟩
    have hqi : (i : Int) % (bs.length : Int) = (q : Int) := by rw [← hq]; simp
    have hql : q < bs.length := by rw [← hq]; exact Nat.mod_lt _ (by omega)
    obtain ⟨b, o, rfl, hc, x0, x1⟩ := h q hql
    generalize bs[q] = x at *
    have hq1 : (q : Int) < (bs.length : Int) := by omega
    have hq0 : (0 : Int) ≤ (q : Int) := by omega
    clear hq h0
    go_enter Tryd.func13, Tryd.ntmps13
    go_wp2_with fail
    obtain ⟨r, hr⟩ := Int.eq_ofNat_of_zero_le x0
    go_ret
    exact ⟨r, by omega, ret_int hr, rfl⟩

set_option maxRecDepth 100000 in
set_option maxHeartbeats 1000000 in
theorem wRows_same (a a' : Option Addr) (rs : List RowD) (c c' : Nat) (w : World) (hn : rs.length ≤ 1048576) (hat : RowsAt w a rs) (hat' : RowsAt w a' rs) :
    Calls Tryd.prog 16 #[.slice a rs.length c, .slice a' rs.length c'] w fun e w' => e = .returned (.bool true) ∧ Below w.heap.size w w' := by
  have HA : Hid (RowsAt w a rs) := hat
  have HA' : Hid (RowsAt w a' rs) := hat'
  clear hat hat'
  go_enter Tryd.func16, Tryd.ntmps16
  go_wp2_with fail
  go_loopw [13] (fun i wr => ∃ k : Nat, k ≤ rs.length ∧ i = .int .i64 k ∧ Below w.heap.size w wr) (fun i _ => rs.length - (intOf i).toNat)
  case atStart => exact ⟨0, Nat.zero_le _, rfl, Below.refl _ _⟩
  case round =>
    obtain ⟨k, hk, rfl, hb⟩ := hrel
    by_cases hlt : k < rs.length
    · obtain ⟨b, o, rfl, c0, c1, c2, c3, c4, c5⟩ := HA.out.keep hb k hlt
      obtain ⟨b', o', rfl, d0, d1, d2, d3, d4, d5⟩ := HA'.out.keep hb k hlt
      generalize rs[k] = x at *
      have hk1 : (k : Int) < (rs.length : Int) := by omega
      have hk0 : (0 : Int) ≤ (k : Int) := by omega
      go_wp2_with fail
      go_quiet (fail)
      go_wp2_with fail
      go_roundw
      case rel => exact ⟨k + 1, by omega, by go_num, below_drewN hb _⟩
      case measure => simp [intOf]; omega
    · go_wp2_with fail
      go_ret
      exact ⟨rfl, hb⟩

set_option maxRecDepth 100000 in
set_option maxHeartbeats 2000000 in
theorem wNews_same (a a' : Option Addr) (nss : List (List NewsD)) (c c' : Nat) (w : World) (hn : newsSize nss ≤ 1048576) (hat : NewsSSAt w a nss) (hat' : NewsSSAt w a' nss) :
    Calls Tryd.prog 20 #[.slice a nss.length c, .slice a' nss.length c'] w fun e w' => e = .returned (.bool true) ∧ Below w.heap.size w w' := by
  have HA : Hid (NewsSSAt w a nss) := hat
  have HA' : Hid (NewsSSAt w a' nss) := hat'
  have n1 : nss.length ≤ 1048576 := by unfold newsSize at hn; omega
  have HN2 : Hid (∀ i (h : i < nss.length), nss[i].length ≤ 1048576) := fun i h => by have := sumLens_get nss i h; unfold newsSize at hn; omega
  clear hat hat'
  go_enter Tryd.func20, Tryd.ntmps20
  go_wp2_with fail
  go_loopw [14] (fun i wr => ∃ k : Nat, k ≤ nss.length ∧ i = .int .i64 k ∧ Below w.heap.size w wr) (fun i _ => nss.length - (intOf i).toNat)
  case atStart => exact ⟨0, Nat.zero_le _, rfl, Below.refl _ _⟩
  case round =>
    obtain ⟨k, hk, rfl, hb⟩ := hrel
    by_cases hlt : k < nss.length
    · obtain ⟨b, o, ra, rc, rfl, c0, hr⟩ := HA.out.keep hb k hlt
      obtain ⟨b', o', ra', rc', rfl, d0, hr'⟩ := HA'.out.keep hb k hlt
      have m2 := HN2.out k hlt
      generalize nss[k] = ns at *
      have HR : Hid (NewsAt wr ra ns) := hr
      have HR' : Hid (NewsAt wr ra' ns) := hr'
      have hk1 : (k : Int) < (nss.length : Int) := by omega
      have hk0 : (0 : Int) ≤ (k : Int) := by omega
      clear hr hr'
      rename World => W1
      go_wp2_with fail
      go_quiet (fail)
      go_wp2_with fail
      obtain ⟨W2, hW2⟩ : ∃ W2, W1.drewN nq = W2 := ⟨_, rfl⟩
      have hb2 : Below W1.heap.size W1 W2 := by subst hW2; exact below_drewN (Below.refl _ _) _
      rw [hW2]
      have e0 := cell_keep hb2 c0
      have e0' := cell_keep hb2 d0
      clear hW2
      go_loopw [33] (fun i wi => ∃ q : Nat, q ≤ ns.length ∧ i = .int .i64 q ∧ Below W1.heap.size W1 wi) (fun i _ => ns.length - (intOf i).toNat)
      case atStart => exact ⟨0, Nat.zero_le _, rfl, hb2⟩
      case round =>
        obtain ⟨q, hq, rfl, hbi⟩ := hrel
        by_cases hql : q < ns.length
        · obtain ⟨g, p, rfl, x0, x1, x2, x3, x4⟩ := HR.out.keep hbi q hql
          obtain ⟨g', p', rfl, y0, y1, y2, y3, y4⟩ := HR'.out.keep hbi q hql
          have f0 := cell_keep hbi c0
          have f0' := cell_keep hbi d0
          generalize ns[q] = x at *
          have hq1 : (q : Int) < (ns.length : Int) := by omega
          have hq0 : (0 : Int) ≤ (q : Int) := by omega
          clear c0 d0 e0 e0'
          go_wp2_with fail
          go_quiet (fail)
          go_wp2_with fail
          go_roundw
          case rel => exact ⟨q + 1, by omega, by go_num, below_drewN hbi _⟩
          case measure => simp [intOf]; omega
        · go_wp2_with fail
          go_roundw
          case rel => exact ⟨k + 1, by omega, by go_num, hb.trans (hbi.mono hb.size)⟩
          case measure => simp [intOf]; omega
    · go_wp2_with fail
      go_ret
      exact ⟨rfl, hb⟩

end Go.Proofs.YtjioingdpfgadaaDoor
namespace Go.Proofs.YtjioingdpfgadaaDoor
open Go Go.RowKit Go.Deep

/-- Blocks outside L .. R - 1 are as they were. -/
structure Kept (L R : Nat) (w w' : World) : Prop where
  os : w'.os = w.os
  tape : w'.tape = w.tape
  output : w'.output = w.output
  size : w.heap.size ≤ w'.heap.size
  block : ∀ k, k < w.heap.size → k < L ∨ R ≤ k → w'.heap[k]? = w.heap[k]?
theorem Kept.refl (L R : Nat) (w : World) : Kept L R w w := ⟨rfl, rfl, rfl, Nat.le_refl _, fun _ _ _ => rfl⟩
theorem Kept.trans {L R : Nat} {a b c : World} (h : Kept L R a b) (k : Kept L R b c) : Kept L R a c :=
  ⟨k.os.trans h.os, k.tape.trans h.tape, k.output.trans h.output, Nat.le_trans h.size k.size, fun i hi hr => (k.block i (Nat.lt_of_lt_of_le hi h.size) hr).trans (h.block i hi hr)⟩
theorem Kept.wide {L R L' R' : Nat} {a b : World} (h : Kept L R a b) (h1 : L' ≤ L) (h2 : R ≤ R') : Kept L' R' a b :=
  ⟨h.os, h.tape, h.output, h.size, fun i hi hr => h.block i hi (by omega)⟩
theorem Kept.of_below {L R : Nat} {w w' : World} (h : Below w.heap.size w w') : Kept L R w w' := ⟨h.os, h.tape, h.output, h.size, fun k hk _ => h.block k hk⟩
theorem Kept.setCell {L R : Nat} {a w : World} (h : Kept L R a w) {p : Addr} (h1 : L ≤ p.block) (h2 : p.block < R) (u : Value) : Kept L R a (w.setCell p u) :=
  h.trans ⟨rfl, rfl, rfl, by simp [World.setCell], fun k _ hr => Below.heap_setCell _ _ _ _ (by omega)⟩
theorem Kept.cell {L R : Nat} {w w' : World} (h : Kept L R w w') {b o : Nat} {v : Value} (hc : w.cell? ⟨b, o, none⟩ = some v) (hr : b < L ∨ R ≤ b) : w'.cell? ⟨b, o, none⟩ = some v := by
  rw [World.cell?_of_block (w := w) (h.block b (cell_lt hc) hr)]; exact hc
theorem Kept.row {L R : Nat} {w w' : World} (h : Kept L R w w') {b n : Nat} {t : TypeId} {f : Nat → Value} (hc : w.rowIs b t n f) (hr : b < L ∨ R ≤ b) : w'.rowIs b t n f :=
  hc.of_block (h.block b hc.lt hr)

/-- Each row keeps its type and its size. -/
def Shape (w w' : World) : Prop := ∀ b t n f, w.rowIs b t n f → ∃ f', w'.rowIs b t n f'
theorem Shape.refl (w : World) : Shape w w := fun _ _ _ f h => ⟨f, h⟩
theorem Shape.trans {a b c : World} (h : Shape a b) (k : Shape b c) : Shape a c := fun x t n f hx => by
  obtain ⟨f', h'⟩ := h x t n f hx; exact k x t n f' h'
theorem Shape.of_below {w w' : World} (h : Below w.heap.size w w') : Shape w w' := fun _ _ _ f hx => ⟨f, hx.of_block (h.block _ hx.lt)⟩
theorem Shape.setCell (w : World) (b o : Nat) (u : Value) : Shape w (w.setCell ⟨b, o, none⟩ u) := fun x t n f hx => by
  by_cases e : x = b
  · subst e; exact ⟨_, hx.set o u⟩
  · exact ⟨f, hx.setOther (by simpa using e) u⟩
theorem row_types {w : World} {b n m : Nat} {t u : TypeId} {f g : Nat → Value} (h : w.rowIs b t n f) (k : w.rowIs b u m g) : t = u := by
  obtain ⟨c, hb, _⟩ := h
  obtain ⟨d, hd, _⟩ := k
  rw [hb] at hd
  simp at hd
  exact hd.2

/-- Calls in a row of their own, in blocks L .. R - 1. -/
def CallsIn (L R : Nat) (w : World) (a : Option Addr) (n : Nat) : Prop := ∃ b f, a = some ⟨b, 0, none⟩ ∧ L ≤ b ∧ b < R ∧ w.rowIs b 56 (n * 4) f
theorem CallsIn.shape {L R : Nat} {w w' : World} {a : Option Addr} {n : Nat} (h : CallsIn L R w a n) (hs : Shape w w') : CallsIn L R w' a n := by
  obtain ⟨b, f, e, h1, h2, hr⟩ := h
  obtain ⟨f', hr'⟩ := hs _ _ _ _ hr
  exact ⟨b, f', e, h1, h2, hr'⟩

/-- How many marks trips take whose calls are so many. -/
def sumMarks : List Nat → Nat
  | [] => 0
  | l :: r => 1 + l * 4 + sumMarks r
theorem sumMarks_append (l m : List Nat) : sumMarks (l ++ m) = sumMarks l + sumMarks m := by
  induction l with
  | nil => simp [sumMarks]
  | cons a l ih => simp [sumMarks, ih]; omega
theorem sumMarks_take (l : List Nat) (k : Nat) (h : k < l.length) : sumMarks (l.take (k + 1)) = sumMarks (l.take k) + (1 + l[k] * 4) := by
  rw [take_snoc l k h, sumMarks_append]; simp [sumMarks]
theorem sumMarks_take_le (l : List Nat) (k : Nat) : sumMarks (l.take k) ≤ sumMarks l := by
  have h := sumMarks_append (l.take k) (l.drop k)
  rw [List.take_append_drop] at h; omega
/-- Trips in a row of their own, their calls in rows of their own, all in blocks L .. R - 1. -/
def TripsIn (L R : Nat) (w : World) (a : Option Addr) (ls : List Nat) : Prop :=
  ∃ b f, a = some ⟨b, 0, none⟩ ∧ L ≤ b ∧ b < R ∧ w.rowIs b 54 (ls.length * 2) f ∧ ∀ i (h : i < ls.length), ∃ ca cc, f (i * 2 + 1) = .slice ca ls[i] cc ∧ CallsIn L R w ca ls[i]
def BookIn (L R : Nat) (w : World) (v : Value) (n : Nat) (ls : List Nat) : Prop :=
  ∃ b sc ta tc, v = .agg #[.slice (some ⟨b, 0, none⟩) n sc, .slice ta ls.length tc] ∧ L ≤ b ∧ b < R ∧ (∃ f, w.rowIs b 9 n f) ∧ TripsIn L R w ta ls

end Go.Proofs.YtjioingdpfgadaaDoor
