import Derived.Test.YtjioingdpfgadaaDoorProg
import Derived.Test.YtjioingdpfgadaaDoorHeapM
import Derived.ProofKit
import Derived.DataShut
import Derived.OpenShut
import Derived.Lib.SmallJoins
import Derived.Deep.Slices
namespace Go.Proofs.YtjioingdpfgadaaDoor
open Go Go.RowKit Go.Deep Go.ChangeShapes Go.WideShapes Go.Joins

theorem cByte : Tryd.prog.cellsOf 5 = 1 := by kernel_rfl
theorem uBt : Tryd.prog.underlying 5 = some (.int .u8) := by kernel_rfl
theorem uBts : Tryd.prog.underlying 22 = some (.slice 5) := by kernel_rfl

section
variable {H : Type} {enc : TypeId × Value → H} {w : World} {base : Nat} {spare : Nat → Bool} {held : Bool}
theorem plain_atB {a : Addr} {v : Value} (h : w.cell? (a.add 0) = some v) : ∃ b o, a = ⟨b, o, none⟩ := by
  obtain ⟨b, off, spot⟩ := a
  have hspot : spot = none := by simpa [Addr.add] using World.cell?_spot h
  subst hspot
  exact ⟨b, off, rfl⟩

set_option maxRecDepth 100000 in
theorem open_bytes {fuel : Nat} {v : Value} {x : DataW H × List MemPlace} (h : DataW.trod enc Tryd.prog w base spare held fuel 22 [v] = some x) :
    ∃ (a : Option Addr) (c : Nat) (bs : List Int), v = .slice a bs.length c ∧ BytesAt w a bs := by
  rcases open_slice uBts h with ⟨hc, _⟩ | ⟨a, len, cap, m, n, D, Pl, hc, _, hl, hm, hmm, _, hel⟩
  · obtain rfl : v = .slice none 0 0 := by simpa using hc
    exact ⟨none, 0, [], rfl, fun i hi => by simp at hi⟩
  obtain rfl : v = .slice (some a) len cap := by simpa using hc
  have hlm : len ≤ m := by rw [hmm]; split <;> omega
  rw [cByte] at hel
  obtain ⟨C, hC⟩ := choose_lt (α := Int) (n := len) (p := fun i r => w.cell? (a.add (i * 1)) = some (.int .u8 r) ∧ 0 ≤ r ∧ r ≤ 255) (fun i hi => by
    obtain ⟨cs', h1, h2⟩ := hel i (by omega)
    obtain ⟨_, hlen, hcell⟩ := World.cells?_some h1
    match cs', hlen with
    | [c0], _ =>
      obtain ⟨x0, e0, _, wf0⟩ := DataW.trod_int uBt h2
      simp at e0
      subst e0
      rw [Lit.wf_int_iff] at wf0
      simp only [IntKind.min, IntKind.max, IntKind.signed, IntKind.bits] at wf0
      refine ⟨x0, ?_, by simp at wf0; omega, by simp at wf0; omega⟩
      simpa [Addr.add] using hcell 0 (by omega))
  have hlen : ((List.range len).map C).length = len := by simp
  have hget : ∀ i (h : i < ((List.range len).map C).length), ((List.range len).map C)[i] = C i := fun i h => by simp
  refine ⟨some a, cap, (List.range len).map C, by rw [hlen], fun i hi => ?_⟩
  have hi' : i < len := by rwa [hlen] at hi
  rw [hget]
  obtain ⟨c0, h0, h1⟩ := hC i hi'
  obtain ⟨b, o, rfl⟩ := plain_atB (by simpa using (hC 0 (by omega)).1)
  simp only [Go.WideShapes.add_plain, Nat.mul_one] at c0
  exact ⟨b, o, rfl, c0, h0, h1⟩
set_option maxRecDepth 100000 in
theorem low_bytes {a : Option Addr} {n c : Nat} (h : Value.okWide Tryd.prog w .any base 22 (.slice a n c)) : ∀ b o, a = some ⟨b, o, none⟩ → b < w.heap.size := by
  rintro b o rfl
  simp only [Value.okWide, uBts, Cell.okWide, Cell.ok, World.has] at h
  obtain ⟨_, _, _, _, row, cells, hs, _⟩ := h
  apply Classical.byContradiction; intro hn
  have : w.heap[b]? = none := by simp; omega
  simp [World.shape?, this] at hs
end

end Go.Proofs.YtjioingdpfgadaaDoor
