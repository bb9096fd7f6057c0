import Derived.Test.YtjioingdpfgadaaDoorProg
import Derived.Test.YtjioingdpfgadaaDoorBaseR
import Derived.ProofKit
import Derived.OpenShut
import Derived.Lib.SmallJoins
import Derived.Deep.Slices
import Derived.Deep.Strs
namespace Go.Proofs.YtjioingdpfgadaaDoor
open Go Go.RowKit Go.Deep Go.ChangeShapes Go.WideShapes Go.Joins

theorem cIntR : Tryd.prog.cellsOf 3 = 1 := by kernel_rfl

theorem cBoolR : Tryd.prog.cellsOf 4 = 1 := by kernel_rfl

theorem cLReport : Tryd.prog.cellsOf 72 = 5 := by kernel_rfl

theorem cLNews : Tryd.prog.cellsOf 197 = 5 := by kernel_rfl

theorem cLNewsS : Tryd.prog.cellsOf 141 = 1 := by kernel_rfl

section
variable {H : Type} {enc : TypeId × Value → H} {P : Program} {w : World} {base : Nat} {spare : Nat → Bool} {held : Bool}

/-- The numbers of a report are numbers of Go's int. -/
def RepWf (r : RepD) : Prop := (Lit.int .i64 r.tick).wf = true ∧ (Lit.int .i64 r.op).wf = true ∧ (Lit.int .i64 r.trip).wf = true ∧ (Lit.int .i64 r.call).wf = true ∧ (Lit.int .i64 r.n).wf = true
def NewsWf (x : NewsD) : Prop := (Lit.int .i64 x.late).wf = true ∧ (Lit.int .i64 x.track).wf = true

theorem five_of {α : Type} {cs : Array α} (h : cs.size = 5) : ∃ c0 c1 c2 c3 c4, cs = #[c0, c1, c2, c3, c4] := by
  obtain ⟨l⟩ := cs
  match l, h with
  | [c0, c1, c2, c3, c4], _ => exact ⟨c0, c1, c2, c3, c4, rfl⟩

theorem plain_atR {a : Addr} {v : Value} (h : w.cell? (a.add 0) = some v) : ∃ b o, a = ⟨b, o, none⟩ := by
  obtain ⟨b, off, spot⟩ := a
  have hspot : spot = none := by simpa [Addr.add] using World.cell?_spot h
  subst hspot
  exact ⟨b, off, rfl⟩

theorem trod_five {t : TypeId} {f0 f1 f2 f3 f4 : Field} {fuel : Nat} {cs : List Value} {x : DataW H × List MemPlace} (ht : P.underlying t = some (.struct #[f0, f1, f2, f3, f4])) (h : DataW.trod enc P w base spare held fuel t cs = some x) :
    ∃ y0 y1 y2 y3 y4 n, DataW.trod enc P w base spare held n f0.type ((cs.drop f0.offset).take (P.cellsOf f0.type)) = some y0 ∧
      DataW.trod enc P w base spare held n f1.type ((cs.drop f1.offset).take (P.cellsOf f1.type)) = some y1 ∧ DataW.trod enc P w base spare held n f2.type ((cs.drop f2.offset).take (P.cellsOf f2.type)) = some y2 ∧
      DataW.trod enc P w base spare held n f3.type ((cs.drop f3.offset).take (P.cellsOf f3.type)) = some y3 ∧ DataW.trod enc P w base spare held n f4.type ((cs.drop f4.offset).take (P.cellsOf f4.type)) = some y4 := by
  obtain ⟨xs, n, _, rfl, hl, hlen, hf⟩ := DataW.trod_struct ht h
  match xs, hlen with
  | [y0, y1, y2, y3, y4], _ => exact ⟨y0, y1, y2, y3, y4, n, by simpa using hf 0 f0 rfl, by simpa using hf 1 f1 rfl, by simpa using hf 2 f2 rfl, by simpa using hf 3 f3 rfl, by simpa using hf 4 f4 rfl⟩

set_option maxRecDepth 100000 in
theorem cells_report {fuel : Nat} {cs : List Value} {x : DataW H × List MemPlace} (hlen : cs.length = 5) (h : DataW.trod enc Tryd.prog w base spare held fuel 72 cs = some x) :
    ∃ r : RepD, cs = [.int .i64 r.tick, .int .i64 r.op, .int .i64 r.trip, .int .i64 r.call, .int .i64 r.n] ∧ RepWf r := by
  obtain ⟨y0, y1, y2, y3, y4, n', d0, d1, d2, d3, d4⟩ := trod_five Tryd.underlying72 h
  match cs, hlen with
  | [c0, c1, c2, c3, c4], _ =>
    simp only [cIntR, List.drop_zero, List.take_succ_cons, List.take_zero, List.drop_succ_cons] at d0 d1 d2 d3 d4
    obtain ⟨x0, e0, _, w0⟩ := DataW.trod_int Tryd.underlying3 d0
    obtain ⟨x1, e1, _, w1⟩ := DataW.trod_int Tryd.underlying3 d1
    obtain ⟨x2, e2, _, w2⟩ := DataW.trod_int Tryd.underlying3 d2
    obtain ⟨x3, e3, _, w3⟩ := DataW.trod_int Tryd.underlying3 d3
    obtain ⟨x4, e4, _, w4⟩ := DataW.trod_int Tryd.underlying3 d4
    simp at e0 e1 e2 e3 e4
    subst e0; subst e1; subst e2; subst e3; subst e4
    exact ⟨⟨x0, x1, x2, x3, x4⟩, rfl, w0, w1, w2, w3, w4⟩

set_option maxRecDepth 100000 in
theorem open_report {r : Reach} {b0 : Nat} {v : Value} {d : DataW H} {p : List MemPlace} (hv : Value.okWide Tryd.prog w r b0 72 v) (h : DataW.Trod enc Tryd.prog w base spare held 72 v d p) :
    ∃ r, v = repV r ∧ RepWf r := by
  obtain ⟨cs, rfl, hsz⟩ := okWide_struct Tryd.underlying72 hv
  obtain ⟨c0, c1, c2, c3, c4, rfl⟩ := five_of (hsz.trans cLReport)
  obtain ⟨fuel, hf⟩ := h
  obtain ⟨r, e, hwf⟩ := cells_report (by simp [Value.cells]) hf
  simp [Value.cells] at e
  obtain ⟨rfl, rfl, rfl, rfl, rfl⟩ := e
  exact ⟨r, rfl, hwf⟩

set_option maxRecDepth 100000 in
theorem cells_news {fuel : Nat} {cs : List Value} {x : DataW H × List MemPlace} (hlen : cs.length = 5) (h : DataW.trod enc Tryd.prog w base spare held fuel 197 cs = some x) :
    ∃ r : NewsD, cs = [.int .i64 r.late, .int .i64 r.track, .bool r.off, .bool r.here, .bool r.gone] ∧ NewsWf r := by
  obtain ⟨y0, y1, y2, y3, y4, n', d0, d1, d2, d3, d4⟩ := trod_five Tryd.underlying197 h
  match cs, hlen with
  | [c0, c1, c2, c3, c4], _ =>
    simp only [cIntR, cBoolR, List.drop_zero, List.take_succ_cons, List.take_zero, List.drop_succ_cons] at d0 d1 d2 d3 d4
    obtain ⟨x0, e0, _, w0⟩ := DataW.trod_int Tryd.underlying3 d0
    obtain ⟨x1, e1, _, w1⟩ := DataW.trod_int Tryd.underlying3 d1
    obtain ⟨x2, e2, _⟩ := DataW.trod_bool Tryd.underlying4 d2
    obtain ⟨x3, e3, _⟩ := DataW.trod_bool Tryd.underlying4 d3
    obtain ⟨x4, e4, _⟩ := DataW.trod_bool Tryd.underlying4 d4
    simp at e0 e1 e2 e3 e4
    subst e0; subst e1; subst e2; subst e3; subst e4
    exact ⟨⟨x0, x1, x2, x3, x4⟩, rfl, w0, w1⟩

set_option maxRecDepth 100000 in
theorem open_newsS {fuel : Nat} {v : Value} {x : DataW H × List MemPlace} (h : DataW.trod enc Tryd.prog w base spare held fuel 141 [v] = some x) :
    ∃ (a : Option Addr) (c : Nat) (rs : List NewsD), v = .slice a rs.length c ∧ rs.length ≤ maxLen ∧ NewsAt w a rs ∧ ∀ r ∈ rs, NewsWf r := by
  rcases open_slice Tryd.underlying141 h with ⟨hc, _⟩ | ⟨a, len, cap, m, n, D, Pl, hc, _, hl, hm, hmm, _, hel⟩
  · obtain rfl : v = .slice none 0 0 := by simpa using hc
    exact ⟨none, 0, [], rfl, by simp [maxLen], fun i hi => by simp at hi, fun r hr => by simp at hr⟩
  obtain rfl : v = .slice (some a) len cap := by simpa using hc
  have hlm : len ≤ m := by rw [hmm]; split <;> omega
  rw [cLNews] at hel
  have inh : Inhabited NewsD := ⟨⟨0, 0, false, false, false⟩⟩
  obtain ⟨C, hC⟩ := choose_lt (α := NewsD) (n := len) (p := fun i r => (w.cell? (a.add (i * 5)) = some (.int .i64 r.late) ∧ w.cell? ((a.add (i * 5)).add 1) = some (.int .i64 r.track) ∧ w.cell? ((a.add (i * 5)).add 2) = some (.bool r.off) ∧ w.cell? ((a.add (i * 5)).add 3) = some (.bool r.here) ∧ w.cell? ((a.add (i * 5)).add 4) = some (.bool r.gone)) ∧ NewsWf r) (fun i hi => by
    obtain ⟨cs', h1, h2⟩ := hel i (by omega)
    obtain ⟨_, hlen, hcell⟩ := World.cells?_some h1
    obtain ⟨r, rfl, hwf⟩ := cells_news hlen h2
    refine ⟨r, ⟨?_, ?_, ?_, ?_, ?_⟩, hwf⟩
    · simpa [Addr.add] using hcell 0 (by omega)
    · simpa using hcell 1 (by omega)
    · simpa using hcell 2 (by omega)
    · simpa using hcell 3 (by omega)
    · simpa using hcell 4 (by omega))
  have hlen : ((List.range len).map C).length = len := by simp
  have hget : ∀ i (h : i < ((List.range len).map C).length), ((List.range len).map C)[i] = C i := fun i h => by simp
  refine ⟨some a, cap, (List.range len).map C, by rw [hlen], by rw [hlen]; omega, fun i hi => ?_, fun r hr => ?_⟩
  · have hi' : i < len := by rwa [hlen] at hi
    rw [hget]
    obtain ⟨⟨c0, c1, c2, c3, c4⟩, _⟩ := hC i hi'
    obtain ⟨b, o, rfl⟩ := plain_atR (by simpa using (hC 0 (by omega)).1.1)
    simp only [Go.WideShapes.add_plain] at c0 c1 c2 c3 c4
    exact ⟨b, o, rfl, c0, c1, c2, c3, c4⟩
  · obtain ⟨i, hi, rfl⟩ := List.mem_map.1 hr
    exact (hC i (List.mem_range.1 hi)).2

set_option maxRecDepth 100000 in
theorem open_newsSS {fuel : Nat} {v : Value} {x : DataW H × List MemPlace} (h : DataW.trod enc Tryd.prog w base spare held fuel 75 [v] = some x) :
    ∃ (a : Option Addr) (c : Nat) (nss : List (List NewsD)), v = .slice a nss.length c ∧ nss.length ≤ maxLen ∧ NewsSSAt w a nss ∧ (∀ i (h : i < nss.length), nss[i].length ≤ maxLen) ∧ ∀ ns ∈ nss, ∀ r ∈ ns, NewsWf r := by
  rcases open_slice Tryd.underlying75 h with ⟨hc, _⟩ | ⟨a, len, cap, m, n, D, Pl, hc, _, hl, hm, hmm, _, hel⟩
  · obtain rfl : v = .slice none 0 0 := by simpa using hc
    exact ⟨none, 0, [], rfl, by simp [maxLen], fun i hi => by simp at hi, fun i hi => by simp at hi, fun r hr => by simp at hr⟩
  obtain rfl : v = .slice (some a) len cap := by simpa using hc
  have hlm : len ≤ m := by rw [hmm]; split <;> omega
  rw [cLNewsS] at hel
  obtain ⟨T, hT⟩ := choose_lt (α := List NewsD) (n := len) (p := fun i ns => (∃ ca cc, w.cell? (a.add (i * 1)) = some (.slice ca ns.length cc) ∧ NewsAt w ca ns) ∧ ns.length ≤ maxLen ∧ ∀ r ∈ ns, NewsWf r) (fun i hi => by
    obtain ⟨cs', h1, h2⟩ := hel i (by omega)
    obtain ⟨_, hlen, hcell⟩ := World.cells?_some h1
    match cs', hlen with
    | [c0], _ =>
      obtain ⟨ca, cc, ns, rfl, hn, hat, hwf⟩ := open_newsS h2
      refine ⟨ns, ⟨ca, cc, ?_, hat⟩, hn, hwf⟩
      simpa [Addr.add] using hcell 0 (by omega))
  have hlen : ((List.range len).map T).length = len := by simp
  have hget : ∀ i (h : i < ((List.range len).map T).length), ((List.range len).map T)[i] = T i := fun i h => by simp
  refine ⟨some a, cap, (List.range len).map T, by rw [hlen], by rw [hlen]; omega, fun i hi => ?_, fun i hi => ?_, fun t ht => ?_⟩
  · have hi' : i < len := by rwa [hlen] at hi
    rw [hget]
    obtain ⟨⟨ca, cc, c0, hat⟩, _⟩ := hT i hi'
    obtain ⟨⟨_, _, z0, _⟩, _⟩ := hT 0 (by omega)
    obtain ⟨b, o, rfl⟩ := plain_atR (by simpa using z0)
    simp only [Go.WideShapes.add_plain, Nat.mul_one] at c0
    exact ⟨b, o, ca, cc, rfl, c0, hat⟩
  · have hi' : i < len := by rwa [hlen] at hi
    rw [hget]
    exact (hT i hi').2.1
  · obtain ⟨i, hi, rfl⟩ := List.mem_map.1 ht
    exact (hT i (List.mem_range.1 hi)).2.2

end
end Go.Proofs.YtjioingdpfgadaaDoor
