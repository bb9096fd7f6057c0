import Derived.Test.YtjioingdpfgadabGreatDoorEqFM
import Derived.ProofKit
import Derived.OpenShut
import Derived.Lib.SmallJoins
import Derived.Deep.Slices
import Derived.Deep.Strs
import Derived.Test.YtjioingdpfgadabGreatDoorProg
import Derived.Test.YtjioingdpfgadabGreatDoorBaseR
namespace Go.Proofs.YtjioingdpfgadabGreatDoor
open Go Go.RowKit Go.Deep Go.ChangeShapes Go.WideShapes Go.Joins

theorem cStr : Tryz.prog.cellsOf 9 = 1 := by kernel_rfl
theorem cInt : Tryz.prog.cellsOf 3 = 1 := by kernel_rfl
theorem cLTrip : Tryz.prog.cellsOf 109 = 2 := by kernel_rfl
theorem cLCall : Tryz.prog.cellsOf 172 = 4 := by kernel_rfl
theorem cLCalls : Tryz.prog.cellsOf 107 = 1 := by kernel_rfl
theorem cLBook : Tryz.prog.cellsOf 25 = 2 := by kernel_rfl

section
variable {H : Type} {enc : TypeId × Value → H} {w : World} {base : Nat} {spare : Nat → Bool} {held : Bool}

/-- A cell at an address of a slice's: the address is a plain one. -/
theorem plain_at {a : Addr} {v : Value} (h : w.cell? (a.add 0) = some v) : ∃ b o, a = ⟨b, o, none⟩ := by
  obtain ⟨b, off, spot⟩ := a
  have hspot : spot = none := by simpa [Addr.add] using World.cell?_spot h
  subst hspot
  exact ⟨b, off, rfl⟩

set_option maxRecDepth 100000 in
theorem open_callS {fuel : Nat} {v : Value} {x : DataW H × List MemPlace} (h : DataW.trod enc Tryz.prog w base spare held fuel 107 [v] = some x) :
    ∃ (a : Option Addr) (c : Nat) (cs : List CallD), v = .slice a cs.length c ∧ cs.length ≤ maxLen ∧ CallsAt w a cs ∧ ∀ i (h : i < cs.length), (Lit.int .i64 cs[i].st).wf = true := by
  rcases open_slice Tryz.underlying107 h with ⟨hc, _⟩ | ⟨a, len, cap, m, n, D, Pl, hc, _, hl, hm, hmm, _, hel⟩
  · obtain rfl : v = .slice none 0 0 := by simpa using hc
    exact ⟨none, 0, [], rfl, by simp [maxLen], fun i hi => by simp at hi, fun i hi => by simp at hi⟩
  obtain rfl : v = .slice (some a) len cap := by simpa using hc
  have hlm : len ≤ m := by rw [hmm]; split <;> omega
  rw [cLCall] at hel
  have inh : Inhabited CallD := ⟨⟨0, 0, 0, 0⟩⟩
  obtain ⟨C, hC⟩ := choose_lt (α := CallD) (n := len) (p := fun i c => (w.cell? (a.add (i * 4)) = some (.int .i64 c.st) ∧ w.cell? ((a.add (i * 4)).add 1) = some (.int .i64 c.co) ∧ w.cell? ((a.add (i * 4)).add 2) = some (.int .i64 c.go) ∧ w.cell? ((a.add (i * 4)).add 3) = some (.int .i64 c.tr)) ∧ (Lit.int .i64 c.st).wf = true) (fun i hi => by
    obtain ⟨cs', h1, h2⟩ := hel i (by omega)
    obtain ⟨_, hlen, hcell⟩ := World.cells?_some h1
    obtain ⟨y0, y1, y2, y3, n', _, _, d0, d1, d2, d3⟩ := trod_struct4 Tryz.underlying172 h2
    match cs', hlen with
    | [c0, c1, c2, c3], _ =>
      simp only [cInt, List.drop_zero, List.take_succ_cons, List.take_zero, List.drop_succ_cons] at d0 d1 d2 d3
      obtain ⟨x0, e0, _, wf0⟩ := DataW.trod_int Tryz.underlying3 d0
      obtain ⟨x1, e1, _, _⟩ := DataW.trod_int Tryz.underlying3 d1
      obtain ⟨x2, e2, _, _⟩ := DataW.trod_int Tryz.underlying3 d2
      obtain ⟨x3, e3, _, _⟩ := DataW.trod_int Tryz.underlying3 d3
      simp at e0 e1 e2 e3
      subst e0; subst e1; subst e2; subst e3
      refine ⟨⟨x0, x1, x2, x3⟩, ⟨?_, ?_, ?_, ?_⟩, wf0⟩
      · simpa [Addr.add] using hcell 0 (by omega)
      · simpa using hcell 1 (by omega)
      · simpa using hcell 2 (by omega)
      · simpa using hcell 3 (by omega))
  have hlen : ((List.range len).map C).length = len := by simp
  have hget : ∀ i (h : i < ((List.range len).map C).length), ((List.range len).map C)[i] = C i := fun i h => by simp
  refine ⟨some a, cap, (List.range len).map C, by rw [hlen], by rw [hlen]; omega, fun i hi => ?_, fun i hi => ?_⟩
  · have hi' : i < len := by rwa [hlen] at hi
    rw [hget]
    obtain ⟨⟨c0, c1, c2, c3⟩, _⟩ := hC i hi'
    obtain ⟨b, o, rfl⟩ := plain_at (by simpa using (hC 0 (by omega)).1.1)
    simp only [Go.WideShapes.add_plain] at c0 c1 c2 c3
    exact ⟨b, o, rfl, c0, c1, c2, c3⟩
  · have hi' : i < len := by rwa [hlen] at hi
    rw [hget]
    exact (hC i hi').2

set_option maxRecDepth 100000 in
theorem open_tripS {fuel : Nat} {v : Value} {x : DataW H × List MemPlace} (h : DataW.trod enc Tryz.prog w base spare held fuel 23 [v] = some x) :
    ∃ (a : Option Addr) (c : Nat) (ts : List TripD), v = .slice a ts.length c ∧ ts.length ≤ maxLen ∧ TripsAt w a ts ∧ (∀ i (h : i < ts.length), ts[i].name.size ≤ maxLen ∧ ts[i].calls.length ≤ maxLen) ∧ ∀ t ∈ ts, ∀ i (h : i < t.calls.length), (Lit.int .i64 t.calls[i].st).wf = true := by
  rcases open_slice Tryz.underlying23 h with ⟨hc, _⟩ | ⟨a, len, cap, m, n, D, Pl, hc, _, hl, hm, hmm, _, hel⟩
  · obtain rfl : v = .slice none 0 0 := by simpa using hc
    exact ⟨none, 0, [], rfl, by simp [maxLen], fun i hi => by simp at hi, fun i hi => by simp at hi, fun t ht => by simp at ht⟩
  obtain rfl : v = .slice (some a) len cap := by simpa using hc
  have hlm : len ≤ m := by rw [hmm]; split <;> omega
  rw [cLTrip] at hel
  have inh : Inhabited TripD := ⟨⟨ByteArray.empty, []⟩⟩
  obtain ⟨T, hT⟩ := choose_lt (α := TripD) (n := len) (p := fun i t => (∃ ca cc, w.cell? (a.add (i * 2)) = some (.string t.name) ∧ w.cell? ((a.add (i * 2)).add 1) = some (.slice ca t.calls.length cc) ∧ CallsAt w ca t.calls) ∧ t.name.size ≤ maxLen ∧ t.calls.length ≤ maxLen ∧ ∀ i (h : i < t.calls.length), (Lit.int .i64 t.calls[i].st).wf = true) (fun i hi => by
    obtain ⟨cs', h1, h2⟩ := hel i (by omega)
    obtain ⟨_, hlen, hcell⟩ := World.cells?_some h1
    obtain ⟨y0, y1, n', _, _, d0, d1⟩ := trod_struct2 Tryz.underlying109 h2
    match cs', hlen with
    | [c0, c1], _ =>
      simp only [cStr, cLCalls, List.drop_zero, List.take_succ_cons, List.take_zero, List.drop_succ_cons] at d0 d1
      obtain ⟨s, e0, _, hs⟩ := DataW.trod_string Tryz.underlying9 d0
      simp at e0
      subst e0
      obtain ⟨ca, cc, cs, rfl, hn, hat, hwf⟩ := open_callS d1
      refine ⟨⟨s, cs⟩, ⟨ca, cc, ?_, ?_, hat⟩, hs, hn, hwf⟩
      · simpa [Addr.add] using hcell 0 (by omega)
      · simpa using hcell 1 (by omega))
  have hlen : ((List.range len).map T).length = len := by simp
  have hget : ∀ i (h : i < ((List.range len).map T).length), ((List.range len).map T)[i] = T i := fun i h => by simp
  refine ⟨some a, cap, (List.range len).map T, by rw [hlen], by rw [hlen]; omega, fun i hi => ?_, fun i hi => ?_, fun t ht => ?_⟩
  · have hi' : i < len := by rwa [hlen] at hi
    rw [hget]
    obtain ⟨⟨ca, cc, c0, c1, hat⟩, _⟩ := hT i hi'
    obtain ⟨⟨_, _, z0, _⟩, _⟩ := hT 0 (by omega)
    obtain ⟨b, o, rfl⟩ := plain_at (by simpa using z0)
    simp only [Go.WideShapes.add_plain] at c0 c1
    exact ⟨b, o, ca, cc, rfl, c0, c1, hat⟩
  · have hi' : i < len := by rwa [hlen] at hi
    rw [hget]
    exact ⟨(hT i hi').2.1, (hT i hi').2.2.1⟩
  · obtain ⟨i, hi, rfl⟩ := List.mem_map.1 ht
    exact (hT i (List.mem_range.1 hi)).2.2.2

set_option maxRecDepth 100000 in
theorem open_book {r : Reach} {b0 : Nat} {v : Value} {d : DataW H} {p : List MemPlace} (hv : Value.okWide Tryz.prog w r b0 25 v) (h : DataW.Trod enc Tryz.prog w base spare held 25 v d p) :
    ∃ bk, BookAt w v bk ∧ BookLens bk ∧ BookWf bk := by
  obtain ⟨v0, v1, y0, y1, n, rfl, _, _, t0, t1⟩ := open_agg2 Tryz.underlying25 (by kernel_rfl) cLBook hv h
  obtain ⟨ta, tc, ts, rfl, l3, hta, l4, hwf⟩ := open_tripS t1
  rcases open_strs Tryz.underlying22 Tryz.underlying9 cStr t0 with ⟨hc, _⟩ | ⟨a, len, cap, m, Sx, hc, _, hl, hm, hmm, _, hel⟩
  · obtain rfl : v0 = .slice none 0 0 := by simpa using hc
    exact ⟨⟨[], ts⟩, ⟨none, 0, ta, tc, rfl, fun i hi => by simp at hi, hta⟩, ⟨by simp [maxLen], fun i hi => by simp at hi, l3, l4⟩, hwf⟩
  obtain rfl : v0 = .slice (some a) len cap := by simpa using hc
  have hlm : len ≤ m := by rw [hmm]; split <;> omega
  have hlen : ((List.range len).map Sx).length = len := by simp
  have hget : ∀ i (h : i < ((List.range len).map Sx).length), ((List.range len).map Sx)[i] = Sx i := fun i h => by simp
  refine ⟨⟨(List.range len).map Sx, ts⟩, ⟨some a, cap, ta, tc, by rw [hlen], fun i hi => ?_, hta⟩, ⟨by rw [hlen]; omega, fun i hi => ?_, l3, l4⟩, hwf⟩
  · have hi' : i < len := by rwa [hlen] at hi
    have p0 := (hel i (by omega)).1
    obtain ⟨b, o, rfl⟩ := plain_at (hel 0 (by omega)).1
    rw [Go.WideShapes.add_plain] at p0
    exact ⟨b, o, rfl, by rw [hget]; exact p0⟩
  · have hi' : i < len := by rwa [hlen] at hi
    rw [hget]
    exact (hel i (by omega)).2

end
end Go.Proofs.YtjioingdpfgadabGreatDoor
namespace Go.Proofs.YtjioingdpfgadabGreatDoor
open Go Go.RowKit Go.Deep Go.ChangeShapes Go.WideShapes Go.Joins

theorem cIntR : Tryz.prog.cellsOf 3 = 1 := by kernel_rfl

theorem cBoolR : Tryz.prog.cellsOf 4 = 1 := by kernel_rfl

theorem cLReport : Tryz.prog.cellsOf 66 = 5 := by kernel_rfl

section
variable {H : Type} {enc : TypeId × Value → H} {P : Program} {w : World} {base : Nat} {spare : Nat → Bool} {held : Bool}

/-- The numbers of a report are numbers of Go's int. -/
def RepWf (r : RepD) : Prop := (Lit.int .i64 r.tick).wf = true ∧ (Lit.int .i64 r.op).wf = true ∧ (Lit.int .i64 r.trip).wf = true ∧ (Lit.int .i64 r.call).wf = true ∧ (Lit.int .i64 r.n).wf = true
def NewsWf (x : NewsD) : Prop := (Lit.int .i64 x.late).wf = true ∧ (Lit.int .i64 x.track).wf = true

theorem five_of {α : Type} {cs : Array α} (h : cs.size = 5) : ∃ c0 c1 c2 c3 c4, cs = #[c0, c1, c2, c3, c4] := by
  obtain ⟨l⟩ := cs
  match l, h with
  | [c0, c1, c2, c3, c4], _ => exact ⟨c0, c1, c2, c3, c4, rfl⟩

theorem plain_atR {a : Addr} {v : Value} (h : w.cell? (a.add 0) = some v) : ∃ b o, a = ⟨b, o, none⟩ := by
  obtain ⟨b, off, spot⟩ := a
  have hspot : spot = none := by simpa [Addr.add] using World.cell?_spot h
  subst hspot
  exact ⟨b, off, rfl⟩

theorem trod_five {t : TypeId} {f0 f1 f2 f3 f4 : Field} {fuel : Nat} {cs : List Value} {x : DataW H × List MemPlace} (ht : P.underlying t = some (.struct #[f0, f1, f2, f3, f4])) (h : DataW.trod enc P w base spare held fuel t cs = some x) :
    ∃ y0 y1 y2 y3 y4 n, DataW.trod enc P w base spare held n f0.type ((cs.drop f0.offset).take (P.cellsOf f0.type)) = some y0 ∧
      DataW.trod enc P w base spare held n f1.type ((cs.drop f1.offset).take (P.cellsOf f1.type)) = some y1 ∧ DataW.trod enc P w base spare held n f2.type ((cs.drop f2.offset).take (P.cellsOf f2.type)) = some y2 ∧
      DataW.trod enc P w base spare held n f3.type ((cs.drop f3.offset).take (P.cellsOf f3.type)) = some y3 ∧ DataW.trod enc P w base spare held n f4.type ((cs.drop f4.offset).take (P.cellsOf f4.type)) = some y4 := by
  obtain ⟨xs, n, _, rfl, hl, hlen, hf⟩ := DataW.trod_struct ht h
  match xs, hlen with
  | [y0, y1, y2, y3, y4], _ => exact ⟨y0, y1, y2, y3, y4, n, by simpa using hf 0 f0 rfl, by simpa using hf 1 f1 rfl, by simpa using hf 2 f2 rfl, by simpa using hf 3 f3 rfl, by simpa using hf 4 f4 rfl⟩

set_option maxRecDepth 100000 in
theorem cells_report {fuel : Nat} {cs : List Value} {x : DataW H × List MemPlace} (hlen : cs.length = 5) (h : DataW.trod enc Tryz.prog w base spare held fuel 66 cs = some x) :
    ∃ r : RepD, cs = [.int .i64 r.tick, .int .i64 r.op, .int .i64 r.trip, .int .i64 r.call, .int .i64 r.n] ∧ RepWf r := by
  obtain ⟨y0, y1, y2, y3, y4, n', d0, d1, d2, d3, d4⟩ := trod_five Tryz.underlying66 h
  match cs, hlen with
  | [c0, c1, c2, c3, c4], _ =>
    simp only [cIntR, List.drop_zero, List.take_succ_cons, List.take_zero, List.drop_succ_cons] at d0 d1 d2 d3 d4
    obtain ⟨x0, e0, _, w0⟩ := DataW.trod_int Tryz.underlying3 d0
    obtain ⟨x1, e1, _, w1⟩ := DataW.trod_int Tryz.underlying3 d1
    obtain ⟨x2, e2, _, w2⟩ := DataW.trod_int Tryz.underlying3 d2
    obtain ⟨x3, e3, _, w3⟩ := DataW.trod_int Tryz.underlying3 d3
    obtain ⟨x4, e4, _, w4⟩ := DataW.trod_int Tryz.underlying3 d4
    simp at e0 e1 e2 e3 e4
    subst e0; subst e1; subst e2; subst e3; subst e4
    exact ⟨⟨x0, x1, x2, x3, x4⟩, rfl, w0, w1, w2, w3, w4⟩

set_option maxRecDepth 100000 in
theorem open_report {r : Reach} {b0 : Nat} {v : Value} {d : DataW H} {p : List MemPlace} (hv : Value.okWide Tryz.prog w r b0 66 v) (h : DataW.Trod enc Tryz.prog w base spare held 66 v d p) :
    ∃ r, v = repV r ∧ RepWf r := by
  obtain ⟨cs, rfl, hsz⟩ := okWide_struct Tryz.underlying66 hv
  obtain ⟨c0, c1, c2, c3, c4, rfl⟩ := five_of (hsz.trans cLReport)
  obtain ⟨fuel, hf⟩ := h
  obtain ⟨r, e, hwf⟩ := cells_report (by simp [Value.cells]) hf
  simp [Value.cells] at e
  obtain ⟨rfl, rfl, rfl, rfl, rfl⟩ := e
  exact ⟨r, rfl, hwf⟩

set_option maxRecDepth 100000 in
theorem open_repS {fuel : Nat} {v : Value} {x : DataW H × List MemPlace} (h : DataW.trod enc Tryz.prog w base spare held fuel 26 [v] = some x) :
    ∃ (a : Option Addr) (c : Nat) (rs : List RepD), v = .slice a rs.length c ∧ rs.length ≤ maxLen ∧ RepsAt w a rs ∧ ∀ r ∈ rs, RepWf r := by
  rcases open_slice Tryz.underlying26 h with ⟨hc, _⟩ | ⟨a, len, cap, m, n, D, Pl, hc, _, hl, hm, hmm, _, hel⟩
  · obtain rfl : v = .slice none 0 0 := by simpa using hc
    exact ⟨none, 0, [], rfl, by simp [maxLen], fun i hi => by simp at hi, fun r hr => by simp at hr⟩
  obtain rfl : v = .slice (some a) len cap := by simpa using hc
  have hlm : len ≤ m := by rw [hmm]; split <;> omega
  rw [cLReport] at hel
  have inh : Inhabited RepD := ⟨⟨0, 0, 0, 0, 0⟩⟩
  obtain ⟨C, hC⟩ := choose_lt (α := RepD) (n := len) (p := fun i r => (w.cell? (a.add (i * 5)) = some (.int .i64 r.tick) ∧ w.cell? ((a.add (i * 5)).add 1) = some (.int .i64 r.op) ∧ w.cell? ((a.add (i * 5)).add 2) = some (.int .i64 r.trip) ∧ w.cell? ((a.add (i * 5)).add 3) = some (.int .i64 r.call) ∧ w.cell? ((a.add (i * 5)).add 4) = some (.int .i64 r.n)) ∧ RepWf r) (fun i hi => by
    obtain ⟨cs', h1, h2⟩ := hel i (by omega)
    obtain ⟨_, hlen, hcell⟩ := World.cells?_some h1
    obtain ⟨r, rfl, hwf⟩ := cells_report hlen h2
    refine ⟨r, ⟨?_, ?_, ?_, ?_, ?_⟩, hwf⟩
    · simpa [Addr.add] using hcell 0 (by omega)
    · simpa using hcell 1 (by omega)
    · simpa using hcell 2 (by omega)
    · simpa using hcell 3 (by omega)
    · simpa using hcell 4 (by omega))
  have hlen : ((List.range len).map C).length = len := by simp
  have hget : ∀ i (h : i < ((List.range len).map C).length), ((List.range len).map C)[i] = C i := fun i h => by simp
  refine ⟨some a, cap, (List.range len).map C, by rw [hlen], by rw [hlen]; omega, fun i hi => ?_, fun r hr => ?_⟩
  · have hi' : i < len := by rwa [hlen] at hi
    rw [hget]
    obtain ⟨⟨c0, c1, c2, c3, c4⟩, _⟩ := hC i hi'
    obtain ⟨b, o, rfl⟩ := plain_atR (by simpa using (hC 0 (by omega)).1.1)
    simp only [Go.WideShapes.add_plain] at c0 c1 c2 c3 c4
    exact ⟨b, o, rfl, c0, c1, c2, c3, c4⟩
  · obtain ⟨i, hi, rfl⟩ := List.mem_map.1 hr
    exact (hC i (List.mem_range.1 hi)).2

end
end Go.Proofs.YtjioingdpfgadabGreatDoor
