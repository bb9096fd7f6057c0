import Derived.Test.YtjioingdpfgadaaDoorLaw1
import Derived.ProofKit
import Derived.OpenShut
import Derived.Lib.SmallJoins
import Derived.Deep.Slices
import Derived.Deep.Strs
namespace Go.Proofs.YtjioingdpfgadaaDoor
open Go Go.RowKit Go.Deep Go.ChangeShapes Go.WideShapes Go.Joins

theorem cStr : Tryd.prog.cellsOf 9 = 1 := by kernel_rfl
theorem cInt : Tryd.prog.cellsOf 3 = 1 := by kernel_rfl
theorem cLTrip : Tryd.prog.cellsOf 193 = 2 := by kernel_rfl
theorem cLCall : Tryd.prog.cellsOf 226 = 4 := by kernel_rfl
theorem cLCalls : Tryd.prog.cellsOf 191 = 1 := by kernel_rfl
theorem cLBook : Tryd.prog.cellsOf 65 = 2 := by kernel_rfl

section
variable {H : Type} {enc : TypeId × Value → H} {w : World} {base : Nat} {spare : Nat → Bool} {held : Bool}

/-- A cell at an address of a slice's: the address is a plain one. -/
theorem plain_at {a : Addr} {v : Value} (h : w.cell? (a.add 0) = some v) : ∃ b o, a = ⟨b, o, none⟩ := by
  obtain ⟨b, off, spot⟩ := a
  have hspot : spot = none := by simpa [Addr.add] using World.cell?_spot h
  subst hspot
  exact ⟨b, off, rfl⟩

set_option maxRecDepth 100000 in
theorem open_callS {fuel : Nat} {v : Value} {x : DataW H × List MemPlace} (h : DataW.trod enc Tryd.prog w base spare held fuel 191 [v] = some x) :
    ∃ (a : Option Addr) (c : Nat) (cs : List CallD), v = .slice a cs.length c ∧ cs.length ≤ maxLen ∧ CallsAt w a cs ∧ ∀ i (h : i < cs.length), (Lit.int .i64 cs[i].st).wf = true := by
  rcases open_slice Tryd.underlying191 h with ⟨hc, _⟩ | ⟨a, len, cap, m, n, D, Pl, hc, _, hl, hm, hmm, _, hel⟩
  · obtain rfl : v = .slice none 0 0 := by simpa using hc
    exact ⟨none, 0, [], rfl, by simp [maxLen], fun i hi => by simp at hi, fun i hi => by simp at hi⟩
  obtain rfl : v = .slice (some a) len cap := by simpa using hc
  have hlm : len ≤ m := by rw [hmm]; split <;> omega
  rw [cLCall] at hel
  have inh : Inhabited CallD := ⟨⟨0, 0, 0, 0⟩⟩
  obtain ⟨C, hC⟩ := choose_lt (α := CallD) (n := len) (p := fun i c => (w.cell? (a.add (i * 4)) = some (.int .i64 c.st) ∧ w.cell? ((a.add (i * 4)).add 1) = some (.int .i64 c.co) ∧ w.cell? ((a.add (i * 4)).add 2) = some (.int .i64 c.go) ∧ w.cell? ((a.add (i * 4)).add 3) = some (.int .i64 c.tr)) ∧ (Lit.int .i64 c.st).wf = true) (fun i hi => by
    obtain ⟨cs', h1, h2⟩ := hel i (by omega)
    obtain ⟨_, hlen, hcell⟩ := World.cells?_some h1
    obtain ⟨y0, y1, y2, y3, n', _, _, d0, d1, d2, d3⟩ := trod_struct4 Tryd.underlying226 h2
    match cs', hlen with
    | [c0, c1, c2, c3], _ =>
      simp only [cInt, List.drop_zero, List.take_succ_cons, List.take_zero, List.drop_succ_cons] at d0 d1 d2 d3
      obtain ⟨x0, e0, _, wf0⟩ := DataW.trod_int Tryd.underlying3 d0
      obtain ⟨x1, e1, _, _⟩ := DataW.trod_int Tryd.underlying3 d1
      obtain ⟨x2, e2, _, _⟩ := DataW.trod_int Tryd.underlying3 d2
      obtain ⟨x3, e3, _, _⟩ := DataW.trod_int Tryd.underlying3 d3
      simp at e0 e1 e2 e3
      subst e0; subst e1; subst e2; subst e3
      refine ⟨⟨x0, x1, x2, x3⟩, ⟨?_, ?_, ?_, ?_⟩, wf0⟩
      · simpa [Addr.add] using hcell 0 (by omega)
      · simpa using hcell 1 (by omega)
      · simpa using hcell 2 (by omega)
      · simpa using hcell 3 (by omega))
  have hlen : ((List.range len).map C).length = len := by simp
  have hget : ∀ i (h : i < ((List.range len).map C).length), ((List.range len).map C)[i] = C i := fun i h => by simp
  refine ⟨some a, cap, (List.range len).map C, by rw [hlen], by rw [hlen]; omega, fun i hi => ?_, fun i hi => ?_⟩
  · have hi' : i < len := by rwa [hlen] at hi
    rw [hget]
    obtain ⟨⟨c0, c1, c2, c3⟩, _⟩ := hC i hi'
    obtain ⟨b, o, rfl⟩ := plain_at (by simpa using (hC 0 (by omega)).1.1)
    simp only [Go.WideShapes.add_plain] at c0 c1 c2 c3
    exact ⟨b, o, rfl, c0, c1, c2, c3⟩
  · have hi' : i < len := by rwa [hlen] at hi
    rw [hget]
    exact (hC i hi').2

set_option maxRecDepth 100000 in
theorem open_tripS {fuel : Nat} {v : Value} {x : DataW H × List MemPlace} (h : DataW.trod enc Tryd.prog w base spare held fuel 63 [v] = some x) :
    ∃ (a : Option Addr) (c : Nat) (ts : List TripD), v = .slice a ts.length c ∧ ts.length ≤ maxLen ∧ TripsAt w a ts ∧ (∀ i (h : i < ts.length), ts[i].name.size ≤ maxLen ∧ ts[i].calls.length ≤ maxLen) ∧ ∀ t ∈ ts, ∀ i (h : i < t.calls.length), (Lit.int .i64 t.calls[i].st).wf = true := by
  rcases open_slice Tryd.underlying63 h with ⟨hc, _⟩ | ⟨a, len, cap, m, n, D, Pl, hc, _, hl, hm, hmm, _, hel⟩
  · obtain rfl : v = .slice none 0 0 := by simpa using hc
    exact ⟨none, 0, [], rfl, by simp [maxLen], fun i hi => by simp at hi, fun i hi => by simp at hi, fun t ht => by simp at ht⟩
  obtain rfl : v = .slice (some a) len cap := by simpa using hc
  have hlm : len ≤ m := by rw [hmm]; split <;> omega
  rw [cLTrip] at hel
  have inh : Inhabited TripD := ⟨⟨ByteArray.empty, []⟩⟩
  obtain ⟨T, hT⟩ := choose_lt (α := TripD) (n := len) (p := fun i t => (∃ ca cc, w.cell? (a.add (i * 2)) = some (.string t.name) ∧ w.cell? ((a.add (i * 2)).add 1) = some (.slice ca t.calls.length cc) ∧ CallsAt w ca t.calls) ∧ t.name.size ≤ maxLen ∧ t.calls.length ≤ maxLen ∧ ∀ i (h : i < t.calls.length), (Lit.int .i64 t.calls[i].st).wf = true) (fun i hi => by
    obtain ⟨cs', h1, h2⟩ := hel i (by omega)
    obtain ⟨_, hlen, hcell⟩ := World.cells?_some h1
    obtain ⟨y0, y1, n', _, _, d0, d1⟩ := trod_struct2 Tryd.underlying193 h2
    match cs', hlen with
    | [c0, c1], _ =>
      simp only [cStr, cLCalls, List.drop_zero, List.take_succ_cons, List.take_zero, List.drop_succ_cons] at d0 d1
      obtain ⟨s, e0, _, hs⟩ := DataW.trod_string Tryd.underlying9 d0
      simp at e0
      subst e0
      obtain ⟨ca, cc, cs, rfl, hn, hat, hwf⟩ := open_callS d1
      refine ⟨⟨s, cs⟩, ⟨ca, cc, ?_, ?_, hat⟩, hs, hn, hwf⟩
      · simpa [Addr.add] using hcell 0 (by omega)
      · simpa using hcell 1 (by omega))
  have hlen : ((List.range len).map T).length = len := by simp
  have hget : ∀ i (h : i < ((List.range len).map T).length), ((List.range len).map T)[i] = T i := fun i h => by simp
  refine ⟨some a, cap, (List.range len).map T, by rw [hlen], by rw [hlen]; omega, fun i hi => ?_, fun i hi => ?_, fun t ht => ?_⟩
  · have hi' : i < len := by rwa [hlen] at hi
    rw [hget]
    obtain ⟨⟨ca, cc, c0, c1, hat⟩, _⟩ := hT i hi'
    obtain ⟨⟨_, _, z0, _⟩, _⟩ := hT 0 (by omega)
    obtain ⟨b, o, rfl⟩ := plain_at (by simpa using z0)
    simp only [Go.WideShapes.add_plain] at c0 c1
    exact ⟨b, o, ca, cc, rfl, c0, c1, hat⟩
  · have hi' : i < len := by rwa [hlen] at hi
    rw [hget]
    exact ⟨(hT i hi').2.1, (hT i hi').2.2.1⟩
  · obtain ⟨i, hi, rfl⟩ := List.mem_map.1 ht
    exact (hT i (List.mem_range.1 hi)).2.2.2

set_option maxRecDepth 100000 in
theorem open_book {r : Reach} {b0 : Nat} {v : Value} {d : DataW H} {p : List MemPlace} (hv : Value.okWide Tryd.prog w r b0 65 v) (h : DataW.Trod enc Tryd.prog w base spare held 65 v d p) :
    ∃ bk, BookAt w v bk ∧ BookLens bk ∧ BookWf bk := by
  obtain ⟨v0, v1, y0, y1, n, rfl, _, _, t0, t1⟩ := open_agg2 Tryd.underlying65 (by kernel_rfl) cLBook hv h
  obtain ⟨ta, tc, ts, rfl, l3, hta, l4, hwf⟩ := open_tripS t1
  rcases open_strs Tryd.underlying23 Tryd.underlying9 cStr t0 with ⟨hc, _⟩ | ⟨a, len, cap, m, Sx, hc, _, hl, hm, hmm, _, hel⟩
  · obtain rfl : v0 = .slice none 0 0 := by simpa using hc
    exact ⟨⟨[], ts⟩, ⟨none, 0, ta, tc, rfl, fun i hi => by simp at hi, hta⟩, ⟨by simp [maxLen], fun i hi => by simp at hi, l3, l4⟩, hwf⟩
  obtain rfl : v0 = .slice (some a) len cap := by simpa using hc
  have hlm : len ≤ m := by rw [hmm]; split <;> omega
  have hlen : ((List.range len).map Sx).length = len := by simp
  have hget : ∀ i (h : i < ((List.range len).map Sx).length), ((List.range len).map Sx)[i] = Sx i := fun i h => by simp
  refine ⟨⟨(List.range len).map Sx, ts⟩, ⟨some a, cap, ta, tc, by rw [hlen], fun i hi => ?_, hta⟩, ⟨by rw [hlen]; omega, fun i hi => ?_, l3, l4⟩, hwf⟩
  · have hi' : i < len := by rwa [hlen] at hi
    have p0 := (hel i (by omega)).1
    obtain ⟨b, o, rfl⟩ := plain_at (hel 0 (by omega)).1
    rw [Go.WideShapes.add_plain] at p0
    exact ⟨b, o, rfl, by rw [hget]; exact p0⟩
  · have hi' : i < len := by rwa [hlen] at hi
    rw [hget]
    exact (hel i (by omega)).2

end
end Go.Proofs.YtjioingdpfgadaaDoor
