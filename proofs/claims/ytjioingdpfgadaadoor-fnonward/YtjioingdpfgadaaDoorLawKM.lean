import Derived.Test.YtjioingdpfgadaaDoorProg
import Derived.Test.YtjioingdpfgadaaDoorSpecOM
import Derived.Test.YtjioingdpfgadaaDoorToInM
import Derived.Test.YtjioingdpfgadaaDoorDrwGM
import Derived.Test.YtjioingdpfgadaaDoorMarkNM
import Derived.Test.YtjioingdpfgadaaDoorSpecBM
namespace Go.Proofs.YtjioingdpfgadaaDoor
open Go Go.RowKit Go.Deep

theorem box_two (w : World) (x y : Value) (t : TypeId) (wr : World) (h : Below (w.heap.size + 1) (w.alloc (.cells #[x, y] t)) wr) :
    wr.cell? ⟨w.heap.size, 0, none⟩ = some x ∧ wr.cell? ⟨w.heap.size, 1, none⟩ = some y := by
  have h0 := h.cell (p := ⟨w.heap.size, 0, none⟩) (Nat.lt_succ_self _)
  have h1 := h.cell (p := ⟨w.heap.size, 1, none⟩) (Nat.lt_succ_self _)
  exact ⟨by rw [h0]; simp [go_sem], by rw [h1]; simp [go_sem]⟩
theorem sumLens_shape {bk : BookD} {nss : List (List NewsD)} (h : ShapeOf bk nss) : newsSize nss ≤ bookSize bk := by
  have hl := h.length
  have key : ∀ (ts : List TripD) (ms : List (List NewsD)), ms.map (·.length) = ts.map (fun t => t.calls.length) → sumLens ms ≤ sumTrips ts := by
    intro ts
    induction ts with
    | nil => intro ms hm; cases ms with
      | nil => simp [sumLens]
      | cons a l => simp at hm
    | cons t ts ih => intro ms hm; cases ms with
      | nil => simp at hm
      | cons a l =>
        simp only [List.map_cons, List.cons.injEq] at hm
        have := ih l hm.2
        simp only [sumLens, sumTrips, tripSize]
        omega
  have := key _ _ h
  unfold newsSize bookSize tripsSize
  omega
theorem knownD_size (bk : BookD) (rs : List RepD) (tick : Int) : newsSize (knownD bk rs tick) ≤ bookSize bk := by
  unfold knownD
  split
  · exact sumLens_shape (shape_to bk tick rs)
  · simp [newsSize, sumLens]
theorem sumMarks_trips (ts : List TripD) : sumMarks (ts.map (·.calls.length)) ≤ ts.length + sumTrips ts * 4 := by
  induction ts with
  | nil => simp [sumMarks]
  | cons t ts ih => simp only [List.map_cons, sumMarks, List.length_cons, sumTrips, tripSize]; omega
theorem Kept.below {L R B : Nat} {a b : World} (h : Kept L R a b) (h1 : B ≤ L) (h2 : B ≤ a.heap.size) : Below B a b := ⟨h.os, h.tape, h.output, h.size, fun k hk => h.block k (by omega) (Or.inl (by omega))⟩
theorem owns_keptOut {L R B : Nat} {w w' : World} {e : TypeId} {s n : Nat} {v : Value} {xs : List Value} (h : w.ownsRow B e s v n xs) (hk : Kept L R w w') (hB : R ≤ B) : w'.ownsRow B e s v n xs := by
  refine ⟨h.1, ?_⟩
  rcases h.2 with h0 | ⟨g, cap, cur, rfl, h1, hh, r⟩
  · exact Or.inl h0
  · have hlt := (h.lt g rfl).2
    exact Or.inr ⟨g, cap, cur, rfl, h1, by rw [hk.block g hlt (Or.inr (by omega))]; exact hh, r⟩
theorem NewsOwnAt.keptOut {L R B : Nat} {w w' : World} {v : Value} {nss : List (List NewsD)} {vs : List Value} (h : NewsOwnAt B w v nss vs) (hk : Kept L R w w') (hB : R ≤ B) : NewsOwnAt B w' v nss vs :=
  ⟨owns_keptOut h.outer hk hB, h.len, fun i h1 h2 => owns_keptOut (h.rows i h1 h2) hk hB, h.apart⟩
theorem NewsOwnAt.ss {B n c : Nat} {w : World} {a : Option Addr} {nss : List (List NewsD)} {vs : List Value} (h : NewsOwnAt B w (.slice a n c) nss vs) : NewsSSAt w a nss := by
  obtain ⟨na, nc, e, h1⟩ := h.at
  simp only [Value.slice.injEq] at e
  obtain ⟨rfl, _, _⟩ := e
  exact h1
theorem BookIn.keep {L R : Nat} {w w' : World} {v : Value} {n : Nat} {ls : List Nat} (h : BookIn L R w v n ls) (hb : Below w.heap.size w w') : BookIn L R w' v n ls := by
  obtain ⟨b, sc, ta, tc, rfl, hL, hR, ⟨f, hrow⟩, ⟨b', g, e, hL', hR', hr, hcs⟩⟩ := h
  refine ⟨b, sc, ta, tc, rfl, hL, hR, ⟨f, hrow.of_block (hb.block _ hrow.lt)⟩, ⟨b', g, e, hL', hR', hr.of_block (hb.block _ hr.lt), fun i hi => ?_⟩⟩
  obtain ⟨ca, cc, e1, h1⟩ := hcs i hi
  exact ⟨ca, cc, e1, h1.shape (Shape.of_below hb)⟩

end Go.Proofs.YtjioingdpfgadaaDoor
