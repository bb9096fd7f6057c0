import Derived.Test.YtjioingdpfgadaaDoorDrwDM
import Derived.Test.YtjioingdpfgadaaDoorProg
import Derived.Test.YtjioingdpfgadaaDoorSzM
import Derived.Test.YtjioingdpfgadaaDoorToM
import Derived.BigRegion
import Derived.Deep.RegionWith
namespace Go.Proofs.YtjioingdpfgadaaDoor
open Go Go.RowKit Go.Deep

/-- A book in memory of one's own. -/
def BookOwn (B : Nat) (w : World) (v : Value) (bk : BookD) : Prop := ∃ sv tv vs, v = .agg #[sv, tv] ∧ w.ownsRow B 9 1 sv bk.sts.length (bk.sts.map Value.string) ∧ TripsOwn B w tv bk.trips vs
theorem BookOwn.at {B : Nat} {w : World} {v : Value} {bk : BookD} (h : BookOwn B w v bk) : BookAt w v bk := by
  obtain ⟨sv, tv, vs, rfl, h1, h2⟩ := h
  obtain ⟨a, c, rfl, k1⟩ := strs_at h1
  obtain ⟨a', c', rfl, k2⟩ := trips_at h2
  exact ⟨a, c, a', c', rfl, k1, k2⟩
theorem BookOwn.keepC {B C : Nat} {w w' : World} {v : Value} {bk : BookD} (h : BookOwn B w v bk) (hk : KeepC C w.heap.size w w') (hC : C < B) : BookOwn B w' v bk := by
  obtain ⟨sv, tv, vs, rfl, h1, h2⟩ := h
  exact ⟨sv, tv, vs, rfl, owns_keepC h1 hk hC, h2.keepC hk hC⟩
theorem BookOwn.below {B : Nat} {w w' : World} {v : Value} {bk : BookD} (h : BookOwn B w v bk) (hb : Below w.heap.size w w') : BookOwn B w' v bk := by
  obtain ⟨sv, tv, vs, rfl, h1, h2⟩ := h
  exact ⟨sv, tv, vs, rfl, owns_below h1 hb (owns_lt h1), h2.below hb⟩
theorem BookOwn.mono {B B' : Nat} {w : World} {v : Value} {bk : BookD} (h : BookOwn B w v bk) (hB : B' ≤ B) : BookOwn B' w v bk := by
  obtain ⟨sv, tv, vs, rfl, h1, h2⟩ := h
  exact ⟨sv, tv, vs, rfl, owns_mono h1 hB, owns_mono h2.outer hB, h2.len, fun i a b => owns_mono (h2.rows i a b) hB⟩
/-- The five cells of a report. -/
def fiveOf (r : RepD) : List Value := [.int .i64 r.tick, .int .i64 r.op, .int .i64 r.trip, .int .i64 r.call, .int .i64 r.n]
def fives (rs : List RepD) : List Value := rs.flatMap fiveOf
theorem fives_snoc (rs : List RepD) (r : RepD) : fives (rs ++ [r]) = fives rs ++ fiveOf r := by simp [fives]
theorem fives_length (rs : List RepD) : (fives rs).length = rs.length * 5 := by
  induction rs with
  | nil => rfl
  | cons a l ih => simp only [fives, List.flatMap_cons, List.length_append, List.length_cons] at ih ⊢; rw [show (l.flatMap fiveOf).length = l.length * 5 from ih]; simp [fiveOf]; omega
theorem fives_get (rs : List RepD) (i c : Nat) (h : i < rs.length) (hc : c < 5) : (fives rs)[i * 5 + c]? = (fiveOf rs[i])[c]? := by
  induction rs generalizing i with
  | nil => simp at h
  | cons a l ih =>
    have e : fives (a :: l) = fiveOf a ++ fives l := by simp [fives]
    rw [e]
    cases i with
    | zero => rw [List.getElem?_append_left (by simp [fiveOf]; omega)]; simp
    | succ i =>
      rw [List.getElem?_append_right (by simp [fiveOf]; omega)]
      have : (i + 1) * 5 + c - (fiveOf a).length = i * 5 + c := by simp [fiveOf]; omega
      rw [this, ih i (by simpa using h)]
      rfl
theorem five_one (r : RepD) : ∀ u ∈ fiveOf r, u.oneCell' = true := by
  intro u hu
  simp only [fiveOf, List.mem_cons, List.not_mem_nil, or_false] at hu
  rcases hu with rfl | rfl | rfl | rfl | rfl <;> rfl
/-- Reports in memory of one's own can be read. -/
theorem reps_at {B : Nat} {w : World} {v : Value} {rs : List RepD} (h : w.ownsRow B 45 5 v rs.length (fives rs)) : ∃ a c, v = .slice a rs.length c ∧ RepsAt w a rs := by
  rcases h.2 with ⟨e, e0⟩ | ⟨g, cap, cur, e, _⟩
  · exact ⟨none, 0, by rw [e, e0], fun j hj => by omega⟩
  · refine ⟨some ⟨g, 0, none⟩, cap, e, fun j hj => ?_⟩
    rw [e] at h
    have hc : ∀ c, c < 5 → w.cell? ⟨g, j * 5 + c, none⟩ = (fiveOf rs[j])[c]? := fun c hc => by
      rw [h.cellAt _ (by omega), fives_get _ j c hj hc]
    refine ⟨g, 0, rfl, ?_, ?_, ?_, ?_, ?_⟩
    · simpa [fiveOf] using hc 0 (by omega)
    · simpa [fiveOf] using hc 1 (by omega)
    · simpa [fiveOf] using hc 2 (by omega)
    · simpa [fiveOf] using hc 3 (by omega)
    · simpa [fiveOf] using hc 4 (by omega)
/-- The first call that has not gone: op and call of what can be told of it. -/
def openF (ns : List NewsD) (d : Nat × Nat) : Nat × Nat :=
  match ns.findIdx? (fun x => !x.gone) with
  | some k => ((if (ns[k]?.map (·.here)).getD false then 5 else 4), k)
  | none => d
theorem openF_some {ns : List NewsD} {d : Nat × Nat} {k : Nat} (hk : k < ns.length) (hall : ∀ p (h : p < ns.length), p < k → ns[p].gone = true) (hg : ns[k].gone = false) : openF ns d = ((if ns[k].here then 5 else 4), k) := by
  have : ns.findIdx? (fun x => !x.gone) = some k := by
    rw [List.findIdx?_eq_some_iff_getElem]
    exact ⟨hk, by simp [hg], fun p hp => by simp [hall p (by omega) hp]⟩
  unfold openF; rw [this]; simp [List.getElem?_eq_getElem hk]
theorem openF_none {ns : List NewsD} {d : Nat × Nat} (hall : ∀ p (h : p < ns.length), ns[p].gone = true) : openF ns d = d := by
  have : ns.findIdx? (fun x => !x.gone) = none := by
    rw [List.findIdx?_eq_none_iff]
    intro x hx
    obtain ⟨p, hp, rfl⟩ := List.getElem_of_mem hx
    simp [hall p hp]
  unfold openF; rw [this]
def numF (bs : List Int) (op : Nat) (s : Rd) : Nat × Rd :=
  if op = 1 then ((pickF bs 30 s).1 * (pickF bs 2 (pickF bs 30 s).2).1, (pickF bs 2 (pickF bs 30 s).2).2)
  else if op = 2 then (1 + (pickF bs 4 s).1, (pickF bs 4 s).2)
  else (0, s)
theorem numF_1 (bs : List Int) (s s1 s2 : Rd) (x y : Nat) (h1 : pickF bs 30 s = (x, s1)) (h2 : pickF bs 2 s1 = (y, s2)) : numF bs 1 s = (x * y, s2) := by unfold numF; rw [if_pos rfl, h1, h2]
theorem numF_2 (bs : List Int) (s s1 : Rd) (x : Nat) (h1 : pickF bs 4 s = (x, s1)) : numF bs 2 s = (1 + x, s1) := by unfold numF; rw [if_neg (by decide), if_pos rfl, h1]
theorem numF_0 (bs : List Int) (op : Nat) (s : Rd) (h1 : op ≠ 1) (h2 : op ≠ 2) : numF bs op s = (0, s) := by unfold numF; rw [if_neg h1, if_neg h2]
/-- One report as it is drawn. -/
def repF (bs : List Int) (bk : BookD) (tm : Nat) (nss : List (List NewsD)) (s : Rd) : RepD × Rd :=
  let i := pickF bs bk.trips.length s
  let o := pickF bs 5 i.2
  let c := pickF bs (callsOf bk i.1).length o.2
  let z := pickF bs 2 c.2
  let d := if z.1 = 0 then openF (nss.getD i.1 []) (1 + o.1, c.1) else (1 + o.1, c.1)
  let n := numF bs d.1 z.2
  (⟨tm, d.1, i.1, d.2, n.1⟩, n.2)
theorem repF_eq (bs : List Int) (bk : BookD) (tm : Nat) (nss : List (List NewsD)) (s s1 s2 s3 s4 s5 : Rd) (i o c z op k n : Nat) (h1 : pickF bs bk.trips.length s = (i, s1)) (h2 : pickF bs 5 s1 = (o, s2)) (h3 : pickF bs (callsOf bk i).length s2 = (c, s3)) (h4 : pickF bs 2 s3 = (z, s4))
    (h5 : (if z = 0 then openF (nss.getD i []) (1 + o, c) else (1 + o, c)) = (op, k)) (h6 : numF bs op s4 = (n, s5)) : repF bs bk tm nss s = (⟨tm, op, i, k, n⟩, s5) := by
  unfold repF; simp only [h1, h2, h3, h4, h5, h6]
/-- Reports as they are drawn: r rounds more. -/
def repsF (bs : List Int) (bk : BookD) : Nat → Nat → List (List NewsD) → Rd → List RepD → List RepD × Rd
  | 0, _, _, s, out => (out, s)
  | r + 1, tm, nss, s, out =>
    if countsN nss (repF bs bk tm nss s).1 then repsF bs bk r (tm + (pickF bs 9 (repF bs bk tm nss s).2).1) (nss.modify (repF bs bk tm nss s).1.trip.toNat (doRow (repF bs bk tm nss s).1)) (pickF bs 9 (repF bs bk tm nss s).2).2 (out ++ [(repF bs bk tm nss s).1])
    else if 0 < (pickF bs 3 (repF bs bk tm nss s).2).1 then repsF bs bk r tm nss (pickF bs 3 (repF bs bk tm nss s).2).2 out
    else repsF bs bk r (tm + (pickF bs 9 (pickF bs 3 (repF bs bk tm nss s).2).2).1) nss (pickF bs 9 (pickF bs 3 (repF bs bk tm nss s).2).2).2 (out ++ [(repF bs bk tm nss s).1])
theorem repsF_yes (bs : List Int) (bk : BookD) (r tm : Nat) (nss : List (List NewsD)) (s s1 s2 : Rd) (out : List RepD) (x : RepD) (d : Nat) (h1 : repF bs bk tm nss s = (x, s1)) (hc : countsN nss x = true) (h2 : pickF bs 9 s1 = (d, s2)) : repsF bs bk (r + 1) tm nss s out = repsF bs bk r (tm + d) (nss.modify x.trip.toNat (doRow x)) s2 (out ++ [x]) := by
  rw [repsF, h1]; simp only [hc, h2, if_true]
theorem repsF_skip (bs : List Int) (bk : BookD) (r tm : Nat) (nss : List (List NewsD)) (s s1 s2 : Rd) (out : List RepD) (x : RepD) (q : Nat) (h1 : repF bs bk tm nss s = (x, s1)) (hc : countsN nss x = false) (h2 : pickF bs 3 s1 = (q, s2)) (hq : 0 < q) : repsF bs bk (r + 1) tm nss s out = repsF bs bk r tm nss s2 out := by
  rw [repsF, h1]; simp only [hc, h2, hq, if_true, Bool.false_eq_true, if_false]
theorem repsF_odd (bs : List Int) (bk : BookD) (r tm : Nat) (nss : List (List NewsD)) (s s1 s2 s3 : Rd) (out : List RepD) (x : RepD) (q d : Nat) (h1 : repF bs bk tm nss s = (x, s1)) (hc : countsN nss x = false) (h2 : pickF bs 3 s1 = (q, s2)) (hq : ¬ 0 < q) (h3 : pickF bs 9 s2 = (d, s3)) : repsF bs bk (r + 1) tm nss s out = repsF bs bk r (tm + d) nss s3 (out ++ [x]) := by
  rw [repsF, h1]; simp only [hc, h2, hq, h3, Bool.false_eq_true, if_false]
def reportsF (bs : List Int) (bk : BookD) (s : Rd) : List RepD × Rd :=
  if ¬ (faultD bk).1 = 0 ∨ bk.trips.length = 0 then ([], s)
  else repsF bs bk (pickF bs 20 (pickF bs 20 s).2).1 (pickF bs 20 s).1 (startNews bk) (pickF bs 20 (pickF bs 20 s).2).2 []
theorem reportsF_no (bs : List Int) (bk : BookD) (s : Rd) (h : ¬ (faultD bk).1 = 0 ∨ bk.trips.length = 0) : reportsF bs bk s = ([], s) := by unfold reportsF; rw [if_pos h]
theorem reportsF_yes (bs : List Int) (bk : BookD) (s s1 s2 : Rd) (a n : Nat) (h : (faultD bk).1 = 0) (h0 : 0 < bk.trips.length) (h1 : pickF bs 20 s = (a, s1)) (h2 : pickF bs 20 s1 = (n, s2)) : reportsF bs bk s = repsF bs bk n a (startNews bk) s2 [] := by
  unfold reportsF; rw [if_neg (by omega), h1, h2]

end Go.Proofs.YtjioingdpfgadaaDoor
namespace Go.Proofs.YtjioingdpfgadaaDoor
open Go Go.RowKit

set_option maxHeartbeats 1000000 in
theorem toReport_any (r : RepD) (w : World) :
    Calls Tryd.prog 35 #[repV r] w fun e w' => e = .returned (repV r) ∧ Below w.heap.size w w' := by
  unfold repV
  go_enter Tryd.func35, Tryd.ntmps35
  go_wp2
  exact bodyPost_ret (v := .agg #[.int .i64 r.tick, .int .i64 r.op, .int .i64 r.trip, .int .i64 r.call, .int .i64 r.n]) (by simp [results, Tryd.results35, go_sem]) rfl ⟨rfl, (((Below.refl _ _).alloc (Nat.le_refl _) _).alloc (by simp) _).alloc (by simp; omega) _⟩

end Go.Proofs.YtjioingdpfgadaaDoor
namespace Go.Proofs.YtjioingdpfgadaaDoor
open Go Go.RowKit Go.Deep

theorem uReps : Tryd.prog.underlying 27 = some (.slice 45) := by kernel_rfl
theorem infoRep : (Tryd.prog.info? 45).map (fun i => (i.zero, i.size, i.bytes)) = some (some (.agg #[.int .i64 0, .int .i64 0, .int .i64 0, .int .i64 0, .int .i64 0]), 5, 40) := by kernel_rfl

end Go.Proofs.YtjioingdpfgadaaDoor
