import Derived.Test.YtjioingdpfgadaaDoorProg
import Derived.Test.YtjioingdpfgadaaDoorSpecOM
import Derived.Test.YtjioingdpfgadaaDoorLawKM
import Derived.Laws.OwnMore
import Derived.BigQuiet
import Derived.Deep.QuietTactic
import Derived.WalkSmall
namespace Go.Proofs.YtjioingdpfgadaaDoor
open Go Go.RowKit Go.Deep

theorem uInts : Tryd.prog.underlying 50 = some (.slice 3) := by kernel_rfl
theorem infInt : (Tryd.prog.info? 3).map (fun i => (i.zero, i.size, i.bytes)) = some (some (.int .i64 0), 1, 8) := by kernel_rfl
def intCells (l : List Int) : List Value := l.map (Value.int .i64)
theorem intCells_length (l : List Int) : (intCells l).length = l.length := by simp [intCells]
/-- The station of a call that has not gone and is not called off. -/
def onwardAt (cs : List CallD) (ns : List NewsD) (k : Nat) : List Int :=
  match cs[k]?, ns[k]? with
  | some c, some x => if x.gone = true ∨ x.off = true then [] else [c.st]
  | _, _ => []
def onwardTo (cs : List CallD) (ns : List NewsD) : Nat → List Int
  | 0 => []
  | k + 1 => onwardTo cs ns k ++ onwardAt cs ns k
theorem onwardAt_at (cs : List CallD) (ns : List NewsD) (k : Nat) (h1 : k < cs.length) (h2 : k < ns.length) : onwardAt cs ns k = if ns[k].gone = true ∨ ns[k].off = true then [] else [cs[k].st] := by
  simp [onwardAt, List.getElem?_eq_getElem h1, List.getElem?_eq_getElem h2]
theorem onwardTo_length (cs : List CallD) (ns : List NewsD) (k : Nat) : (onwardTo cs ns k).length ≤ k := by
  induction k with
  | zero => simp [onwardTo]
  | succ k ih =>
    unfold onwardTo
    rw [List.length_append]
    have : (onwardAt cs ns k).length ≤ 1 := by
      unfold onwardAt
      repeat' split
      all_goals simp
    omega
/-- Onward's answer. -/
def onwardD (bk : BookD) (rs : List RepD) (trip tick : Int) : List Int :=
  if reportsB bk rs = true ∧ (0 ≤ trip ∧ trip < bk.trips.length) then onwardTo (callsOf bk trip) ((newsTo bk tick rs).getD trip.toNat []) (callsOf bk trip).length else []
theorem onwardD_no {bk : BookD} {rs : List RepD} {trip tick : Int} (h : ¬ (reportsB bk rs = true ∧ (0 ≤ trip ∧ trip < bk.trips.length))) : onwardD bk rs trip tick = [] := by unfold onwardD; rw [if_neg h]
theorem onwardD_length (bk : BookD) (rs : List RepD) (trip tick : Int) : (onwardD bk rs trip tick).length ≤ (callsOf bk trip).length := by
  unfold onwardD
  split
  · exact onwardTo_length _ _ _
  · simp

theorem cell_one_at (w : World) (v : Value) (t : TypeId) : ∀ j u, ([v] : List Value)[j]? = some u → (w.alloc (.cells #[v] t)).cell? ((⟨w.heap.size, 0, none⟩ : Addr).add j) = some u := by
  intro j u hj
  cases j with
  | zero =>
    simp at hj
    subst hj
    have hadd : (⟨w.heap.size, 0, none⟩ : Addr).add 0 = ⟨w.heap.size, 0, none⟩ := by unfold Addr.add; split <;> simp_all
    rw [hadd]
    simp [go_sem]
  | succ j => simp at hj

end Go.Proofs.YtjioingdpfgadaaDoor
namespace Go.Proofs.YtjioingdpfgadaaDoor
open Go Go.RowKit Go.Deep

/-- Numbers, a cell each. -/
def IntsAt (w : World) (a : Option Addr) (l : List Int) : Prop := ∀ i (h : i < l.length), ∃ b o, a = some ⟨b, o, none⟩ ∧ w.cell? ⟨b, o + i, none⟩ = some (.int .i64 l[i])
theorem IntsAt.keep {w w' : World} {a : Option Addr} {l : List Int} (h : IntsAt w a l) (hb : Below w.heap.size w w') : IntsAt w' a l := by
  intro i hi; obtain ⟨b, o, e, c⟩ := h i hi; exact ⟨b, o, e, cell_keep hb c⟩
def IntsOwn (B : Nat) (w : World) (v : Value) (l : List Int) : Prop := w.ownsRow B 3 1 v l.length (intCells l)
theorem ints_at {B : Nat} {w : World} {v : Value} {l : List Int} (h : IntsOwn B w v l) : ∃ a c, v = .slice a l.length c ∧ IntsAt w a l := by
  have h0 : w.ownsRow B 3 1 v l.length (intCells l) := h
  rcases h0.2 with ⟨e, e0⟩ | ⟨g, cap, cur, e, _⟩
  · exact ⟨none, 0, by rw [e, e0], fun j hj => by omega⟩
  · refine ⟨some ⟨g, 0, none⟩, cap, e, fun j hj => ⟨g, 0, rfl, ?_⟩⟩
    rw [e] at h0
    rw [Nat.zero_add, h0.cellAt j (by omega)]
    simp [intCells, List.getElem?_eq_getElem hj]
theorem IntsOwn.below {B : Nat} {w w' : World} {v : Value} {K : List Int} (h : IntsOwn B w v K) (hb : Below w.heap.size w w') : IntsOwn B w' v K := owns_below h hb (owns_lt h)
theorem IntsOwn.keptOut {L R B : Nat} {w w' : World} {v : Value} {K : List Int} (h : IntsOwn B w v K) (hk : Kept L R w w') (hB : R ≤ B) : IntsOwn B w' v K := owns_keptOut h hk hB
theorem IntsOwn.ss {B n c : Nat} {w : World} {a : Option Addr} {K : List Int} (h : IntsOwn B w (.slice a n c) K) : IntsAt w a K := by
  obtain ⟨na, nc, e, h1⟩ := ints_at h
  simp only [Value.slice.injEq] at e
  obtain ⟨rfl, _, _⟩ := e
  exact h1

def markIs (k n : Nat) : List Int := (List.range n).map fun i => ((k + i : Nat) : Int)
def mixIs (k m : Nat) (l : List Int) : List Int := l.mapIdx fun i x => if i < m then ((k + i : Nat) : Int) else x
theorem markIs_length (k n : Nat) : (markIs k n).length = n := by simp [markIs]
theorem mixIs_length (k m : Nat) (l : List Int) : (mixIs k m l).length = l.length := by simp [mixIs]
theorem mixIs_start (k : Nat) (l : List Int) : mixIs k 0 l = l := by
  apply List.ext_getElem (mixIs_length k 0 l)
  intro i h1 h2
  simp [mixIs]
theorem mixIs_end (k : Nat) (l : List Int) : mixIs k l.length l = markIs k l.length := by
  apply List.ext_getElem (by rw [mixIs_length, markIs_length])
  intro i h1 h2
  rw [markIs_length] at h2
  simp [mixIs, markIs, h2]
theorem mixIs_succ (k m : Nat) (l : List Int) : mixIs k (m + 1) l = (mixIs k m l).set m ((k + m : Nat) : Int) := by
  apply List.ext_getElem (by rw [List.length_set, mixIs_length, mixIs_length])
  intro i h1 h2
  rw [List.getElem_set]
  by_cases e : m = i
  · subst e; simp [mixIs]
  · rw [if_neg e]
    simp only [mixIs, List.getElem_mapIdx]
    by_cases h' : i < m
    · rw [if_pos (by omega), if_pos h']
    · rw [if_neg (by omega), if_neg h']

end Go.Proofs.YtjioingdpfgadaaDoor
