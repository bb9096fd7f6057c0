import Derived.Test.YtjioingdpfgadaaGreatDoorProg
import Derived.Test.YtjioingdpfgadaaGreatDoorDrwLM
import Derived.Test.YtjioingdpfgadaaGreatDoorLawKM
import Derived.Laws.OwnMore
import Derived.Deep.AppendLies
import Derived.Test.YtjioingdpfgadaaGreatDoorDrwKM
import Derived.Test.YtjioingdpfgadaaGreatDoorNamesM
import Derived.DataShut
import Derived.Test.YtjioingdpfgadaaGreatDoorSzM
namespace Go.Proofs.YtjioingdpfgadaaGreatDoor
open Go Go.RowKit Go.Deep

def saidV (x : SaidD) : Value := .agg #[.int .i64 x.tick, .string x.text]
def twoOf (x : SaidD) : List Value := [.int .i64 x.tick, .string x.text]
def twos (l : List SaidD) : List Value := l.flatMap twoOf
theorem twos_snoc (l : List SaidD) (x : SaidD) : twos (l ++ [x]) = twos l ++ twoOf x := by simp [twos]
theorem twos_length (l : List SaidD) : (twos l).length = l.length * 2 := by
  induction l with
  | nil => rfl
  | cons a l ih => simp only [twos, List.flatMap_cons, List.length_append, List.length_cons] at ih ⊢; rw [show (l.flatMap twoOf).length = l.length * 2 from ih]; simp [twoOf]; omega
theorem twos_get (l : List SaidD) (i c : Nat) (h : i < l.length) (hc : c < 2) : (twos l)[i * 2 + c]? = (twoOf l[i])[c]? := by
  induction l generalizing i with
  | nil => simp at h
  | cons a l ih =>
    have e : twos (a :: l) = twoOf a ++ twos l := by simp [twos]
    rw [e]
    cases i with
    | zero => rw [List.getElem?_append_left (by simp [twoOf]; omega)]; simp
    | succ i =>
      rw [List.getElem?_append_right (by simp [twoOf]; omega)]
      have : (i + 1) * 2 + c - (twoOf a).length = i * 2 + c := by simp [twoOf]; omega
      rw [this, ih i (by simpa using h)]
      rfl
/-- What is said, two cells each. -/
def SaidsAt (w : World) (a : Option Addr) (l : List SaidD) : Prop :=
  ∀ i (h : i < l.length), ∃ b o, a = some ⟨b, o, none⟩ ∧ w.cell? ⟨b, o + i * 2, none⟩ = some (.int .i64 l[i].tick) ∧ w.cell? ⟨b, o + i * 2 + 1, none⟩ = some (.string l[i].text)
theorem SaidsAt.keep {w w' : World} {a : Option Addr} {l : List SaidD} (h : SaidsAt w a l) (hb : Below w.heap.size w w') : SaidsAt w' a l := by
  intro i hi; obtain ⟨b, o, e, c0, c1⟩ := h i hi; exact ⟨b, o, e, cell_keep hb c0, cell_keep hb c1⟩
def SaidsOwn (B : Nat) (w : World) (v : Value) (K : List SaidD) : Prop := w.ownsRow B 101 2 v K.length (twos K)
theorem saids_at {B : Nat} {w : World} {v : Value} {l : List SaidD} (h : SaidsOwn B w v l) : ∃ a c, v = .slice a l.length c ∧ SaidsAt w a l := by
  have h0 : w.ownsRow B 101 2 v l.length (twos l) := h
  rcases h0.2 with ⟨e, e0⟩ | ⟨g, cap, cur, e, _⟩
  · exact ⟨none, 0, by rw [e, e0], fun j hj => by omega⟩
  · refine ⟨some ⟨g, 0, none⟩, cap, e, fun j hj => ?_⟩
    rw [e] at h0
    have hc : ∀ c, c < 2 → w.cell? ⟨g, j * 2 + c, none⟩ = (twoOf l[j])[c]? := fun c hc => by
      rw [h0.cellAt _ (by omega), twos_get _ j c hj hc]
    refine ⟨g, 0, rfl, ?_, ?_⟩
    · simpa [twoOf] using hc 0 (by omega)
    · simpa [twoOf] using hc 1 (by omega)
theorem SaidsOwn.below {B : Nat} {w w' : World} {v : Value} {K : List SaidD} (h : SaidsOwn B w v K) (hb : Below w.heap.size w w') : SaidsOwn B w' v K := owns_below h hb (owns_lt h)
theorem SaidsOwn.keptOut {L R B : Nat} {w w' : World} {v : Value} {K : List SaidD} (h : SaidsOwn B w v K) (hk : Kept L R w w') (hB : R ≤ B) : SaidsOwn B w' v K := owns_keptOut h hk hB
theorem SaidsOwn.ss {B n c : Nat} {w : World} {a : Option Addr} {K : List SaidD} (h : SaidsOwn B w (.slice a n c) K) : SaidsAt w a K := by
  obtain ⟨na, nc, e, h1⟩ := saids_at h
  simp only [Value.slice.injEq] at e
  obtain ⟨rfl, _, _⟩ := e
  exact h1

/-- The mark on place i of what is said, where the marks begin at k. -/
def markT (k : Nat) : ByteArray := ⟨(markL k).toArray⟩
def markQ (k i : Nat) : SaidD := ⟨((k + i * 2 : Nat) : Int), markT (k + i * 2 + 1)⟩
def markQs (k n : Nat) : List SaidD := (List.range n).map (markQ k)
def mixQs (k m : Nat) (rs : List SaidD) : List SaidD := rs.mapIdx fun i x => if i < m then markQ k i else x
theorem markQs_length (k n : Nat) : (markQs k n).length = n := by simp [markQs]
theorem markQs_get (k n i : Nat) (h : i < n) : (markQs k n)[i]'(by rw [markQs_length]; exact h) = markQ k i := by simp [markQs]
theorem mixQs_length (k m : Nat) (rs : List SaidD) : (mixQs k m rs).length = rs.length := by simp [mixQs]
theorem mixQs_start (k : Nat) (rs : List SaidD) : mixQs k 0 rs = rs := by
  apply List.ext_getElem (mixQs_length k 0 rs)
  intro i h1 h2
  simp [mixQs]
theorem mixQs_end (k : Nat) (rs : List SaidD) : mixQs k rs.length rs = markQs k rs.length := by
  apply List.ext_getElem (by rw [mixQs_length, markQs_length])
  intro i h1 h2
  rw [markQs_length] at h2
  rw [markQs_get k _ i h2]
  simp [mixQs, h2]
theorem mixQs_succ (k m : Nat) (rs : List SaidD) : mixQs k (m + 1) rs = (mixQs k m rs).set m (markQ k m) := by
  apply List.ext_getElem (by rw [List.length_set, mixQs_length, mixQs_length])
  intro i h1 h2
  rw [List.getElem_set]
  by_cases e : m = i
  · subst e; simp [mixQs]
  · rw [if_neg e]
    simp only [mixQs, List.getElem_mapIdx]
    by_cases h' : i < m
    · rw [if_pos (by omega), if_pos h']
    · rw [if_neg (by omega), if_neg h']
theorem twos_set (rs : List SaidD) (m c : Nat) (u : Value) (x : SaidD) (h : m < rs.length) (hc : c < 2) (hx : twoOf x = (twoOf rs[m]).set c u) : (twos rs).set (m * 2 + c) u = twos (rs.set m x) := by
  induction rs generalizing m with
  | nil => simp at h
  | cons a l ih =>
    have e : ∀ b, twos (b :: l) = twoOf b ++ twos l := fun b => by simp [twos]
    have la : ∀ b, (twoOf b).length = 2 := fun b => rfl
    cases m with
    | zero =>
      rw [List.set_cons_zero, e, e, List.set_append_left _ _ (by rw [la]; omega)]
      simp at hx
      rw [hx, Nat.zero_mul, Nat.zero_add]
    | succ m =>
      rw [List.set_cons_succ, e, List.set_append_right _ _ (by rw [la]; omega), la]
      have e2 : twos (a :: l.set m x) = twoOf a ++ twos (l.set m x) := by simp [twos]
      rw [e2, ← ih m (by simpa using h) (by simpa using hx)]
      have : (m + 1) * 2 + c - 2 = m * 2 + c := by omega
      rw [this]
theorem twos_set' {w : World} {B g cap n : Nat} {rs : List SaidD} (m c : Nat) (u : Value) (x : SaidD) (h : m < rs.length) (hc : c < 2) (hx : twoOf x = (twoOf rs[m]).set c u)
    (hr : w.ownsRow B 101 2 (.slice (some ⟨g, 0, none⟩) n cap) n (twos rs)) :
    (w.setCell ⟨g, m * 2 + c, none⟩ u).ownsRow B 101 2 (.slice (some ⟨g, 0, none⟩) n cap) n (twos (rs.set m x)) := by
  have := hr.stored (m * 2 + c) u
  rw [twos_set rs m c u x h hc hx] at this
  exact this.1
theorem said_cell {w : World} {B g cap n : Nat} {rs : List SaidD} (hr : w.ownsRow B 101 2 (.slice (some ⟨g, 0, none⟩) n cap) n (twos rs)) (hn : rs.length = n) (m c : Nat) (hm : m < rs.length) (hc : c < 2) : ∃ u, w.cell? ⟨g, m * 2 + c, none⟩ = some u := by
  rw [hr.cellAt _ (by omega), twos_get _ m c hm hc]
  exact ⟨_, List.getElem?_eq_getElem (by simp [twoOf]; omega)⟩

end Go.Proofs.YtjioingdpfgadaaGreatDoor
namespace Go.Proofs.YtjioingdpfgadaaGreatDoor
open Go Go.RowKit Go.Deep

set_option maxRecDepth 100000 in
set_option maxHeartbeats 1000000 in
theorem wSaid_same (a a' : Option Addr) (rs : List SaidD) (c c' : Nat) (w : World) (hn : rs.length ≤ 1048576) (hat : SaidsAt w a rs) (hat' : SaidsAt w a' rs) :
    Calls Tryz.prog 16 #[.slice a rs.length c, .slice a' rs.length c'] w fun e w' => e = .returned (.bool true) ∧ Below w.heap.size w w' := by
  have HA : Hid (SaidsAt w a rs) := hat
  have HA' : Hid (SaidsAt w a' rs) := hat'
  clear hat hat'
  go_enter Tryz.func16, Tryz.ntmps16
  go_wp2_with fail
  go_loopw [13] (fun i wr => ∃ k : Nat, k ≤ rs.length ∧ i = .int .i64 k ∧ Below w.heap.size w wr) (fun i _ => rs.length - (intOf i).toNat)
  case atStart => exact ⟨0, Nat.zero_le _, rfl, Below.refl _ _⟩
  case round =>
    obtain ⟨k, hk, rfl, hb⟩ := hrel
    by_cases hlt : k < rs.length
    · obtain ⟨b, o, rfl, c0, c1⟩ := HA.out.keep hb k hlt
      obtain ⟨b', o', rfl, d0, d1⟩ := HA'.out.keep hb k hlt
      generalize rs[k] = x at *
      have hk1 : (k : Int) < (rs.length : Int) := by omega
      have hk0 : (0 : Int) ≤ (k : Int) := by omega
      go_wp2_with fail
      go_quiet (fail)
      go_wp2_with fail
      go_roundw
      case rel => exact ⟨k + 1, by omega, by go_num, below_drewN hb _⟩
      case measure => simp [intOf]; omega
    · go_wp2_with fail
      go_ret
      exact ⟨rfl, hb⟩

end Go.Proofs.YtjioingdpfgadaaGreatDoor
namespace Go.Proofs.YtjioingdpfgadaaGreatDoor
open Go Go.RowKit Go.Deep

theorem wf_small {n : Int} (h0 : -1000000 ≤ n) (h1 : n ≤ 1000000) : (Lit.int .i64 n).wf = true := by
  rw [Lit.wf_int_iff]
  simp only [IntKind.min, IntKind.max, IntKind.signed, IntKind.bits, if_true]
  constructor <;> omega
theorem BookDrawn.wf {bk : BookD} (h : BookDrawn bk) : ∀ t ∈ bk.trips, ∀ i (h : i < t.calls.length), (Lit.int .i64 t.calls[i].st).wf = true := fun t ht i hi => by
  obtain ⟨k, hk, rfl⟩ := List.getElem_of_mem ht
  have h1 := (h.calls k hk).calls i hi
  have h2 := h.sts6
  exact wf_small (by omega) (by omega)
/-- A law's scene: a book in its box, reports, the program's own errors, the choices' bytes. -/
structure Scene (w0 w : World) (X : Nat) (sa ta ra ma : Option Addr) (sc tc : Nat) (bk : BookD) (rs : List RepD) (ms : List Int) : Prop where
  book : BookAt w (.agg #[.slice sa bk.sts.length sc, .slice ta bk.trips.length tc]) bk
  box : w.heap[X]? = some (.cells #[.slice sa bk.sts.length sc, .slice ta bk.trips.length tc] 26 (0, 0))
  reps : RepsAt w ra rs
  errs : ErrVars w
  more : BytesAt w ma ms
  since : Below w0.heap.size w0 w
  low : w0.heap.size ≤ X
theorem Scene.keep {w0 w w' : World} {X : Nat} {sa ta ra ma : Option Addr} {sc tc : Nat} {bk : BookD} {rs : List RepD} {ms : List Int} (h : Scene w0 w X sa ta ra ma sc tc bk rs ms) (hb : Below w.heap.size w w') : Scene w0 w' X sa ta ra ma sc tc bk rs ms :=
  ⟨h.book.keep hb, (hb.block X (Array.getElem?_eq_some_iff.1 h.box).1).trans h.box, h.reps.keep hb, h.errs.keep hb, h.more.keep hb, h.since.trans (hb.mono h.since.size), h.low⟩
/-- The scene behind a draw, the book laid into its box. -/
theorem scene_of {w0 w1 : World} {bs ms : List Int} {ma : Option Addr} {v rv : Value} (hbk : BookOwn w0.heap.size w1 v (drawnF bs).1) (hrs : w1.ownsRow w0.heap.size 45 5 rv (drawnF bs).2.length (fives (drawnF bs).2)) (hb : Below w0.heap.size w0 w1) (hev : ErrVars w0) (hma : BytesAt w0 ma ms) :
    ∃ sa sc ta tc ra rc, v = .agg #[.slice sa (drawnF bs).1.sts.length sc, .slice ta (drawnF bs).1.trips.length tc] ∧ rv = .slice ra (drawnF bs).2.length rc ∧ Scene w0 (w1.alloc (.cells #[.slice sa (drawnF bs).1.sts.length sc, .slice ta (drawnF bs).1.trips.length tc] 26)) w1.heap.size sa ta ra ma sc tc (drawnF bs).1 (drawnF bs).2 ms := by
  obtain ⟨sa, sc, ta, tc, rfl, h1, h2⟩ := hbk.at
  obtain ⟨ra, rc, rfl, h3⟩ := reps_at hrs
  have hA : Below w1.heap.size w1 (w1.alloc (.cells #[.slice sa (drawnF bs).1.sts.length sc, .slice ta (drawnF bs).1.trips.length tc] 26)) := (Below.refl _ _).alloc (Nat.le_refl _) _
  exact ⟨sa, sc, ta, tc, ra, rc, rfl, rfl, ⟨sa, sc, ta, tc, rfl, h1.keep hA, h2.keep hA⟩, heap_alloc_last w1 _, h3.keep hA, (hev.keep hb).keep hA, (hma.keep hb).keep hA, hb.trans (hA.mono hb.size), hb.size⟩

/-- append of a row that may be empty onto a row of one's own, at a step of a region that draws. -/
theorem run_append_src {P : Program} (w : World) (base B' : Nat) (t ty e : TypeId) (i : TypeInfo) (z : Value) (size bytes : Nat) (ht : P.underlying t = some (.slice e)) (hi : P.info? e = some i) (hz : i.zero = some z)
    (hsize : i.size = size) (hby : i.bytes = bytes) (hzs : z.cells.size = size) (hsz : 0 < size)
    (v : Value) (n : Nat) (xs : List Value) (hown : w.ownsRow base e size v n xs) (xv : Value) (m : Nat) (news : List Value) (hsrc : w.ownsRow B' e size xv m news) (h1 : ∀ u ∈ news, u.oneCell' = true)
    (h63 : n + m ≤ maxLen) (hbytes : (n + m) * bytes ≤ 140737488355328) (hbase : base ≤ w.heap.size) :
    ∃ v' w', (Builtin.append_ #[t, t] ty #[v, xv]).run P w = .ok v' w' ∧ w'.ownsRow base e size v' (n + m) (xs ++ news) ∧ w.grownBy w' v.ownBlock := by
  rcases hsrc.2 with ⟨rfl, rfl⟩ | ⟨g, cap, cur, rfl, _, hg, _, _, _, htake⟩
  · have hn : news = [] := List.eq_nil_of_length_eq_zero (by simpa using hsrc.1)
    subst hn
    refine ⟨v, w, ?_, by simpa using hown, World.grownBy.refl _ _⟩
    rcases hown.2 with ⟨rfl, rfl⟩ | ⟨g, cap, cur, rfl, _, hg, hnc, _⟩
    · simp [Builtin.append_, run_underlying ht, sizeOf, typeInfo, hi, Builtin.lenOf, Builtin.firstCells]
    · simp [Builtin.append_, run_underlying ht, sizeOf, typeInfo, hi, Builtin.lenOf, Builtin.firstCells, loadCells, hnc, storeCells]
  · obtain ⟨v', w', hr, h2, h3, _⟩ := run_append_own_at (P := P) w base t ty e i z size bytes ht hi hz hsize hby hzs hsz v n xs hown ⟨g, 0, none⟩ m cap news hsrc.1 (fun j u hu => by
      have hadd : (⟨g, 0, none⟩ : Addr).add j = ⟨g, j, none⟩ := by unfold Addr.add; split <;> simp_all
      have hj : j < m * size := by rw [← hsrc.1]; exact (List.getElem?_eq_some_iff.1 hu).1
      rw [hadd, hsrc.cellAt j hj]; exact hu) h1 h63 hbytes hbase
    exact ⟨v', w', hr, h2, h3⟩
theorem step_append_src {P : Program} {ops : Array Oper} {o : Oper} {a : Act} {w : World} {K : Act → World → Prop} {Q : Exit → Act → World → Prop} {E : Prop} (hgd : o.guard = none) (s x : Operand) (t : TypeId)
    (ho : o.op = .call { callee := .builtin .append, args := #[s, x], argTypes := #[t, t] })
    (base B' : Nat) (e : TypeId) (i : TypeInfo) (z : Value) (size bytes : Nat) (ht : P.underlying t = some (.slice e)) (hi : P.info? e = some i) (hz : i.zero = some z)
    (hsize : i.size = size) (hby : i.bytes = bytes) (hzs : z.cells.size = size) (hsz : 0 < size)
    (v : Value) (n : Nat) (xs : List Value) (hs : a.eval s = v) (hown : w.ownsRow base e size v n xs)
    (xv : Value) (m : Nat) (news : List Value) (hx : a.eval x = xv) (hsrc : w.ownsRow B' e size xv m news) (h1 : ∀ u ∈ news, u.oneCell' = true)
    (h63 : n + m ≤ maxLen) (hbytes : (n + m) * bytes ≤ 140737488355328) (hbase : base ≤ w.heap.size)
    (h : ∀ v' w', w'.ownsRow base e size v' (n + m) (xs ++ news) → w.grownBy w' v.ownBlock → K (a.put o.dst v') w') :
    if Region.wanted o (yielded ops a.tmps) = true then Oper.wp P o a w K Q else E := by
  have hw : Region.wanted o (yielded ops a.tmps) = true := by simp [Region.wanted, hgd]
  rw [if_pos hw]
  obtain ⟨v', w', hr, h2, h3⟩ := run_append_src (P := P) w base B' t o.type e i z size bytes ht hi hz hsize hby hzs hsz v n xs hown xv m news hsrc h1 h63 hbytes hbase
  unfold Oper.wp execOp
  simp only [ho, resolve, invoke, builtin, Sem.run_bind, Sem.run_pure, Result.andThen_ok, List.map_toArray, List.map_cons, List.map_nil, hs, hx, hr]
  exact h v' w' h2 h3

end Go.Proofs.YtjioingdpfgadaaGreatDoor
namespace Go.Proofs.YtjioingdpfgadaaGreatDoor
open Go Go.RowKit Go.Deep

theorem newsSize_small {bk : BookD} {nss : List (List NewsD)} (hb : BookDrawn bk) (hs : ShapeOf bk nss) : newsSize nss ≤ 1048576 := by
  have h1 := hs.length
  have h5 := hb.trips5
  have hall : ∀ i (h : i < nss.length), nss[i].length ≤ 8 := fun i h => by
    rw [hs.at i h, callsOf_at bk i (by omega)]; exact (hb.calls i (by omega)).len
  have hsum : ∀ (l : List (List NewsD)), (∀ x ∈ l, x.length ≤ 8) → sumLens l ≤ l.length * 8 := by
    intro l
    induction l with
    | nil => intro _; simp [sumLens]
    | cons a l ih =>
      intro h
      have a1 := h a (by simp)
      have a2 := ih (fun x hx => h x (by simp [hx]))
      simp only [sumLens, List.length_cons, Nat.add_mul, Nat.one_mul]; omega
  have := hsum nss (fun x hx => by obtain ⟨i, hi, rfl⟩ := List.getElem_of_mem hx; exact hall i hi)
  unfold newsSize
  omega

end Go.Proofs.YtjioingdpfgadaaGreatDoor
namespace Go.Proofs.YtjioingdpfgadaaGreatDoor
open Go Go.RowKit

end Go.Proofs.YtjioingdpfgadaaGreatDoor
