import Derived.Test.YtjioingdpfgadaaDoorDrwKM
import Derived.Test.YtjioingdpfgadaaDoorDrwLM
import Derived.Test.YtjioingdpfgadaaDoorNamesM
import Derived.DataShut
import Derived.Test.YtjioingdpfgadaaDoorProg
import Derived.Test.YtjioingdpfgadaaDoorSzM
namespace Go.Proofs.YtjioingdpfgadaaDoor
open Go Go.RowKit Go.Deep

theorem wf_small {n : Int} (h0 : -1000000 ≤ n) (h1 : n ≤ 1000000) : (Lit.int .i64 n).wf = true := by
  rw [Lit.wf_int_iff]
  simp only [IntKind.min, IntKind.max, IntKind.signed, IntKind.bits, if_true]
  constructor <;> omega
theorem BookDrawn.wf {bk : BookD} (h : BookDrawn bk) : ∀ t ∈ bk.trips, ∀ i (h : i < t.calls.length), (Lit.int .i64 t.calls[i].st).wf = true := fun t ht i hi => by
  obtain ⟨k, hk, rfl⟩ := List.getElem_of_mem ht
  have h1 := (h.calls k hk).calls i hi
  have h2 := h.sts6
  exact wf_small (by omega) (by omega)
/-- A law's scene: a book in its box, reports, the program's own errors, the choices' bytes. -/
structure Scene (w0 w : World) (X : Nat) (sa ta ra ma : Option Addr) (sc tc : Nat) (bk : BookD) (rs : List RepD) (ms : List Int) : Prop where
  book : BookAt w (.agg #[.slice sa bk.sts.length sc, .slice ta bk.trips.length tc]) bk
  box : w.heap[X]? = some (.cells #[.slice sa bk.sts.length sc, .slice ta bk.trips.length tc] 26 (0, 0))
  reps : RepsAt w ra rs
  errs : ErrVars w
  more : BytesAt w ma ms
  since : Below w0.heap.size w0 w
  low : w0.heap.size ≤ X
theorem Scene.keep {w0 w w' : World} {X : Nat} {sa ta ra ma : Option Addr} {sc tc : Nat} {bk : BookD} {rs : List RepD} {ms : List Int} (h : Scene w0 w X sa ta ra ma sc tc bk rs ms) (hb : Below w.heap.size w w') : Scene w0 w' X sa ta ra ma sc tc bk rs ms :=
  ⟨h.book.keep hb, (hb.block X (Array.getElem?_eq_some_iff.1 h.box).1).trans h.box, h.reps.keep hb, h.errs.keep hb, h.more.keep hb, h.since.trans (hb.mono h.since.size), h.low⟩
/-- The scene behind a draw, the book laid into its box. -/
theorem scene_of {w0 w1 : World} {bs ms : List Int} {ma : Option Addr} {v rv : Value} (hbk : BookOwn w0.heap.size w1 v (drawnF bs).1) (hrs : w1.ownsRow w0.heap.size 45 5 rv (drawnF bs).2.length (fives (drawnF bs).2)) (hb : Below w0.heap.size w0 w1) (hev : ErrVars w0) (hma : BytesAt w0 ma ms) :
    ∃ sa sc ta tc ra rc, v = .agg #[.slice sa (drawnF bs).1.sts.length sc, .slice ta (drawnF bs).1.trips.length tc] ∧ rv = .slice ra (drawnF bs).2.length rc ∧ Scene w0 (w1.alloc (.cells #[.slice sa (drawnF bs).1.sts.length sc, .slice ta (drawnF bs).1.trips.length tc] 26)) w1.heap.size sa ta ra ma sc tc (drawnF bs).1 (drawnF bs).2 ms := by
  obtain ⟨sa, sc, ta, tc, rfl, h1, h2⟩ := hbk.at
  obtain ⟨ra, rc, rfl, h3⟩ := reps_at hrs
  have hA : Below w1.heap.size w1 (w1.alloc (.cells #[.slice sa (drawnF bs).1.sts.length sc, .slice ta (drawnF bs).1.trips.length tc] 26)) := (Below.refl _ _).alloc (Nat.le_refl _) _
  exact ⟨sa, sc, ta, tc, ra, rc, rfl, rfl, ⟨sa, sc, ta, tc, rfl, h1.keep hA, h2.keep hA⟩, heap_alloc_last w1 _, h3.keep hA, (hev.keep hb).keep hA, (hma.keep hb).keep hA, hb.trans (hA.mono hb.size), hb.size⟩

/-- append of a row that may be empty onto a row of one's own, at a step of a region that draws. -/
theorem run_append_src {P : Program} (w : World) (base B' : Nat) (t ty e : TypeId) (i : TypeInfo) (z : Value) (size bytes : Nat) (ht : P.underlying t = some (.slice e)) (hi : P.info? e = some i) (hz : i.zero = some z)
    (hsize : i.size = size) (hby : i.bytes = bytes) (hzs : z.cells.size = size) (hsz : 0 < size)
    (v : Value) (n : Nat) (xs : List Value) (hown : w.ownsRow base e size v n xs) (xv : Value) (m : Nat) (news : List Value) (hsrc : w.ownsRow B' e size xv m news) (h1 : ∀ u ∈ news, u.oneCell' = true)
    (h63 : n + m ≤ maxLen) (hbytes : (n + m) * bytes ≤ 140737488355328) (hbase : base ≤ w.heap.size) :
    ∃ v' w', (Builtin.append_ #[t, t] ty #[v, xv]).run P w = .ok v' w' ∧ w'.ownsRow base e size v' (n + m) (xs ++ news) ∧ w.grownBy w' v.ownBlock := by
  rcases hsrc.2 with ⟨rfl, rfl⟩ | ⟨g, cap, cur, rfl, _, hg, _, _, _, htake⟩
  · have hn : news = [] := List.eq_nil_of_length_eq_zero (by simpa using hsrc.1)
    subst hn
    refine ⟨v, w, ?_, by simpa using hown, World.grownBy.refl _ _⟩
    rcases hown.2 with ⟨rfl, rfl⟩ | ⟨g, cap, cur, rfl, _, hg, hnc, _⟩
    · simp [Builtin.append_, run_underlying ht, sizeOf, typeInfo, hi, Builtin.lenOf, Builtin.firstCells]
    · simp [Builtin.append_, run_underlying ht, sizeOf, typeInfo, hi, Builtin.lenOf, Builtin.firstCells, loadCells, hnc, storeCells]
  · obtain ⟨v', w', hr, h2, h3, _⟩ := run_append_own_at (P := P) w base t ty e i z size bytes ht hi hz hsize hby hzs hsz v n xs hown ⟨g, 0, none⟩ m cap news hsrc.1 (fun j u hu => by
      have hadd : (⟨g, 0, none⟩ : Addr).add j = ⟨g, j, none⟩ := by unfold Addr.add; split <;> simp_all
      have hj : j < m * size := by rw [← hsrc.1]; exact (List.getElem?_eq_some_iff.1 hu).1
      rw [hadd, hsrc.cellAt j hj]; exact hu) h1 h63 hbytes hbase
    exact ⟨v', w', hr, h2, h3⟩
theorem step_append_src {P : Program} {ops : Array Oper} {o : Oper} {a : Act} {w : World} {K : Act → World → Prop} {Q : Exit → Act → World → Prop} {E : Prop} (hgd : o.guard = none) (s x : Operand) (t : TypeId)
    (ho : o.op = .call { callee := .builtin .append, args := #[s, x], argTypes := #[t, t] })
    (base B' : Nat) (e : TypeId) (i : TypeInfo) (z : Value) (size bytes : Nat) (ht : P.underlying t = some (.slice e)) (hi : P.info? e = some i) (hz : i.zero = some z)
    (hsize : i.size = size) (hby : i.bytes = bytes) (hzs : z.cells.size = size) (hsz : 0 < size)
    (v : Value) (n : Nat) (xs : List Value) (hs : a.eval s = v) (hown : w.ownsRow base e size v n xs)
    (xv : Value) (m : Nat) (news : List Value) (hx : a.eval x = xv) (hsrc : w.ownsRow B' e size xv m news) (h1 : ∀ u ∈ news, u.oneCell' = true)
    (h63 : n + m ≤ maxLen) (hbytes : (n + m) * bytes ≤ 140737488355328) (hbase : base ≤ w.heap.size)
    (h : ∀ v' w', w'.ownsRow base e size v' (n + m) (xs ++ news) → w.grownBy w' v.ownBlock → K (a.put o.dst v') w') :
    if Region.wanted o (yielded ops a.tmps) = true then Oper.wp P o a w K Q else E := by
  have hw : Region.wanted o (yielded ops a.tmps) = true := by simp [Region.wanted, hgd]
  rw [if_pos hw]
  obtain ⟨v', w', hr, h2, h3⟩ := run_append_src (P := P) w base B' t o.type e i z size bytes ht hi hz hsize hby hzs hsz v n xs hown xv m news hsrc h1 h63 hbytes hbase
  unfold Oper.wp execOp
  simp only [ho, resolve, invoke, builtin, Sem.run_bind, Sem.run_pure, Result.andThen_ok, List.map_toArray, List.map_cons, List.map_nil, hs, hx, hr]
  exact h v' w' h2 h3

end Go.Proofs.YtjioingdpfgadaaDoor
namespace Go.Proofs.YtjioingdpfgadaaDoor
open Go Go.RowKit Go.Deep

theorem newsSize_small {bk : BookD} {nss : List (List NewsD)} (hb : BookDrawn bk) (hs : ShapeOf bk nss) : newsSize nss ≤ 1048576 := by
  have h1 := hs.length
  have h5 := hb.trips5
  have hall : ∀ i (h : i < nss.length), nss[i].length ≤ 8 := fun i h => by
    rw [hs.at i h, callsOf_at bk i (by omega)]; exact (hb.calls i (by omega)).len
  have hsum : ∀ (l : List (List NewsD)), (∀ x ∈ l, x.length ≤ 8) → sumLens l ≤ l.length * 8 := by
    intro l
    induction l with
    | nil => intro _; simp [sumLens]
    | cons a l ih =>
      intro h
      have a1 := h a (by simp)
      have a2 := ih (fun x hx => h x (by simp [hx]))
      simp only [sumLens, List.length_cons, Nat.add_mul, Nat.one_mul]; omega
  have := hsum nss (fun x hx => by obtain ⟨i, hi, rfl⟩ := List.getElem_of_mem hx; exact hall i hi)
  unfold newsSize
  omega

end Go.Proofs.YtjioingdpfgadaaDoor
namespace Go.Proofs.YtjioingdpfgadaaDoor
open Go Go.RowKit

set_option maxHeartbeats 400000 in
theorem eqFault_any (a0 a1 b0 b1 : Int) (w : World) :
    Calls Tryd.prog 32 #[.agg #[.int .i64 a0, .int .i64 a1], .agg #[.int .i64 b0, .int .i64 b1]] w fun e w' => e = .returned (.bool (a0 == b0 && a1 == b1)) ∧ Below w.heap.size w w' := by
  cases h : (a0 == b0)
  · go_enter Tryd.func32, Tryd.ntmps32
    go_wp2
    all_goals try (exfalso; simp_all; done)
    go_ret
    exact ⟨rfl, ((Below.refl _ _).alloc (Nat.le_refl _) _).alloc (by simp) _⟩
  · cases h2 : (a1 == b1)
    · go_enter Tryd.func32, Tryd.ntmps32
      go_wp2
      all_goals try (exfalso; simp_all; done)
      go_ret
      exact ⟨rfl, ((Below.refl _ _).alloc (Nat.le_refl _) _).alloc (by simp) _⟩
    · go_enter Tryd.func32, Tryd.ntmps32
      go_wp2
      all_goals try (exfalso; simp_all; done)
      go_ret
      exact ⟨rfl, ((Below.refl _ _).alloc (Nat.le_refl _) _).alloc (by simp) _⟩

end Go.Proofs.YtjioingdpfgadaaDoor
