import Derived.Test.YtjioingdpfgadaaDoorBoardCM
import Derived.Test.YtjioingdpfgadaaDoorProg
import Derived.Test.YtjioingdpfgadaaDoorBaseM
import Derived.Laws.IdiomStrings
import Derived.BigQuiet
import Derived.WalkSmall
import Derived.RangeFuncBox
import Derived.Laws.Bits64b
namespace Go.Proofs.YtjioingdpfgadaaDoor
open Go Go.RowKit Go.Deep

/-- Whether a may stand ahead of b. -/
def leD (a b : RowD) : Prop := lessD b a = false
theorem lessD_iff (a b : RowD) : lessD a b = true ↔ (a.expect < b.expect ∨ (a.expect = b.expect ∧ (a.due < b.due ∨ (a.due = b.due ∧ a.trip < b.trip)))) := by
  unfold lessD
  split
  · rename_i h; simp only [decide_eq_true_eq]; omega
  · split
    · rename_i h h'; simp only [decide_eq_true_eq]; omega
    · rename_i h h'; simp only [decide_eq_true_eq]; omega
theorem leD_iff (a b : RowD) : leD a b ↔ ¬ (b.expect < a.expect ∨ (b.expect = a.expect ∧ (b.due < a.due ∨ (b.due = a.due ∧ b.trip < a.trip)))) := by
  unfold leD; rw [← lessD_iff]; simp
theorem leD.refl (a : RowD) : leD a a := by rw [leD_iff]; omega
theorem leD.trans {a b c : RowD} (h1 : leD a b) (h2 : leD b c) : leD a c := by rw [leD_iff] at *; omega
theorem leD_of_less {a b : RowD} (h : lessD a b = true) : leD a b := by rw [leD_iff]; rw [lessD_iff] at h; omega
theorem leD_trip {a b : RowD} (h1 : leD a b) (h2 : leD b a) : a.trip = b.trip := by rw [leD_iff] at *; omega

/-- The row at a place. -/
def rowIn (L : List RowD) (i : Nat) : RowD := L[i]?.getD ⟨0, 0, 0, 0, 0, 0⟩
theorem rowIn_eq (L : List RowD) (i : Nat) (h : i < L.length) : rowIn L i = L[i] := by simp [rowIn, List.getElem?_eq_getElem h]
/-- Two rows change their places. -/
def swapL (L : List RowD) (i j : Nat) : List RowD := (L.set i (rowIn L j)).set j (rowIn L i)
theorem swapL_length (L : List RowD) (i j : Nat) : (swapL L i j).length = L.length := by simp [swapL]
theorem rowIn_swap (L : List RowD) (i j k : Nat) (hi : i < L.length) (hj : j < L.length) : rowIn (swapL L i j) k = if k = j then rowIn L i else if k = i then rowIn L j else rowIn L k := by
  unfold rowIn swapL
  rw [List.getElem?_set]
  by_cases h1 : j = k
  · subst h1; rw [if_pos rfl, if_pos rfl]; simp [hj, rowIn]
  · rw [if_neg h1, if_neg (fun e => h1 e.symm), List.getElem?_set]
    by_cases h2 : i = k
    · subst h2; rw [if_pos rfl, if_pos rfl]; simp [hi, rowIn]
    · rw [if_neg h2, if_neg (fun e => h2 e.symm)]
theorem swapL_perm (L : List RowD) (i j : Nat) (hi : i < L.length) (hj : j < L.length) : (swapL L i j).Perm L := by
  unfold swapL; rw [rowIn_eq L i hi, rowIn_eq L j hj]; exact List.set_set_perm hi hj

/-- No row stands ahead of the one above it. -/
def IsHeap (L : List RowD) : Prop := ∀ i, 0 < i → i < L.length → leD (rowIn L ((i - 1) / 2)) (rowIn L i)
/-- But for the one at place a, which may have to go up. -/
def UpHeap (L : List RowD) (a : Nat) : Prop := (∀ i, 0 < i → i < L.length → i ≠ a → leD (rowIn L ((i - 1) / 2)) (rowIn L i)) ∧ (∀ i, 0 < i → i < L.length → (i - 1) / 2 = a → 0 < a → leD (rowIn L ((a - 1) / 2)) (rowIn L i))
/-- But for those below place a, whose row may have to go down. -/
def DownHeap (L : List RowD) (a : Nat) : Prop := (∀ i, 0 < i → i < L.length → (i - 1) / 2 ≠ a → leD (rowIn L ((i - 1) / 2)) (rowIn L i)) ∧ (∀ i, 0 < i → i < L.length → (i - 1) / 2 = a → 0 < a → leD (rowIn L ((a - 1) / 2)) (rowIn L i))

theorem IsHeap.nil : IsHeap [] := fun i _ h => by simp at h
theorem IsHeap.snoc {L : List RowD} (h : IsHeap L) (x : RowD) : UpHeap (L ++ [x]) L.length := by
  have e : ∀ i, i < L.length → rowIn (L ++ [x]) i = rowIn L i := fun i hi => by unfold rowIn; rw [List.getElem?_append_left hi]
  refine ⟨fun i h0 hi hn => ?_, fun i h0 hi hp ha => ?_⟩
  · rw [List.length_append, List.length_singleton] at hi
    rw [e i (by omega), e _ (by omega)]
    exact h i h0 (by omega)
  · rw [List.length_append, List.length_singleton] at hi
    omega
theorem UpHeap.top {L : List RowD} {a : Nat} (h : UpHeap L a) (he : a = 0 ∨ lessD (rowIn L a) (rowIn L ((a - 1) / 2)) = false) : IsHeap L := by
  intro i h0 hi
  by_cases e : i = a
  · subst e
    rcases he with e | e
    · omega
    · exact e
  · exact h.1 i h0 hi e
theorem UpHeap.step {L : List RowD} {a : Nat} (h : UpHeap L a) (h0 : 0 < a) (ha : a < L.length) (hl : lessD (rowIn L a) (rowIn L ((a - 1) / 2)) = true) : UpHeap (swapL L a ((a - 1) / 2)) ((a - 1) / 2) := by
  have hp : (a - 1) / 2 < a := by omega
  have hpl : (a - 1) / 2 < L.length := by omega
  have hs := fun k => rowIn_swap L a ((a - 1) / 2) k ha hpl
  refine ⟨fun i i0 hi hn => ?_, fun i i0 hi hp' hp0 => ?_⟩
  · rw [swapL_length] at hi
    by_cases e : i = a
    · subst e
      rw [hs, hs, if_pos rfl, if_neg (by omega), if_pos rfl]
      exact leD_of_less hl
    · by_cases e1 : (i - 1) / 2 = a
      · rw [hs, hs i, e1, if_neg (by omega), if_pos rfl, if_neg hn, if_neg e]
        exact h.2 i i0 hi e1 h0
      · by_cases e2 : (i - 1) / 2 = (a - 1) / 2
        · rw [hs, hs i, e2, if_pos rfl, if_neg hn, if_neg e]
          have := h.1 i i0 hi e
          rw [e2] at this
          exact (leD_of_less hl).trans this
        · rw [hs, hs i, if_neg e2, if_neg e1, if_neg hn, if_neg e]
          exact h.1 i i0 hi e
  · rw [swapL_length] at hi
    have hq : ((a - 1) / 2 - 1) / 2 < (a - 1) / 2 := by omega
    rw [hs, hs i, if_neg (by omega), if_neg (by omega)]
    have h1 := h.1 ((a - 1) / 2) hp0 hpl (by omega)
    by_cases e : i = a
    · subst e
      rw [if_neg (by omega), if_pos rfl]
      exact h1
    · rw [if_neg (by omega), if_neg e]
      have h2 := h.1 i i0 hi e
      rw [hp'] at h2
      exact h1.trans h2

/-- The place of the first of a row and the two below it. -/
def first1 (L : List RowD) (a : Nat) : Nat := if 2 * a + 1 < L.length ∧ lessD (rowIn L (2 * a + 1)) (rowIn L a) = true then 2 * a + 1 else a
def firstD (L : List RowD) (a : Nat) : Nat := if 2 * a + 2 < L.length ∧ lessD (rowIn L (2 * a + 2)) (rowIn L (first1 L a)) = true then 2 * a + 2 else first1 L a
theorem firstD_cases (L : List RowD) (a : Nat) (ha : a < L.length) : (firstD L a = a ∨ (a < firstD L a ∧ (firstD L a - 1) / 2 = a)) ∧ firstD L a < L.length ∧ leD (rowIn L (firstD L a)) (rowIn L a) ∧ ∀ c, 0 < c → c < L.length → (c - 1) / 2 = a → leD (rowIn L (firstD L a)) (rowIn L c) := by
  have h1 : (first1 L a = a ∨ first1 L a = 2 * a + 1) ∧ first1 L a < L.length ∧ leD (rowIn L (first1 L a)) (rowIn L a) ∧ (2 * a + 1 < L.length → leD (rowIn L (first1 L a)) (rowIn L (2 * a + 1))) := by
    unfold first1
    split
    · rename_i h; exact ⟨.inr rfl, h.1, leD_of_less h.2, fun _ => leD.refl _⟩
    · rename_i h
      refine ⟨.inl rfl, ha, leD.refl _, fun hl => ?_⟩
      unfold leD
      cases hx : lessD (rowIn L (2 * a + 1)) (rowIn L a)
      · rfl
      · exact (h ⟨hl, hx⟩).elim
  obtain ⟨k1, k2, k3, k4⟩ := h1
  unfold firstD
  split
  · rename_i h
    have hl := leD_of_less h.2
    refine ⟨.inr ⟨by omega, by omega⟩, h.1, hl.trans k3, fun c c0 hc hp => ?_⟩
    have : c = 2 * a + 1 ∨ c = 2 * a + 2 := by omega
    rcases this with rfl | rfl
    · exact hl.trans (k4 hc)
    · exact leD.refl _
  · rename_i h
    refine ⟨by omega, k2, k3, fun c c0 hc hp => ?_⟩
    have : c = 2 * a + 1 ∨ c = 2 * a + 2 := by omega
    rcases this with rfl | rfl
    · exact k4 hc
    · unfold leD
      cases hx : lessD (rowIn L (2 * a + 2)) (rowIn L (first1 L a))
      · rfl
      · exact (h ⟨hc, hx⟩).elim
theorem DownHeap.end {L : List RowD} {a : Nat} (h : DownHeap L a) (ha : a < L.length) (he : firstD L a = a) : IsHeap L := by
  have hf := firstD_cases L a ha
  rw [he] at hf
  intro i h0 hi
  by_cases e : (i - 1) / 2 = a
  · rw [e]; exact hf.2.2.2 i h0 hi e
  · exact h.1 i h0 hi e
theorem DownHeap.out {L : List RowD} {a : Nat} (h : DownHeap L a) (ha : L.length ≤ a) : IsHeap L := fun i h0 hi => h.1 i h0 hi (by omega)
theorem DownHeap.step {L : List RowD} {a : Nat} (h : DownHeap L a) (ha : a < L.length) (hne : firstD L a ≠ a) : DownHeap (swapL L a (firstD L a)) (firstD L a) := by
  obtain ⟨f1, f2, f3, f4⟩ := firstD_cases L a ha
  generalize firstD L a = f at *
  have hfa : a < f ∧ (f - 1) / 2 = a := by omega
  have hs := fun k => rowIn_swap L a f k ha f2
  refine ⟨fun i i0 hi hn => ?_, fun i i0 hi hp hp0 => ?_⟩
  · rw [swapL_length] at hi
    by_cases e : (i - 1) / 2 = a
    · rw [hs, hs i, if_neg hn, if_pos e]
      by_cases e1 : i = f
      · rw [if_pos e1]; exact f3
      · rw [if_neg e1, if_neg (by omega)]; exact f4 i i0 hi e
    · by_cases e1 : i = a
      · rw [hs, hs i, if_neg hn, if_neg e, if_neg (by omega), if_pos e1]
        have := h.2 f (by omega) f2 hfa.2 (by omega)
        rw [e1]; exact this
      · rw [hs, hs i, if_neg hn, if_neg e, if_neg (by omega), if_neg e1]
        exact h.1 i i0 hi e
  · rw [swapL_length] at hi
    rw [hs, hs i, if_neg (by omega), if_pos hfa.2, if_neg (by omega), if_neg (by omega)]
    have := h.1 i i0 hi (by omega)
    rw [hp] at this
    exact this

/-- What is left when the first has changed places with the last. -/
def popped (L : List RowD) : List RowD := (swapL L 0 (L.length - 1)).take (L.length - 1)
theorem popped_length (L : List RowD) : (popped L).length = L.length - 1 := by rw [popped, List.length_take, swapL_length]; omega
theorem IsHeap.popped {L : List RowD} (h : IsHeap L) (h0 : 0 < L.length) : DownHeap (popped L) 0 := by
  have e : ∀ i, 0 < i → i < L.length - 1 → rowIn (Go.Proofs.YtjioingdpfgadaaDoor.popped L) i = rowIn L i := fun i i0 hi => by
    have hs := rowIn_swap L 0 (L.length - 1) i h0 (by omega)
    rw [if_neg (by omega), if_neg (by omega)] at hs
    rw [← hs]
    unfold rowIn Go.Proofs.YtjioingdpfgadaaDoor.popped
    rw [List.getElem?_take, if_pos hi]
  refine ⟨fun i i0 hi hn => ?_, fun i i0 hi hp ha => by omega⟩
  rw [popped_length] at hi
  rw [e i i0 hi, e _ (by omega) (by omega)]
  exact h i i0 (by omega)
theorem popped_perm (L : List RowD) (h0 : 0 < L.length) : L.Perm (rowIn L 0 :: popped L) := by
  have hs := (swapL_perm L 0 (L.length - 1) h0 (by omega)).symm
  refine hs.trans ?_
  have hl := swapL_length L 0 (L.length - 1)
  have hlast : (swapL L 0 (L.length - 1))[L.length - 1]'(by rw [hl]; omega) = rowIn L 0 := by
    have := rowIn_swap L 0 (L.length - 1) (L.length - 1) h0 (by omega)
    rw [if_pos rfl, rowIn_eq _ _ (by rw [hl]; omega)] at this
    exact this
  have hcut : swapL L 0 (L.length - 1) = popped L ++ [rowIn L 0] := by
    have := List.take_append_drop (L.length - 1) (swapL L 0 (L.length - 1))
    rw [List.drop_eq_getElem_cons (by rw [hl]; omega), List.drop_eq_nil_of_le (by rw [hl]; omega), hlast] at this
    exact this.symm
  rw [hcut]
  exact List.perm_append_singleton _ _
theorem IsHeap.least {L : List RowD} (h : IsHeap L) : ∀ i, i < L.length → leD (rowIn L 0) (rowIn L i) := by
  intro i
  induction i using Nat.strongRecOn with
  | _ i ih =>
    intro hi
    by_cases e : i = 0
    · subst e; exact leD.refl _
    · exact (ih ((i - 1) / 2) (by omega) (by omega)).trans (h i (by omega) hi)

/-- No two rows are of one trip. -/
def OneEach (L : List RowD) : Prop := (L.map (·.trip)).Nodup
theorem OneEach.perm {A B : List RowD} (h : OneEach A) (p : A.Perm B) : OneEach B := (p.map _).nodup_iff.1 h
theorem OneEach.same {L : List RowD} (h : OneEach L) {a b : RowD} (ha : a ∈ L) (hb : b ∈ L) (e : a.trip = b.trip) : a = b := by
  unfold OneEach at h
  induction L with
  | nil => simp at ha
  | cons x l ih =>
    rw [List.map_cons, List.nodup_cons] at h
    rcases List.mem_cons.1 ha with rfl | ha'
    · rcases List.mem_cons.1 hb with rfl | hb'
      · rfl
      · exact (h.1 (by rw [e]; exact List.mem_map_of_mem hb')).elim
    · rcases List.mem_cons.1 hb with rfl | hb'
      · exact (h.1 (by rw [← e]; exact List.mem_map_of_mem ha')).elim
      · exact ih h.2 ha' hb'
theorem bestTo_least (L : List RowD) (k : Nat) (hk : k ≤ L.length) : ∀ i, i < k → leD (rowIn L (bestTo L k)) (rowIn L i) := by
  induction k with
  | zero => intro i hi; omega
  | succ k ih =>
    intro i hi
    have hb := bestTo_lt L k (by omega) (by omega)
    have ih' := ih (by omega)
    rw [bestTo_succ L k (by omega) hb]
    rw [← rowIn_eq L k (by omega), ← rowIn_eq L _ hb]
    split
    · rename_i hl
      by_cases e : i = k
      · subst e; exact leD.refl _
      · exact (leD_of_less hl).trans (ih' i (by omega))
    · rename_i hl
      by_cases e : i = k
      · subst e; unfold leD; simpa using hl
      · exact ih' i (by omega)
theorem bestOf_lt (L : List RowD) (h : 0 < L.length) : bestOf L < L.length := bestTo_lt L _ h (Nat.le_refl _)
theorem bestOf_least (L : List RowD) (h : 0 < L.length) : ∀ x ∈ L, leD (L[bestOf L]'(bestOf_lt L h)) x := by
  intro x hx
  obtain ⟨i, hi, rfl⟩ := List.getElem_of_mem hx
  have := bestTo_least L L.length (Nat.le_refl _) i hi
  rw [rowIn_eq _ _ hi] at this
  rw [← rowIn_eq L (bestOf L) (bestOf_lt L h)]
  exact this
theorem cut_perm (L : List RowD) (i : Nat) (h : i < L.length) : L.Perm (L[i] :: L.eraseIdx i) := by
  have e : L = L.take i ++ L[i] :: L.drop (i + 1) := by rw [← List.drop_eq_getElem_cons h, List.take_append_drop]
  rw [List.eraseIdx_eq_take_drop_succ]
  exact List.Perm.trans (by rw [← e]) List.perm_middle
theorem bestOf_perm (L : List RowD) (h : 0 < L.length) : L.Perm (L[bestOf L]'(bestOf_lt L h) :: L.eraseIdx (bestOf L)) := cut_perm L _ (bestOf_lt L h)
/-- The choice hangs on which rows there are, not on their places. -/
theorem pick_perm (m : Nat) : ∀ {A B : List RowD}, OneEach A → A.Perm B → pick m A = pick m B := by
  induction m with
  | zero => intro A B _ _; rfl
  | succ m ih =>
    intro A B hA hp
    by_cases h0 : A.length = 0
    · have hB : B.length = 0 := by rw [← hp.length_eq]; exact h0
      rw [List.length_eq_zero_iff.1 h0, List.length_eq_zero_iff.1 hB]
    · have a0 : 0 < A.length := by omega
      have b0 : 0 < B.length := by rw [← hp.length_eq]; exact a0
      rw [pick_cons m A (bestOf_lt A a0), pick_cons m B (bestOf_lt B b0)]
      have e : A[bestOf A]'(bestOf_lt A a0) = B[bestOf B]'(bestOf_lt B b0) := by
        refine hA.same (List.getElem_mem _) (hp.mem_iff.2 (List.getElem_mem _)) (leD_trip ?_ ?_)
        · exact bestOf_least A a0 _ (hp.mem_iff.2 (List.getElem_mem _))
        · exact bestOf_least B b0 _ (hp.mem_iff.1 (List.getElem_mem _))
      have p1 := (bestOf_perm A a0).symm.trans (hp.trans (bestOf_perm B b0))
      rw [e] at p1
      have p2 := List.Perm.cons_inv p1
      have hA2 : OneEach (A.eraseIdx (bestOf A)) := by
        have := hA.perm (bestOf_perm A a0)
        unfold OneEach at this ⊢
        rw [List.map_cons, List.nodup_cons] at this
        exact this.2
      rw [e, ih hA2 p2]
/-- What a heap gives first is what is chosen first. -/
theorem pick_heap (m : Nat) {L R : List RowD} (h : IsHeap L) (h0 : 0 < L.length) (hd : OneEach L) (hp : L.Perm (rowIn L 0 :: R)) : pick (m + 1) L = rowIn L 0 :: pick m R := by
  have e : L[bestOf L]'(bestOf_lt L h0) = rowIn L 0 := by
    have hm : rowIn L 0 ∈ L := by rw [rowIn_eq L 0 h0]; exact List.getElem_mem _
    refine hd.same (List.getElem_mem _) hm (leD_trip (bestOf_least L h0 _ hm) ?_)
    have := h.least (bestOf L) (bestOf_lt L h0)
    rw [rowIn_eq L _ (bestOf_lt L h0)] at this
    exact this
  rw [pick_cons m L (bestOf_lt L h0), e]
  have p1 := (bestOf_perm L h0).symm.trans hp
  rw [e] at p1
  have hd2 : OneEach (L.eraseIdx (bestOf L)) := by
    have := hd.perm (bestOf_perm L h0)
    unfold OneEach at this ⊢
    rw [List.map_cons, List.nodup_cons] at this
    exact this.2
  rw [pick_perm m hd2 (List.Perm.cons_inv p1)]

end Go.Proofs.YtjioingdpfgadaaDoor
namespace Go.Proofs.YtjioingdpfgadaaDoor
open Go Go.RowKit

/-- The decimal signs of a number, none of nought; f: how many at most. -/
def decF : Nat → Nat → List UInt8
  | 0, _ => []
  | f + 1, k => if k = 0 then [] else decF f (k / 10) ++ [UInt8.ofNat (48 + k % 10)]

/-- The mark of a number. -/
def markL (k : Nat) : List UInt8 := 109 :: (if k = 0 then [48] else decF 20 k)
theorem markL_pos {k : Nat} (h : k ≠ 0) : markL k = 109 :: decF 20 k := by unfold markL; rw [if_neg h]
theorem ret_str {a b : ByteArray} (h : a = b) : Ending.returned (.string a) = .returned (.string b) := by rw [h]
theorem str_cons (c : UInt8) (l : List UInt8) : (⟨#[c]⟩ : ByteArray) ++ ⟨l.toArray⟩ = ⟨(c :: l).toArray⟩ := by
  apply ByteArray.ext; simp
theorem uBytes : Tryd.prog.underlying 22 = some (.slice 5) := by kernel_rfl
theorem uByte : Tryd.prog.underlying 5 = some (.int .u8) := by kernel_rfl
theorem uStr : Tryd.prog.underlying 9 = some .string := by kernel_rfl
theorem digit_nat (m : Nat) : ((UInt8.ofNat (48 + m % 10)).toNat : Int) = 48 + (m : Int) % 10 := by
  have : m % 10 < 10 := Nat.mod_lt _ (by omega)
  have e : (UInt8.ofNat (48 + m % 10)).toNat = 48 + m % 10 := by
    simp; omega
  rw [e]; omega
/-- string of a new slice of one byte: a decimal sign. -/
theorem run_digit (m : Nat) (w : World) : (convert 22 9 (.slice (some ⟨w.heap.size, 0, none⟩) 1 1)).run Tryd.prog (w.alloc (.cells #[.int .u8 (48 + (m : Int) % 10)] 5)) = .ok (.string ⟨[UInt8.ofNat (48 + m % 10)].toArray⟩) (w.alloc (.cells #[.int .u8 (48 + (m : Int) % 10)] 5)) := by
  refine run_convert_bytes_back _ 22 9 5 ⟨w.heap.size, 0, none⟩ 1 [UInt8.ofNat (48 + m % 10)] uBytes uByte uStr ?_
  intro j hj
  have hj0 : j = 0 := by simp at hj; omega
  subst hj0
  have := digit_nat m
  simp only [List.getElem_cons_zero]
  rw [this]
  simp [Addr.add, go_sem]
theorem decF_step (f m : Nat) (h : m ≠ 0) : decF (f + 1) m = decF f (m / 10) ++ [UInt8.ofNat (48 + m % 10)] := by
  simp [decF, h]
theorem decF_zero (f : Nat) : decF f 0 = [] := by cases f <;> simp [decF]

/-- A number in decimal signs. -/
def decL (k : Nat) : List UInt8 := if k = 0 then [48] else decF 20 k
theorem decL_pos {k : Nat} (h : k ≠ 0) : decL k = decF 20 k := by unfold decL; rw [if_neg h]

set_option maxRecDepth 100000 in
set_option maxHeartbeats 1000000 in
theorem l3decimal_any (k : Nat) (w : World) (hk : k ≤ 1000000000000) :
    Calls Tryd.prog 84 #[.int .i64 k] w fun e w' => e = .returned (.string ⟨(decL k).toArray⟩) ∧ Below w.heap.size w w' := by
  by_cases h0 : k = 0
  · subst h0
    go_enter Tryd.func84, Tryd.ntmps84
    go_wp2
    go_ret
    exact ⟨rfl, Below.refl _ _⟩
  · have h1 : (0 : Int) < (k : Int) := by omega
    go_enter Tryd.func84, Tryd.ntmps84
    go_wp2
    go_loopw [0, 3] (fun n s wr => ∃ (f m : Nat) (out : List UInt8), n = .int .i64 m ∧ s = .string ⟨out.toArray⟩ ∧ m < 10 ^ f ∧ f ≤ 20 ∧ out.length + f = 20 ∧ m ≤ 1000000000000 ∧ Hid (decF f m ++ out = decF 20 k) ∧ Below w.heap.size w wr) (fun n _ _ => (intOf n).toNat)
    case atStart => exact ⟨20, k, [], rfl, rfl, by omega, by omega, rfl, hk, by unfold Hid; simp, Below.refl _ _⟩
    case round =>
      obtain ⟨f, m, out, rfl, rfl, hf, hf20, hol, hm, hd, hbel⟩ := hrel
      by_cases hm0 : m = 0
      · subst hm0
        have HO : Hid (out = decF 20 k) := by
          unfold Hid; have := hd.out; rw [decF_zero] at this; simpa using this
        have hlen : out.length ≤ 20 := by omega
        clear hf hf20 hol
        go_wp2
        all_goals try (exfalso; simp at *; omega)
        go_ret
        exact ⟨ret_str (by rw [decL_pos h0, ← HO.out]), hbel⟩
      · have hmp : (0 : Int) < (m : Int) := by omega
        obtain ⟨f', rfl⟩ : ∃ f', f = f' + 1 := ⟨f - 1, by
          rcases f with _ | f
          · simp at hf; omega
          · omega⟩
        have hrun := run_digit m wr
        have HD : Hid (decF f' (m / 10) ++ (UInt8.ofNat (48 + m % 10) :: out) = decF 20 k) := by
          unfold Hid
          have := hd.out
          rw [decF_step f' m hm0] at this
          simpa using this
        have hf1 : m / 10 < 10 ^ f' := by
          rw [Nat.pow_succ] at hf; omega
        have hlen : out.length ≤ 20 := by omega
        have HF : Hid (f' + 1 ≤ 20 ∧ out.length + (f' + 1) = 20) := ⟨hf20, hol⟩
        clear hf hf20 hol
        go_wp2
        all_goals try (exfalso; simp at *; omega)
        go_roundw
        case rel =>
          obtain ⟨g1, g2⟩ := HF.out
          exact ⟨f', m / 10, UInt8.ofNat (48 + m % 10) :: out, by go_num, by simp; rfl, hf1, by omega, by simp; omega, by omega, HD.out, hbel.alloc hbel.size _⟩
        case measure => simp [intOf]; omega

end Go.Proofs.YtjioingdpfgadaaDoor
namespace Go.Proofs.YtjioingdpfgadaaDoor
open Go Go.RowKit Go.Deep

/-- Where the reader of choices stands. -/
structure Rd where
  ix : Nat
  sd : Int
def seedB (s x : Int) : Int := IntKind.u64.wrap (IntKind.u64.wrap (IntKind.u64.wrap (s * 6364136223846793005) + x) + 1442695040888963407)
def seedN (s : Int) : Int := IntKind.u64.wrap (IntKind.u64.wrap (s * 6364136223846793005) + 1442695040888963407)
/-- The next choice, and where the reader stands behind it. -/
def nextF (bs : List Int) (s : Rd) : Nat × Rd :=
  match bs[s.ix]? with
  | some x => (x.toNat, ⟨s.ix + 1, seedB s.sd x⟩)
  | none => ((bits BinOp.and IntKind.u64 (seedN s.sd / 1099511627776) 255).toNat, ⟨s.ix + 1, seedN s.sd⟩)
def pickF (bs : List Int) (k : Nat) (s : Rd) : Nat × Rd :=
  if k ≤ 1 then (0, s)
  else if 200 < k then (((nextF bs s).1 * 256 + (nextF bs (nextF bs s).2).1) % k, (nextF bs (nextF bs s).2).2)
  else ((nextF bs s).1 % k, (nextF bs s).2)
theorem pickF_lt (bs : List Int) (k : Nat) (s : Rd) : (pickF bs k s).1 < k ∨ (pickF bs k s).1 = 0 := by
  unfold pickF
  split
  · exact .inr rfl
  · split
    · exact .inl (Nat.mod_lt _ (by omega))
    · exact .inl (Nat.mod_lt _ (by omega))
/-- Bytes that were handed in. -/
def BytesAt (w : World) (a : Option Addr) (bs : List Int) : Prop := ∀ i (h : i < bs.length), ∃ b o, a = some ⟨b, o, none⟩ ∧ w.cell? ⟨b, o + i, none⟩ = some (.int .u8 bs[i]) ∧ 0 ≤ bs[i] ∧ bs[i] ≤ 255
/-- The reader of choices at block C: where it stands, at m at most. -/
structure CurAt (w : World) (C : Nat) (ca : Option Addr) (bs : List Int) (cap : Nat) (s : Rd) (m : Nat) : Prop where
  low : s.ix ≤ m
  sd0 : 0 ≤ s.sd
  sd1 : s.sd ≤ 18446744073709551615
  box : w.heap[C]? = some (.cells #[.slice ca bs.length cap, .int .i64 s.ix, .int .u64 s.sd] 83 (0, 0))
  code : BytesAt w ca bs
  apart : ∀ b o, ca = some ⟨b, o, none⟩ → b ≠ C
theorem cur_cells {w : World} {C : Nat} {x y z : Value} {T : TypeId} (h : w.heap[C]? = some (.cells #[x, y, z] T (0, 0))) : (w.cell? ⟨C, 0, none⟩ = some x ∧ w.cell? ⟨C, 1, none⟩ = some y ∧ w.cell? ⟨C, 2, none⟩ = some z) ∧ (∀ i, w.frozen? ⟨C, i, none⟩ = false) := by
  refine ⟨⟨?_, ?_, ?_⟩, fun i => ?_⟩ <;> simp [World.cell?, World.frozen?, h]
theorem cur_next {w w' : World} {C : Nat} {ca : Option Addr} {bs : List Int} {cap m a : Nat} {sd sd' : Int} (h : CurAt w C ca bs cap ⟨a, sd⟩ m) (hg : w.grownBy w' (some C)) (hh : w'.heap[C]? = some (.cells #[.slice ca bs.length cap, .int .i64 ((a : Int) + 1), .int .u64 sd'] 83 (0, 0))) (h0 : 0 ≤ sd') (h1 : sd' ≤ 18446744073709551615) : CurAt w' C ca bs cap ⟨a + 1, sd'⟩ (m + 1) := by
  refine ⟨by have := h.low; simp at this ⊢; omega, h0, h1, ?_, ?_, h.apart⟩
  · rw [hh]; simp
  · intro i hi
    obtain ⟨b, o, e, hc, hx⟩ := h.code i hi
    refine ⟨b, o, e, ?_, hx⟩
    rw [World.cell?_of_block (w := w) (hg.block b (cell_lt hc) (fun e' => h.apart b o e (by cases e'; rfl)))]
    exact hc
theorem grown_two {w : World} {C i j k : Nat} {u v : Value} : w.grownBy (((w.drewN k).setCell ⟨C, i, none⟩ u).setCell ⟨C, j, none⟩ v) (some C) := by
  have hb : Below 0 w (((w.drewN k).setCell ⟨C, i, none⟩ u).setCell ⟨C, j, none⟩ v) := ((below_drewN (Below.refl 0 w) k).setCell (Nat.zero_le _) _).setCell (Nat.zero_le _) _
  refine ⟨hb.os, hb.tape, hb.output, hb.size, fun x _ hne => ?_⟩
  have : x ≠ C := fun e => hne (by rw [e])
  rw [Below.heap_setCell _ _ _ x this, Below.heap_setCell _ _ _ x this]
  rfl
theorem u64_range (z : Int) : 0 ≤ IntKind.u64.wrap z ∧ IntKind.u64.wrap z ≤ 18446744073709551615 := by rw [IntKind.wrap_u64]; omega
theorem and255 (z : Int) (h0 : 0 ≤ z) (h1 : z ≤ 18446744073709551615) : ∃ r : Nat, r ≤ 255 ∧ bits BinOp.and IntKind.u64 z 255 = (r : Int) := by
  obtain ⟨a, rfl⟩ := Int.eq_ofNat_of_zero_le h0
  have := bits_and_u64_nat a 255 (by omega) (by omega)
  exact ⟨a &&& 255, Nat.and_le_right, this⟩

set_option maxRecDepth 100000 in
set_option maxHeartbeats 4000000 in
theorem next_any (C : Nat) (ca : Option Addr) (bs : List Int) (cap m : Nat) (s : Rd) (w : World) (hm : m ≤ 1000000000) (h : CurAt w C ca bs cap s m) :
    Calls Tryd.prog 97 #[.pointer (some ⟨C, 0, none⟩)] w fun e w' => ∃ (r : Nat) (s' : Rd), nextF bs s = (r, s') ∧ r ≤ 255 ∧ e = .returned (.int .i64 r) ∧ CurAt w' C ca bs cap s' (m + 1) ∧ w.grownBy w' (some C) := by
  obtain ⟨a, sd⟩ := s
  have ha := h.low
  have s0 := h.sd0
  have s1 := h.sd1
  have hh := h.box
  simp only at ha s0 s1 hh
  obtain ⟨⟨c0, c1, c2⟩, cf⟩ := cur_cells hh
  have cf1 := cf 1
  have cf2 := cf 2
  have HH : Hid (w.heap[C]? = some (.cells #[.slice ca bs.length cap, .int .i64 a, .int .u64 sd] 83 (0, 0))) := hh
  have HC : Hid (CurAt w C ca bs cap ⟨a, sd⟩ m) := h
  have ham : a ≤ 1000000000 := by omega
  by_cases hlt : a < bs.length
  · obtain ⟨b, o, rfl, hx, x0, x1⟩ := h.code a hlt
    have HN : Hid (nextF bs ⟨a, sd⟩ = (bs[a].toNat, ⟨a + 1, seedB sd bs[a]⟩)) := by unfold Hid nextF; simp [List.getElem?_eq_getElem hlt]
    have hne := h.apart b o rfl
    generalize bs[a] = x at *
    have hai : (a : Int) < (bs.length : Int) := by omega
    have ha0 : (0 : Int) ≤ (a : Int) := by omega
    clear h hh cf
    go_enter Tryd.func97, Tryd.ntmps97
    go_wp2_with fail
    go_quiet (fail)
    go_wp2_with fail
    go_quiet (fail)
    go_wp2_with fail
    obtain ⟨r, hr⟩ := Int.eq_ofNat_of_zero_le x0
    obtain ⟨z0, z1⟩ := u64_range (IntKind.u64.wrap (IntKind.u64.wrap (sd * 6364136223846793005) + x) + 1442695040888963407)
    go_ret
    refine ⟨r, ⟨a + 1, seedB sd x⟩, by rw [HN.out, hr]; rfl, by omega, ret_int hr, ?_, grown_two⟩
    exact cur_next HC.out grown_two (by simp [World.setCell, Array.getElem?_modify, World.drewN, HH.out, seedB]) z0 z1
  · have hai : ¬ (a : Int) < (bs.length : Int) := by omega
    have HN : Hid (nextF bs ⟨a, sd⟩ = ((bits BinOp.and IntKind.u64 (seedN sd / 1099511627776) 255).toNat, ⟨a + 1, seedN sd⟩)) := by unfold Hid nextF; simp [List.getElem?_eq_none (Nat.le_of_not_lt hlt)]
    clear h hh cf
    go_enter Tryd.func97, Tryd.ntmps97
    go_wp2_with fail
    go_quiet (fail)
    go_wp2_with fail
    obtain ⟨z0, z1⟩ := u64_range (IntKind.u64.wrap (sd * 6364136223846793005) + 1442695040888963407)
    obtain ⟨r, hr, er⟩ := and255 (IntKind.u64.wrap (IntKind.u64.wrap (sd * 6364136223846793005) + 1442695040888963407) / 1099511627776) (by omega) (by omega)
    go_ret
    refine ⟨r, ⟨a + 1, seedN sd⟩, by rw [HN.out]; unfold seedN; rw [er]; rfl, hr, ret_int (by rw [er]; unfold wrap64; omega), ?_, grown_two⟩
    exact cur_next HC.out grown_two (by simp [World.setCell, Array.getElem?_modify, World.drewN, HH.out, seedN]) z0 z1

set_option maxRecDepth 100000 in
set_option maxHeartbeats 4000000 in
theorem pick_any (C : Nat) (ca : Option Addr) (bs : List Int) (cap m k : Nat) (s : Rd) (w : World) (hm : m ≤ 100000000) (hk : k ≤ 100000) (h : CurAt w C ca bs cap s m) :
    Calls Tryd.prog 61 #[.pointer (some ⟨C, 0, none⟩), .int .i64 k] w fun e w' => ∃ (r : Nat) (s' : Rd), pickF bs k s = (r, s') ∧ (r < k ∨ r = 0) ∧ e = .returned (.int .i64 r) ∧ CurAt w' C ca bs cap s' (m + 2) ∧ w.grownBy w' (some C) := by
  have HC : Hid (CurAt w C ca bs cap s m) := h
  have hmore : ∀ {w' : World} {s : Rd} {m m' : Nat}, m ≤ m' → CurAt w' C ca bs cap s m → CurAt w' C ca bs cap s m' := fun hle hc => ⟨by have := hc.low; omega, hc.sd0, hc.sd1, hc.box, hc.code, hc.apart⟩
  have HMO : Hid (∀ (w' : World) (s : Rd) (m m' : Nat), m ≤ m' → CurAt w' C ca bs cap s m → CurAt w' C ca bs cap s m') := fun _ _ _ _ h1 h2 => hmore h1 h2
  have HLT : Hid ((pickF bs k s).1 < k ∨ (pickF bs k s).1 = 0) := pickF_lt bs k s
  clear h hmore
  by_cases h1 : k ≤ 1
  · have hki : (k : Int) ≤ 1 := by omega
    have HP : Hid (pickF bs k s = (0, s)) := by unfold Hid pickF; rw [if_pos h1]
    go_enter Tryd.func61, Tryd.ntmps61
    go_wp2_with fail
    go_ret
    exact ⟨0, s, HP.out, .inr rfl, rfl, HMO.out _ _ _ _ (by omega) HC.out, World.grownBy.refl _ _⟩
  · have hki : ¬ (k : Int) ≤ 1 := by omega
    have hkz : ¬ (k : Int) = 0 := by omega
    go_enter Tryd.func61, Tryd.ntmps61
    go_wp2_with fail
    refine (next_any C ca bs cap m s _ (by omega) HC.out).mono ?_
    rintro e w1 ⟨r, s1, hs1, hr, rfl, hc1, hg1⟩
    have HC1 : Hid (CurAt w1 C ca bs cap s1 (m + 1)) := hc1
    have HS1 : Hid (nextF bs s = (r, s1)) := hs1
    clear hc1 hs1
    by_cases h2 : 200 < k
    · have hk2 : (200 : Int) < (k : Int) := by omega
      go_wp2_with fail
      refine (next_any C ca bs cap (m + 1) s1 _ (by omega) (by exact HC1.out)).mono ?_
      rintro e w2 ⟨r2, s2, hs2, hr2, rfl, hc2, hg2⟩
      have HC2 : Hid (CurAt w2 C ca bs cap s2 (m + 1 + 1)) := hc2
      have HP : Hid (pickF bs k s = ((r * 256 + r2) % k, s2)) := by unfold Hid pickF; rw [if_neg h1, if_pos h2, HS1.out, hs2]
      clear hc2 hs2
      go_wp2_with fail
      go_ret
      exact ⟨(r * 256 + r2) % k, s2, HP.out, .inl (Nat.mod_lt _ (by omega)), ret_int (by simp), HC2.out, hg1.trans hg2⟩
    · have hk2 : ¬ (200 : Int) < (k : Int) := by omega
      have HP : Hid (pickF bs k s = (r % k, s1)) := by unfold Hid pickF; rw [if_neg h1, if_neg h2, HS1.out]
      go_wp2_with fail
      go_ret
      exact ⟨r % k, s1, HP.out, .inl (Nat.mod_lt _ (by omega)), ret_int (by simp), HMO.out _ _ _ _ (by omega) HC1.out, hg1⟩

/-- The names of stations, as they are drawn. -/
def nameF (i : Nat) : ByteArray :=
  match i % 8 with
  | 0 => ⟨#[65, 115, 104]⟩
  | 1 => ⟨#[66, 101, 99, 107]⟩
  | 2 => ⟨#[67, 111, 118, 101]⟩
  | 3 => ⟨#[68, 101, 110, 101]⟩
  | 4 => ⟨#[69, 108, 109, 32, 72, 97, 108, 116]⟩
  | 5 => ⟨#[70, 111, 114, 100, 32, 50]⟩
  | 6 => ⟨#[71, 108, 101, 110]⟩
  | _ => ⟨#[72, 111, 108, 116]⟩

set_option maxRecDepth 100000 in
set_option maxHeartbeats 4000000 in
theorem name_any (p : Option Addr) (i : Nat) (w : World) (hi : i ≤ 100000) :
    Calls Tryd.prog 83 #[.pointer p, .int .i64 i] w fun e w' => e = .returned (.string (nameF i)) ∧ Below w.heap.size w w' := by
  obtain ⟨q, hq⟩ : ∃ q : Nat, i % 8 = q := ⟨_, rfl⟩
  have hqi : (i : Int) % 8 = (q : Int) := by omega
  have hq8 : q < 8 := by omega
  have HQ : Hid (i % 8 = q) := hq
  clear hq
  have hcase : q = 0 ∨ q = 1 ∨ q = 2 ∨ q = 3 ∨ q = 4 ∨ q = 5 ∨ q = 6 ∨ q = 7 := by omega
  rcases hcase with rfl | rfl | rfl | rfl | rfl | rfl | rfl | rfl
  all_goals
    go_enter Tryd.func83, Tryd.ntmps83
    go_wp2_with fail
    go_ret
    exact ⟨ret_str (by unfold nameF; rw [HQ.out]; rfl), (Below.refl _ _).alloc (Nat.le_refl _) _⟩

end Go.Proofs.YtjioingdpfgadaaDoor
