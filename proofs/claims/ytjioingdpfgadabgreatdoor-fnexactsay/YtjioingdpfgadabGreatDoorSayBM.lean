import Derived.Test.YtjioingdpfgadabGreatDoorProg
import Derived.Test.YtjioingdpfgadabGreatDoorSayA
import Derived.Test.YtjioingdpfgadabGreatDoorLawK
import Derived.Laws.OwnMore
import Derived.Deep.AppendLies
namespace Go.Proofs.YtjioingdpfgadabGreatDoor
open Go Go.RowKit Go.Deep

def saidV (x : SaidD) : Value := .agg #[.int .i64 x.tick, .string x.text]
def twoOf (x : SaidD) : List Value := [.int .i64 x.tick, .string x.text]
def twos (l : List SaidD) : List Value := l.flatMap twoOf
theorem twos_snoc (l : List SaidD) (x : SaidD) : twos (l ++ [x]) = twos l ++ twoOf x := by simp [twos]
theorem twos_length (l : List SaidD) : (twos l).length = l.length * 2 := by
  induction l with
  | nil => rfl
  | cons a l ih => simp only [twos, List.flatMap_cons, List.length_append, List.length_cons] at ih ⊢; rw [show (l.flatMap twoOf).length = l.length * 2 from ih]; simp [twoOf]; omega
theorem twos_get (l : List SaidD) (i c : Nat) (h : i < l.length) (hc : c < 2) : (twos l)[i * 2 + c]? = (twoOf l[i])[c]? := by
  induction l generalizing i with
  | nil => simp at h
  | cons a l ih =>
    have e : twos (a :: l) = twoOf a ++ twos l := by simp [twos]
    rw [e]
    cases i with
    | zero => rw [List.getElem?_append_left (by simp [twoOf]; omega)]; simp
    | succ i =>
      rw [List.getElem?_append_right (by simp [twoOf]; omega)]
      have : (i + 1) * 2 + c - (twoOf a).length = i * 2 + c := by simp [twoOf]; omega
      rw [this, ih i (by simpa using h)]
      rfl
/-- What is said, two cells each. -/
def SaidsAt (w : World) (a : Option Addr) (l : List SaidD) : Prop :=
  ∀ i (h : i < l.length), ∃ b o, a = some ⟨b, o, none⟩ ∧ w.cell? ⟨b, o + i * 2, none⟩ = some (.int .i64 l[i].tick) ∧ w.cell? ⟨b, o + i * 2 + 1, none⟩ = some (.string l[i].text)
theorem SaidsAt.keep {w w' : World} {a : Option Addr} {l : List SaidD} (h : SaidsAt w a l) (hb : Below w.heap.size w w') : SaidsAt w' a l := by
  intro i hi; obtain ⟨b, o, e, c0, c1⟩ := h i hi; exact ⟨b, o, e, cell_keep hb c0, cell_keep hb c1⟩
def SaidsOwn (B : Nat) (w : World) (v : Value) (K : List SaidD) : Prop := w.ownsRow B 96 2 v K.length (twos K)
theorem saids_at {B : Nat} {w : World} {v : Value} {l : List SaidD} (h : SaidsOwn B w v l) : ∃ a c, v = .slice a l.length c ∧ SaidsAt w a l := by
  have h0 : w.ownsRow B 96 2 v l.length (twos l) := h
  rcases h0.2 with ⟨e, e0⟩ | ⟨g, cap, cur, e, _⟩
  · exact ⟨none, 0, by rw [e, e0], fun j hj => by omega⟩
  · refine ⟨some ⟨g, 0, none⟩, cap, e, fun j hj => ?_⟩
    rw [e] at h0
    have hc : ∀ c, c < 2 → w.cell? ⟨g, j * 2 + c, none⟩ = (twoOf l[j])[c]? := fun c hc => by
      rw [h0.cellAt _ (by omega), twos_get _ j c hj hc]
    refine ⟨g, 0, rfl, ?_, ?_⟩
    · simpa [twoOf] using hc 0 (by omega)
    · simpa [twoOf] using hc 1 (by omega)
theorem SaidsOwn.below {B : Nat} {w w' : World} {v : Value} {K : List SaidD} (h : SaidsOwn B w v K) (hb : Below w.heap.size w w') : SaidsOwn B w' v K := owns_below h hb (owns_lt h)
theorem SaidsOwn.keptOut {L R B : Nat} {w w' : World} {v : Value} {K : List SaidD} (h : SaidsOwn B w v K) (hk : Kept L R w w') (hB : R ≤ B) : SaidsOwn B w' v K := owns_keptOut h hk hB
theorem SaidsOwn.ss {B n c : Nat} {w : World} {a : Option Addr} {K : List SaidD} (h : SaidsOwn B w (.slice a n c) K) : SaidsAt w a K := by
  obtain ⟨na, nc, e, h1⟩ := saids_at h
  simp only [Value.slice.injEq] at e
  obtain ⟨rfl, _, _⟩ := e
  exact h1

set_option maxHeartbeats 1000000 in
theorem eqSaid_same (r : SaidD) (w : World) :
    Calls Tryz.prog 57 #[saidV r, saidV r] w fun e w' => e = .returned (.bool true) ∧ Below w.heap.size w w' := by
  unfold saidV
  go_enter Tryz.func57, Tryz.ntmps57
  go_wp2
  go_ret
  exact ⟨rfl, ((Below.refl _ _).alloc (Nat.le_refl _) _).alloc (by simp) _⟩

set_option maxHeartbeats 1000000 in
theorem eqSaidS_same (a a' : Option Addr) (rs : List SaidD) (c c' : Nat) (w : World) (hn : rs.length ≤ 1048576) (hat : SaidsAt w a rs) (hat' : SaidsAt w a' rs) :
    Calls Tryz.prog 23 #[.slice a rs.length c, .slice a' rs.length c'] w fun e w' => e = .returned (.bool true) ∧ Below w.heap.size w w' := by
  go_enter Tryz.func23, Tryz.ntmps23
  go_wp2
  go_loopw [5] (fun i wr => ∃ k : Nat, k ≤ rs.length ∧ i = .int .i64 k ∧ Below w.heap.size w wr) (fun i _ => rs.length - (intOf i).toNat)
  case atStart => exact ⟨0, Nat.zero_le _, rfl, Below.refl _ _⟩
  case round =>
    obtain ⟨k, hk, rfl, hbel⟩ := hrel
    by_cases hlt : k < rs.length
    · obtain ⟨b, o, rfl, hc0, hc1⟩ := hat.keep hbel k hlt
      obtain ⟨b', o', rfl, hd0, hd1⟩ := hat'.keep hbel k hlt
      have hi : (k : Int) < (rs.length : Int) := by omega
      have h0 : (0 : Int) ≤ (k : Int) := by omega
      generalize rs[k] = x at *
      clear hat hat'
      go_wp2_with fail
      go_region_with (go_at_call 57; refine (eqSaid_same x _).mono ?_; rintro e w1 ⟨rfl, hb1⟩)
      all_goals
        go_wp2
        go_roundw
        case rel => exact ⟨k + 1, by omega, by go_num, hbel.drew.trans (by exact hb1.mono hbel.size)⟩
        case measure => simp [intOf]; omega
    · go_wp2
      go_ret
      exact ⟨rfl, hbel⟩

/-- The mark on place i of what is said, where the marks begin at k. -/
def markT (k : Nat) : ByteArray := ⟨(markL k).toArray⟩
def markQ (k i : Nat) : SaidD := ⟨((k + i * 2 : Nat) : Int), markT (k + i * 2 + 1)⟩
def markQs (k n : Nat) : List SaidD := (List.range n).map (markQ k)
def mixQs (k m : Nat) (rs : List SaidD) : List SaidD := rs.mapIdx fun i x => if i < m then markQ k i else x
theorem markQs_length (k n : Nat) : (markQs k n).length = n := by simp [markQs]
theorem markQs_get (k n i : Nat) (h : i < n) : (markQs k n)[i]'(by rw [markQs_length]; exact h) = markQ k i := by simp [markQs]
theorem mixQs_length (k m : Nat) (rs : List SaidD) : (mixQs k m rs).length = rs.length := by simp [mixQs]
theorem mixQs_start (k : Nat) (rs : List SaidD) : mixQs k 0 rs = rs := by
  apply List.ext_getElem (mixQs_length k 0 rs)
  intro i h1 h2
  simp [mixQs]
theorem mixQs_end (k : Nat) (rs : List SaidD) : mixQs k rs.length rs = markQs k rs.length := by
  apply List.ext_getElem (by rw [mixQs_length, markQs_length])
  intro i h1 h2
  rw [markQs_length] at h2
  rw [markQs_get k _ i h2]
  simp [mixQs, h2]
theorem mixQs_succ (k m : Nat) (rs : List SaidD) : mixQs k (m + 1) rs = (mixQs k m rs).set m (markQ k m) := by
  apply List.ext_getElem (by rw [List.length_set, mixQs_length, mixQs_length])
  intro i h1 h2
  rw [List.getElem_set]
  by_cases e : m = i
  · subst e; simp [mixQs]
  · rw [if_neg e]
    simp only [mixQs, List.getElem_mapIdx]
    by_cases h' : i < m
    · rw [if_pos (by omega), if_pos h']
    · rw [if_neg (by omega), if_neg h']
theorem twos_set (rs : List SaidD) (m c : Nat) (u : Value) (x : SaidD) (h : m < rs.length) (hc : c < 2) (hx : twoOf x = (twoOf rs[m]).set c u) : (twos rs).set (m * 2 + c) u = twos (rs.set m x) := by
  induction rs generalizing m with
  | nil => simp at h
  | cons a l ih =>
    have e : ∀ b, twos (b :: l) = twoOf b ++ twos l := fun b => by simp [twos]
    have la : ∀ b, (twoOf b).length = 2 := fun b => rfl
    cases m with
    | zero =>
      rw [List.set_cons_zero, e, e, List.set_append_left _ _ (by rw [la]; omega)]
      simp at hx
      rw [hx, Nat.zero_mul, Nat.zero_add]
    | succ m =>
      rw [List.set_cons_succ, e, List.set_append_right _ _ (by rw [la]; omega), la]
      have e2 : twos (a :: l.set m x) = twoOf a ++ twos (l.set m x) := by simp [twos]
      rw [e2, ← ih m (by simpa using h) (by simpa using hx)]
      have : (m + 1) * 2 + c - 2 = m * 2 + c := by omega
      rw [this]
theorem twos_set' {w : World} {B g cap n : Nat} {rs : List SaidD} (m c : Nat) (u : Value) (x : SaidD) (h : m < rs.length) (hc : c < 2) (hx : twoOf x = (twoOf rs[m]).set c u)
    (hr : w.ownsRow B 96 2 (.slice (some ⟨g, 0, none⟩) n cap) n (twos rs)) :
    (w.setCell ⟨g, m * 2 + c, none⟩ u).ownsRow B 96 2 (.slice (some ⟨g, 0, none⟩) n cap) n (twos (rs.set m x)) := by
  have := hr.stored (m * 2 + c) u
  rw [twos_set rs m c u x h hc hx] at this
  exact this.1
theorem said_cell {w : World} {B g cap n : Nat} {rs : List SaidD} (hr : w.ownsRow B 96 2 (.slice (some ⟨g, 0, none⟩) n cap) n (twos rs)) (hn : rs.length = n) (m c : Nat) (hm : m < rs.length) (hc : c < 2) : ∃ u, w.cell? ⟨g, m * 2 + c, none⟩ = some u := by
  rw [hr.cellAt _ (by omega), twos_get _ m c hm hc]
  exact ⟨_, List.getElem?_eq_getElem (by simp [twoOf]; omega)⟩

set_option maxRecDepth 100000 in
set_option maxHeartbeats 2000000 in
theorem markSaidS_some (B g cap k : Nat) (rs : List SaidD) (w : World) (hn : rs.length ≤ 1048576) (hk : k ≤ 100000000) (hB : B ≤ w.heap.size) (hBg : B ≤ g) (hr : w.ownsRow B 96 2 (.slice (some ⟨g, 0, none⟩) rs.length cap) rs.length (twos rs)) :
    Calls Tryz.prog 24 #[.slice (some ⟨g, 0, none⟩) rs.length cap, .int .i64 k] w fun e w' => e = .returned (.int .i64 ((k + rs.length * 2 : Nat) : Int)) ∧ w'.ownsRow B 96 2 (.slice (some ⟨g, 0, none⟩) rs.length cap) rs.length (twos (markQs k rs.length)) ∧ Below B w w' := by
  have HS := mixQs_start k rs
  have HE := mixQs_end k rs
  have HX : Hid (∀ m, mixQs k (m + 1) rs = (mixQs k m rs).set m (markQ k m)) := fun m => mixQs_succ k m rs
  go_enter Tryz.func24, Tryz.ntmps24
  go_wp2
  go_loopw [1, 5] (fun q i wr => ∃ m : Nat, m ≤ rs.length ∧ i = .int .i64 m ∧ q = .int .i64 ((k + m * 2 : Nat) : Int) ∧ wr.ownsRow B 96 2 (.slice (some ⟨g, 0, none⟩) rs.length cap) rs.length (twos (mixQs k m rs)) ∧ Below B w wr) (fun _ i _ => rs.length - (intOf i).toNat)
  case atStart => exact ⟨0, Nat.zero_le _, rfl, by simp, by rw [HS]; exact hr, Below.refl _ _⟩
  case round =>
    obtain ⟨m, hm, rfl, rfl, hrow, hgr⟩ := hrel
    clear hr
    by_cases hlt : m < rs.length
    · have hlu : (mixQs k m rs).length = rs.length := mixQs_length k m rs
      have hl0 : m < (mixQs k m rs).length := by omega
      have HE0 : Hid ((k : Int) + m * 2 = ((k + m * 2 : Nat) : Int)) := by unfold Hid; omega
      have HM1 : Hid (∀ w, Calls Tryz.prog 58 #[.int .i64 ((k : Int) + m * 2 + 1)] w fun e w' => e = .returned (.string (markT (k + m * 2 + 1))) ∧ Below w.heap.size w w') := fun w => by
        have e1 : (k : Int) + m * 2 + 1 = ((k + m * 2 + 1 : Nat) : Int) := by omega
        rw [e1]
        exact markText_any (k + m * 2 + 1) w (by omega)
      have h1 : (wr.setCell ⟨g, m * 2, none⟩ (.int .i64 ((k : Int) + m * 2))).ownsRow B 96 2 (.slice (some ⟨g, 0, none⟩) rs.length cap) rs.length (twos ((mixQs k m rs).set m ⟨(k : Int) + m * 2, (mixQs k m rs)[m].text⟩)) := twos_set' m 0 _ _ hl0 (by omega) rfl hrow
      have HH1 : Hid _ := h1
      obtain ⟨u0, d0⟩ := said_cell hrow hlu m 0 hl0 (by omega)
      have hfr := hrow.frozenAt
      have hgl : g < wr.heap.size := cell_lt d0
      have hgb : Below B w (wr.setCell ⟨g, m * 2, none⟩ (.int .i64 ((k : Int) + m * 2))) := hgr.setCell (p := ⟨g, m * 2, none⟩) hBg _
      have HGB : Hid (Below B w (wr.setCell ⟨g, m * 2, none⟩ (.int .i64 ((k : Int) + m * 2)))) := hgb
      rw [Nat.add_zero] at d0
      clear h1 hrow HS HE hgb
      go_wp2_with fail
      refine (HM1.out _).mono ?_
      rintro e w1 ⟨rfl, hb1⟩
      have h1' := owns_below HH1.out (by exact hb1) (owns_lt HH1.out)
      have hl1 : ((mixQs k m rs).set m ⟨(k : Int) + m * 2, (mixQs k m rs)[m].text⟩).length = rs.length := by rw [List.length_set, hlu]
      have hQ : twoOf (markQ k m) = [.int .i64 ((k : Int) + m * 2), .string (markT (k + m * 2 + 1))] := by unfold markQ twoOf; rw [HE0.out]
      have h2 := twos_set' m 1 (.string (markT (k + m * 2 + 1))) (markQ k m) (by rw [hl1]; exact hlt) (by omega) (by rw [List.getElem_set_self, hQ]; rfl) h1'
      rw [List.set_set, ← HX.out m] at h2
      have HR2 : Hid _ := h2
      obtain ⟨u1, d1⟩ := said_cell h1' hl1 m 1 (by rw [hl1]; exact hlt) (by omega)
      have hfr1 := h1'.frozenAt
      have hB1 : Below B w w1 := HGB.out.trans (hb1.mono (by have := HGB.out.size; omega))
      have HB2 : Hid (Below B w (w1.setCell ⟨g, m * 2 + 1, none⟩ (.string (markT (k + m * 2 + 1))))) := hB1.setCell (p := ⟨g, m * 2 + 1, none⟩) hBg _
      clear h2 h1' HH1 HGB hb1 hQ HM1 HE0
      generalize markT (k + m * 2 + 1) = s at *
      go_wp2_with fail
      go_roundw
      case rel => exact ⟨m + 1, by omega, by go_num, by go_num, HR2.out, HB2.out⟩
      case measure => simp [intOf]; omega
    · have : m = rs.length := by omega
      subst this
      rw [HE] at hrow
      go_wp2
      go_ret
      exact ⟨rfl, hrow, hgr⟩

set_option maxRecDepth 100000 in
set_option maxHeartbeats 1000000 in
theorem markSaidS_own (B k : Nat) (a : Option Addr) (c : Nat) (K : List SaidD) (w : World) (hn : K.length ≤ 1048576) (hk : k ≤ 100000000) (hB : B ≤ w.heap.size) (hr : SaidsOwn B w (.slice a K.length c) K) :
    Calls Tryz.prog 24 #[.slice a K.length c, .int .i64 k] w fun e w' => e = .returned (.int .i64 ((k + K.length * 2 : Nat) : Int)) ∧ SaidsAt w' a (markQs k K.length) ∧ Below B w w' := by
  have hr0 := hr
  rcases hr.2 with ⟨e, e0⟩ | ⟨g, cap, cur, e, hg, _⟩
  · simp only [Value.slice.injEq] at e
    obtain ⟨rfl, _, rfl⟩ := e
    obtain rfl : K = [] := List.length_eq_zero_iff.1 e0
    clear hr hr0
    go_enter Tryz.func24, Tryz.ntmps24
    go_wp2
    go_loopw [1, 5] (fun q i wr => i = .int .i64 0 ∧ q = .int .i64 k ∧ wr = w) (fun _ _ _ => 0)
    case atStart => exact ⟨rfl, rfl, rfl⟩
    case round =>
      obtain ⟨rfl, rfl, rfl⟩ := hrel
      go_wp2
      go_ret
      exact ⟨by simp, fun i hi => by simp [markQs] at hi, Below.refl _ _⟩
  · simp only [Value.slice.injEq] at e
    obtain ⟨rfl, _, rfl⟩ := e
    refine (markSaidS_some B g c k K w hn hk hB hg hr0).mono ?_
    rintro e w' ⟨rfl, hown, hgr⟩
    refine ⟨rfl, ?_, hgr⟩
    have hl := markQs_length k K.length
    have h2 : SaidsOwn B w' (.slice (some ⟨g, 0, none⟩) K.length c) (markQs k K.length) := by unfold SaidsOwn; rw [hl]; exact hown
    exact h2.ss

set_option maxRecDepth 100000 in
set_option maxHeartbeats 2000000 in
theorem heldSaidS_any (a : Option Addr) (n c k : Nat) (w : World) (hn : n ≤ 1048576) (hk : k ≤ 100000000) (hat : SaidsAt w a (markQs k n)) :
    Calls Tryz.prog 25 #[.slice a n c, .int .i64 k] w fun e w' => e = .returned (.int .i64 ((k + n * 2 : Nat) : Int)) ∧ Below w.heap.size w w' := by
  have HL := markQs_length k n
  have HAT : Hid (∀ w', Below w.heap.size w w' → ∀ m, m < n → ∃ b o, a = some ⟨b, o, none⟩ ∧ w'.cell? ⟨b, o + m * 2, none⟩ = some (.int .i64 (k + m * 2)) ∧ w'.cell? ⟨b, o + m * 2 + 1, none⟩ = some (.string (markT (k + m * 2 + 1)))) := fun w' hb m hm => by
    obtain ⟨b, o, e, c0, c1⟩ := hat.keep hb m (by rw [HL]; exact hm)
    rw [markQs_get k n m hm] at c0 c1
    have e0 : (k : Int) + m * 2 = ((k + m * 2 : Nat) : Int) := by omega
    exact ⟨b, o, e, by rw [e0]; exact c0, c1⟩
  clear hat HL
  go_enter Tryz.func25, Tryz.ntmps25
  go_wp2
  go_loopw [1, 5] (fun q i wr => ∃ m : Nat, m ≤ n ∧ i = .int .i64 m ∧ q = .int .i64 ((k + m * 2 : Nat) : Int) ∧ Below w.heap.size w wr) (fun _ i _ => n - (intOf i).toNat)
  case atStart => exact ⟨0, Nat.zero_le _, rfl, by simp, Below.refl _ _⟩
  case round =>
    obtain ⟨m, hm, rfl, rfl, hbel⟩ := hrel
    by_cases hlt : m < n
    · obtain ⟨b, o, rfl, c0, c1⟩ := HAT.out _ hbel m hlt
      have HM1 : Hid (∀ w, Calls Tryz.prog 58 #[.int .i64 ((k : Int) + m * 2 + 1)] w fun e w' => e = .returned (.string (markT (k + m * 2 + 1))) ∧ Below w.heap.size w w') := fun w => by
        have e1 : (k : Int) + m * 2 + 1 = ((k + m * 2 + 1 : Nat) : Int) := by omega
        rw [e1]
        exact markText_any (k + m * 2 + 1) w (by omega)
      generalize markT (k + m * 2 + 1) = s at *
      go_wp2_with fail
      go_region_with (go_at_call 58; refine (HM1.out _).mono ?_; rintro e w1 ⟨rfl, hb1⟩; have c1' := cell_keep hb1 (by exact c1))
      all_goals
        go_wp2
        go_roundw
        case rel => exact ⟨m + 1, by omega, by go_num, by go_num, hbel.drew.trans (by exact hb1.mono hbel.size)⟩
        case measure => simp [intOf]; omega
    · have : m = n := by omega
      subst this
      go_wp2
      go_ret
      exact ⟨rfl, hbel⟩

end Go.Proofs.YtjioingdpfgadabGreatDoor
namespace Go.Proofs.YtjioingdpfgadabGreatDoor
open Go Go.RowKit Go.Deep

set_option maxRecDepth 100000 in
set_option maxHeartbeats 8000000 in
theorem lawSay_by (v : Value) (bk : BookD) (ra : Option Addr) (rc : Nat) (rs : List RepD) (s tick rows : Int) (K : List SaidD) (w : World) (hK2 : K.length ≤ 1048576) (hl : BookLens bk) (hrl : rs.length ≤ maxLen) (hat : BookAt w v bk) (hra : RepsAt w ra rs)
    (hspec : bookSize bk ≤ 1048576 → rs.length ≤ 1048576 → ∀ w1, Below w.heap.size w w1 → ∀ v ra rc, BookAt w1 v bk → RepsAt w1 ra rs → Calls Tryz.prog 21 #[v, .slice ra rs.length rc, .int .i64 s, .int .i64 tick, .int .i64 rows] w1 fun e w2 => ∃ v', e = .returned v' ∧ SaidsOwn w1.heap.size w2 v' K ∧ Below w1.heap.size w1 w2)
    (himpl : bookSize bk ≤ 1048576 → rs.length ≤ 1048576 → ∀ w1, Below w.heap.size w w1 → ∀ v ra rc, BookAt w1 v bk → RepsAt w1 ra rs → Calls Tryz.prog 22 #[v, .slice ra rs.length rc, .int .i64 s, .int .i64 tick, .int .i64 rows] w1 fun e w2 => ∃ v', e = .returned v' ∧ SaidsOwn w1.heap.size w2 v' K ∧ Below w1.heap.size w1 w2) :
    Calls Tryz.prog 5 #[v, .slice ra rs.length rc, .int .i64 s, .int .i64 tick, .int .i64 rows] w fun e w' => e = .returned (.bool true) ∧ Below w.heap.size w w' := by
  have hat0 := hat
  obtain ⟨sa, sc, ta, tc, rfl, hsa, hta⟩ := hat
  clear hsa hta
  have HAT : Hid (BookAt w (.agg #[.slice sa bk.sts.length sc, .slice ta bk.trips.length tc]) bk) := hat0
  have HRA : Hid (RepsAt w ra rs) := hra
  clear hat0 hra
  have hb0 : Below w.heap.size w (w.alloc (.cells #[.slice sa bk.sts.length sc, .slice ta bk.trips.length tc] 25)) := bx_below _ _
  by_cases hfit : (bookSize bk : Int) ≤ 1048576
  · have hn : bookSize bk ≤ 1048576 := by omega
    by_cases hfit2 : (rs.length : Int) ≤ 1048576 - bookSize bk
    · have hm : rs.length ≤ 1048576 := by omega
      have HIM : Hid (∀ w1, Below w.heap.size w w1 → ∀ v ra rc, BookAt w1 v bk → RepsAt w1 ra rs → Calls Tryz.prog 22 #[v, .slice ra rs.length rc, .int .i64 s, .int .i64 tick, .int .i64 rows] w1 fun e w2 => ∃ v', e = .returned v' ∧ SaidsOwn w1.heap.size w2 v' K ∧ Below w1.heap.size w1 w2) := himpl hn hm
      have HSP : Hid (∀ w1, Below w.heap.size w w1 → ∀ v ra rc, BookAt w1 v bk → RepsAt w1 ra rs → Calls Tryz.prog 21 #[v, .slice ra rs.length rc, .int .i64 s, .int .i64 tick, .int .i64 rows] w1 fun e w2 => ∃ v', e = .returned v' ∧ SaidsOwn w1.heap.size w2 v' K ∧ Below w1.heap.size w1 w2) := hspec hn hm
      have HMK : Hid (sumMarks (bk.trips.map (·.calls.length)) ≤ 5000000 ∧ bk.sts.length ≤ 1048576 ∧ (bk.trips.map (·.calls.length)).length ≤ 1048576) := by
        have := sumMarks_trips bk.trips
        unfold bookSize tripsSize strsSize at hn
        exact ⟨by omega, by omega, by rw [List.length_map]; omega⟩
      clear himpl hspec
      go_enter Tryz.func5, Tryz.ntmps5
      go_wp2_with fail
      refine (szBook_any _ bk _ _ (by omega) (by omega) hl (by exact HAT.out.keep hb0)).mono ?_
      rintro e w1 ⟨rfl, hb1⟩
      rw [rest_yes hfit]
      have B1 : Below (w.heap.size + 1) (w.alloc (.cells #[.slice sa bk.sts.length sc, .slice ta bk.trips.length tc] 25)) w1 := hb1.mono (by simp)
      have hB1 : Below w.heap.size w w1 := hb0.trans (B1.mono (by omega))
      obtain ⟨q0, q1⟩ := box_two _ _ _ _ _ B1
      clear hb1 hb0
      have hlt0 : ¬ ((1048576 : Int) - bookSize bk < 0) := by omega
      go_wp2_with fail
      refine (szReportS_any _ _ _ _ _ (by omega) (by omega) hrl).mono ?_
      rintro e w1' ⟨rfl, rfl⟩
      rw [rest_yes hfit2]
      have hlt1 : ¬ ((1048576 : Int) - bookSize bk - rs.length < 0) := by omega
      go_wp2_with fail
      refine (toBook_any _ bk _ hn (by exact HAT.out.keep hB1)).mono ?_
      rintro e w2 ⟨v2, rfl, hat2, hb2⟩
      have hB2 : Below w.heap.size w w2 := hB1.trans (hb2.mono hB1.size)
      have HA2 : Hid (BookAt w2 v2 bk) := hat2
      have p0 := cell_keep hb2 q0
      have p1 := cell_keep hb2 q1
      clear hat2 q0 q1 hlt0 hlt1
      go_wp2_with fail
      refine (toReportS_any _ rs _ _ hm (by exact HRA.out.keep hB2)).mono ?_
      rintro e w3 ⟨b3, rfl, _, hat3, hb3, _⟩
      have hB3 : Below w.heap.size w w3 := hB2.trans (hb3.mono hB2.size)
      have HA3 : Hid (BookAt w3 v2 bk) := HA2.out.keep hb3
      have HR3 : Hid (RepsAt w3 (some ⟨b3, 0, none⟩) rs) := hat3
      have q0 := cell_keep hb3 p0
      have q1 := cell_keep hb3 p1
      clear hat3 p0 p1
      go_wp2_with fail
      refine (HSP.out _ hB3 _ _ _ (by exact HA3.out) (by exact HR3.out)).mono ?_
      rintro e w4 ⟨n4, rfl, hown4, hb4⟩
      obtain ⟨na4, nc4, rfl, hss4⟩ := saids_at hown4
      have HN4 : Hid (SaidsAt w4 na4 K) := hss4
      have hB4 : Below w.heap.size w w4 := hB3.trans (hb4.mono hB3.size)
      have p0 := cell_keep hb4 q0
      have p1 := cell_keep hb4 q1
      have HP4 : Hid (w4.cell? ⟨w.heap.size, 0, none⟩ = some (.slice sa bk.sts.length sc) ∧ w4.cell? ⟨w.heap.size, 1, none⟩ = some (.slice ta bk.trips.length tc)) := ⟨p0, p1⟩
      clear hown4 hss4 q0 q1 HA2 HA3 HR3 hb4 hb3 hb2 hB1 hB2 hB3
      go_wp2_with fail
      refine (toBook_own _ bk _ hn (by exact HAT.out.keep hB4)).mono ?_
      rintro e w5 ⟨v5, rfl, hat5, hb5, hin5⟩
      have HA5 : Hid (BookAt w5 v5 bk) := hat5
      have HI5 : Hid (BookIn w4.heap.size w5.heap.size w5 v5 bk.sts.length (bk.trips.map (·.calls.length))) := hin5
      obtain ⟨sa5, sc5, ta5, tc5, rfl, _, _⟩ := hat5
      have hB5 : Below w.heap.size w w5 := hB4.trans (hb5.mono hB4.size)
      have q0 := cell_keep hb5 p0
      have q1 := cell_keep hb5 p1
      have z5 := cell_lt q0
      have z45 := hb5.size
      have G5 : Hid (Below w4.heap.size w4 w5) := hb5
      clear hin5 p0 p1
      go_wp2_with fail
      have hB5' := hB5.alloc hB5.size (.cells #[.slice sa5 bk.sts.length sc5, .slice ta5 bk.trips.length tc5] 33)
      refine (toReportS_any _ rs _ _ hm (by exact HRA.out.keep hB5')).mono ?_
      rintro e w6 ⟨b6, rfl, hb6L, hat6, hb6, hrow6⟩
      have hB6 : Below w.heap.size w w6 := hB5'.trans (hb6.mono (by have := hB5.size; simp; omega))
      have D6 : Below (w5.heap.size + 1) (w5.alloc (.cells #[.slice sa5 bk.sts.length sc5, .slice ta5 bk.trips.length tc5] 33)) w6 := hb6.mono (by simp)
      have E6 : Below w5.heap.size w5 w6 := (bx_below _ _).trans (D6.mono (by omega))
      have HA6 : Hid (BookAt w6 (.agg #[.slice sa5 bk.sts.length sc5, .slice ta5 bk.trips.length tc5]) bk) := HA5.out.keep E6
      have HI6 : Hid (BookIn w4.heap.size w5.heap.size w6 (.agg #[.slice sa5 bk.sts.length sc5, .slice ta5 bk.trips.length tc5]) bk.sts.length (bk.trips.map (·.calls.length))) := HI5.out.keep E6
      have HR6 : Hid (RepsAt w6 (some ⟨b6, 0, none⟩) rs) := hat6
      have HW6 : Hid (∃ f, w6.rowIs b6 64 (rs.length * 5) f) := hrow6
      have HN6 : Hid (SaidsAt w6 na4 K) := HN4.out.keep (hb5.trans (E6.mono z45))
      obtain ⟨x0, x1⟩ := box_two _ _ _ _ _ D6
      have p0 := cell_keep E6 q0
      have p1 := cell_keep E6 q1
      have z56 := cell_lt x0
      simp at hb6L
      have z6 : w.heap.size < w6.heap.size := cell_lt p0
      clear hat6 hrow6 hb6 q0 q1 HA5 HI5 hB5' hb5
      go_wp2_with fail
      refine (HIM.out _ hB6 _ _ _ (by exact HA6.out) (by exact HR6.out)).mono ?_
      rintro e w7 ⟨n7, rfl, hown7, hb7⟩
      have HO7 : Hid (SaidsOwn w6.heap.size w7 n7 K) := hown7
      obtain ⟨na7, nc7, rfl, hss7⟩ := saids_at hown7
      have HN7 : Hid (SaidsAt w7 na7 K) := hss7
      have hB7 : Below w.heap.size w w7 := hB6.trans (hb7.mono hB6.size)
      have q0 := cell_keep hb7 p0
      have q1 := cell_keep hb7 p1
      have y0 := cell_keep hb7 x0
      have y1 := cell_keep hb7 x1
      have z67 := hb7.size
      have G7 : Hid (Below w4.heap.size w4 w7) := (G5.out.trans (E6.mono z45)).trans (hb7.mono (by have := E6.size; omega))
      have HM7 : Hid (SaidsAt w7 na4 K) := HN6.out.keep hb7
      clear hown7 hss7 p0 p1 x0 x1
      go_wp2_with fail
      refine (eqSaidS_same _ _ K _ _ _ hK2 (by exact HN7.out) (by exact HM7.out)).mono ?_
      rintro e w8 ⟨rfl, hb8⟩
      have hB8 : Below w.heap.size w w8 := hB7.trans (hb8.mono hB7.size)
      have p0 := cell_keep hb8 q0
      have p1 := cell_keep hb8 q1
      have x0 := cell_keep hb8 y0
      have x1 := cell_keep hb8 y1
      have z78 := hb8.size
      have HA8 : Hid (BookAt w8 (.agg #[.slice sa5 bk.sts.length sc5, .slice ta5 bk.trips.length tc5]) bk) := (HA6.out.keep hb7).keep hb8
      have HAA8 : Hid (BookAt w8 (.agg #[.slice sa bk.sts.length sc, .slice ta bk.trips.length tc]) bk) := HAT.out.keep hB8
      clear q0 q1 y0 y1
      go_wp2_with fail
      have HC8 : Hid (Below w7.heap.size w7 w8) := hb8
      clear hb8
      go_region_with (first | (go_at_call 9; refine (toBook_any _ bk _ hn (by exact HAA8.out)).mono ?_; rintro e w9 ⟨v9, rfl, hat9, hb9⟩; have f0 := cell_keep hb9 (by exact x0); have f1 := cell_keep hb9 (by exact x1); have H9 : Hid (BookAt w9 v9 bk) := hat9; have HX9 : Hid (BookAt w9 (.agg #[.slice sa5 bk.sts.length sc5, .slice ta5 bk.trips.length tc5]) bk) := BookAt.keep (by exact HA8.out) hb9; clear hat9) | (go_at_call 13; refine (eqBook_same _ _ bk _ hn (by exact HX9.out) (by exact H9.out)).mono ?_; rintro e w10 ⟨rfl, hb10⟩))
      all_goals
        have C10 : Below w8.heap.size w8 w10 := ((Below.refl _ _).drew.trans (by exact hb9)).trans (hb10.mono (by have := hb9.size; exact this))
        have D10 : Below w7.heap.size w7 w10 := HC8.out.trans (C10.mono z78)
        have hB10 : Below w.heap.size w w10 := hB8.trans (C10.mono hB8.size)
        clear f0 f1 HX9 H9 hb9 hb10
        have q0 := cell_keep C10 p0
        have q1 := cell_keep C10 p1
        have y0 := cell_keep C10 x0
        have y1 := cell_keep C10 x1
        go_wp2_with fail
        refine (toReportS_any _ rs _ _ hm (by exact HRA.out.keep hB10)).mono ?_
        rintro e w11 ⟨b11, rfl, _, hat11, hb11, _⟩
        have D11 : Below w7.heap.size w7 w11 := D10.trans (hb11.mono D10.size)
        have HR11 : Hid (RepsAt w11 (some ⟨b11, 0, none⟩) rs) := hat11
        have HQ11 : Hid (RepsAt w11 (some ⟨b6, 0, none⟩) rs) := (HR6.out.keep hb7).keep D11
        have r0 := cell_keep hb11 y0
        have r1 := cell_keep hb11 y1
        clear hat11 y0 y1 q0 q1
        go_wp2_with fail
        refine (eqReportS_same _ _ rs _ _ _ hm (by exact HQ11.out) (by exact HR11.out)).mono ?_
        rintro e w12 ⟨rfl, hb12⟩
        have D12 : Below w7.heap.size w7 w12 := D11.trans (hb12.mono D11.size)
        have y0 := cell_keep hb12 r0
        have y1 := cell_keep hb12 r1
        have z12 := D12.size
        have HI12 : Hid (BookIn w4.heap.size w5.heap.size w12 (.agg #[.slice sa5 bk.sts.length sc5, .slice ta5 bk.trips.length tc5]) bk.sts.length (bk.trips.map (·.calls.length))) := (HI6.out.keep hb7).keep D12
        have HO12 : Hid (SaidsOwn w6.heap.size w12 (.slice na7 K.length nc7) K) := HO7.out.below D12
        have hW12 : ∃ f, w12.rowIs b6 64 (rs.length * 5) f := by
          obtain ⟨f, hf⟩ := HW6.out
          have hf7 := hf.of_block (hb7.block _ hf.lt)
          exact ⟨f, hf7.of_block (D12.block _ hf7.lt)⟩
        have HW12 : Hid (∃ f, w12.rowIs b6 64 (rs.length * 5) f) := hW12
        have hb6R : b6 < w6.heap.size := by obtain ⟨f, hf⟩ := HW6.out; exact hf.lt
        have G12 : Hid (Below w4.heap.size w4 w12) := G7.out.trans (D12.mono (by omega))
        clear r0 r1 HR11 HQ11 hb11 hb12 D11 D10 C10 hW12
        go_wp2_with fail
        obtain ⟨km1, km2, km3⟩ := HMK.out
        refine (markBook_any w4.heap.size w5.heap.size _ bk.sts.length (bk.trips.map (·.calls.length)) 1 _ km2 km3 (by omega) (by omega) (by exact HI12.out)).mono ?_
        rintro e w13 ⟨rfl, hk13, hs13⟩
        have HO13 : Hid (SaidsOwn w6.heap.size w13 (.slice na7 K.length nc7) K) := HO12.out.keptOut hk13 (by omega)
        have G13 : Hid (Below w4.heap.size w4 w13) := G12.out.trans (hk13.below (Nat.le_refl _) G12.out.size)
        obtain ⟨f12, hf12⟩ := HW12.out
        obtain ⟨f13, hf13⟩ := hs13 _ _ _ _ hf12
        have HF13 : Hid (w13.rowIs b6 64 (rs.length * 5) f13) := hf13
        have z13 := hk13.size
        generalize hkk : 1 + bk.sts.length + sumMarks (bk.trips.map (·.calls.length)) = kk
        have hkk2 : kk ≤ 10000000 := by omega
        clear hkk km1 km2 km3 hk13 hs13 hf12 hf13 y0 y1 HI12 HO12 HW12 f12
        go_wp2_with fail
        refine (markReportS_any b6 rs.length _ kk f13 _ hm (by omega) (by exact HF13.out)).mono ?_
        rintro e w14 ⟨rfl, hk14, _⟩
        have HO14 : Hid (SaidsOwn w6.heap.size w14 (.slice na7 K.length nc7) K) := HO13.out.keptOut hk14 (by omega)
        have G14 : Hid (Below w4.heap.size w4 w14) := G13.out.trans (hk14.below (by omega) G13.out.size)
        have HN14 : Hid (SaidsAt w14 na7 K) := HO14.out.ss
        have HM14 : Hid (SaidsAt w14 na4 K) := HN4.out.keep G14.out
        have z14 := hk14.size
        generalize hkr : kk + rs.length * 5 = kr
        have hneg : ¬ ((kr : Int) < 0) := by omega
        clear hkr hkk2 hk14 HO13 HF13
        go_wp2_with fail
        refine (eqSaidS_same _ _ K _ _ _ hK2 (by exact HN14.out) (by exact HM14.out)).mono ?_
        rintro e w15 ⟨rfl, hb15⟩
        have HO15 : Hid (SaidsOwn w6.heap.size w15 (.slice na7 K.length nc7) K) := HO14.out.below hb15
        have G15 : Hid (Below w4.heap.size w4 w15) := G14.out.trans (hb15.mono G14.out.size)
        have z15 := hb15.size
        clear HO14 HN14 HM14 hb15 hneg
        go_wp2_with fail
        refine (markSaidS_own w6.heap.size 1 _ _ K _ hK2 (by omega) (by omega) (by exact HO15.out)).mono ?_
        rintro e wm ⟨rfl, hown16, hb16⟩
        obtain ⟨mm, hmm⟩ : ∃ mm, 1 + K.length * 2 = mm := ⟨_, rfl⟩
        have HMM : Hid (1 + K.length * 2 = mm) := hmm
        rw [hmm]
        have HN16 : Hid (SaidsAt wm na7 (markQs 1 K.length)) := hown16
        have G16 : Hid (Below w4.heap.size w4 wm) := G15.out.trans (hb16.mono (by omega))
        clear hown16 hb16 HO15 hmm
        go_wp2_with fail
        refine (heldSaidS_any _ K.length _ 1 _ hK2 (by omega) (by exact HN16.out)).mono ?_
        rintro e w16 ⟨rfl, hb16h⟩
        rw [HMM.out]
        have HN16 : Hid (SaidsAt w16 na7 (markQs 1 K.length)) := HN16.out.keep hb16h
        have G16 : Hid (Below w4.heap.size w4 w16) := G16.out.trans (hb16h.mono G16.out.size)
        clear hb16h
        have hneg : ¬ ((mm : Int) < 0) := by omega
        have h40 := HP4.out.1
        have h41 := HP4.out.2
        have hB16 : Below w.heap.size w w16 := hB4.trans (G16.out.mono hB4.size)
        have q0 := cell_keep G16.out h40
        have q1 := cell_keep G16.out h41
        clear h40 h41
        go_wp2_with fail
        refine (toBook_any _ bk _ hn (by exact HAT.out.keep hB16)).mono ?_
        rintro e w17 ⟨v17, rfl, hat17, hb17⟩
        have hB17 : Below w.heap.size w w17 := hB16.trans (hb17.mono hB16.size)
        have HA17 : Hid (BookAt w17 v17 bk) := hat17
        clear hat17 q0 q1
        go_wp2_with fail
        refine (toReportS_any _ rs _ _ hm (by exact HRA.out.keep hB17)).mono ?_
        rintro e w18 ⟨b18, rfl, _, hat18, hb18, _⟩
        have hB18 : Below w.heap.size w w18 := hB17.trans (hb18.mono hB17.size)
        have HA18 : Hid (BookAt w18 v17 bk) := HA17.out.keep hb18
        have HR18 : Hid (RepsAt w18 (some ⟨b18, 0, none⟩) rs) := hat18
        have C18 : Below w16.heap.size w16 w18 := hb17.trans (hb18.mono hb17.size)
        clear hat18 HA17 hb17 hb18
        go_wp2_with fail
        refine (HIM.out _ hB18 _ _ _ (by exact HA18.out) (by exact HR18.out)).mono ?_
        rintro e w19 ⟨n19, rfl, hown19, hb19⟩
        obtain ⟨na19, nc19, rfl, hss19⟩ := saids_at hown19
        have HN19 : Hid (SaidsAt w19 na19 K) := hss19
        have C19 : Below w16.heap.size w16 w19 := C18.trans (hb19.mono C18.size)
        have HM19 : Hid (SaidsAt w19 na4 K) := HN4.out.keep (G16.out.trans (C19.mono G16.out.size))
        clear hown19 hss19 hb19 C18 HA18 HR18
        go_wp2_with fail
        refine (eqSaidS_same _ _ K _ _ _ hK2 (by exact HN19.out) (by exact HM19.out)).mono ?_
        rintro e w20 ⟨rfl, hb20⟩
        have C20 : Below w16.heap.size w16 w20 := C19.trans (hb20.mono C19.size)
        have HN20 : Hid (SaidsAt w20 na7 (markQs 1 K.length)) := HN16.out.keep C20
        have HB20 : Hid (Below w.heap.size w w20) := hB16.trans (C20.mono hB16.size)
        clear hb20
        go_wp2_with fail
        refine (heldSaidS_any _ K.length _ 1 _ hK2 (by omega) (by exact HN20.out)).mono ?_
        rintro e w21 ⟨rfl, hb21⟩
        rw [HMM.out]
        go_wp2_with fail
        go_ret
        exact ⟨rfl, HB20.out.trans (hb21.mono HB20.out.size)⟩
    · go_enter Tryz.func5, Tryz.ntmps5
      go_wp2_with fail
      refine (szBook_any _ bk _ _ (by omega) (by omega) hl (by exact HAT.out.keep hb0)).mono ?_
      rintro e w1 ⟨rfl, hb1⟩
      rw [rest_yes hfit]
      have hlt0 : ¬ ((1048576 : Int) - bookSize bk < 0) := by omega
      go_wp2_with fail
      refine (szReportS_any _ _ _ _ _ (by omega) (by omega) hrl).mono ?_
      rintro e w1' ⟨rfl, rfl⟩
      rw [rest_no (by omega)]
      go_wp2_with fail
      go_ret
      exact ⟨rfl, hb0.trans (hb1.mono (by simp))⟩
  · go_enter Tryz.func5, Tryz.ntmps5
    go_wp2_with fail
    refine (szBook_any _ bk _ _ (by omega) (by omega) hl (by exact HAT.out.keep hb0)).mono ?_
    rintro e w1 ⟨rfl, hb1⟩
    rw [rest_no (by omega)]
    go_wp2_with fail
    go_ret
    exact ⟨rfl, hb0.trans (hb1.mono (by simp))⟩

end Go.Proofs.YtjioingdpfgadabGreatDoor
