import Derived.Test.YtjioingdpfgadaaDoorProg
import Derived.Test.YtjioingdpfgadaaDoorSayIM
namespace Go.Proofs.YtjioingdpfgadaaDoor
open Go Go.RowKit Go.Deep

set_option maxRecDepth 100000 in
set_option maxHeartbeats 4000000 in
theorem text_any {Tab : World → Prop} (hit : ItoaOk Tab) (nm tn : ByteArray) (n : Int) (x : NewsD) (ends : Bool) (op : Int) (w : World) (h1 : nm.size ≤ 20) (h2 : tn.size ≤ 20) (hop : 1 ≤ op ∧ op ≤ 5) (hn : op = 1 ∨ op = 2 → 0 ≤ n ∧ n ≤ 1000000) (hx : 1 ≤ x.track ∧ x.track ≤ 20) (htab : Tab w) :
    Calls Tryd.prog 96 #[noticeV nm tn n x ends, .int .i64 op] w fun e w' => e = .returned (.string (sayX nm tn ends x op n)) ∧ Below w.heap.size w w' := by
  have HTK : Hid (∀ w w', Below w.heap.size w w' → Tab w → Tab w') := hit.keep
  have HV : Hid (noticeV nm tn n x ends = .agg #[.string nm, .string tn, .int .i64 n, .int .i64 x.late, .int .i64 x.track, .bool x.off, .bool x.here, .bool x.gone, .bool ends]) := rfl
  rw [HV.out]
  obtain ⟨W1, hW1⟩ : ∃ W1, w.alloc (.cells #[.string nm, .string tn, .int .i64 n, .int .i64 x.late, .int .i64 x.track, .bool x.off, .bool x.here, .bool x.gone, .bool ends] 167) = W1 := ⟨_, rfl⟩
  have bW1 : Below w.heap.size w W1 := by subst hW1; exact (Below.refl _ _).alloc (Nat.le_refl _) _
  have g0 : W1.cell? ⟨w.heap.size, 0, none⟩ = some (.string nm) := by subst hW1; simp [go_sem]
  have g1 : W1.cell? ⟨w.heap.size, 1, none⟩ = some (.string tn) := by subst hW1; simp [go_sem]
  have g2 : W1.cell? ⟨w.heap.size, 2, none⟩ = some (.int .i64 n) := by subst hW1; simp [go_sem]
  have g3 : W1.cell? ⟨w.heap.size, 3, none⟩ = some (.int .i64 x.late) := by subst hW1; simp [go_sem]
  have g4 : W1.cell? ⟨w.heap.size, 4, none⟩ = some (.int .i64 x.track) := by subst hW1; simp [go_sem]
  have g5 : W1.cell? ⟨w.heap.size, 5, none⟩ = some (.bool x.off) := by subst hW1; simp [go_sem]
  have g6 : W1.cell? ⟨w.heap.size, 6, none⟩ = some (.bool x.here) := by subst hW1; simp [go_sem]
  have g7 : W1.cell? ⟨w.heap.size, 7, none⟩ = some (.bool x.gone) := by subst hW1; simp [go_sem]
  have g8 : W1.cell? ⟨w.heap.size, 8, none⟩ = some (.bool ends) := by subst hW1; simp [go_sem]
  obtain ⟨W2, hW2⟩ : ∃ W2, (W1.alloc (.cells #[.nilFunc, .nilFunc, .nilFunc, .nilFunc, .nilFunc, .nilFunc] 202)).setRow W1.heap.size #[.nilFunc, .func (.func 114) #[.agg #[.string nm, .string tn, .int .i64 n, .int .i64 x.late, .int .i64 x.track, .bool x.off, .bool x.here, .bool x.gone, .bool ends]] #[], .func (.func 115) #[.agg #[.string nm, .string tn, .int .i64 n, .int .i64 x.late, .int .i64 x.track, .bool x.off, .bool x.here, .bool x.gone, .bool ends]] #[], .func (.func 116) #[.agg #[.string nm, .string tn, .int .i64 n, .int .i64 x.late, .int .i64 x.track, .bool x.off, .bool x.here, .bool x.gone, .bool ends]] #[], .func (.func 117) #[.agg #[.string nm, .string tn, .int .i64 n, .int .i64 x.late, .int .i64 x.track, .bool x.off, .bool x.here, .bool x.gone, .bool ends]] #[], .func (.func 118) #[.agg #[.string nm, .string tn, .int .i64 n, .int .i64 x.late, .int .i64 x.track, .bool x.off, .bool x.here, .bool x.gone, .bool ends]] #[]] = W2 := ⟨_, rfl⟩
  have HH2 : Hid (W2.heap[W1.heap.size]? = some (.cells #[.nilFunc, .func (.func 114) #[.agg #[.string nm, .string tn, .int .i64 n, .int .i64 x.late, .int .i64 x.track, .bool x.off, .bool x.here, .bool x.gone, .bool ends]] #[], .func (.func 115) #[.agg #[.string nm, .string tn, .int .i64 n, .int .i64 x.late, .int .i64 x.track, .bool x.off, .bool x.here, .bool x.gone, .bool ends]] #[], .func (.func 116) #[.agg #[.string nm, .string tn, .int .i64 n, .int .i64 x.late, .int .i64 x.track, .bool x.off, .bool x.here, .bool x.gone, .bool ends]] #[], .func (.func 117) #[.agg #[.string nm, .string tn, .int .i64 n, .int .i64 x.late, .int .i64 x.track, .bool x.off, .bool x.here, .bool x.gone, .bool ends]] #[], .func (.func 118) #[.agg #[.string nm, .string tn, .int .i64 n, .int .i64 x.late, .int .i64 x.track, .bool x.off, .bool x.here, .bool x.gone, .bool ends]] #[]] 202 (0, 0))) := by unfold Hid; rw [← hW2]; exact setRow_heap _ _ _ _ _ _ (heap_alloc_last W1 _)
  have HC : Hid (∀ (i : Nat) (v : Value), #[.nilFunc, .func (.func 114) #[.agg #[.string nm, .string tn, .int .i64 n, .int .i64 x.late, .int .i64 x.track, .bool x.off, .bool x.here, .bool x.gone, .bool ends]] #[], .func (.func 115) #[.agg #[.string nm, .string tn, .int .i64 n, .int .i64 x.late, .int .i64 x.track, .bool x.off, .bool x.here, .bool x.gone, .bool ends]] #[], .func (.func 116) #[.agg #[.string nm, .string tn, .int .i64 n, .int .i64 x.late, .int .i64 x.track, .bool x.off, .bool x.here, .bool x.gone, .bool ends]] #[], .func (.func 117) #[.agg #[.string nm, .string tn, .int .i64 n, .int .i64 x.late, .int .i64 x.track, .bool x.off, .bool x.here, .bool x.gone, .bool ends]] #[], .func (.func 118) #[.agg #[.string nm, .string tn, .int .i64 n, .int .i64 x.late, .int .i64 x.track, .bool x.off, .bool x.here, .bool x.gone, .bool ends]] #[]][i]? = some v → W2.cell? ⟨W1.heap.size, i, none⟩ = some v) := fun i v hv => by rw [cell_of_row _ _ _ _ _ _ HH2.out]; exact hv
  have bW2 : Below w.heap.size w W2 := by rw [← hW2]; exact below_setRow (bW1.alloc bW1.size _) _ _ bW1.size
  have HT2 : Hid (Tab W2) := HTK.out _ _ bW2 htab
  have hsz : (Tryd.prog.info? 202).map (·.size) = some (#[.nilFunc, .func (.func 114) #[.agg #[.string nm, .string tn, .int .i64 n, .int .i64 x.late, .int .i64 x.track, .bool x.off, .bool x.here, .bool x.gone, .bool ends]] #[], .func (.func 115) #[.agg #[.string nm, .string tn, .int .i64 n, .int .i64 x.late, .int .i64 x.track, .bool x.off, .bool x.here, .bool x.gone, .bool ends]] #[], .func (.func 116) #[.agg #[.string nm, .string tn, .int .i64 n, .int .i64 x.late, .int .i64 x.track, .bool x.off, .bool x.here, .bool x.gone, .bool ends]] #[], .func (.func 117) #[.agg #[.string nm, .string tn, .int .i64 n, .int .i64 x.late, .int .i64 x.track, .bool x.off, .bool x.here, .bool x.gone, .bool ends]] #[], .func (.func 118) #[.agg #[.string nm, .string tn, .int .i64 n, .int .i64 x.late, .int .i64 x.track, .bool x.off, .bool x.here, .bool x.gone, .bool ends]] #[]] : Array Value).size := by
    show _ = some 6
    kernel_rfl
  have hone : (#[.nilFunc, .func (.func 114) #[.agg #[.string nm, .string tn, .int .i64 n, .int .i64 x.late, .int .i64 x.track, .bool x.off, .bool x.here, .bool x.gone, .bool ends]] #[], .func (.func 115) #[.agg #[.string nm, .string tn, .int .i64 n, .int .i64 x.late, .int .i64 x.track, .bool x.off, .bool x.here, .bool x.gone, .bool ends]] #[], .func (.func 116) #[.agg #[.string nm, .string tn, .int .i64 n, .int .i64 x.late, .int .i64 x.track, .bool x.off, .bool x.here, .bool x.gone, .bool ends]] #[], .func (.func 117) #[.agg #[.string nm, .string tn, .int .i64 n, .int .i64 x.late, .int .i64 x.track, .bool x.off, .bool x.here, .bool x.gone, .bool ends]] #[], .func (.func 118) #[.agg #[.string nm, .string tn, .int .i64 n, .int .i64 x.late, .int .i64 x.track, .bool x.off, .bool x.here, .bool x.gone, .bool ends]] #[]] : Array Value).all (·.oneCell') = true := by simp [Value.oneCell']
  have HL : Hid (∀ m : Nat, m ≤ 1000000 → n = (m : Int) → Calls Tryd.prog 114 #[.agg #[.string nm, .string tn, .int .i64 n, .int .i64 x.late, .int .i64 x.track, .bool x.off, .bool x.here, .bool x.gone, .bool ends]] W2 fun e w' => e = .returned (.string (sayX nm tn ends x 1 n)) ∧ Below W2.heap.size W2 w') := fun m hm e => by subst e; exact late_any hit nm tn m x ends W2 h1 h2 hm HT2.out
  have HC2 : Hid (∀ m : Nat, m ≤ 1000000 → n = (m : Int) → Calls Tryd.prog 115 #[.agg #[.string nm, .string tn, .int .i64 n, .int .i64 x.late, .int .i64 x.track, .bool x.off, .bool x.here, .bool x.gone, .bool ends]] W2 fun e w' => e = .returned (.string (sayX nm tn ends x 2 n)) ∧ Below W2.heap.size W2 w') := fun m hm e => by subst e; exact comes_any hit nm tn m x ends W2 h1 h2 hm HT2.out
  have HST : Hid (Calls Tryd.prog 116 #[.agg #[.string nm, .string tn, .int .i64 n, .int .i64 x.late, .int .i64 x.track, .bool x.off, .bool x.here, .bool x.gone, .bool ends]] W2 fun e w' => e = .returned (.string (sayX nm tn ends x 3 n)) ∧ Below W2.heap.size W2 w') := stops_any nm tn n x ends W2 h1 h2
  have HHE : Hid (Calls Tryd.prog 117 #[.agg #[.string nm, .string tn, .int .i64 n, .int .i64 x.late, .int .i64 x.track, .bool x.off, .bool x.here, .bool x.gone, .bool ends]] W2 fun e w' => e = .returned (.string (sayX nm tn ends x 4 n)) ∧ Below W2.heap.size W2 w') := by
    obtain ⟨m, hm⟩ := Int.eq_ofNat_of_zero_le (show 0 ≤ x.track by omega)
    exact here_any hit nm tn n x ends m W2 h1 h2 hm (by omega) HT2.out
  have HGO : Hid (Calls Tryd.prog 118 #[.agg #[.string nm, .string tn, .int .i64 n, .int .i64 x.late, .int .i64 x.track, .bool x.off, .bool x.here, .bool x.gone, .bool ends]] W2 fun e w' => e = .returned (.string (sayX nm tn ends x 5 n)) ∧ Below W2.heap.size W2 w') := goes_any nm tn n x ends W2 h1 h2
  have HN : Hid (op = 1 ∨ op = 2 → ∃ m : Nat, m ≤ 1000000 ∧ n = (m : Int)) := fun h => by
    obtain ⟨a, b⟩ := hn h
    obtain ⟨m, rfl⟩ := Int.eq_ofNat_of_zero_le a
    exact ⟨m, by omega, rfl⟩
  clear htab hit hn hx h1 h2
  rcases (show op = 1 ∨ op = 2 ∨ op = 3 ∨ op = 4 ∨ op = 5 by omega) with rfl | rfl | rfl | rfl | rfl
  · obtain ⟨m, hm, he⟩ := HN.out (.inl rfl)
    have HE : Hid (n = (m : Int)) := he
    clear he
    have cop := HC.out 1 _ rfl
    clear HC hop HN
    go_enter Tryd.func96, Tryd.ntmps96
    go_wp2_with (refine wpList_store_row (by rfl) 202 (.tmp 5) (.tmp 16) (by rfl) W1.heap.size #[.nilFunc, .func (.func 114) #[.agg #[.string nm, .string tn, .int .i64 n, .int .i64 x.late, .int .i64 x.track, .bool x.off, .bool x.here, .bool x.gone, .bool ends]] #[], .func (.func 115) #[.agg #[.string nm, .string tn, .int .i64 n, .int .i64 x.late, .int .i64 x.track, .bool x.off, .bool x.here, .bool x.gone, .bool ends]] #[], .func (.func 116) #[.agg #[.string nm, .string tn, .int .i64 n, .int .i64 x.late, .int .i64 x.track, .bool x.off, .bool x.here, .bool x.gone, .bool ends]] #[], .func (.func 117) #[.agg #[.string nm, .string tn, .int .i64 n, .int .i64 x.late, .int .i64 x.track, .bool x.off, .bool x.here, .bool x.gone, .bool ends]] #[], .func (.func 118) #[.agg #[.string nm, .string tn, .int .i64 n, .int .i64 x.late, .int .i64 x.track, .bool x.off, .bool x.here, .bool x.gone, .bool ends]] #[]] (by rfl) (by rfl) 202 #[.nilFunc, .nilFunc, .nilFunc, .nilFunc, .nilFunc, .nilFunc] (heap_alloc_last W1 _) hsz (by rfl) hone ?_)
    refine (HL.out m hm HE.out).mono ?_
    rintro e w3 ⟨rfl, hb3⟩
    go_wp2_with fail
    go_ret
    exact ⟨rfl, bW2.trans (hb3.mono bW2.size)⟩
  · obtain ⟨m, hm, he⟩ := HN.out (.inr rfl)
    have HE : Hid (n = (m : Int)) := he
    clear he
    have cop := HC.out 2 _ rfl
    clear HC hop HN
    go_enter Tryd.func96, Tryd.ntmps96
    go_wp2_with (refine wpList_store_row (by rfl) 202 (.tmp 5) (.tmp 16) (by rfl) W1.heap.size #[.nilFunc, .func (.func 114) #[.agg #[.string nm, .string tn, .int .i64 n, .int .i64 x.late, .int .i64 x.track, .bool x.off, .bool x.here, .bool x.gone, .bool ends]] #[], .func (.func 115) #[.agg #[.string nm, .string tn, .int .i64 n, .int .i64 x.late, .int .i64 x.track, .bool x.off, .bool x.here, .bool x.gone, .bool ends]] #[], .func (.func 116) #[.agg #[.string nm, .string tn, .int .i64 n, .int .i64 x.late, .int .i64 x.track, .bool x.off, .bool x.here, .bool x.gone, .bool ends]] #[], .func (.func 117) #[.agg #[.string nm, .string tn, .int .i64 n, .int .i64 x.late, .int .i64 x.track, .bool x.off, .bool x.here, .bool x.gone, .bool ends]] #[], .func (.func 118) #[.agg #[.string nm, .string tn, .int .i64 n, .int .i64 x.late, .int .i64 x.track, .bool x.off, .bool x.here, .bool x.gone, .bool ends]] #[]] (by rfl) (by rfl) 202 #[.nilFunc, .nilFunc, .nilFunc, .nilFunc, .nilFunc, .nilFunc] (heap_alloc_last W1 _) hsz (by rfl) hone ?_)
    refine (HC2.out m hm HE.out).mono ?_
    rintro e w3 ⟨rfl, hb3⟩
    go_wp2_with fail
    go_ret
    exact ⟨rfl, bW2.trans (hb3.mono bW2.size)⟩
  · clear HL HC2
    have cop := HC.out 3 _ rfl
    clear HC hop HN
    go_enter Tryd.func96, Tryd.ntmps96
    go_wp2_with (refine wpList_store_row (by rfl) 202 (.tmp 5) (.tmp 16) (by rfl) W1.heap.size #[.nilFunc, .func (.func 114) #[.agg #[.string nm, .string tn, .int .i64 n, .int .i64 x.late, .int .i64 x.track, .bool x.off, .bool x.here, .bool x.gone, .bool ends]] #[], .func (.func 115) #[.agg #[.string nm, .string tn, .int .i64 n, .int .i64 x.late, .int .i64 x.track, .bool x.off, .bool x.here, .bool x.gone, .bool ends]] #[], .func (.func 116) #[.agg #[.string nm, .string tn, .int .i64 n, .int .i64 x.late, .int .i64 x.track, .bool x.off, .bool x.here, .bool x.gone, .bool ends]] #[], .func (.func 117) #[.agg #[.string nm, .string tn, .int .i64 n, .int .i64 x.late, .int .i64 x.track, .bool x.off, .bool x.here, .bool x.gone, .bool ends]] #[], .func (.func 118) #[.agg #[.string nm, .string tn, .int .i64 n, .int .i64 x.late, .int .i64 x.track, .bool x.off, .bool x.here, .bool x.gone, .bool ends]] #[]] (by rfl) (by rfl) 202 #[.nilFunc, .nilFunc, .nilFunc, .nilFunc, .nilFunc, .nilFunc] (heap_alloc_last W1 _) hsz (by rfl) hone ?_)
    refine (HST.out).mono ?_
    rintro e w3 ⟨rfl, hb3⟩
    go_wp2_with fail
    go_ret
    exact ⟨rfl, bW2.trans (hb3.mono bW2.size)⟩
  · clear HL HC2
    have cop := HC.out 4 _ rfl
    clear HC hop HN
    go_enter Tryd.func96, Tryd.ntmps96
    go_wp2_with (refine wpList_store_row (by rfl) 202 (.tmp 5) (.tmp 16) (by rfl) W1.heap.size #[.nilFunc, .func (.func 114) #[.agg #[.string nm, .string tn, .int .i64 n, .int .i64 x.late, .int .i64 x.track, .bool x.off, .bool x.here, .bool x.gone, .bool ends]] #[], .func (.func 115) #[.agg #[.string nm, .string tn, .int .i64 n, .int .i64 x.late, .int .i64 x.track, .bool x.off, .bool x.here, .bool x.gone, .bool ends]] #[], .func (.func 116) #[.agg #[.string nm, .string tn, .int .i64 n, .int .i64 x.late, .int .i64 x.track, .bool x.off, .bool x.here, .bool x.gone, .bool ends]] #[], .func (.func 117) #[.agg #[.string nm, .string tn, .int .i64 n, .int .i64 x.late, .int .i64 x.track, .bool x.off, .bool x.here, .bool x.gone, .bool ends]] #[], .func (.func 118) #[.agg #[.string nm, .string tn, .int .i64 n, .int .i64 x.late, .int .i64 x.track, .bool x.off, .bool x.here, .bool x.gone, .bool ends]] #[]] (by rfl) (by rfl) 202 #[.nilFunc, .nilFunc, .nilFunc, .nilFunc, .nilFunc, .nilFunc] (heap_alloc_last W1 _) hsz (by rfl) hone ?_)
    refine (HHE.out).mono ?_
    rintro e w3 ⟨rfl, hb3⟩
    go_wp2_with fail
    go_ret
    exact ⟨rfl, bW2.trans (hb3.mono bW2.size)⟩
  · clear HL HC2
    have cop := HC.out 5 _ rfl
    clear HC hop HN
    go_enter Tryd.func96, Tryd.ntmps96
    go_wp2_with (refine wpList_store_row (by rfl) 202 (.tmp 5) (.tmp 16) (by rfl) W1.heap.size #[.nilFunc, .func (.func 114) #[.agg #[.string nm, .string tn, .int .i64 n, .int .i64 x.late, .int .i64 x.track, .bool x.off, .bool x.here, .bool x.gone, .bool ends]] #[], .func (.func 115) #[.agg #[.string nm, .string tn, .int .i64 n, .int .i64 x.late, .int .i64 x.track, .bool x.off, .bool x.here, .bool x.gone, .bool ends]] #[], .func (.func 116) #[.agg #[.string nm, .string tn, .int .i64 n, .int .i64 x.late, .int .i64 x.track, .bool x.off, .bool x.here, .bool x.gone, .bool ends]] #[], .func (.func 117) #[.agg #[.string nm, .string tn, .int .i64 n, .int .i64 x.late, .int .i64 x.track, .bool x.off, .bool x.here, .bool x.gone, .bool ends]] #[], .func (.func 118) #[.agg #[.string nm, .string tn, .int .i64 n, .int .i64 x.late, .int .i64 x.track, .bool x.off, .bool x.here, .bool x.gone, .bool ends]] #[]] (by rfl) (by rfl) 202 #[.nilFunc, .nilFunc, .nilFunc, .nilFunc, .nilFunc, .nilFunc] (heap_alloc_last W1 _) hsz (by rfl) hone ?_)
    refine (HGO.out).mono ?_
    rintro e w3 ⟨rfl, hb3⟩
    go_wp2_with fail
    go_ret
    exact ⟨rfl, bW2.trans (hb3.mono bW2.size)⟩

set_option maxRecDepth 100000 in
set_option maxHeartbeats 1000000 in
theorem reaches_any (r : RepD) (k : Int) (w : World) (hc : 0 ≤ r.call) :
    Calls Tryd.prog 93 #[repV r, .int .i64 k] w fun e w' => e = .returned (.bool (reachB r.op r.call k)) ∧ Below w.heap.size w w' := by
  unfold repV
  rcases Int.lt_trichotomy k r.call with h | h | h
  · have HR : Hid (reachB r.op r.call k = false) := reachB_lt h
    have b1 : (k == r.call) = false := by simp; omega
    have b2 : ¬ (r.call < k) := by omega
    clear hc
    go_enter Tryd.func93, Tryd.ntmps93
    go_wp2_with fail
    go_ret
    exact ⟨ret_bool HR.out.symm, (Below.refl _ _).alloc (Nat.le_refl _) _⟩
  · have HR : Hid (reachB r.op r.call k = true) := reachB_eq h (by omega)
    have b1 : (k == r.call) = true := by simpa using h
    clear h hc
    go_enter Tryd.func93, Tryd.ntmps93
    go_wp2_with fail
    go_ret
    exact ⟨ret_bool HR.out.symm, (Below.refl _ _).alloc (Nat.le_refl _) _⟩
  · have b1 : (k == r.call) = false := by simp; omega
    have HRG : Hid (r.op = 1 ∨ r.op = 3 → reachB r.op r.call k = true) := fun ho => reachB_gt h (by omega) ho
    by_cases o1 : r.op = 1
    · have HR : Hid (reachB r.op r.call k = true) := HRG.out (.inl o1)
      have c1 : (r.op == 1) = true := by simpa using o1
      clear o1 hc
      go_enter Tryd.func93, Tryd.ntmps93
      go_wp2_with fail
      go_ret
      exact ⟨ret_bool HR.out.symm, (Below.refl _ _).alloc (Nat.le_refl _) _⟩
    · have c1 : (r.op == 1) = false := by simpa using o1
      by_cases o3 : r.op = 3
      · have HR : Hid (reachB r.op r.call k = true) := HRG.out (.inr o3)
        have c3 : (r.op == 3) = true := by simpa using o3
        clear o1 o3 hc
        go_enter Tryd.func93, Tryd.ntmps93
        go_wp2_with fail
        go_ret
        exact ⟨ret_bool HR.out.symm, (Below.refl _ _).alloc (Nat.le_refl _) _⟩
      · have HR : Hid (reachB r.op r.call k = false) := reachB_no h (by omega)
        have c3 : (r.op == 3) = false := by simpa using o3
        clear o1 o3 hc
        go_enter Tryd.func93, Tryd.ntmps93
        go_wp2_with fail
        go_ret
        exact ⟨ret_bool HR.out.symm, (Below.refl _ _).alloc (Nat.le_refl _) _⟩

set_option maxRecDepth 100000 in
set_option maxHeartbeats 1000000 in
theorem isSpoken_any (x : NewsD) (op : Int) (w : World) :
    Calls Tryd.prog 94 #[newsV x, .int .i64 op] w fun e w' => e = .returned (.bool (spokenB x op)) ∧ Below w.heap.size w w' := by
  obtain ⟨la, tr, off, here, gone⟩ := x
  unfold newsV
  cases gone
  · cases off
    · cases here
      · have HR : Hid (spokenB ⟨la, tr, false, false, false⟩ op = true) := rfl
        go_enter Tryd.func94, Tryd.ntmps94
        go_wp2_with fail
        go_ret
        exact ⟨ret_bool HR.out.symm, (Below.refl _ _).alloc (Nat.le_refl _) _⟩
      · by_cases o1 : op = 1
        · have HR : Hid (spokenB ⟨la, tr, false, true, false⟩ op = true) := by unfold Hid spokenB; simp [o1]
          have c1 : (op == 1) = true := by simpa using o1
          clear o1
          go_enter Tryd.func94, Tryd.ntmps94
          go_wp2_with fail
          go_ret
          exact ⟨ret_bool HR.out.symm, (Below.refl _ _).alloc (Nat.le_refl _) _⟩
        · have c1 : (op == 1) = false := by simpa using o1
          by_cases o5 : op = 5
          · have HR : Hid (spokenB ⟨la, tr, false, true, false⟩ op = true) := by unfold Hid spokenB; simp [o5]
            have c5 : (op == 5) = true := by simpa using o5
            clear o1 o5
            go_enter Tryd.func94, Tryd.ntmps94
            go_wp2_with fail
            go_ret
            exact ⟨ret_bool HR.out.symm, (Below.refl _ _).alloc (Nat.le_refl _) _⟩
          · have HR : Hid (spokenB ⟨la, tr, false, true, false⟩ op = false) := by unfold Hid spokenB; simp [o1, o5]
            have c5 : (op == 5) = false := by simpa using o5
            clear o1 o5
            go_enter Tryd.func94, Tryd.ntmps94
            go_wp2_with fail
            go_ret
            exact ⟨ret_bool HR.out.symm, (Below.refl _ _).alloc (Nat.le_refl _) _⟩
    · have HR : Hid (spokenB ⟨la, tr, true, here, false⟩ op = false) := rfl
      go_enter Tryd.func94, Tryd.ntmps94
      go_wp2_with fail
      go_ret
      exact ⟨ret_bool HR.out.symm, (Below.refl _ _).alloc (Nat.le_refl _) _⟩
  · have HR : Hid (spokenB ⟨la, tr, off, here, true⟩ op = false) := rfl
    go_enter Tryd.func94, Tryd.ntmps94
    go_wp2_with fail
    go_ret
    exact ⟨ret_bool HR.out.symm, (Below.refl _ _).alloc (Nat.le_refl _) _⟩

end Go.Proofs.YtjioingdpfgadaaDoor
