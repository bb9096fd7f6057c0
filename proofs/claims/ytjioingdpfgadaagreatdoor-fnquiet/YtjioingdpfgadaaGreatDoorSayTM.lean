import Derived.Test.YtjioingdpfgadaaGreatDoorProg
import Derived.Test.YtjioingdpfgadaaGreatDoorSayIM
import Derived.Test.YtjioingdpfgadaaGreatDoorArrM
import Derived.Deep.AppendLies
import Derived.Deep.MidRow
namespace Go.Proofs.YtjioingdpfgadaaGreatDoor
open Go Go.RowKit Go.Deep

set_option maxRecDepth 100000 in
set_option maxHeartbeats 4000000 in
theorem text_any {Tab : World → Prop} (hit : ItoaOk Tab) (nm tn : ByteArray) (n : Int) (x : NewsD) (ends : Bool) (op : Int) (w : World) (h1 : nm.size ≤ 20) (h2 : tn.size ≤ 20) (hop : 1 ≤ op ∧ op ≤ 5) (hn : op = 1 ∨ op = 2 → 0 ≤ n ∧ n ≤ 1000000) (hx : 1 ≤ x.track ∧ x.track ≤ 20) (htab : Tab w) :
    Calls Tryz.prog 65 #[noticeV nm tn n x ends, .int .i64 op] w fun e w' => e = .returned (.string (sayX nm tn ends x op n)) ∧ Below w.heap.size w w' := by
  have HTK : Hid (∀ w w', Below w.heap.size w w' → Tab w → Tab w') := hit.keep
  have HV : Hid (noticeV nm tn n x ends = .agg #[.string nm, .string tn, .int .i64 n, .int .i64 x.late, .int .i64 x.track, .bool x.off, .bool x.here, .bool x.gone, .bool ends]) := rfl
  rw [HV.out]
  obtain ⟨W1, hW1⟩ : ∃ W1, w.alloc (.cells #[.string nm, .string tn, .int .i64 n, .int .i64 x.late, .int .i64 x.track, .bool x.off, .bool x.here, .bool x.gone, .bool ends] 131) = W1 := ⟨_, rfl⟩
  have bW1 : Below w.heap.size w W1 := by subst hW1; exact (Below.refl _ _).alloc (Nat.le_refl _) _
  have g0 : W1.cell? ⟨w.heap.size, 0, none⟩ = some (.string nm) := by subst hW1; simp [go_sem]
  have g1 : W1.cell? ⟨w.heap.size, 1, none⟩ = some (.string tn) := by subst hW1; simp [go_sem]
  have g2 : W1.cell? ⟨w.heap.size, 2, none⟩ = some (.int .i64 n) := by subst hW1; simp [go_sem]
  have g3 : W1.cell? ⟨w.heap.size, 3, none⟩ = some (.int .i64 x.late) := by subst hW1; simp [go_sem]
  have g4 : W1.cell? ⟨w.heap.size, 4, none⟩ = some (.int .i64 x.track) := by subst hW1; simp [go_sem]
  have g5 : W1.cell? ⟨w.heap.size, 5, none⟩ = some (.bool x.off) := by subst hW1; simp [go_sem]
  have g6 : W1.cell? ⟨w.heap.size, 6, none⟩ = some (.bool x.here) := by subst hW1; simp [go_sem]
  have g7 : W1.cell? ⟨w.heap.size, 7, none⟩ = some (.bool x.gone) := by subst hW1; simp [go_sem]
  have g8 : W1.cell? ⟨w.heap.size, 8, none⟩ = some (.bool ends) := by subst hW1; simp [go_sem]
  obtain ⟨W2, hW2⟩ : ∃ W2, (W1.alloc (.cells #[.nilFunc, .nilFunc, .nilFunc, .nilFunc, .nilFunc, .nilFunc] 144)).setRow W1.heap.size #[.nilFunc, .func (.func 75) #[.agg #[.string nm, .string tn, .int .i64 n, .int .i64 x.late, .int .i64 x.track, .bool x.off, .bool x.here, .bool x.gone, .bool ends]] #[], .func (.func 76) #[.agg #[.string nm, .string tn, .int .i64 n, .int .i64 x.late, .int .i64 x.track, .bool x.off, .bool x.here, .bool x.gone, .bool ends]] #[], .func (.func 77) #[.agg #[.string nm, .string tn, .int .i64 n, .int .i64 x.late, .int .i64 x.track, .bool x.off, .bool x.here, .bool x.gone, .bool ends]] #[], .func (.func 78) #[.agg #[.string nm, .string tn, .int .i64 n, .int .i64 x.late, .int .i64 x.track, .bool x.off, .bool x.here, .bool x.gone, .bool ends]] #[], .func (.func 79) #[.agg #[.string nm, .string tn, .int .i64 n, .int .i64 x.late, .int .i64 x.track, .bool x.off, .bool x.here, .bool x.gone, .bool ends]] #[]] = W2 := ⟨_, rfl⟩
  have HH2 : Hid (W2.heap[W1.heap.size]? = some (.cells #[.nilFunc, .func (.func 75) #[.agg #[.string nm, .string tn, .int .i64 n, .int .i64 x.late, .int .i64 x.track, .bool x.off, .bool x.here, .bool x.gone, .bool ends]] #[], .func (.func 76) #[.agg #[.string nm, .string tn, .int .i64 n, .int .i64 x.late, .int .i64 x.track, .bool x.off, .bool x.here, .bool x.gone, .bool ends]] #[], .func (.func 77) #[.agg #[.string nm, .string tn, .int .i64 n, .int .i64 x.late, .int .i64 x.track, .bool x.off, .bool x.here, .bool x.gone, .bool ends]] #[], .func (.func 78) #[.agg #[.string nm, .string tn, .int .i64 n, .int .i64 x.late, .int .i64 x.track, .bool x.off, .bool x.here, .bool x.gone, .bool ends]] #[], .func (.func 79) #[.agg #[.string nm, .string tn, .int .i64 n, .int .i64 x.late, .int .i64 x.track, .bool x.off, .bool x.here, .bool x.gone, .bool ends]] #[]] 144 (0, 0))) := by unfold Hid; rw [← hW2]; exact setRow_heap _ _ _ _ _ _ (heap_alloc_last W1 _)
  have HC : Hid (∀ (i : Nat) (v : Value), #[.nilFunc, .func (.func 75) #[.agg #[.string nm, .string tn, .int .i64 n, .int .i64 x.late, .int .i64 x.track, .bool x.off, .bool x.here, .bool x.gone, .bool ends]] #[], .func (.func 76) #[.agg #[.string nm, .string tn, .int .i64 n, .int .i64 x.late, .int .i64 x.track, .bool x.off, .bool x.here, .bool x.gone, .bool ends]] #[], .func (.func 77) #[.agg #[.string nm, .string tn, .int .i64 n, .int .i64 x.late, .int .i64 x.track, .bool x.off, .bool x.here, .bool x.gone, .bool ends]] #[], .func (.func 78) #[.agg #[.string nm, .string tn, .int .i64 n, .int .i64 x.late, .int .i64 x.track, .bool x.off, .bool x.here, .bool x.gone, .bool ends]] #[], .func (.func 79) #[.agg #[.string nm, .string tn, .int .i64 n, .int .i64 x.late, .int .i64 x.track, .bool x.off, .bool x.here, .bool x.gone, .bool ends]] #[]][i]? = some v → W2.cell? ⟨W1.heap.size, i, none⟩ = some v) := fun i v hv => by rw [cell_of_row _ _ _ _ _ _ HH2.out]; exact hv
  have bW2 : Below w.heap.size w W2 := by rw [← hW2]; exact below_setRow (bW1.alloc bW1.size _) _ _ bW1.size
  have HT2 : Hid (Tab W2) := HTK.out _ _ bW2 htab
  have hsz : (Tryz.prog.info? 144).map (·.size) = some (#[.nilFunc, .func (.func 75) #[.agg #[.string nm, .string tn, .int .i64 n, .int .i64 x.late, .int .i64 x.track, .bool x.off, .bool x.here, .bool x.gone, .bool ends]] #[], .func (.func 76) #[.agg #[.string nm, .string tn, .int .i64 n, .int .i64 x.late, .int .i64 x.track, .bool x.off, .bool x.here, .bool x.gone, .bool ends]] #[], .func (.func 77) #[.agg #[.string nm, .string tn, .int .i64 n, .int .i64 x.late, .int .i64 x.track, .bool x.off, .bool x.here, .bool x.gone, .bool ends]] #[], .func (.func 78) #[.agg #[.string nm, .string tn, .int .i64 n, .int .i64 x.late, .int .i64 x.track, .bool x.off, .bool x.here, .bool x.gone, .bool ends]] #[], .func (.func 79) #[.agg #[.string nm, .string tn, .int .i64 n, .int .i64 x.late, .int .i64 x.track, .bool x.off, .bool x.here, .bool x.gone, .bool ends]] #[]] : Array Value).size := by
    show _ = some 6
    kernel_rfl
  have hone : (#[.nilFunc, .func (.func 75) #[.agg #[.string nm, .string tn, .int .i64 n, .int .i64 x.late, .int .i64 x.track, .bool x.off, .bool x.here, .bool x.gone, .bool ends]] #[], .func (.func 76) #[.agg #[.string nm, .string tn, .int .i64 n, .int .i64 x.late, .int .i64 x.track, .bool x.off, .bool x.here, .bool x.gone, .bool ends]] #[], .func (.func 77) #[.agg #[.string nm, .string tn, .int .i64 n, .int .i64 x.late, .int .i64 x.track, .bool x.off, .bool x.here, .bool x.gone, .bool ends]] #[], .func (.func 78) #[.agg #[.string nm, .string tn, .int .i64 n, .int .i64 x.late, .int .i64 x.track, .bool x.off, .bool x.here, .bool x.gone, .bool ends]] #[], .func (.func 79) #[.agg #[.string nm, .string tn, .int .i64 n, .int .i64 x.late, .int .i64 x.track, .bool x.off, .bool x.here, .bool x.gone, .bool ends]] #[]] : Array Value).all (·.oneCell') = true := by simp [Value.oneCell']
  have HL : Hid (∀ m : Nat, m ≤ 1000000 → n = (m : Int) → Calls Tryz.prog 75 #[.agg #[.string nm, .string tn, .int .i64 n, .int .i64 x.late, .int .i64 x.track, .bool x.off, .bool x.here, .bool x.gone, .bool ends]] W2 fun e w' => e = .returned (.string (sayX nm tn ends x 1 n)) ∧ Below W2.heap.size W2 w') := fun m hm e => by subst e; exact late_any hit nm tn m x ends W2 h1 h2 hm HT2.out
  have HC2 : Hid (∀ m : Nat, m ≤ 1000000 → n = (m : Int) → Calls Tryz.prog 76 #[.agg #[.string nm, .string tn, .int .i64 n, .int .i64 x.late, .int .i64 x.track, .bool x.off, .bool x.here, .bool x.gone, .bool ends]] W2 fun e w' => e = .returned (.string (sayX nm tn ends x 2 n)) ∧ Below W2.heap.size W2 w') := fun m hm e => by subst e; exact comes_any hit nm tn m x ends W2 h1 h2 hm HT2.out
  have HST : Hid (Calls Tryz.prog 77 #[.agg #[.string nm, .string tn, .int .i64 n, .int .i64 x.late, .int .i64 x.track, .bool x.off, .bool x.here, .bool x.gone, .bool ends]] W2 fun e w' => e = .returned (.string (sayX nm tn ends x 3 n)) ∧ Below W2.heap.size W2 w') := stops_any nm tn n x ends W2 h1 h2
  have HHE : Hid (Calls Tryz.prog 78 #[.agg #[.string nm, .string tn, .int .i64 n, .int .i64 x.late, .int .i64 x.track, .bool x.off, .bool x.here, .bool x.gone, .bool ends]] W2 fun e w' => e = .returned (.string (sayX nm tn ends x 4 n)) ∧ Below W2.heap.size W2 w') := by
    obtain ⟨m, hm⟩ := Int.eq_ofNat_of_zero_le (show 0 ≤ x.track by omega)
    exact here_any hit nm tn n x ends m W2 h1 h2 hm (by omega) HT2.out
  have HGO : Hid (Calls Tryz.prog 79 #[.agg #[.string nm, .string tn, .int .i64 n, .int .i64 x.late, .int .i64 x.track, .bool x.off, .bool x.here, .bool x.gone, .bool ends]] W2 fun e w' => e = .returned (.string (sayX nm tn ends x 5 n)) ∧ Below W2.heap.size W2 w') := goes_any nm tn n x ends W2 h1 h2
  have HN : Hid (op = 1 ∨ op = 2 → ∃ m : Nat, m ≤ 1000000 ∧ n = (m : Int)) := fun h => by
    obtain ⟨a, b⟩ := hn h
    obtain ⟨m, rfl⟩ := Int.eq_ofNat_of_zero_le a
    exact ⟨m, by omega, rfl⟩
  clear htab hit hn hx h1 h2
  rcases (show op = 1 ∨ op = 2 ∨ op = 3 ∨ op = 4 ∨ op = 5 by omega) with rfl | rfl | rfl | rfl | rfl
  · obtain ⟨m, hm, he⟩ := HN.out (.inl rfl)
    have HE : Hid (n = (m : Int)) := he
    clear he
    have cop := HC.out 1 _ rfl
    clear HC hop HN
    go_enter Tryz.func65, Tryz.ntmps65
    go_wp2_with (refine wpList_store_row (by rfl) 144 (.tmp 5) (.tmp 16) (by rfl) W1.heap.size #[.nilFunc, .func (.func 75) #[.agg #[.string nm, .string tn, .int .i64 n, .int .i64 x.late, .int .i64 x.track, .bool x.off, .bool x.here, .bool x.gone, .bool ends]] #[], .func (.func 76) #[.agg #[.string nm, .string tn, .int .i64 n, .int .i64 x.late, .int .i64 x.track, .bool x.off, .bool x.here, .bool x.gone, .bool ends]] #[], .func (.func 77) #[.agg #[.string nm, .string tn, .int .i64 n, .int .i64 x.late, .int .i64 x.track, .bool x.off, .bool x.here, .bool x.gone, .bool ends]] #[], .func (.func 78) #[.agg #[.string nm, .string tn, .int .i64 n, .int .i64 x.late, .int .i64 x.track, .bool x.off, .bool x.here, .bool x.gone, .bool ends]] #[], .func (.func 79) #[.agg #[.string nm, .string tn, .int .i64 n, .int .i64 x.late, .int .i64 x.track, .bool x.off, .bool x.here, .bool x.gone, .bool ends]] #[]] (by rfl) (by rfl) 144 #[.nilFunc, .nilFunc, .nilFunc, .nilFunc, .nilFunc, .nilFunc] (heap_alloc_last W1 _) hsz (by rfl) hone ?_)
    refine (HL.out m hm HE.out).mono ?_
    rintro e w3 ⟨rfl, hb3⟩
    go_wp2_with fail
    go_ret
    exact ⟨rfl, bW2.trans (hb3.mono bW2.size)⟩
  · obtain ⟨m, hm, he⟩ := HN.out (.inr rfl)
    have HE : Hid (n = (m : Int)) := he
    clear he
    have cop := HC.out 2 _ rfl
    clear HC hop HN
    go_enter Tryz.func65, Tryz.ntmps65
    go_wp2_with (refine wpList_store_row (by rfl) 144 (.tmp 5) (.tmp 16) (by rfl) W1.heap.size #[.nilFunc, .func (.func 75) #[.agg #[.string nm, .string tn, .int .i64 n, .int .i64 x.late, .int .i64 x.track, .bool x.off, .bool x.here, .bool x.gone, .bool ends]] #[], .func (.func 76) #[.agg #[.string nm, .string tn, .int .i64 n, .int .i64 x.late, .int .i64 x.track, .bool x.off, .bool x.here, .bool x.gone, .bool ends]] #[], .func (.func 77) #[.agg #[.string nm, .string tn, .int .i64 n, .int .i64 x.late, .int .i64 x.track, .bool x.off, .bool x.here, .bool x.gone, .bool ends]] #[], .func (.func 78) #[.agg #[.string nm, .string tn, .int .i64 n, .int .i64 x.late, .int .i64 x.track, .bool x.off, .bool x.here, .bool x.gone, .bool ends]] #[], .func (.func 79) #[.agg #[.string nm, .string tn, .int .i64 n, .int .i64 x.late, .int .i64 x.track, .bool x.off, .bool x.here, .bool x.gone, .bool ends]] #[]] (by rfl) (by rfl) 144 #[.nilFunc, .nilFunc, .nilFunc, .nilFunc, .nilFunc, .nilFunc] (heap_alloc_last W1 _) hsz (by rfl) hone ?_)
    refine (HC2.out m hm HE.out).mono ?_
    rintro e w3 ⟨rfl, hb3⟩
    go_wp2_with fail
    go_ret
    exact ⟨rfl, bW2.trans (hb3.mono bW2.size)⟩
  · clear HL HC2
    have cop := HC.out 3 _ rfl
    clear HC hop HN
    go_enter Tryz.func65, Tryz.ntmps65
    go_wp2_with (refine wpList_store_row (by rfl) 144 (.tmp 5) (.tmp 16) (by rfl) W1.heap.size #[.nilFunc, .func (.func 75) #[.agg #[.string nm, .string tn, .int .i64 n, .int .i64 x.late, .int .i64 x.track, .bool x.off, .bool x.here, .bool x.gone, .bool ends]] #[], .func (.func 76) #[.agg #[.string nm, .string tn, .int .i64 n, .int .i64 x.late, .int .i64 x.track, .bool x.off, .bool x.here, .bool x.gone, .bool ends]] #[], .func (.func 77) #[.agg #[.string nm, .string tn, .int .i64 n, .int .i64 x.late, .int .i64 x.track, .bool x.off, .bool x.here, .bool x.gone, .bool ends]] #[], .func (.func 78) #[.agg #[.string nm, .string tn, .int .i64 n, .int .i64 x.late, .int .i64 x.track, .bool x.off, .bool x.here, .bool x.gone, .bool ends]] #[], .func (.func 79) #[.agg #[.string nm, .string tn, .int .i64 n, .int .i64 x.late, .int .i64 x.track, .bool x.off, .bool x.here, .bool x.gone, .bool ends]] #[]] (by rfl) (by rfl) 144 #[.nilFunc, .nilFunc, .nilFunc, .nilFunc, .nilFunc, .nilFunc] (heap_alloc_last W1 _) hsz (by rfl) hone ?_)
    refine (HST.out).mono ?_
    rintro e w3 ⟨rfl, hb3⟩
    go_wp2_with fail
    go_ret
    exact ⟨rfl, bW2.trans (hb3.mono bW2.size)⟩
  · clear HL HC2
    have cop := HC.out 4 _ rfl
    clear HC hop HN
    go_enter Tryz.func65, Tryz.ntmps65
    go_wp2_with (refine wpList_store_row (by rfl) 144 (.tmp 5) (.tmp 16) (by rfl) W1.heap.size #[.nilFunc, .func (.func 75) #[.agg #[.string nm, .string tn, .int .i64 n, .int .i64 x.late, .int .i64 x.track, .bool x.off, .bool x.here, .bool x.gone, .bool ends]] #[], .func (.func 76) #[.agg #[.string nm, .string tn, .int .i64 n, .int .i64 x.late, .int .i64 x.track, .bool x.off, .bool x.here, .bool x.gone, .bool ends]] #[], .func (.func 77) #[.agg #[.string nm, .string tn, .int .i64 n, .int .i64 x.late, .int .i64 x.track, .bool x.off, .bool x.here, .bool x.gone, .bool ends]] #[], .func (.func 78) #[.agg #[.string nm, .string tn, .int .i64 n, .int .i64 x.late, .int .i64 x.track, .bool x.off, .bool x.here, .bool x.gone, .bool ends]] #[], .func (.func 79) #[.agg #[.string nm, .string tn, .int .i64 n, .int .i64 x.late, .int .i64 x.track, .bool x.off, .bool x.here, .bool x.gone, .bool ends]] #[]] (by rfl) (by rfl) 144 #[.nilFunc, .nilFunc, .nilFunc, .nilFunc, .nilFunc, .nilFunc] (heap_alloc_last W1 _) hsz (by rfl) hone ?_)
    refine (HHE.out).mono ?_
    rintro e w3 ⟨rfl, hb3⟩
    go_wp2_with fail
    go_ret
    exact ⟨rfl, bW2.trans (hb3.mono bW2.size)⟩
  · clear HL HC2
    have cop := HC.out 5 _ rfl
    clear HC hop HN
    go_enter Tryz.func65, Tryz.ntmps65
    go_wp2_with (refine wpList_store_row (by rfl) 144 (.tmp 5) (.tmp 16) (by rfl) W1.heap.size #[.nilFunc, .func (.func 75) #[.agg #[.string nm, .string tn, .int .i64 n, .int .i64 x.late, .int .i64 x.track, .bool x.off, .bool x.here, .bool x.gone, .bool ends]] #[], .func (.func 76) #[.agg #[.string nm, .string tn, .int .i64 n, .int .i64 x.late, .int .i64 x.track, .bool x.off, .bool x.here, .bool x.gone, .bool ends]] #[], .func (.func 77) #[.agg #[.string nm, .string tn, .int .i64 n, .int .i64 x.late, .int .i64 x.track, .bool x.off, .bool x.here, .bool x.gone, .bool ends]] #[], .func (.func 78) #[.agg #[.string nm, .string tn, .int .i64 n, .int .i64 x.late, .int .i64 x.track, .bool x.off, .bool x.here, .bool x.gone, .bool ends]] #[], .func (.func 79) #[.agg #[.string nm, .string tn, .int .i64 n, .int .i64 x.late, .int .i64 x.track, .bool x.off, .bool x.here, .bool x.gone, .bool ends]] #[]] (by rfl) (by rfl) 144 #[.nilFunc, .nilFunc, .nilFunc, .nilFunc, .nilFunc, .nilFunc] (heap_alloc_last W1 _) hsz (by rfl) hone ?_)
    refine (HGO.out).mono ?_
    rintro e w3 ⟨rfl, hb3⟩
    go_wp2_with fail
    go_ret
    exact ⟨rfl, bW2.trans (hb3.mono bW2.size)⟩

set_option maxRecDepth 100000 in
set_option maxHeartbeats 1000000 in
theorem reaches_any (r : RepD) (k : Int) (w : World) (hc : 0 ≤ r.call) :
    Calls Tryz.prog 62 #[repV r, .int .i64 k] w fun e w' => e = .returned (.bool (reachB r.op r.call k)) ∧ Below w.heap.size w w' := by
  unfold repV
  rcases Int.lt_trichotomy k r.call with h | h | h
  · have HR : Hid (reachB r.op r.call k = false) := reachB_lt h
    have b1 : (k == r.call) = false := by simp; omega
    have b2 : ¬ (r.call < k) := by omega
    clear hc
    go_enter Tryz.func62, Tryz.ntmps62
    go_wp2_with fail
    go_ret
    exact ⟨ret_bool HR.out.symm, (Below.refl _ _).alloc (Nat.le_refl _) _⟩
  · have HR : Hid (reachB r.op r.call k = true) := reachB_eq h (by omega)
    have b1 : (k == r.call) = true := by simpa using h
    clear h hc
    go_enter Tryz.func62, Tryz.ntmps62
    go_wp2_with fail
    go_ret
    exact ⟨ret_bool HR.out.symm, (Below.refl _ _).alloc (Nat.le_refl _) _⟩
  · have b1 : (k == r.call) = false := by simp; omega
    have HRG : Hid (r.op = 1 ∨ r.op = 3 → reachB r.op r.call k = true) := fun ho => reachB_gt h (by omega) ho
    by_cases o1 : r.op = 1
    · have HR : Hid (reachB r.op r.call k = true) := HRG.out (.inl o1)
      have c1 : (r.op == 1) = true := by simpa using o1
      clear o1 hc
      go_enter Tryz.func62, Tryz.ntmps62
      go_wp2_with fail
      go_ret
      exact ⟨ret_bool HR.out.symm, (Below.refl _ _).alloc (Nat.le_refl _) _⟩
    · have c1 : (r.op == 1) = false := by simpa using o1
      by_cases o3 : r.op = 3
      · have HR : Hid (reachB r.op r.call k = true) := HRG.out (.inr o3)
        have c3 : (r.op == 3) = true := by simpa using o3
        clear o1 o3 hc
        go_enter Tryz.func62, Tryz.ntmps62
        go_wp2_with fail
        go_ret
        exact ⟨ret_bool HR.out.symm, (Below.refl _ _).alloc (Nat.le_refl _) _⟩
      · have HR : Hid (reachB r.op r.call k = false) := reachB_no h (by omega)
        have c3 : (r.op == 3) = false := by simpa using o3
        clear o1 o3 hc
        go_enter Tryz.func62, Tryz.ntmps62
        go_wp2_with fail
        go_ret
        exact ⟨ret_bool HR.out.symm, (Below.refl _ _).alloc (Nat.le_refl _) _⟩

set_option maxRecDepth 100000 in
set_option maxHeartbeats 1000000 in
theorem isSpoken_any (x : NewsD) (op : Int) (w : World) :
    Calls Tryz.prog 63 #[newsV x, .int .i64 op] w fun e w' => e = .returned (.bool (spokenB x op)) ∧ Below w.heap.size w w' := by
  obtain ⟨la, tr, off, here, gone⟩ := x
  unfold newsV
  cases gone
  · cases off
    · cases here
      · have HR : Hid (spokenB ⟨la, tr, false, false, false⟩ op = true) := rfl
        go_enter Tryz.func63, Tryz.ntmps63
        go_wp2_with fail
        go_ret
        exact ⟨ret_bool HR.out.symm, (Below.refl _ _).alloc (Nat.le_refl _) _⟩
      · by_cases o1 : op = 1
        · have HR : Hid (spokenB ⟨la, tr, false, true, false⟩ op = true) := by unfold Hid spokenB; simp [o1]
          have c1 : (op == 1) = true := by simpa using o1
          clear o1
          go_enter Tryz.func63, Tryz.ntmps63
          go_wp2_with fail
          go_ret
          exact ⟨ret_bool HR.out.symm, (Below.refl _ _).alloc (Nat.le_refl _) _⟩
        · have c1 : (op == 1) = false := by simpa using o1
          by_cases o5 : op = 5
          · have HR : Hid (spokenB ⟨la, tr, false, true, false⟩ op = true) := by unfold Hid spokenB; simp [o5]
            have c5 : (op == 5) = true := by simpa using o5
            clear o1 o5
            go_enter Tryz.func63, Tryz.ntmps63
            go_wp2_with fail
            go_ret
            exact ⟨ret_bool HR.out.symm, (Below.refl _ _).alloc (Nat.le_refl _) _⟩
          · have HR : Hid (spokenB ⟨la, tr, false, true, false⟩ op = false) := by unfold Hid spokenB; simp [o1, o5]
            have c5 : (op == 5) = false := by simpa using o5
            clear o1 o5
            go_enter Tryz.func63, Tryz.ntmps63
            go_wp2_with fail
            go_ret
            exact ⟨ret_bool HR.out.symm, (Below.refl _ _).alloc (Nat.le_refl _) _⟩
    · have HR : Hid (spokenB ⟨la, tr, true, here, false⟩ op = false) := rfl
      go_enter Tryz.func63, Tryz.ntmps63
      go_wp2_with fail
      go_ret
      exact ⟨ret_bool HR.out.symm, (Below.refl _ _).alloc (Nat.le_refl _) _⟩
  · have HR : Hid (spokenB ⟨la, tr, off, here, true⟩ op = false) := rfl
    go_enter Tryz.func63, Tryz.ntmps63
    go_wp2_with fail
    go_ret
    exact ⟨ret_bool HR.out.symm, (Below.refl _ _).alloc (Nat.le_refl _) _⟩

end Go.Proofs.YtjioingdpfgadaaGreatDoor
namespace Go.Proofs.YtjioingdpfgadaaGreatDoor
open Go Go.RowKit Go.Deep

/-- At a step of a region that draws its order: a whole row is loaded (for go_region_law). -/
theorem step_load_all {P : Program} {ops : Array Oper} {o : Oper} {a : Act} {w : World} {K : Act → World → Prop} {Q : Exit → Act → World → Prop} {E : Prop} (hgd : o.guard = none) (ty : TypeId) (x : Operand) (ho : o.op = .load ty x)
    (g off : Nat) (hx : a.eval x = .pointer (some ⟨g, off, none⟩)) (vs : List Value) (d : TypeDesc) (hc : ∀ j u, vs[j]? = some u → w.cell? ⟨g, off + j, none⟩ = some u)
    (hu : P.underlying ty = some d) (hd : (match d with | .struct _ | .array _ _ => true | _ => false) = true) (hi : (P.info? ty).map (·.size) = some vs.length)
    (h : K (a.put o.dst (.agg vs.toArray)) w) : if Region.wanted o (yielded ops a.tmps) = true then Oper.wp P o a w K Q else E := by
  have hw : Region.wanted o (yielded ops a.tmps) = true := by simp [Region.wanted, hgd]
  rw [if_pos hw]
  unfold Oper.wp execOp
  simp only [ho, hx, Instr.loadAt, Instr.sureAddr, Sem.run_bind, Sem.run_pure, Result.andThen_ok, run_loadVar_part w g off ty vs d hc hu hd hi]
  exact h
/-- The same: a row is stored into a part of a block. -/
theorem step_store_part {P : Program} {ops : Array Oper} {o : Oper} {a : Act} {w : World} {K : Act → World → Prop} {Q : Exit → Act → World → Prop} {E : Prop} (hgd : o.guard = none) (ty : TypeId) (x y : Operand) (ho : o.op = .store ty x y)
    (g off : Nat) (vs : List Value) (hx : a.eval x = .pointer (some ⟨g, off, none⟩)) (hy : a.eval y = .agg vs.toArray)
    (t : TypeId) (old : Array Value) (hg : w.heap[g]? = some (.cells old t (0, 0))) (hi : (P.info? ty).map (·.size) = some vs.length)
    (hold : off + vs.length ≤ old.size) (h1 : ∀ v ∈ vs, v.oneCell' = true)
    (h : K (a.put o.dst undef) (w.setRow g (putAt old off vs))) : if Region.wanted o (yielded ops a.tmps) = true then Oper.wp P o a w K Q else E := by
  have hw : Region.wanted o (yielded ops a.tmps) = true := by simp [Region.wanted, hgd]
  rw [if_pos hw]
  unfold Oper.wp execOp
  simp only [ho, hx, hy, Instr.storeAt, Instr.sureAddr, Sem.run_bind, Sem.run_pure, Result.andThen_ok, run_storeVar_part w g off t ty old vs hg hi hold h1]
  exact h
/-- The same: a call by its contract. -/
theorem step_calls {P : Program} {ops : Array Oper} {o : Oper} {a : Act} {w : World} {K : Act → World → Prop} {Q : Exit → Act → World → Prop} {E : Prop} {R : Ending → World → Prop} (hgd : o.guard = none) (f : FuncId) (args : Array Value) (hrun : (execOp a.eval o).run P w = .ok (.enter f args) w) (hc : Calls P f args w R)
    (h : ∀ e w', R e w' → ∃ v, e = .returned v ∧ K (a.put o.dst v) w') : if Region.wanted o (yielded ops a.tmps) = true then Oper.wp P o a w K Q else E := by
  have hw : Region.wanted o (yielded ops a.tmps) = true := by simp [Region.wanted, hgd]
  rw [if_pos hw]
  unfold Oper.wp
  rw [hrun, Oper.upon_enter]
  refine hc.mono fun e w' hr => ?_
  obtain ⟨v, rfl, hk⟩ := h e w' hr
  exact hk
theorem run_loadAt_part {P : Program} {w : World} {g off : Nat} {ty : TypeId} {vs : List Value} {d : TypeDesc} (hc : ∀ j u, vs[j]? = some u → w.cell? ⟨g, off + j, none⟩ = some u)
    (hu : P.underlying ty = some d) (hd : (match d with | .struct _ | .array _ _ => true | _ => false) = true) (hi : (P.info? ty).map (·.size) = some vs.length) :
    (Instr.loadAt ty (.pointer (some ⟨g, off, none⟩))).run P w = .ok (.agg vs.toArray) w := by
  simp only [Instr.loadAt, Instr.sureAddr, Sem.run_bind, Sem.run_pure, Result.andThen_ok, run_loadVar_part w g off ty vs d hc hu hd hi]
theorem run_storeAt_part {P : Program} {w : World} {g off : Nat} {ty t : TypeId} {vs : List Value} {old : Array Value} (hg : w.heap[g]? = some (.cells old t (0, 0))) (hi : (P.info? ty).map (·.size) = some vs.length)
    (hold : off + vs.length ≤ old.size) (h1 : ∀ v ∈ vs, v.oneCell' = true) :
    (Instr.storeAt ty (.pointer (some ⟨g, off, none⟩)) (.agg vs.toArray)).run P w = .ok () (w.setRow g (putAt old off vs)) := by
  simp only [Instr.storeAt, Instr.sureAddr, Sem.run_bind, Sem.run_pure, Result.andThen_ok, run_storeVar_part w g off t ty old vs hg hi hold h1]
theorem there_of_block {w : World} {g : Nat} {old : Array Value} {t : TypeId} (hg : w.heap[g]? = some (.cells old t (0, 0))) {off n : Nat} (h : off + n ≤ old.size) : w.there g off n := fun j hj => by
  refine ⟨?_, by simp [World.frozen?, hg]⟩
  rw [cell_of_row _ _ _ _ _ _ hg, Array.getElem?_eq_getElem (by omega)]
  rfl
theorem range_of_block {w : World} {g : Nat} {vs : List Value} {t : TypeId} (hg : w.heap[g]? = some (.cells vs.toArray t (0, 0))) : w.rangeAt g 0 vs := fun j v hv => by
  rw [Nat.zero_add, cell_of_row _ _ _ _ _ _ hg]
  simpa using hv
/-- A store of many cells, as a row put into a block. -/
theorem setCells_row {P : Program} {w : World} {g off : Nat} {ty t : TypeId} {vs : List Value} {old : Array Value} (hg : w.heap[g]? = some (.cells old t (0, 0))) (hi : (P.info? ty).map (·.size) = some vs.length)
    (hold : off + vs.length ≤ old.size) (h1 : ∀ v ∈ vs, v.oneCell' = true) : w.setCells g off vs = w.setRow g (putAt old off vs) := by
  have e1 := run_storeVar_part (P := P) w g off t ty old vs hg hi hold h1
  have e2 := run_storeVar_mid (P := P) w g off ty vs.toArray (there_of_block hg (by simpa using hold)) (by simpa using hi) (by rw [Array.all_eq_true_iff_forall_mem]; intro x hx; exact h1 x (by simpa using hx))
  rw [e1] at e2
  simp at e2
  exact e2.symm
theorem below_grown {w w' : World} {r : Nat} (h : Below w.heap.size w w') : w.grownBy w' (some r) := ⟨h.os, h.tape, h.output, h.size, fun k hk _ => h.block k hk⟩
theorem grown_row (w : World) (g : Nat) (cs : Array Value) : w.grownBy (w.setRow g cs) (some g) := ⟨rfl, rfl, rfl, by rw [setRow_size]; exact Nat.le_refl _, fun k _ hne => by
  have h1 : k ≠ g := fun e => hne (by rw [e])
  have h2 : g ≠ k := fun e => hne (by rw [e])
  first | exact setRow_other _ _ _ _ h1 | exact setRow_other _ _ _ _ h2⟩

end Go.Proofs.YtjioingdpfgadaaGreatDoor
