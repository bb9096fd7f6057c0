import Derived.Test.YtjioingdpfgadabGreatDoorProg
import Derived.Test.YtjioingdpfgadabGreatDoorBaseR
import Derived.Test.YtjioingdpfgadabGreatDoorTo
import Derived.BigRegion
import Derived.Deep.RegionWith
namespace Go.Proofs.YtjioingdpfgadabGreatDoor
open Go Go.RowKit

set_option maxHeartbeats 1000000 in
theorem toReport_any (r : RepD) (w : World) :
    Calls Tryz.prog 36 #[repV r] w fun e w' => e = .returned (repV r) ∧ Below w.heap.size w w' := by
  unfold repV
  go_enter Tryz.func36, Tryz.ntmps36
  go_wp2
  exact bodyPost_ret (v := .agg #[.int .i64 r.tick, .int .i64 r.op, .int .i64 r.trip, .int .i64 r.call, .int .i64 r.n]) (by simp [results, Tryz.results36, go_sem]) rfl ⟨rfl, (((Below.refl _ _).alloc (Nat.le_refl _) _).alloc (by simp) _).alloc (by simp; omega) _⟩

end Go.Proofs.YtjioingdpfgadabGreatDoor
namespace Go.Proofs.YtjioingdpfgadabGreatDoor
open Go Go.RowKit Go.Deep

theorem uReps : Tryz.prog.underlying 35 = some (.slice 64) := by kernel_rfl
theorem infoRep : (Tryz.prog.info? 64).map (fun i => (i.zero, i.size, i.bytes)) = some (some (.agg #[.int .i64 0, .int .i64 0, .int .i64 0, .int .i64 0, .int .i64 0]), 5, 40) := by kernel_rfl

set_option maxHeartbeats 400000 in
theorem szReportS_any (a : Option Addr) (n c : Nat) (left : Int) (w : World) (h0 : 0 ≤ left) (h1 : left ≤ 1048576) (hn : n ≤ maxLen) :
    Calls Tryz.prog 7 #[.slice a n c, .int .i64 left] w fun e w' => e = .returned (.int .i64 (rest left n)) ∧ w' = w := by
  unfold maxLen at hn
  by_cases h : left - n < 0
  · go_enter Tryz.func7, Tryz.ntmps7
    go_wp2
    go_ret
    exact ⟨ret_int (rest_no (by omega)).symm, rfl⟩
  · go_enter Tryz.func7, Tryz.ntmps7
    go_wp2
    go_ret
    exact ⟨ret_int (rest_yes (by omega)).symm, rfl⟩

set_option maxHeartbeats 1000000 in
theorem toReportS_any (a : Option Addr) (rs : List RepD) (c : Nat) (w : World) (hn : rs.length ≤ 1048576) (hat : RepsAt w a rs) :
    Calls Tryz.prog 10 #[.slice a rs.length c] w fun e w' => ∃ b, e = .returned (.slice (some ⟨b, 0, none⟩) rs.length rs.length) ∧ w.heap.size ≤ b ∧ RepsAt w' (some ⟨b, 0, none⟩) rs ∧ Below w.heap.size w w' ∧ ∃ f, w'.rowIs b 64 (rs.length * 5) f := by
  have hmk := run_make_wide 35 64 (.agg #[.int .i64 0, .int .i64 0, .int .i64 0, .int .i64 0, .int .i64 0]) 5 40 uReps infoRep .i64 .i64 rs.length (by omega) (by omega)
  obtain ⟨f0, hf0⟩ := rowIs_wide w #[.int .i64 0, .int .i64 0, .int .i64 0, .int .i64 0, .int .i64 0] (rs.length * 5) 64
  go_enter Tryz.func10, Tryz.ntmps10
  go_wp2
  go_loopw [4] (fun i wr => ∃ k : Nat, k ≤ rs.length ∧ i = .int .i64 k ∧ (∃ f, wr.rowIs w.heap.size 64 (rs.length * 5) f ∧ ∀ j (_ : j < k) (h : j < rs.length), f (j * 5) = .int .i64 rs[j].tick ∧ f (j * 5 + 1) = .int .i64 rs[j].op ∧ f (j * 5 + 2) = .int .i64 rs[j].trip ∧ f (j * 5 + 3) = .int .i64 rs[j].call ∧ f (j * 5 + 4) = .int .i64 rs[j].n) ∧ Below w.heap.size w wr) (fun i _ => rs.length - (intOf i).toNat)
  case atStart =>
    exact ⟨0, Nat.zero_le _, rfl, ⟨f0, by simpa using hf0, fun j hj => by omega⟩, (Below.refl _ _).alloc (Nat.le_refl _) _⟩
  case round =>
    obtain ⟨k, hk, rfl, ⟨f, hrow, hf⟩, hbel⟩ := hrel
    clear hf0
    by_cases hlt : k < rs.length
    · obtain ⟨b, o, rfl, hc0, hc1, hc2, hc3, hc4⟩ := hat.keep hbel k hlt
      have H : Hid (∀ j (_ : j < k) (h : j < rs.length), f (j * 5) = .int .i64 rs[j].tick ∧ f (j * 5 + 1) = .int .i64 rs[j].op ∧ f (j * 5 + 2) = .int .i64 rs[j].trip ∧ f (j * 5 + 3) = .int .i64 rs[j].call ∧ f (j * 5 + 4) = .int .i64 rs[j].n) := hf
      clear hmk hat hf
      go_wp2_with fail
      refine (toReport_any rs[k] _).mono ?_
      rintro e w1 ⟨rfl, hb1⟩
      have hrow1 := hrow.of_block (hb1.block _ hrow.lt)
      have hfr := hrow1.frozen
      have hce0 := hrow1.cell (i := k * 5) (by omega)
      have hce1 := hrow1.cell (i := k * 5 + 1) (by omega)
      have hce2 := hrow1.cell (i := k * 5 + 2) (by omega)
      have hce3 := hrow1.cell (i := k * 5 + 3) (by omega)
      have hce4 := hrow1.cell (i := k * 5 + 4) (by omega)
      clear hc0 hc1 hc2 hc3 hc4
      unfold repV
      go_wp2_with fail
      go_roundw
      case rel =>
        have B1 := hbel.trans (hb1.mono hbel.size)
        refine ⟨k + 1, by omega, by go_num, ⟨_, ((((hrow1.set (k * 5) _).set (k * 5 + 1) _).set (k * 5 + 2) _).set (k * 5 + 3) _).set (k * 5 + 4) _, fun j hj h => ?_⟩, ((((B1.setCell (Nat.le_refl _) _).setCell (Nat.le_refl _) _).setCell (Nat.le_refl _) _).setCell (Nat.le_refl _) _).setCell (Nat.le_refl _) _⟩
        by_cases e : j = k
        · subst e; simp
        · obtain ⟨e0, e1, e2, e3, e4⟩ := H.out j (by omega) h
          refine ⟨?_, ?_, ?_, ?_, ?_⟩ <;> (rw [if_neg (by omega), if_neg (by omega), if_neg (by omega), if_neg (by omega), if_neg (by omega)]; assumption)
      case measure => simp [intOf]; omega
    · go_wp2
      go_ret
      refine ⟨w.heap.size, rfl, Nat.le_refl _, fun i hi => ⟨_, _, rfl, ?_⟩, hbel, ⟨f, hrow⟩⟩
      obtain ⟨e0, e1, e2, e3, e4⟩ := hf i (by omega) hi
      simp only [Nat.zero_add]
      exact ⟨by rw [hrow.cell (by omega), e0], by rw [hrow.cell (by omega), e1], by rw [hrow.cell (by omega), e2], by rw [hrow.cell (by omega), e3], by rw [hrow.cell (by omega), e4]⟩

set_option maxHeartbeats 1000000 in
theorem eqReport_same (r : RepD) (w : World) :
    Calls Tryz.prog 44 #[repV r, repV r] w fun e w' => e = .returned (.bool true) ∧ Below w.heap.size w w' := by
  unfold repV
  go_enter Tryz.func44, Tryz.ntmps44
  go_wp2
  go_ret
  exact ⟨rfl, ((Below.refl _ _).alloc (Nat.le_refl _) _).alloc (by simp) _⟩

set_option maxHeartbeats 1000000 in
theorem eqReportS_same (a a' : Option Addr) (rs : List RepD) (c c' : Nat) (w : World) (hn : rs.length ≤ 1048576) (hat : RepsAt w a rs) (hat' : RepsAt w a' rs) :
    Calls Tryz.prog 14 #[.slice a rs.length c, .slice a' rs.length c'] w fun e w' => e = .returned (.bool true) ∧ Below w.heap.size w w' := by
  go_enter Tryz.func14, Tryz.ntmps14
  go_wp2
  go_loopw [5] (fun i wr => ∃ k : Nat, k ≤ rs.length ∧ i = .int .i64 k ∧ Below w.heap.size w wr) (fun i _ => rs.length - (intOf i).toNat)
  case atStart => exact ⟨0, Nat.zero_le _, rfl, Below.refl _ _⟩
  case round =>
    obtain ⟨k, hk, rfl, hbel⟩ := hrel
    by_cases hlt : k < rs.length
    · obtain ⟨b, o, rfl, hc0, hc1, hc2, hc3, hc4⟩ := hat.keep hbel k hlt
      obtain ⟨b', o', rfl, hd0, hd1, hd2, hd3, hd4⟩ := hat'.keep hbel k hlt
      have hi : (k : Int) < (rs.length : Int) := by omega
      have h0 : (0 : Int) ≤ (k : Int) := by omega
      generalize rs[k] = x at *
      clear hat hat'
      go_wp2_with fail
      go_region_with (go_at_call 44; refine (eqReport_same x _).mono ?_; rintro e w1 ⟨rfl, hb1⟩)
      all_goals
        go_wp2
        go_roundw
        case rel => exact ⟨k + 1, by omega, by go_num, hbel.drew.trans (by exact hb1.mono hbel.size)⟩
        case measure => simp [intOf]; omega
    · go_wp2
      go_ret
      exact ⟨rfl, hbel⟩

end Go.Proofs.YtjioingdpfgadabGreatDoor
