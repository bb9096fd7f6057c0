import Derived.Test.YtjioingdpfgadaaDoorProg
import Derived.Test.YtjioingdpfgadaaDoorBaseR
import Derived.Deep.OwnRows
import Derived.BigRegion
import Derived.Deep.RegionWith
import Derived.BigQuiet
namespace Go.Proofs.YtjioingdpfgadaaDoor
open Go Go.RowKit Go.Deep

set_option maxHeartbeats 1000000 in
theorem eqNews_same (n : NewsD) (w : World) :
    Calls Tryd.prog 111 #[newsV n, newsV n] w fun e w' => e = .returned (.bool true) ∧ Below w.heap.size w w' := by
  unfold newsV
  go_enter Tryd.func111, Tryd.ntmps111
  go_wp2
  go_ret
  exact ⟨rfl, ((Below.refl _ _).alloc (Nat.le_refl _) _).alloc (by simp) _⟩

set_option maxHeartbeats 1000000 in
theorem eqNewsS_same (a a' : Option Addr) (ns : List NewsD) (c c' : Nat) (w : World) (hn : ns.length ≤ 1048576) (hat : NewsAt w a ns) (hat' : NewsAt w a' ns) :
    Calls Tryd.prog 82 #[.slice a ns.length c, .slice a' ns.length c'] w fun e w' => e = .returned (.bool true) ∧ Below w.heap.size w w' := by
  go_enter Tryd.func82, Tryd.ntmps82
  go_wp2
  go_loopw [5] (fun i wr => ∃ k : Nat, k ≤ ns.length ∧ i = .int .i64 k ∧ Below w.heap.size w wr) (fun i _ => ns.length - (intOf i).toNat)
  case atStart => exact ⟨0, Nat.zero_le _, rfl, Below.refl _ _⟩
  case round =>
    obtain ⟨k, hk, rfl, hbel⟩ := hrel
    by_cases hlt : k < ns.length
    · obtain ⟨b, o, rfl, hc0, hc1, hc2, hc3, hc4⟩ := hat.keep hbel k hlt
      obtain ⟨b', o', rfl, hd0, hd1, hd2, hd3, hd4⟩ := hat'.keep hbel k hlt
      have hi : (k : Int) < (ns.length : Int) := by omega
      have h0 : (0 : Int) ≤ (k : Int) := by omega
      generalize ns[k] = x at *
      clear hat hat'
      go_wp2_with fail
      go_region_with (go_at_call 111; refine (eqNews_same x _).mono ?_; rintro e w1 ⟨rfl, hb1⟩)
      all_goals
        go_wp2
        go_roundw
        case rel => exact ⟨k + 1, by omega, by go_num, hbel.drew.trans (by exact hb1.mono hbel.size)⟩
        case measure => simp [intOf]; omega
    · go_wp2
      go_ret
      exact ⟨rfl, hbel⟩

set_option maxHeartbeats 1000000 in
theorem eqNewsSS_same (a a' : Option Addr) (nss : List (List NewsD)) (c c' : Nat) (w : World) (hn : nss.length ≤ 1048576) (hns : ∀ i (h : i < nss.length), nss[i].length ≤ 1048576) (hat : NewsSSAt w a nss) (hat' : NewsSSAt w a' nss) :
    Calls Tryd.prog 40 #[.slice a nss.length c, .slice a' nss.length c'] w fun e w' => e = .returned (.bool true) ∧ Below w.heap.size w w' := by
  go_enter Tryd.func40, Tryd.ntmps40
  go_wp2
  go_loopw [5] (fun i wr => ∃ k : Nat, k ≤ nss.length ∧ i = .int .i64 k ∧ Below w.heap.size w wr) (fun i _ => nss.length - (intOf i).toNat)
  case atStart => exact ⟨0, Nat.zero_le _, rfl, Below.refl _ _⟩
  case round =>
    obtain ⟨k, hk, rfl, hbel⟩ := hrel
    by_cases hlt : k < nss.length
    · obtain ⟨b, o, ca, cc, rfl, hc0, hca⟩ := hat.keep hbel k hlt
      obtain ⟨b', o', ca', cc', rfl, hd0, hca'⟩ := hat'.keep hbel k hlt
      have hi : (k : Int) < (nss.length : Int) := by omega
      have h0 : (0 : Int) ≤ (k : Int) := by omega
      have hnk := hns k hlt
      have HC : Hid (NewsAt wr ca nss[k]) := hca
      have HC' : Hid (NewsAt wr ca' nss[k]) := hca'
      generalize nss[k] = ns at *
      clear hat hat' hca hca' hns
      go_wp2_with fail
      go_region_with (go_at_call 82; refine (eqNewsS_same _ _ _ _ _ _ hnk (by exact HC.out) (by exact HC'.out)).mono ?_; rintro e w1 ⟨rfl, hb1⟩)
      all_goals
        go_wp2
        go_roundw
        case rel => exact ⟨k + 1, by omega, by go_num, hbel.drew.trans (by exact hb1.mono hbel.size)⟩
        case measure => simp [intOf]; omega
    · go_wp2
      go_ret
      exact ⟨rfl, hbel⟩

end Go.Proofs.YtjioingdpfgadaaDoor
