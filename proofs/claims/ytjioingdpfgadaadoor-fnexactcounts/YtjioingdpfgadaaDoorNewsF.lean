import Derived.Test.YtjioingdpfgadaaDoorProg
import Derived.Test.YtjioingdpfgadaaDoorBaseR
import Derived.Test.YtjioingdpfgadaaDoorTo
namespace Go.Proofs.YtjioingdpfgadaaDoor
open Go Go.RowKit Go.Deep

theorem uNews : Tryd.prog.underlying 42 = some (.slice 41) := by kernel_rfl
theorem uNewsS : Tryd.prog.underlying 33 = some (.slice 42) := by kernel_rfl
theorem infoNews : (Tryd.prog.info? 41).map (fun i => (i.zero, i.size, i.bytes)) = some (some (.agg #[.int .i64 0, .int .i64 0, .bool false, .bool false, .bool false]), 5, 24) := by kernel_rfl
theorem infoNewsS : (Tryd.prog.info? 42).map (fun i => (i.zero, i.size, i.bytes)) = some (some (.slice none 0 0), 1, 24) := by kernel_rfl

set_option maxHeartbeats 400000 in
theorem szNewsS_any (a : Option Addr) (n c : Nat) (left : Int) (w : World) (h0 : 0 ≤ left) (h1 : left ≤ 1048576) (hn : n ≤ maxLen) :
    Calls Tryd.prog 76 #[.slice a n c, .int .i64 left] w fun e w' => e = .returned (.int .i64 (rest left n)) ∧ w' = w := by
  unfold maxLen at hn
  by_cases h : left - n < 0
  · go_enter Tryd.func76, Tryd.ntmps76
    go_wp2
    go_ret
    exact ⟨ret_int (rest_no (by omega)).symm, rfl⟩
  · go_enter Tryd.func76, Tryd.ntmps76
    go_wp2
    go_ret
    exact ⟨ret_int (rest_yes (by omega)).symm, rfl⟩

set_option maxHeartbeats 400000 in
theorem szNewsSS_any (a : Option Addr) (nss : List (List NewsD)) (c : Nat) (left : Int) (w : World) (h0 : 0 ≤ left) (h1 : left ≤ 1048576) (hn : nss.length ≤ maxLen) (hs : ∀ i (h : i < nss.length), nss[i].length ≤ maxLen) (hat : NewsSSAt w a nss) :
    Calls Tryd.prog 36 #[.slice a nss.length c, .int .i64 left] w fun e w' => e = .returned (.int .i64 (rest left (newsSize nss))) ∧ w' = w := by
  unfold maxLen at hn
  by_cases h : left - nss.length < 0
  · go_enter Tryd.func36, Tryd.ntmps36
    go_wp2
    go_ret
    exact ⟨ret_int (rest_no (by unfold newsSize; omega)).symm, rfl⟩
  · go_enter Tryd.func36, Tryd.ntmps36
    go_wp2
    go_loop [1, 5] (fun l i => ∃ k : Nat, k ≤ nss.length ∧ i = .int .i64 k ∧ 0 ≤ left - nss.length - sumLens (nss.take k) ∧ l = .int .i64 (left - nss.length - sumLens (nss.take k))) (fun _ i => nss.length - (intOf i).toNat)
    case atStart => exact ⟨0, Nat.zero_le _, rfl, by simp [sumLens]; omega, by simp [sumLens]⟩
    case round =>
      obtain ⟨k, hk, rfl, hl, rfl⟩ := hrel
      by_cases hlt : k < nss.length
      · obtain ⟨b, o, ca, cc, rfl, hc, _⟩ := hat k hlt
        have hsz := hs k hlt
        have HT : Hid (sumLens (nss.take (k + 1)) = sumLens (nss.take k) + nss[k].length) := sumLens_take nss k hlt
        have HL : Hid (sumLens (nss.take (k + 1)) ≤ sumLens nss) := sumLens_take_le nss (k + 1)
        generalize nss[k].length = n at *
        generalize sumLens (nss.take k) = m at *
        clear hat hs
        by_cases hfit : (n : Int) ≤ left - nss.length - m
        all_goals
          go_wp2_with fail
          refine (szNewsS_any _ _ _ _ _ (by omega) (by omega) hsz).mono ?_
          rintro e w1 ⟨rfl, rfl⟩
        · rw [rest_yes hfit]
          go_wp2_with fail
          go_round
          case rel =>
            have := HT.out
            exact ⟨k + 1, by omega, by go_num, by omega, by rw [HT.out]; go_num⟩
          case measure => simp [intOf]; omega
        · rw [rest_no (by omega)]
          go_wp2_with fail
          go_ret
          have := HT.out
          have := HL.out
          exact ⟨ret_int (rest_no (by unfold newsSize; omega)).symm, rfl⟩
      · go_wp2
        go_ret
        have e : nss.take k = nss := List.take_of_length_le (by omega)
        rw [e] at hl ⊢
        exact ⟨ret_int (by rw [rest_yes (by unfold newsSize; omega)]; unfold newsSize; omega), rfl⟩

set_option maxHeartbeats 1000000 in
theorem toNews_any (n : NewsD) (w : World) :
    Calls Tryd.prog 110 #[newsV n] w fun e w' => e = .returned (newsV n) ∧ Below w.heap.size w w' := by
  unfold newsV
  go_enter Tryd.func110, Tryd.ntmps110
  go_wp2
  exact bodyPost_ret (v := .agg #[.int .i64 n.late, .int .i64 n.track, .bool n.off, .bool n.here, .bool n.gone]) (by simp [results, Tryd.results110, go_sem]) rfl ⟨rfl, (((Below.refl _ _).alloc (Nat.le_refl _) _).alloc (by simp) _).alloc (by simp; omega) _⟩

set_option maxHeartbeats 1000000 in
theorem toNewsS_any (a : Option Addr) (ns : List NewsD) (c : Nat) (w : World) (hn : ns.length ≤ 1048576) (hat : NewsAt w a ns) :
    Calls Tryd.prog 78 #[.slice a ns.length c] w fun e w' => ∃ b, e = .returned (.slice (some ⟨b, 0, none⟩) ns.length ns.length) ∧ w.heap.size ≤ b ∧ NewsAt w' (some ⟨b, 0, none⟩) ns ∧ Below w.heap.size w w' := by
  have hmk := run_make_wide 42 41 (.agg #[.int .i64 0, .int .i64 0, .bool false, .bool false, .bool false]) 5 24 uNews infoNews .i64 .i64 ns.length (by omega) (by omega)
  obtain ⟨f0, hf0⟩ := rowIs_wide w #[.int .i64 0, .int .i64 0, .bool false, .bool false, .bool false] (ns.length * 5) 41
  go_enter Tryd.func78, Tryd.ntmps78
  go_wp2
  go_loopw [4] (fun i wr => ∃ k : Nat, k ≤ ns.length ∧ i = .int .i64 k ∧ (∃ f, wr.rowIs w.heap.size 41 (ns.length * 5) f ∧ ∀ j (_ : j < k) (h : j < ns.length), f (j * 5) = .int .i64 ns[j].late ∧ f (j * 5 + 1) = .int .i64 ns[j].track ∧ f (j * 5 + 2) = .bool ns[j].off ∧ f (j * 5 + 3) = .bool ns[j].here ∧ f (j * 5 + 4) = .bool ns[j].gone) ∧ Below w.heap.size w wr) (fun i _ => ns.length - (intOf i).toNat)
  case atStart =>
    exact ⟨0, Nat.zero_le _, rfl, ⟨f0, by simpa using hf0, fun j hj => by omega⟩, (Below.refl _ _).alloc (Nat.le_refl _) _⟩
  case round =>
    obtain ⟨k, hk, rfl, ⟨f, hrow, hf⟩, hbel⟩ := hrel
    clear hf0
    by_cases hlt : k < ns.length
    · obtain ⟨b, o, rfl, hc0, hc1, hc2, hc3, hc4⟩ := hat.keep hbel k hlt
      have H : Hid (∀ j (_ : j < k) (h : j < ns.length), f (j * 5) = .int .i64 ns[j].late ∧ f (j * 5 + 1) = .int .i64 ns[j].track ∧ f (j * 5 + 2) = .bool ns[j].off ∧ f (j * 5 + 3) = .bool ns[j].here ∧ f (j * 5 + 4) = .bool ns[j].gone) := hf
      clear hmk hat hf
      go_wp2_with fail
      refine (toNews_any ns[k] _).mono ?_
      rintro e w1 ⟨rfl, hb1⟩
      have hrow1 := hrow.of_block (hb1.block _ hrow.lt)
      have hfr := hrow1.frozen
      have hce0 := hrow1.cell (i := k * 5) (by omega)
      have hce1 := hrow1.cell (i := k * 5 + 1) (by omega)
      have hce2 := hrow1.cell (i := k * 5 + 2) (by omega)
      have hce3 := hrow1.cell (i := k * 5 + 3) (by omega)
      have hce4 := hrow1.cell (i := k * 5 + 4) (by omega)
      clear hc0 hc1 hc2 hc3 hc4
      unfold newsV
      go_wp2_with fail
      go_roundw
      case rel =>
        have B1 := hbel.trans (hb1.mono hbel.size)
        refine ⟨k + 1, by omega, by go_num, ⟨_, ((((hrow1.set (k * 5) _).set (k * 5 + 1) _).set (k * 5 + 2) _).set (k * 5 + 3) _).set (k * 5 + 4) _, fun j hj h => ?_⟩, ((((B1.setCell (Nat.le_refl _) _).setCell (Nat.le_refl _) _).setCell (Nat.le_refl _) _).setCell (Nat.le_refl _) _).setCell (Nat.le_refl _) _⟩
        by_cases e : j = k
        · subst e; simp
        · obtain ⟨e0, e1, e2, e3, e4⟩ := H.out j (by omega) h
          refine ⟨?_, ?_, ?_, ?_, ?_⟩ <;> (rw [if_neg (by omega), if_neg (by omega), if_neg (by omega), if_neg (by omega), if_neg (by omega)]; assumption)
      case measure => simp [intOf]; omega
    · go_wp2
      go_ret
      refine ⟨w.heap.size, rfl, Nat.le_refl _, fun i hi => ⟨_, _, rfl, ?_⟩, hbel⟩
      obtain ⟨e0, e1, e2, e3, e4⟩ := hf i (by omega) hi
      simp only [Nat.zero_add]
      exact ⟨by rw [hrow.cell (by omega), e0], by rw [hrow.cell (by omega), e1], by rw [hrow.cell (by omega), e2], by rw [hrow.cell (by omega), e3], by rw [hrow.cell (by omega), e4]⟩

set_option maxHeartbeats 1000000 in
theorem toNewsSS_any (a : Option Addr) (nss : List (List NewsD)) (c : Nat) (w : World) (hn : nss.length ≤ 1048576) (hns : ∀ i (h : i < nss.length), nss[i].length ≤ 1048576) (hat : NewsSSAt w a nss) :
    Calls Tryd.prog 38 #[.slice a nss.length c] w fun e w' => ∃ b, e = .returned (.slice (some ⟨b, 0, none⟩) nss.length nss.length) ∧ w.heap.size ≤ b ∧ NewsSSAt w' (some ⟨b, 0, none⟩) nss ∧ Below w.heap.size w w' := by
  have hmk := run_make_wide 33 42 (.slice none 0 0) 1 24 uNewsS infoNewsS .i64 .i64 nss.length (by omega) (by omega)
  obtain ⟨f0, hf0⟩ := rowIs_wide w #[.slice none 0 0] (nss.length * 1) 42
  go_enter Tryd.func38, Tryd.ntmps38
  go_wp2
  go_loopw [4] (fun i wr => ∃ k : Nat, k ≤ nss.length ∧ i = .int .i64 k ∧ (∃ f, wr.rowIs w.heap.size 42 nss.length f ∧ ∀ j (_ : j < k) (h : j < nss.length), ∃ b cc, w.heap.size < b ∧ f j = .slice (some ⟨b, 0, none⟩) nss[j].length cc ∧ NewsAt wr (some ⟨b, 0, none⟩) nss[j]) ∧ Below w.heap.size w wr) (fun i _ => nss.length - (intOf i).toNat)
  case atStart =>
    rw [Nat.mul_one] at hf0
    exact ⟨0, Nat.zero_le _, rfl, ⟨f0, by simpa using hf0, fun j hj => by omega⟩, (Below.refl _ _).alloc (Nat.le_refl _) _⟩
  case round =>
    obtain ⟨k, hk, rfl, ⟨f, hrow, hf⟩, hbel⟩ := hrel
    clear hf0
    by_cases hlt : k < nss.length
    · obtain ⟨b, o, ca, cc, rfl, hc0, hca⟩ := hat.keep hbel k hlt
      have H : Hid (∀ j (_ : j < k) (h : j < nss.length), ∃ b cc, w.heap.size < b ∧ f j = .slice (some ⟨b, 0, none⟩) nss[j].length cc ∧ NewsAt wr (some ⟨b, 0, none⟩) nss[j]) := hf
      have HC : Hid (NewsAt wr ca nss[k]) := hca
      have hnk := hns k hlt
      clear hmk hat hf hca hns
      go_wp2_with fail
      refine (toNewsS_any _ _ _ _ hnk HC.out).mono ?_
      rintro e w1 ⟨b', rfl, hb', hat1, hb1⟩
      have hrow1 := hrow.of_block (hb1.block _ hrow.lt)
      have hfr := hrow1.frozen
      have hce0 := hrow1.cell (i := k) (by omega)
      have hlt1 := hrow.lt
      have HA : Hid (NewsAt w1 (some ⟨b', 0, none⟩) nss[k]) := hat1
      clear hc0 hat1
      go_wp2_with fail
      go_roundw
      case rel =>
        have B1 := hbel.trans (hb1.mono hbel.size)
        refine ⟨k + 1, by omega, by go_num, ⟨_, hrow1.set k _, fun j hj h => ?_⟩, B1.setCell (Nat.le_refl _) _⟩
        by_cases e : j = k
        · subst e
          exact ⟨b', _, by omega, by rw [if_pos rfl], HA.out.setOther (by simp; omega)⟩
        · obtain ⟨bb, cx, e1, e2, e3⟩ := H.out j (by omega) h
          exact ⟨bb, cx, e1, by rw [if_neg (by omega)]; exact e2, (e3.keep hb1).setOther (by simp; omega)⟩
      case measure => simp [intOf]; omega
    · go_wp2
      go_ret
      refine ⟨w.heap.size, rfl, Nat.le_refl _, fun i hi => ?_, hbel⟩
      obtain ⟨bb, cx, e1, e2, e3⟩ := hf i (by omega) hi
      exact ⟨_, _, _, cx, rfl, by simp only [Nat.zero_add]; rw [hrow.cell (by omega), e2], e3⟩

end Go.Proofs.YtjioingdpfgadaaDoor
