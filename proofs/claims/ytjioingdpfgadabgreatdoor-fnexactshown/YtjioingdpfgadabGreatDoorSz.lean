import Derived.Test.YtjioingdpfgadabGreatDoorProg
import Derived.Test.YtjioingdpfgadabGreatDoorBase
namespace Go.Proofs.YtjioingdpfgadabGreatDoor
open Go Go.RowKit

set_option maxHeartbeats 400000 in
theorem szCallS_any (a : Option Addr) (n c : Nat) (left : Int) (w : World) (h0 : 0 ≤ left) (h1 : left ≤ 1048576) (hn : n ≤ maxLen) :
    Calls Tryz.prog 85 #[.slice a n c, .int .i64 left] w fun e w' => e = .returned (.int .i64 (rest left n)) ∧ w' = w := by
  unfold maxLen at hn
  by_cases h : left - n < 0
  · go_enter Tryz.func85, Tryz.ntmps85
    go_wp2
    go_ret
    exact ⟨ret_int (rest_no (by omega)).symm, rfl⟩
  · go_enter Tryz.func85, Tryz.ntmps85
    go_wp2
    go_ret
    exact ⟨ret_int (rest_yes (by omega)).symm, rfl⟩

set_option maxHeartbeats 400000 in
theorem szStringS_any (a : Option Addr) (ss : List ByteArray) (c : Nat) (left : Int) (w : World) (h0 : 0 ≤ left) (h1 : left ≤ 1048576) (hn : ss.length ≤ maxLen) (hs : ∀ i (h : i < ss.length), ss[i].size ≤ maxLen) (hat : StrsAt w a ss) :
    Calls Tryz.prog 26 #[.slice a ss.length c, .int .i64 left] w fun e w' => e = .returned (.int .i64 (rest left (strsSize ss))) ∧ w' = w := by
  unfold maxLen at hn hs
  by_cases h : left - ss.length < 0
  · go_enter Tryz.func26, Tryz.ntmps26
    go_wp2
    go_ret
    exact ⟨ret_int (rest_no (by unfold strsSize; omega)).symm, rfl⟩
  · go_enter Tryz.func26, Tryz.ntmps26
    go_wp2
    go_loop [1, 5] (fun l i => ∃ k : Nat, k ≤ ss.length ∧ i = .int .i64 k ∧ 0 ≤ left - ss.length - sumSizes (ss.take k) ∧ l = .int .i64 (left - ss.length - sumSizes (ss.take k))) (fun _ i => ss.length - (intOf i).toNat)
    case atStart => exact ⟨0, Nat.zero_le _, rfl, by simp [sumSizes]; omega, by simp [sumSizes]⟩
    case round =>
      obtain ⟨k, hk, rfl, hl, rfl⟩ := hrel
      by_cases hlt : k < ss.length
      · obtain ⟨b, o, rfl, hc⟩ := hat k hlt
        have hsz := hs k hlt
        have HT : Hid (sumSizes (ss.take (k + 1)) = sumSizes (ss.take k) + ss[k].size) := sumSizes_take ss k hlt
        have HL : Hid (sumSizes (ss.take (k + 1)) ≤ sumSizes ss) := sumSizes_take_le ss (k + 1)
        generalize ss[k] = s at *
        generalize sumSizes (ss.take k) = m at *
        clear hat hs
        go_wp2
        · go_ret
          have := HT.out
          have := HL.out
          exact ⟨ret_int (rest_no (by unfold strsSize; omega)).symm, rfl⟩
        · go_round
          case rel =>
            have := HT.out
            exact ⟨k + 1, by omega, by go_num, by omega, by rw [HT.out]; go_num⟩
          case measure => simp [intOf]; omega
      · go_wp2
        go_ret
        have e : ss.take k = ss := List.take_of_length_le (by omega)
        rw [e] at hl ⊢
        exact ⟨ret_int (by rw [rest_yes (by unfold strsSize; omega)]; unfold strsSize; omega), rfl⟩

set_option maxHeartbeats 400000 in
theorem szTrip_any (nm : ByteArray) (ca : Option Addr) (n cc : Nat) (left : Int) (w : World) (h0 : 0 ≤ left) (h1 : left ≤ 1048576) (hn : n ≤ maxLen) (hs : nm.size ≤ maxLen) :
    Calls Tryz.prog 59 #[.agg #[.string nm, .slice ca n cc], .int .i64 left] w fun e w' => e = .returned (.int .i64 (rest left ((nm.size : Int) + n))) ∧ Below w.heap.size w w' := by
  have hn' := hn
  unfold maxLen at hn hs
  by_cases h : left - nm.size < 0
  · go_enter Tryz.func59, Tryz.ntmps59
    go_wp2_with fail
    go_ret
    exact ⟨ret_int (rest_no (by omega)).symm, (Below.refl _ _).alloc (Nat.le_refl _) _⟩
  · by_cases h2 : (n : Int) ≤ left - nm.size
    all_goals
      go_enter Tryz.func59, Tryz.ntmps59
      go_wp2_with fail
      refine (szCallS_any _ _ _ _ _ (by omega) (by omega) hn').mono ?_
      rintro e w' ⟨rfl, rfl⟩
    · rw [rest_yes h2]
      go_wp2_with fail
      go_ret
      exact ⟨ret_int (by rw [rest_yes (by omega)]; omega), (Below.refl _ _).alloc (Nat.le_refl _) _⟩
    · rw [rest_no (by omega)]
      go_wp2_with fail
      go_ret
      exact ⟨ret_int (by rw [rest_no (by omega)]), (Below.refl _ _).alloc (Nat.le_refl _) _⟩

set_option maxHeartbeats 400000 in
theorem szTripS_any (a : Option Addr) (ts : List TripD) (c : Nat) (left : Int) (w : World) (h0 : 0 ≤ left) (h1 : left ≤ 1048576) (hn : ts.length ≤ maxLen) (hs : ∀ i (h : i < ts.length), ts[i].name.size ≤ maxLen ∧ ts[i].calls.length ≤ maxLen) (hat : TripsAt w a ts) :
    Calls Tryz.prog 27 #[.slice a ts.length c, .int .i64 left] w fun e w' => e = .returned (.int .i64 (rest left (tripsSize ts))) ∧ Below w.heap.size w w' := by
  unfold maxLen at hn
  by_cases h : left - ts.length < 0
  · go_enter Tryz.func27, Tryz.ntmps27
    go_wp2
    go_ret
    exact ⟨ret_int (rest_no (by unfold tripsSize; omega)).symm, Below.refl _ _⟩
  · go_enter Tryz.func27, Tryz.ntmps27
    go_wp2
    go_loopw [1, 5] (fun l i wr => ∃ k : Nat, k ≤ ts.length ∧ i = .int .i64 k ∧ 0 ≤ left - ts.length - sumTrips (ts.take k) ∧ l = .int .i64 (left - ts.length - sumTrips (ts.take k)) ∧ Below w.heap.size w wr) (fun _ i _ => ts.length - (intOf i).toNat)
    case atStart => exact ⟨0, Nat.zero_le _, rfl, by simp [sumTrips]; omega, by simp [sumTrips], Below.refl _ _⟩
    case round =>
      obtain ⟨k, hk, rfl, hl, rfl, hbel⟩ := hrel
      by_cases hlt : k < ts.length
      · obtain ⟨b, o, ca, cc, rfl, hc0, hc1, _⟩ := hat.keep hbel k hlt
        obtain ⟨hs1, hs2⟩ := hs k hlt
        have HT : Hid (sumTrips (ts.take (k + 1)) = sumTrips (ts.take k) + (ts[k].name.size + ts[k].calls.length)) := sumTrips_take ts k hlt
        have HL : Hid (sumTrips (ts.take (k + 1)) ≤ sumTrips ts) := sumTrips_take_le ts (k + 1)
        generalize ts[k].name = nm at *
        generalize ts[k].calls.length = n at *
        generalize sumTrips (ts.take k) = m at *
        clear hat hs
        by_cases hfit : (nm.size : Int) + n ≤ left - ts.length - m
        all_goals
          go_wp2_with fail
          refine (szTrip_any _ _ _ _ _ _ (by omega) (by omega) hs2 hs1).mono ?_
          rintro e w1 ⟨rfl, hb1⟩
        · rw [rest_yes hfit]
          go_wp2_with fail
          go_roundw
          case rel =>
            have := HT.out
            exact ⟨k + 1, by omega, by go_num, by omega, by rw [HT.out]; go_num, hbel.trans (hb1.mono hbel.size)⟩
          case measure => simp [intOf]; omega
        · rw [rest_no (by omega)]
          go_wp2_with fail
          go_ret
          have := HT.out
          have := HL.out
          exact ⟨ret_int (rest_no (by unfold tripsSize; omega)).symm, hbel.trans (hb1.mono hbel.size)⟩
      · go_wp2
        go_ret
        have e : ts.take k = ts := List.take_of_length_le (by omega)
        rw [e] at hl ⊢
        exact ⟨ret_int (by rw [rest_yes (by unfold tripsSize; omega)]; unfold tripsSize; omega), hbel⟩

/-- A book's value: two slices, and what lies behind them. -/
def BookAt (w : World) (v : Value) (b : BookD) : Prop :=
  ∃ sa sc ta tc, v = .agg #[.slice sa b.sts.length sc, .slice ta b.trips.length tc] ∧ StrsAt w sa b.sts ∧ TripsAt w ta b.trips
theorem BookAt.keep {w w' : World} {v : Value} {b : BookD} (h : BookAt w v b) (hb : Below w.heap.size w w') : BookAt w' v b := by
  obtain ⟨sa, sc, ta, tc, e, h1, h2⟩ := h; exact ⟨sa, sc, ta, tc, e, h1.keep hb, h2.keep hb⟩
/-- Each list and each text of a book is of a length that Go's own can have. -/
def BookLens (b : BookD) : Prop :=
  b.sts.length ≤ maxLen ∧ (∀ i (h : i < b.sts.length), b.sts[i].size ≤ maxLen) ∧ b.trips.length ≤ maxLen ∧ (∀ i (h : i < b.trips.length), b.trips[i].name.size ≤ maxLen ∧ b.trips[i].calls.length ≤ maxLen)

set_option maxHeartbeats 400000 in
theorem szBook_any (v : Value) (b : BookD) (left : Int) (w : World) (h0 : 0 ≤ left) (h1 : left ≤ 1048576) (hl : BookLens b) (hat : BookAt w v b) :
    Calls Tryz.prog 6 #[v, .int .i64 left] w fun e w' => e = .returned (.int .i64 (rest left (bookSize b))) ∧ Below w.heap.size w w' := by
  obtain ⟨sa, sc, ta, tc, rfl, hsa, hta⟩ := hat
  obtain ⟨l1, l2, l3, l4⟩ := hl
  have hb0 : Below w.heap.size w (w.alloc (.cells #[.slice sa b.sts.length sc, .slice ta b.trips.length tc] 25)) := (Below.refl _ _).alloc (Nat.le_refl _) _
  by_cases h : (strsSize b.sts : Int) ≤ left
  · by_cases h2 : (tripsSize b.trips : Int) ≤ left - strsSize b.sts
    all_goals
      go_enter Tryz.func6, Tryz.ntmps6
      go_wp2_with fail
      refine (szStringS_any _ _ _ _ _ (by omega) (by omega) l1 l2 (by exact hsa.keep hb0)).mono ?_
      rintro e w' ⟨rfl, rfl⟩
      rw [rest_yes h]
      go_wp2_with fail
      refine (szTripS_any _ _ _ _ _ (by omega) (by omega) l3 l4 (by exact hta.keep hb0)).mono ?_
      rintro e w1 ⟨rfl, hb1⟩
    · rw [rest_yes h2]
      go_wp2_with fail
      go_ret
      exact ⟨ret_int (by rw [rest_yes (by unfold bookSize; omega)]; unfold bookSize; omega), hb0.trans (hb1.mono (by simp))⟩
    · rw [rest_no (by omega)]
      go_wp2_with fail
      go_ret
      exact ⟨ret_int (by rw [rest_no (by unfold bookSize; omega)]), hb0.trans (hb1.mono (by simp))⟩
  · go_enter Tryz.func6, Tryz.ntmps6
    go_wp2_with fail
    refine (szStringS_any _ _ _ _ _ (by omega) (by omega) l1 l2 (by exact hsa.keep hb0)).mono ?_
    rintro e w' ⟨rfl, rfl⟩
    rw [rest_no (by omega)]
    go_wp2_with fail
    go_ret
    exact ⟨ret_int (by rw [rest_no (by unfold bookSize; omega)]), hb0⟩

end Go.Proofs.YtjioingdpfgadabGreatDoor
