import Derived.Test.YtjioingdpfgadaaDoorProg
import Derived.Test.YtjioingdpfgadaaDoorImplH
import Derived.Test.YtjioingdpfgadaaDoorSpecS
import Derived.BigRegion
namespace Go.Proofs.YtjioingdpfgadaaDoor
open Go Go.RowKit Go.Deep

theorem ibox_two (w : World) (x y : Value) (t : TypeId) (wr : World) (h : Below (w.heap.size + 1) (w.alloc (.cells #[x, y] t)) wr) :
    wr.cell? ⟨w.heap.size, 0, none⟩ = some x ∧ wr.cell? ⟨w.heap.size, 1, none⟩ = some y := by
  have h0 := h.cell (p := ⟨w.heap.size, 0, none⟩) (Nat.lt_succ_self _)
  have h1 := h.cell (p := ⟨w.heap.size, 1, none⟩) (Nat.lt_succ_self _)
  exact ⟨by rw [h0]; simp [go_sem], by rw [h1]; simp [go_sem]⟩

set_option maxRecDepth 100000 in
set_option maxHeartbeats 2000000 in
theorem fitsBook_any (v : Value) (bk : BookD) (na : Option Addr) (nc : Nat) (nss : List (List NewsD)) (w : World) (hn : bookSize bk ≤ 1048576) (hm : newsSize nss ≤ 1048576) (hat : BookAt w v bk) (hna : NewsSSAt w na nss) :
    Calls Tryd.prog 79 #[v, .slice na nss.length nc] w fun e w' => e = .returned (.bool (shapeB bk nss)) ∧ Below w.heap.size w w' := by
  obtain ⟨sa, sc, ta, tc, rfl, hsa, hta⟩ := hat
  have hb0 := ibox w (.cells #[.slice sa bk.sts.length sc, .slice ta bk.trips.length tc] 26)
  have n2 : bk.trips.length ≤ 1048576 := by unfold bookSize tripsSize at hn; omega
  have n3 : ∀ i (h : i < bk.trips.length), bk.trips[i].calls.length ≤ 1048576 := by
    intro i h
    have := sumTrips_get bk.trips i h
    unfold bookSize tripsSize at hn; unfold tripSize at this; omega
  have m2 : nss.length ≤ 1048576 := by unfold newsSize at hm; omega
  have m3 : ∀ i (h : i < nss.length), nss[i].length ≤ 1048576 := by
    intro i h
    have := sumLens_get nss i h
    unfold newsSize at hm; omega
  have HTA : Hid (TripsAt w ta bk.trips) := hta
  have HNA : Hid (NewsSSAt w na nss) := hna
  clear hsa hta hna hn hm
  by_cases hl : nss.length = bk.trips.length
  · have hlb : ((nss.length : Int) != (bk.trips.length : Int)) = false := by simp [hl]
    have HL : Hid (nss.length = bk.trips.length) := hl
    have hle : bk.trips.length ≤ nss.length := by omega
    clear hl
    go_enter Tryd.func79, Tryd.ntmps79
    go_wp2
    go_loopw [16] (fun i wr => ∃ k : Nat, k ≤ bk.trips.length ∧ i = .int .i64 k ∧ Hid (∀ j (h1 : j < nss.length) (h2 : j < bk.trips.length), j < k → nss[j].length = bk.trips[j].calls.length) ∧ Below (w.heap.size + 1) (w.alloc (.cells #[.slice sa bk.sts.length sc, .slice ta bk.trips.length tc] 26)) wr) (fun i _ => bk.trips.length - (intOf i).toNat)
    case atStart => exact ⟨0, Nat.zero_le _, rfl, fun j _ _ hj => by omega, Below.refl _ _⟩
    case round =>
      obtain ⟨k, hk, rfl, hgood, hbel⟩ := hrel
      have hB : Below w.heap.size w wr := hb0.trans (hbel.mono (by omega))
      have hz := hbel.size
      simp at hz
      by_cases hlt2 : k < bk.trips.length
      · have hlt : k < nss.length := by omega
        obtain ⟨b, o, ca, cc, rfl, c0, _⟩ := HNA.out.keep hB k hlt
        obtain ⟨b', o', ca', cc', rfl, d0, d1, _⟩ := HTA.out.keep hB k hlt2
        have x1 := m3 k hlt
        have x2 := n3 k hlt2
        have hi1 : (k : Int) < (nss.length : Int) := by omega
        have hi2 : (k : Int) < (bk.trips.length : Int) := by omega
        have hi0 : (0 : Int) ≤ (k : Int) := by omega
        have zb := cell_lt c0
        generalize hp : nss[k].length = p at *
        generalize hq : bk.trips[k].calls.length = q at *
        have Hp : Hid (nss[k].length = p) := hp
        have Hq : Hid (bk.trips[k].calls.length = q) := hq
        clear hp hq n3 m3 HTA HNA
        by_cases hpq : p = q
        · have hb : ((p : Int) != (q : Int)) = false := by simp [hpq]
          have HPQ : Hid (p = q) := hpq
          clear hpq
          go_wp2_with fail
          go_region
          go_wp2
          go_roundw
          case rel =>
            refine ⟨k + 1, by omega, by go_num, fun j h1 h2 hj => ?_, (hbel.alloc (by omega) _).drew⟩
            by_cases e : j = k
            · subst e; rw [Hp.out, Hq.out]; exact HPQ.out
            · exact hgood.out j h1 h2 (by omega)
          case measure => simp [intOf]; omega
        · have hb : ((p : Int) != (q : Int)) = true := by simp; omega
          have HF : Hid (shapeB bk nss = false) := shapeB_at hlt hlt2 (by rw [Hp.out, Hq.out]; exact hpq)
          clear hpq
          go_wp2_with fail
          go_region
          go_wp2
          go_ret
          exact ⟨ret_bool HF.out.symm, (hB.alloc hB.size _).drew⟩
      · have HF : Hid (shapeB bk nss = true) := shapeB_yes HL.out (fun i h1 h2 => hgood.out i h1 h2 (by omega))
        go_wp2
        go_ret
        exact ⟨ret_bool HF.out.symm, hB⟩
  · have hlb : ((nss.length : Int) != (bk.trips.length : Int)) = true := by simp; omega
    have HF : Hid (shapeB bk nss = false) := shapeB_len hl
    clear hl
    go_enter Tryd.func79, Tryd.ntmps79
    go_wp2
    go_ret
    exact ⟨ret_bool HF.out.symm, hb0⟩

end Go.Proofs.YtjioingdpfgadaaDoor
