import Derived.Test.YtjioingdpfgadaaDoorProg
import Derived.Test.YtjioingdpfgadaaDoorImplJM
import Derived.Test.YtjioingdpfgadaaDoorSpecRM
import Derived.Test.YtjioingdpfgadaaDoorToM
import Derived.WalkSmall
import Derived.BigQuiet
import Derived.Deep.QuietTactic
namespace Go.Proofs.YtjioingdpfgadaaDoor
open Go Go.RowKit Go.Deep

theorem uMs : Tryd.prog.underlying 101 = some (.slice 110) := by kernel_rfl
theorem infMs : (Tryd.prog.info? 110).map (fun i => (i.zero, i.size, i.bytes)) = some (some .nilIface, 1, 16) := by kernel_rfl
/-- What readReports hands back. -/
def MsgsOf (bk : BookD) (rs : List RepD) (w' : World) (e : Ending) : Prop :=
  (reportsB bk rs = false ∧ e = .returned (.tuple #[.slice none 0 0, .bool false])) ∨
  (reportsB bk rs = true ∧ ∃ b, e = .returned (.tuple #[.slice (some ⟨b, 0, none⟩) rs.length rs.length, .bool true]) ∧ ∀ i (h : i < rs.length), w'.cell? ⟨b, i, none⟩ = some (readV bk rs[i]))
theorem reportsB_wrong {bk : BookD} {rs : List RepD} (h : ((faultD bk).1 == 0) = false) : reportsB bk rs = false := by simp [reportsB, h]
theorem reportsB_many {bk : BookD} {rs : List RepD} (h : ¬ rs.length ≤ 500) : reportsB bk rs = false := by simp [reportsB, h]

set_option maxRecDepth 100000 in
set_option maxHeartbeats 4000000 in
theorem readReports_any (v : Value) (bk : BookD) (ra : Option Addr) (rc : Nat) (rs : List RepD) (w : World) (hn : bookSize bk ≤ 1048576) (hm : rs.length ≤ 1048576) (hwf : ∀ t ∈ bk.trips, ∀ i (h : i < t.calls.length), (Lit.int .i64 t.calls[i].st).wf = true) (hat : BookAt w v bk) (hra : RepsAt w ra rs) (hev : ErrVars w) :
    Calls Tryd.prog 54 #[v, .slice ra rs.length rc] w fun e w' => MsgsOf bk rs w' e ∧ Below w.heap.size w w' := by
  obtain ⟨sa, sc, ta, tc, rfl, hsa, hta⟩ := hat
  have HBK : Hid (BookAt w (.agg #[.slice sa bk.sts.length sc, .slice ta bk.trips.length tc]) bk) := ⟨sa, sc, ta, tc, rfl, hsa, hta⟩
  have HWF : Hid (∀ t ∈ bk.trips, ∀ i (h : i < t.calls.length), (Lit.int .i64 t.calls[i].st).wf = true) := hwf
  have HRA : Hid (RepsAt w ra rs) := hra
  clear hsa hta hwf hra
  have hb0 := ibox w (.cells #[.slice sa bk.sts.length sc, .slice ta bk.trips.length tc] 26)
  cases hok : ((faultD bk).1 == 0)
  · have HF : Hid (reportsB bk rs = false) := reportsB_wrong hok
    go_enter Tryd.func54, Tryd.ntmps54
    go_wp2_with fail
    refine (isRight_any _ bk _ hn HWF.out (by exact HBK.out.keep hb0) (by exact hev.keep hb0)).mono ?_
    rintro e w1 ⟨rfl, hb1⟩
    rw [hok]
    go_wp2_with fail
    refine bodyPost_ret (v := .tuple #[.slice none 0 0, .bool false]) (by simp [results, Tryd.results54, go_sem]) rfl ⟨Or.inl ⟨HF.out, rfl⟩, hb0.trans (hb1.mono (by simp))⟩
  · have H0 : Hid ((faultD bk).1 = 0) := by unfold Hid; simpa using hok
    by_cases h5 : rs.length ≤ 500
    · have h5' : (rs.length : Int) ≤ 500 := by omega
      have hmk := run_make_wide 101 110 .nilIface 1 16 uMs infMs .i64 .i64 rs.length (by omega) (by omega)
      go_enter Tryd.func54, Tryd.ntmps54
      go_wp2_with fail
      refine (isRight_any _ bk _ hn HWF.out (by exact HBK.out.keep hb0) (by exact hev.keep hb0)).mono ?_
      rintro e w1 ⟨rfl, hb1⟩
      rw [hok]
      have B1 : Below (w.heap.size + 1) (w.alloc (.cells #[.slice sa bk.sts.length sc, .slice ta bk.trips.length tc] 26)) w1 := hb1.mono (by simp)
      have hB1 : Below w.heap.size w w1 := hb0.trans (B1.mono (by omega))
      have q0 : w1.cell? ⟨w.heap.size, 0, none⟩ = some (.slice sa bk.sts.length sc) := by rw [B1.cell (p := ⟨w.heap.size, 0, none⟩) (by simp)]; simp [go_sem]
      have q1 : w1.cell? ⟨w.heap.size, 1, none⟩ = some (.slice ta bk.trips.length tc) := by rw [B1.cell (p := ⟨w.heap.size, 1, none⟩) (by simp)]; simp [go_sem]
      obtain ⟨f0, hf0⟩ := rowIs_wide w1 #[.nilIface] (rs.length * 1) 110
      have z1 := cell_lt q0
      clear hb1 B1
      go_wp2_with fail
      go_loopw [22] (fun i wr => ∃ k : Nat, k ≤ rs.length ∧ i = .int .i64 k ∧ (∃ f, wr.rowIs w1.heap.size 110 rs.length f ∧ Hid (∀ j (_ : j < k) (h : j < rs.length), f j = readV bk rs[j])) ∧ Hid (∀ j, j < k → repAtB bk rs j = true) ∧ Below w1.heap.size w1 wr) (fun i _ => rs.length - (intOf i).toNat)
      case atStart =>
        rw [Nat.mul_one] at hf0
        exact ⟨0, Nat.zero_le _, rfl, ⟨f0, by simpa using hf0, fun j hj => by omega⟩, fun j hj => by omega, (Below.refl _ _).alloc (Nat.le_refl _) _⟩
      case round =>
        obtain ⟨k, hk, rfl, ⟨f, hrow, hf⟩, hgood, hbel⟩ := hrel
        have hB : Below w.heap.size w wr := hB1.trans (hbel.mono hB1.size)
        have a0 := cell_keep hbel q0
        have a1 := cell_keep hbel q1
        have hmb := hrow.lt
        clear hmk hf0 q0 q1
        by_cases hlt : k < rs.length
        · obtain ⟨b, o, rfl, c0, c1, c2, c3, c4⟩ := HRA.out.keep hB k hlt
          have HA : Hid (repAtB bk rs k = (reportB bk rs[k] && decide (prevTick rs k ≤ rs[k].tick))) := repAtB_at bk rs k hlt
          have HE : Hid (∀ j (_ : j < k + 1) (h : j < rs.length), (if j = k then readV bk rs[k] else f j) = readV bk rs[j]) := fun j hj h => by
            by_cases e : j = k
            · subst e; rw [if_pos rfl]
            · rw [if_neg e]; exact hf.out j (by omega) h
          have HPV : Hid (∀ m, k = m + 1 → ∃ p, prevTick rs k = p ∧ wr.cell? ⟨b, o + m * 5, none⟩ = some (.int .i64 p)) := fun m e => by
            have hm' : m < rs.length := by omega
            obtain ⟨b', o', e', d0, _⟩ := HRA.out.keep hB m hm'
            simp only [Option.some.injEq, Addr.mk.injEq] at e'
            obtain ⟨rfl, rfl, _⟩ := e'
            exact ⟨_, by rw [e]; exact prevTick_succ rs m hm', d0⟩
          have HGK : Hid (∀ j, j < k → repAtB bk rs j = true) := hgood
          have HP0 : Hid (k = 0 → prevTick rs k = 0) := fun e => by rw [e]; rfl
          generalize rs[k] = r at *
          have H1 : Hid (repV r = .agg #[.int .i64 r.tick, .int .i64 r.op, .int .i64 r.trip, .int .i64 r.call, .int .i64 r.n]) := rfl
          obtain ⟨W2, hW2⟩ : ∃ W2, wr.alloc (.cells #[.int .i64 r.tick, .int .i64 r.op, .int .i64 r.trip, .int .i64 r.call, .int .i64 r.n] 45) = W2 := ⟨_, rfl⟩
          have hb2 : Below wr.heap.size wr W2 := by subst hW2; exact ibox _ _
          have r0 : W2.cell? ⟨wr.heap.size, 0, none⟩ = some (.int .i64 r.tick) := by subst hW2; simp [go_sem]
          have r1 : W2.cell? ⟨wr.heap.size, 1, none⟩ = some (.int .i64 r.op) := by subst hW2; simp [go_sem]
          have r2 : W2.cell? ⟨wr.heap.size, 2, none⟩ = some (.int .i64 r.trip) := by subst hW2; simp [go_sem]
          have r3 : W2.cell? ⟨wr.heap.size, 3, none⟩ = some (.int .i64 r.call) := by subst hW2; simp [go_sem]
          have r4 : W2.cell? ⟨wr.heap.size, 4, none⟩ = some (.int .i64 r.n) := by subst hW2; simp [go_sem]
          have e0 := cell_keep hb2 a0
          have e1 := cell_keep hb2 a1
          have hB2 : Below w.heap.size w W2 := hB.trans (hb2.mono hB.size)
          have hbel2 : Below w1.heap.size w1 W2 := hbel.trans (hb2.mono hbel.size)
          have hki : (k : Int) < (rs.length : Int) := by omega
          have hk0 : (0 : Int) ≤ (k : Int) := by omega
          go_wp2_with fail
          rw [← H1.out]
          refine (readReport_any _ bk r _ hn H0.out (by exact HBK.out.keep hB2)).mono ?_
          rintro e w3 ⟨rfl, hb3⟩
          have hB3 : Below w.heap.size w w3 := hB2.trans (hb3.mono hB2.size)
          have hbel3 : Below w1.heap.size w1 w3 := hbel2.trans (hb3.mono hbel2.size)
          have C3 : Below wr.heap.size wr w3 := hb2.trans (hb3.mono hb2.size)
          have hrow3 := hrow.of_block (C3.block _ hmb)
          have hmb3 := hrow3.lt
          have hfr3 := hrow3.frozen k
          have hce3 := hrow3.cell hlt
          have t0 := cell_keep hb3 r0
          have zt := cell_lt r0
          have HPV3 : Hid (∀ m, k = m + 1 → ∃ p, prevTick rs k = p ∧ w3.cell? ⟨b, o + m * 5, none⟩ = some (.int .i64 p) ∧ b < w1.heap.size) := fun m e => by
            obtain ⟨p, e1, e2⟩ := HPV.out m e
            exact ⟨p, e1, cell_keep C3 e2, by
              obtain ⟨b', o', e', d0, _⟩ := HRA.out.keep hB1 m (by omega)
              simp only [Option.some.injEq, Addr.mk.injEq] at e'
              obtain ⟨rfl, rfl, _⟩ := e'
              exact cell_lt d0⟩
          clear r0 r1 r2 r3 r4 e0 e1 a0 a1 c0 c1 c2 c3 c4 hW2 hb2 hb3 HPV hrow hf hB hB2 hbel hbel2 z1 C3
          have hq1 := eqlNone
          have hq2 := eqlMsg
          cases hr : reportB bk r
          · have HF : Hid (reportsB bk rs = false) := reportsB_no hlt (by rw [HA.out, hr]; rfl)
            rw [readV_no hr]
            obtain ⟨W4, hW4⟩ : ∃ W4, w3.setCell ⟨w1.heap.size, k, none⟩ .nilIface = W4 := ⟨_, rfl⟩
            have s0 : W4.cell? ⟨w1.heap.size, k, none⟩ = some .nilIface := by rw [← hW4]; exact World.cell?_setCell_same _ _ _ hce3
            have hB4 : Below w.heap.size w W4 := by rw [← hW4]; exact hB3.setCell hB1.size _
            go_wp2_with fail
            go_quiet (fail)
            go_wp2_with fail
            refine bodyPost_ret (v := .tuple #[.slice none 0 0, .bool false]) (by simp [results, Tryd.results54, go_sem]) rfl ⟨Or.inl ⟨HF.out, rfl⟩, below_drewN hB4 _⟩
          · rw [readV_yes hr]
            obtain ⟨t, m, hmv⟩ := msgV_iface r (lastB bk r)
            have HV : Hid (readV bk r = .iface t m) := by unfold Hid; rw [readV_yes hr, hmv]
            rw [hmv]
            obtain ⟨W4, hW4⟩ : ∃ W4, w3.setCell ⟨w1.heap.size, k, none⟩ (.iface t m) = W4 := ⟨_, rfl⟩
            have s0 : W4.cell? ⟨w1.heap.size, k, none⟩ = some (.iface t m) := by rw [← hW4]; exact World.cell?_setCell_same _ _ _ hce3
            have t4 : W4.cell? ⟨wr.heap.size, 0, none⟩ = some (.int .i64 r.tick) := by rw [← hW4, cell_other (by show wr.heap.size ≠ w1.heap.size; omega)]; exact t0
            have hB4 : Below w.heap.size w W4 := by rw [← hW4]; exact hB3.setCell hB1.size _
            have hbel4 : Below w1.heap.size w1 W4 := by rw [← hW4]; exact hbel3.setCell (Nat.le_refl _) _
            have HR4 : Hid (∃ f, W4.rowIs w1.heap.size 110 rs.length f ∧ Hid (∀ j (_ : j < k + 1) (h : j < rs.length), f j = readV bk rs[j])) := by
              refine ⟨_, by rw [← hW4]; exact hrow3.set k _, fun j hj h => ?_⟩
              rw [← HV.out]
              exact HE.out j hj h
            have HR : Hid (reportB bk r = true) := hr
            clear hmv hr hrow3 t0
            by_cases hkz : k = 0
            · have HT : Hid (repAtB bk rs k = true) := by
                unfold Hid
                rw [HA.out, HR.out, HP0.out hkz]
                have := (reportB_head HR.out).2.1.1
                simp [this]
              have hg : decide ((0 : Int) < (k : Int)) = false := decide_eq_false (by omega)
              have hg2 : decide (0 < k) = false := decide_eq_false (by omega)
              clear hkz
              go_wp2_with fail
              go_quiet (fail)
              go_wp2_with fail
              go_roundw
              case rel =>
                refine ⟨k + 1, by omega, by go_num, HR4.out, fun j hj => ?_, below_drewN hbel4 _⟩
                by_cases e : j = k
                · subst e; exact HT.out
                · exact HGK.out j (by omega)
              case measure => simp [intOf]; omega
            · obtain ⟨m', rfl⟩ : ∃ m', k = m' + 1 := ⟨k - 1, by omega⟩
              obtain ⟨p, hp, hpc, hbl⟩ := HPV3.out m' rfl
              have hp4 : W4.cell? ⟨b, o + m' * 5, none⟩ = some (.int .i64 p) := by rw [← hW4, cell_other (by show b ≠ w1.heap.size; omega)]; exact hpc
              have j0 : ((↑(m' + 1) : Int) - 1) = (m' : Int) := by omega
              have j1 : (0 : Int) < ((m' + 1 : Nat) : Int) := by omega
              have j2 : (m' : Int) < (rs.length : Int) := by omega
              have j3 : (0 : Int) ≤ (m' : Int) := by omega
              clear hpc hkz
              by_cases hlt2 : r.tick < p
              · have HF : Hid (reportsB bk rs = false) := reportsB_no hlt (by rw [HA.out, HR.out, hp, decide_eq_false (by omega)]; rfl)
                go_wp2_with fail
                go_quiet (fail)
                go_wp2_with fail
                refine bodyPost_ret (v := .tuple #[.slice none 0 0, .bool false]) (by simp [results, Tryd.results54, go_sem]) rfl ⟨Or.inl ⟨HF.out, rfl⟩, below_drewN hB4 _⟩
              · have HT : Hid (repAtB bk rs (m' + 1) = true) := by
                  unfold Hid
                  rw [HA.out, HR.out, hp, decide_eq_true (by omega)]; rfl
                have hg : decide (r.tick < p) = false := decide_eq_false hlt2
                go_wp2_with fail
                go_quiet (fail)
                go_wp2_with fail
                go_roundw
                case rel =>
                  refine ⟨m' + 1 + 1, by omega, by go_num, HR4.out, fun j hj => ?_, below_drewN hbel4 _⟩
                  by_cases e : j = m' + 1
                  · subst e; exact HT.out
                  · exact HGK.out j (by omega)
                case measure => simp [intOf]; omega
        · have HF : Hid (reportsB bk rs = true) := by unfold Hid; rw [reportsB_all (fun j hj => hgood.out j (by omega)), hok]; simp [h5]
          go_wp2_with fail
          refine bodyPost_ret (v := .tuple #[.slice (some ⟨w1.heap.size, 0, none⟩) rs.length rs.length, .bool true]) (by simp [results, Tryd.results54, go_sem]) rfl ⟨Or.inr ⟨HF.out, _, rfl, fun i h => ?_⟩, hB⟩
          rw [hrow.cell h, hf.out i (by omega) h]
    · have HF : Hid (reportsB bk rs = false) := reportsB_many h5
      have h5' : (500 : Int) < (rs.length : Int) := by omega
      go_enter Tryd.func54, Tryd.ntmps54
      go_wp2_with fail
      refine (isRight_any _ bk _ hn HWF.out (by exact HBK.out.keep hb0) (by exact hev.keep hb0)).mono ?_
      rintro e w1 ⟨rfl, hb1⟩
      rw [hok]
      go_wp2_with fail
      refine bodyPost_ret (v := .tuple #[.slice none 0 0, .bool false]) (by simp [results, Tryd.results54, go_sem]) rfl ⟨Or.inl ⟨HF.out, rfl⟩, hb0.trans (hb1.mono (by simp))⟩

end Go.Proofs.YtjioingdpfgadaaDoor
