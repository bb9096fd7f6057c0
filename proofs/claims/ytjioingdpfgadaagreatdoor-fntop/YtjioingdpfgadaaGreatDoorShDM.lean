import Derived.Test.YtjioingdpfgadaaGreatDoorProg
import Derived.Test.YtjioingdpfgadaaGreatDoorShAM
import Derived.Deep.RegionHeld3
import Derived.Test.YtjioingdpfgadaaGreatDoorShelfM
import Derived.Test.YtjioingdpfgadaaGreatDoorBaseM
import Derived.Shelf.Strings.BuilderK
import Derived.Test.YtjioingdpfgadaaGreatDoorBrdJM
import Derived.Test.YtjioingdpfgadaaGreatDoorSayIM
import Derived.Test.YtjioingdpfgadaaGreatDoorSayTM
namespace Go.Proofs.YtjioingdpfgadaaGreatDoor
open Go Go.RowKit Go.Deep

set_option maxRecDepth 100000 in
set_option maxHeartbeats 8000000 in
/-- The program's line, given what strconv.Itoa answers (Tab: what it asks of a world). -/
theorem lineOf_by (Tab : World → Prop) (v : Value) (bk : BookD) (r : RowD) (w : World) (hok : RowOk bk r) (hat : BookAt w v bk) (htab : Tab w) (hkeep : ∀ w w', Below w.heap.size w w' → Tab w → Tab w')
    (hit : ∀ (k : Nat) (w : World), k ≤ 1000000000000 → Tab w → Calls Tryz.prog 60 #[.int .i64 k] w fun e w' => e = .returned (.string (decB k)) ∧ Below w.heap.size w w') :
    Calls Tryz.prog 39 #[v, rowV r] w fun e w' => e = .returned (.string (lineS bk r)) ∧ Below w.heap.size w w' := by
  have HIT : Hid (∀ (k : Nat) (w : World), k ≤ 1000000000000 → Tab w → Calls Tryz.prog 60 #[.int .i64 k] w fun e w' => e = .returned (.string (decB k)) ∧ Below w.heap.size w w') := hit
  have HTB : Hid (∀ w w', Below w.heap.size w w' → Tab w → Tab w') := hkeep
  unfold rowV
  obtain ⟨⟨j0, j1⟩, ⟨q0, q1⟩, ⟨d0, d1⟩, ⟨e0, e1⟩, ⟨t0, t1⟩, ⟨st0, st1⟩, nms, sts⟩ := hok
  obtain ⟨j, hj⟩ := Int.eq_ofNat_of_zero_le j0
  obtain ⟨q, hq⟩ := Int.eq_ofNat_of_zero_le q0
  obtain ⟨d, hd⟩ := Int.eq_ofNat_of_zero_le d0
  obtain ⟨x, hx⟩ := Int.eq_ofNat_of_zero_le e0
  obtain ⟨t, ht⟩ := Int.eq_ofNat_of_zero_le (show 0 ≤ r.track by omega)
  have hjl : j < bk.trips.length := by omega
  have hql : q < bk.sts.length := by omega
  obtain ⟨sa, sc, ta, tc, rfl, hsa, hta⟩ := hat
  obtain ⟨bt, ot, ca, cc, rfl, n0, _, _⟩ := hta j hjl
  obtain ⟨bs, os, rfl, m0⟩ := hsa q hql
  have HH : Hid (headS bk r = decB (d : Int) ++ ⟨#[32]⟩ ++ bk.trips[j].name ++ ⟨#[32]⟩ ++ bk.sts[q] ++ ⟨#[32, 116, 114, 97, 99, 107, 32]⟩ ++ decB (t : Int)) := by
    unfold Hid headS nameOf toOf
    rw [hd, hj, hq, ht, Int.toNat_natCast, Int.toNat_natCast]
    rw [List.getElem?_eq_getElem hjl, List.getElem?_eq_getElem hql]
    rfl
  have HX : Hid (decB r.expect = decB (x : Int)) := by unfold Hid; rw [hx]
  have hn20 : bk.trips[j].name.size ≤ 20 := by
    have e : nameOf bk r = bk.trips[j].name := by unfold nameOf; rw [hj, Int.toNat_natCast, List.getElem?_eq_getElem hjl]; rfl
    rw [e] at nms; exact nms
  have hs20 : bk.sts[q].size ≤ 20 := by
    have e : toOf bk r = bk.sts[q] := by unfold toOf; rw [hq, Int.toNat_natCast, List.getElem?_eq_getElem hql]; rfl
    rw [e] at sts; exact sts
  have HSTA : Hid (r.state = 1 ∨ r.state = 2 ∨ r.state = 3 ∨ r.state = 0) := by unfold Hid; omega
  have hd6 : d ≤ 1000000000000 := by omega
  have ht6 : t ≤ 1000000000000 := by omega
  have hx6 : x ≤ 1000000000000 := by omega
  rw [hj, hq, hd, hx, ht]
  obtain ⟨W, hW⟩ : ∃ W, (w.alloc (.cells #[.slice (some ⟨bs, os, none⟩) bk.sts.length sc, .slice (some ⟨bt, ot, none⟩) bk.trips.length tc] 26)).alloc (.cells #[.int .i64 j, .int .i64 q, .int .i64 d, .int .i64 x, .int .i64 t, .int .i64 r.state] 52) = W := ⟨_, rfl⟩
  have bW : Below w.heap.size w W := by subst hW; exact ((Below.refl _ _).alloc (Nat.le_refl _) _).alloc (by simp) _
  have HTW : Hid (Tab W) := hkeep _ _ bW htab
  have HTD : Hid (Tab W.drew) := hkeep _ _ (Below.refl _ _).drew HTW.out
  have p0 : W.cell? ⟨w.heap.size, 0, none⟩ = some (.slice (some ⟨bs, os, none⟩) bk.sts.length sc) := by subst hW; simp [go_sem]
  have p1 : W.cell? ⟨w.heap.size, 1, none⟩ = some (.slice (some ⟨bt, ot, none⟩) bk.trips.length tc) := by subst hW; simp [go_sem]
  have g0 : W.cell? ⟨w.heap.size + 1, 0, none⟩ = some (.int .i64 j) := by subst hW; simp [go_sem]
  have g1 : W.cell? ⟨w.heap.size + 1, 1, none⟩ = some (.int .i64 q) := by subst hW; simp [go_sem]
  have g2 : W.cell? ⟨w.heap.size + 1, 2, none⟩ = some (.int .i64 d) := by subst hW; simp [go_sem]
  have g3 : W.cell? ⟨w.heap.size + 1, 3, none⟩ = some (.int .i64 x) := by subst hW; simp [go_sem]
  have g4 : W.cell? ⟨w.heap.size + 1, 4, none⟩ = some (.int .i64 t) := by subst hW; simp [go_sem]
  have g5 : W.cell? ⟨w.heap.size + 1, 5, none⟩ = some (.int .i64 r.state) := by subst hW; simp [go_sem]
  have k2 := cell_keep bW n0
  have k3 := cell_keep bW m0
  have hj1 : (j : Int) < (bk.trips.length : Int) := by omega
  have hj0 : (0 : Int) ≤ (j : Int) := by omega
  have hq1 : (q : Int) < (bk.sts.length : Int) := by omega
  have hq0 : (0 : Int) ≤ (q : Int) := by omega
  have hD20 : (decB (d : Int)).size ≤ 20 := by have := decL_len d; simpa [decB, ByteArray.size] using this
  have hT20 : (decB (t : Int)).size ≤ 20 := by have := decL_len t; simpa [decB, ByteArray.size] using this
  have hX20 : (decB (x : Int)).size ≤ 20 := by have := decL_len x; simpa [decB, ByteArray.size] using this
  generalize bk.trips[j].name = nm at *
  generalize bk.sts[q] = sn at *
  have E1 : ∀ w, (Op.stringOp .add (decB (d : Int)) ⟨#[32]⟩).run Tryz.prog w = .ok (.string (decB (d : Int) ++ ⟨#[32]⟩)) w := fun w => run_string_add_sum w _ _ (by show (decB (d : Int)).size + 1 ≤ _; omega)
  have E2 : ∀ w, (Op.stringOp .add (decB (d : Int) ++ ⟨#[32]⟩) nm).run Tryz.prog w = .ok (.string (decB (d : Int) ++ ⟨#[32]⟩ ++ nm)) w := fun w => run_string_add_sum w _ _ (by rw [ByteArray.size_append]; show (decB (d : Int)).size + 1 + nm.size ≤ _; omega)
  have E3 : ∀ w, (Op.stringOp .add (decB (d : Int) ++ ⟨#[32]⟩ ++ nm) ⟨#[32]⟩).run Tryz.prog w = .ok (.string (decB (d : Int) ++ ⟨#[32]⟩ ++ nm ++ ⟨#[32]⟩)) w := fun w => run_string_add_sum w _ _ (by simp only [ByteArray.size_append]; show (decB (d : Int)).size + 1 + nm.size + 1 ≤ _; omega)
  have E4 : ∀ w, (Op.stringOp .add (decB (d : Int) ++ ⟨#[32]⟩ ++ nm ++ ⟨#[32]⟩) sn).run Tryz.prog w = .ok (.string (decB (d : Int) ++ ⟨#[32]⟩ ++ nm ++ ⟨#[32]⟩ ++ sn)) w := fun w => run_string_add_sum w _ _ (by simp only [ByteArray.size_append]; show (decB (d : Int)).size + 1 + nm.size + 1 + sn.size ≤ _; omega)
  have E5 : ∀ w, (Op.stringOp .add (decB (d : Int) ++ ⟨#[32]⟩ ++ nm ++ ⟨#[32]⟩ ++ sn) ⟨#[32, 116, 114, 97, 99, 107, 32]⟩).run Tryz.prog w = .ok (.string (decB (d : Int) ++ ⟨#[32]⟩ ++ nm ++ ⟨#[32]⟩ ++ sn ++ ⟨#[32, 116, 114, 97, 99, 107, 32]⟩)) w := fun w => run_string_add_sum w _ _ (by simp only [ByteArray.size_append]; show (decB (d : Int)).size + 1 + nm.size + 1 + sn.size + 7 ≤ _; omega)
  have E6 : ∀ w, (Op.stringOp .add (decB (d : Int) ++ ⟨#[32]⟩ ++ nm ++ ⟨#[32]⟩ ++ sn ++ ⟨#[32, 116, 114, 97, 99, 107, 32]⟩) (decB (t : Int))).run Tryz.prog w = .ok (.string (decB (d : Int) ++ ⟨#[32]⟩ ++ nm ++ ⟨#[32]⟩ ++ sn ++ ⟨#[32, 116, 114, 97, 99, 107, 32]⟩ ++ decB (t : Int))) w := fun w => run_string_add_sum w _ _ (by simp only [ByteArray.size_append]; show (decB (d : Int)).size + 1 + nm.size + 1 + sn.size + 7 + (decB (t : Int)).size ≤ _; omega)
  clear hj hq hd hx ht j0 j1 q0 q1 d0 d1 e0 e1 t0 t1 st0 st1 n0 m0 hsa hta htab hkeep hit nms sts
  go_enter Tryz.func39, Tryz.ntmps39
  go_upto_region 1 with fail
  clear hW
  go_region_held3 (fun w' => w'.cell? ⟨w.heap.size + 1, 0, none⟩ = some (.int .i64 j) ∧ w'.cell? ⟨w.heap.size + 1, 1, none⟩ = some (.int .i64 q) ∧ w'.cell? ⟨w.heap.size + 1, 2, none⟩ = some (.int .i64 d) ∧ w'.cell? ⟨w.heap.size + 1, 4, none⟩ = some (.int .i64 t) ∧ w'.cell? ⟨w.heap.size, 0, none⟩ = some (.slice (some ⟨bs, os, none⟩) bk.sts.length sc) ∧ w'.cell? ⟨w.heap.size, 1, none⟩ = some (.slice (some ⟨bt, ot, none⟩) bk.trips.length tc) ∧ w'.cell? ⟨bt, ot + j * 2, none⟩ = some (.string nm) ∧ w'.cell? ⟨bs, os + q, none⟩ = some (.string sn))
    (first | exact ⟨cell_keep hb4 (cell_keep hb3 (by exact g0)), cell_keep hb4 (cell_keep hb3 (by exact g1)), cell_keep hb4 (cell_keep hb3 (by exact g2)), cell_keep hb4 (cell_keep hb3 (by exact g4)), cell_keep hb4 (cell_keep hb3 (by exact p0)), cell_keep hb4 (cell_keep hb3 (by exact p1)), cell_keep hb4 (cell_keep hb3 (by exact k2)), cell_keep hb4 (cell_keep hb3 (by exact k3))⟩ | exact ⟨cell_keep hb3 (by exact g0), cell_keep hb3 (by exact g1), cell_keep hb3 (by exact g2), cell_keep hb3 (by exact g4), cell_keep hb3 (by exact p0), cell_keep hb3 (by exact p1), cell_keep hb3 (by exact k2), cell_keep hb3 (by exact k3)⟩ | go_keep)
    (first | (go_at_call 60; first | (have _ := hb3; refine (HIT.out _ _ (by omega) (by exact HTB.out _ _ hb3 (by exact HTD.out))).mono ?_; rintro e w4 ⟨rfl, hb4⟩) | (refine (HIT.out _ _ (by omega) (by exact HTD.out)).mono ?_; rintro e w3 ⟨rfl, hb3⟩)))
  have B4 : Below W.heap.size W w4 := ((Below.refl _ _).drew.trans (by exact hb3)).trans (hb4.mono (by have := hb3.size; exact this))
  have y5 := cell_keep B4 g5
  have y3 := cell_keep B4 g3
  have hB4 : Below w.heap.size w w4 := bW.trans (B4.mono bW.size)
  have HT4 : Hid (Tab w4) := HTB.out _ _ B4 HTW.out
  obtain ⟨A1, hA1⟩ : ∃ A1 : ByteArray, decB (d : Int) ++ ⟨#[32]⟩ ++ nm ++ ⟨#[32]⟩ ++ sn ++ ⟨#[32, 116, 114, 97, 99, 107, 32]⟩ ++ decB (t : Int) = A1 := ⟨_, rfl⟩
  have hA1s : A1.size ≤ 8100 := by rw [← hA1]; simp only [ByteArray.size_append]; show (decB (d : Int)).size + 1 + nm.size + 1 + sn.size + 7 + (decB (t : Int)).size ≤ 8100; omega
  rw [hA1] at HH
  clear E1 E2 E3 E4 E5 E6 hb3 hb4 g0 g1 g2 g3 g4 g5 p0 p1 k2 k3
  rcases HSTA.out with hst | hst | hst | hst
  · have y5' : w4.cell? ⟨w.heap.size + 1, 5, none⟩ = some (.int .i64 1) := by rw [hst] at y5; exact y5
    clear y5
    have E8 : ∀ w, (Op.stringOp .add ⟨#[32, 101, 120, 112, 101, 99, 116, 101, 100, 32]⟩ (decB (x : Int))).run Tryz.prog w = .ok (.string (⟨#[32, 101, 120, 112, 101, 99, 116, 101, 100, 32]⟩ ++ decB (x : Int))) w := fun w => run_string_add_sum w _ _ (by show 10 + _ ≤ _; omega)
    have E9 : ∀ w, (Op.stringOp .add A1 (⟨#[32, 101, 120, 112, 101, 99, 116, 101, 100, 32]⟩ ++ decB (x : Int))).run Tryz.prog w = .ok (.string (A1 ++ (⟨#[32, 101, 120, 112, 101, 99, 116, 101, 100, 32]⟩ ++ decB (x : Int)))) w := fun w => run_string_add_sum w _ _ (by simp only [ByteArray.size_append]; show A1.size + (10 + _) ≤ _; omega)
    have E10 : ∀ w, (Op.stringOp .add (A1 ++ (⟨#[32, 101, 120, 112, 101, 99, 116, 101, 100, 32]⟩ ++ decB (x : Int))) ⟨#[10]⟩).run Tryz.prog w = .ok (.string (A1 ++ (⟨#[32, 101, 120, 112, 101, 99, 116, 101, 100, 32]⟩ ++ decB (x : Int)) ++ ⟨#[10]⟩)) w := fun w => run_string_add_sum w _ _ (by simp only [ByteArray.size_append]; show A1.size + (10 + _) + 1 ≤ _; omega)
    have HTL : Hid (tailS r = (⟨#[32, 101, 120, 112, 101, 99, 116, 101, 100, 32]⟩ ++ decB (x : Int))) := by unfold Hid tailS; rw [if_pos hst, HX.out]
    clear hst
    go_wp2_with fail
    refine (HIT.out _ _ (by omega) (by exact HT4.out)).mono ?_
    rintro e w5 ⟨rfl, hb5⟩
    have hB5 : Below w.heap.size w w5 := hB4.trans (hb5.mono hB4.size)
    clear hb5
    go_wp2_with fail
    go_ret
    exact ⟨ret_str (by unfold lineS; rw [HH.out, HTL.out]), hB5⟩
  · have y5' : w4.cell? ⟨w.heap.size + 1, 5, none⟩ = some (.int .i64 2) := by rw [hst] at y5; exact y5
    clear y5
    have E9 : ∀ w, (Op.stringOp .add A1 ⟨#[32, 104, 101, 114, 101]⟩).run Tryz.prog w = .ok (.string (A1 ++ ⟨#[32, 104, 101, 114, 101]⟩)) w := fun w => run_string_add_sum w _ _ (by show A1.size + 5 ≤ _; omega)
    have E10 : ∀ w, (Op.stringOp .add (A1 ++ ⟨#[32, 104, 101, 114, 101]⟩) ⟨#[10]⟩).run Tryz.prog w = .ok (.string (A1 ++ ⟨#[32, 104, 101, 114, 101]⟩ ++ ⟨#[10]⟩)) w := fun w => run_string_add_sum w _ _ (by simp only [ByteArray.size_append]; show A1.size + 5 + 1 ≤ _; omega)
    have HTL : Hid (tailS r = ⟨#[32, 104, 101, 114, 101]⟩) := by unfold Hid tailS; rw [if_neg (by omega), if_pos hst]
    clear hst
    go_wp2_with fail
    go_ret
    exact ⟨ret_str (by unfold lineS; rw [HH.out, HTL.out]), hB4⟩
  · have y5' : w4.cell? ⟨w.heap.size + 1, 5, none⟩ = some (.int .i64 3) := by rw [hst] at y5; exact y5
    clear y5
    have E9 : ∀ w, (Op.stringOp .add A1 ⟨#[32, 99, 97, 108, 108, 101, 100, 32, 111, 102, 102]⟩).run Tryz.prog w = .ok (.string (A1 ++ ⟨#[32, 99, 97, 108, 108, 101, 100, 32, 111, 102, 102]⟩)) w := fun w => run_string_add_sum w _ _ (by show A1.size + 11 ≤ _; omega)
    have E10 : ∀ w, (Op.stringOp .add (A1 ++ ⟨#[32, 99, 97, 108, 108, 101, 100, 32, 111, 102, 102]⟩) ⟨#[10]⟩).run Tryz.prog w = .ok (.string (A1 ++ ⟨#[32, 99, 97, 108, 108, 101, 100, 32, 111, 102, 102]⟩ ++ ⟨#[10]⟩)) w := fun w => run_string_add_sum w _ _ (by simp only [ByteArray.size_append]; show A1.size + 11 + 1 ≤ _; omega)
    have HTL : Hid (tailS r = ⟨#[32, 99, 97, 108, 108, 101, 100, 32, 111, 102, 102]⟩) := by unfold Hid tailS; rw [if_neg (by omega), if_neg (by omega), if_pos hst]
    clear hst
    go_wp2_with fail
    go_ret
    exact ⟨ret_str (by unfold lineS; rw [HH.out, HTL.out]), hB4⟩
  · have y5' : w4.cell? ⟨w.heap.size + 1, 5, none⟩ = some (.int .i64 0) := by rw [hst] at y5; exact y5
    clear y5
    have E10 : ∀ w, (Op.stringOp .add A1 ⟨#[10]⟩).run Tryz.prog w = .ok (.string (A1 ++ ⟨#[10]⟩)) w := fun w => run_string_add_sum w _ _ (by show A1.size + 1 ≤ _; omega)
    have HTL : Hid (tailS r = ⟨#[]⟩) := by unfold Hid tailS; rw [if_neg (by omega), if_neg (by omega), if_neg (by omega)]
    clear hst
    go_wp2_with fail
    go_ret
    exact ⟨ret_str (by unfold lineS; rw [HH.out, HTL.out, show ∀ a : ByteArray, a ++ (⟨#[]⟩ : ByteArray) = a from fun a => ByteArray.append_empty]), hB4⟩

end Go.Proofs.YtjioingdpfgadaaGreatDoor
namespace Go.Proofs.YtjioingdpfgadaaGreatDoor
open Go Go.RowKit

set_option maxRecDepth 100000 in
set_option maxHeartbeats 1000000 in
/-- copyCheck at a builder that has been used. -/
theorem copyCheck_used (b : Nat) (w : World) (h0 : w.cell? ⟨b, 0, none⟩ = some (.pointer (some ⟨b, 0, none⟩))) :
    Calls Tryz.prog 59 #[.pointer (some ⟨b, 0, none⟩)] w fun e w' => e = .returned (.tuple #[]) ∧ w' = w := by
  obtain ⟨j, hj, _⟩ := Option.map_eq_some_iff.1 Tryz.Builder_Extra_169.toX72.sizeBuilder
  go_enter Tryz.func59, Tryz.ntmps59
  go_wp2
  rw [Lib.run_neq_ptr_same w _ Tryz.underlying90 hj]
  go_wp2
  go_end0
  exact ⟨rfl, rfl⟩

set_option maxRecDepth 100000 in
set_option maxHeartbeats 1000000 in
/-- copyCheck at a fresh builder: it stores its own address. -/
theorem copyCheck_fresh (b : Nat) (w : World) (h0 : w.cell? ⟨b, 0, none⟩ = some (.pointer none)) (hsh : w.shape? b = some (92, 2)) (hfz : w.frozen? ⟨b, 0, none⟩ = false) :
    Calls Tryz.prog 59 #[.pointer (some ⟨b, 0, none⟩)] w fun e w' => e = .returned (.tuple #[]) ∧ w' = w.setCell ⟨b, 0, none⟩ (.pointer (some ⟨b, 0, none⟩)) := by
  obtain ⟨j, hj, hjs⟩ := Option.map_eq_some_iff.1 Tryz.Builder_Extra_169.toX72.sizeBuilder
  go_enter Tryz.func59, Tryz.ntmps59
  go_wp2
  rw [Lib.run_to_unsafe w ⟨b, 0, none⟩ Tryz.underlying90 Tryz.underlying142 hj (by rw [hjs]; decide) hsh (Nat.zero_lt_succ 1)]
  simp only [Result.andThen]
  rw [Oper.upon_value]
  go_wp2
  rw [run_callFunc_extern Tryz.func73 (by kernel_rfl) (by kernel_rfl) (by kernel_rfl) (e := Extern.AbiNoEscape.same) (by kernel_rfl)]
  rw [Lib.run_noEscape]
  simp only [Result.andThen]
  rw [Oper.upon_value]
  go_wp2
  rw [Lib.run_from_unsafe w ⟨b, 0, none⟩ Tryz.underlying142 Tryz.underlying90 hj hsh Tryz.Builder_Extra_169.toX72.liesBuilder]
  simp only [Result.andThen]
  rw [Oper.upon_value]
  go_wp2
  go_end0
  exact ⟨rfl, rfl⟩

theorem copyCheck_any (B b : Nat) (bs : List Value) (w : World) (h : Lib.IsBuilderF 92 5 B b bs w) :
    Calls Tryz.prog 59 #[.pointer (some ⟨b, 0, none⟩)] w fun e w' => e = .returned (.tuple #[]) ∧ (Lib.BuilderAtF 92 5 B b (.pointer (some ⟨b, 0, none⟩)) bs w' ∧ Below B w w' ∧ Lib.OthersKept 5 (some b) w w') := by
  rcases h with h | h
  · refine (copyCheck_fresh b w h.cell0 h.shape h.frozen0).mono ?_
    rintro e w' ⟨rfl, rfl⟩
    exact ⟨rfl, h.used _, (Below.refl B w).setCell (p := ⟨b, 0, none⟩) h.1 _, (Lib.OthersKept.refl _ _ w).setCell ⟨b, 0, none⟩ rfl _⟩
  · refine (copyCheck_used b w h.cell0).mono ?_
    rintro e w' ⟨rfl, rfl⟩
    exact ⟨rfl, h, Below.refl B _, Lib.OthersKept.refl _ _ _⟩

theorem uBytesB : Tryz.prog.underlying 22 = some (.slice 5) := by kernel_rfl

set_option maxRecDepth 100000 in
set_option maxHeartbeats 2000000 in
theorem writeString_any (B b : Nat) (bs : List Value) (s : ByteArray) (w : World) (h : Lib.IsBuilderF 92 5 B b bs w) (hlen : bs.length + s.size ≤ 140737488355328) (hBw : B ≤ w.heap.size) :
    Calls Tryz.prog 38 #[.pointer (some ⟨b, 0, none⟩), .string s] w fun e w' => e = .returned (.tuple #[.int .i64 s.size, .nilIface]) ∧ (Lib.BuilderAtF 92 5 B b (.pointer (some ⟨b, 0, none⟩)) (bs ++ Lib.strCells s) w' ∧ Below B w w' ∧ Lib.OthersKept 5 (some b) w w') := by
  obtain ⟨i0, hi, hz0, hz1, hz2⟩ := info_parts Tryz.Builder_Extra_169.infoByte
  go_enter Tryz.func38, Tryz.ntmps38
  go_wp2_with fail
  refine (copyCheck_any B b bs _ h).mono ?_
  rintro e w1 ⟨rfl, h1, hb1, hk1⟩
  obtain ⟨hB, v, hbk, hown, hne⟩ := h1
  have c0 : w1.cell? ⟨b, 0, none⟩ = some (.pointer (some ⟨b, 0, none⟩)) := by rw [Lib.cell_of_heap hbk]; rfl
  have c1 : w1.cell? ⟨b, 1, none⟩ = some v := by rw [Lib.cell_of_heap hbk]; rfl
  go_wp2_with (at_builtin; refine Lib.wpList_append_own_stringF _ rfl _ _ 22 9 rfl B 5 i0 uBytesB Tryz.underlying9 hi hz0 hz1 hz2 _ _ _ rfl hown s rfl ?c3 ?c4 ?c5 ?_)
  case c3 => unfold maxLen; omega
  case c4 => omega
  case c5 => have := hb1.size; omega
  intro v' w2 hown' hgrow _
  have hlt : b < w1.heap.size := by
    rcases Nat.lt_or_ge b w1.heap.size with h' | h'
    · exact h'
    · simp [Array.getElem?_eq_none h'] at hbk
  have hb2 : w2.heap[b]? = some (.cells #[.pointer (some ⟨b, 0, none⟩), v] 92 (0, 0)) := by
    rw [hgrow.block b hlt (fun e => hne e.symm)]
    exact hbk
  have d0 : w2.cell? ⟨b, 0, none⟩ = some (.pointer (some ⟨b, 0, none⟩)) := by rw [Lib.cell_of_heap hb2]; rfl
  have d1 : w2.cell? ⟨b, 1, none⟩ = some v := by rw [Lib.cell_of_heap hb2]; rfl
  have f1 : w2.frozen? ⟨b, 1, none⟩ = false := Lib.frozen_of_heap hb2 1
  obtain ⟨ao, n', cap, rfl⟩ : ∃ ao n' cap, v' = .slice ao n' cap := by
    rcases hown'.2 with ⟨hv, _⟩ | ⟨g, cap, cur, fz, hv, _⟩
    · exact ⟨_, _, _, hv⟩
    · exact ⟨_, _, _, hv⟩
  go_wp2
  go_ret2
  refine ⟨rfl, ?_, ?_, (hk1.grown hgrow (Lib.ownsRowF_kind hown)).setCell ⟨b, 1, none⟩ rfl _⟩
  · exact Lib.BuilderAtF.put (T := 92) (e := 5) hB hb2 (bs' := bs ++ Lib.strCells s) (by simpa [Lib.strCells_length] using hown') Tryz.Builder_Extra_169.neB5
  · exact (hb1.grown hgrow (by have := hb1.size; omega) (fun k hk => (hown.lt k hk).1)).setCell (p := ⟨b, 1, none⟩) hB _

end Go.Proofs.YtjioingdpfgadaaGreatDoor
namespace Go.Proofs.YtjioingdpfgadaaGreatDoor
open Go Go.RowKit Go.Deep

theorem builder_below {T e : TypeId} {B b : Nat} {bs : List Value} {w w' : World} (h : Lib.IsBuilderF T e B b bs w) (hb : Below w.heap.size w w') : Lib.IsBuilderF T e B b bs w' := by
  have go : ∀ p, Lib.BuilderAtF T e B b p bs w → Lib.BuilderAtF T e B b p bs w' := fun p h => by
    obtain ⟨hB, v, hbk, hown, hne⟩ := h
    exact ⟨hB, v, by rw [hb.block _ (Array.getElem?_eq_some_iff.1 hbk).1]; exact hbk, hown.kept (below_grown (r := b) hb) (Or.inr hne), hne⟩
  rcases h with h | h
  · exact Or.inl (go _ h)
  · exact Or.inr (go _ h)
theorem owns_others {w w' : World} {B b : Nat} {e t : TypeId} {s n : Nat} {v : Value} {xs : List Value} (h : w.ownsRow B t s v n xs) (hk : Lib.OthersKept e (some b) w w') (hte : t ≠ e) (hb : v.ownBlock ≠ some b) : w'.ownsRow B t s v n xs := by
  refine ⟨h.1, ?_⟩
  rcases h.2 with h0 | ⟨g, cap, cur, rfl, h1, hh, r⟩
  · exact Or.inl h0
  · exact Or.inr ⟨g, cap, cur, rfl, h1, hk g _ hh (fun e => hb (by rw [← e]; rfl)) (fun c fz e2 => hte (by cases e2; rfl)), r⟩
theorem strCells_append (a b : ByteArray) : Lib.strCells (a ++ b) = Lib.strCells a ++ Lib.strCells b := by
  simp [Lib.strCells, ByteArray.data_append]

set_option maxRecDepth 100000 in
set_option maxHeartbeats 8000000 in
theorem implShown_any (v : Value) (bk : BookD) (ra : Option Addr) (rc : Nat) (rs : List RepD) (s tick rows : Int) (w : World) (hn : bookSize bk ≤ 1048576) (hm : rs.length ≤ 1048576) (hwf : ∀ t ∈ bk.trips, ∀ i (h : i < t.calls.length), (Lit.int .i64 t.calls[i].st).wf = true) (hsw : (Lit.int .i64 s).wf = true) (hat : BookAt w v bk) (hra : RepsAt w ra rs) (hev : ErrVars w) (htab : TabW w) :
    Calls Tryz.prog 14 #[v, .slice ra rs.length rc, .int .i64 s, .int .i64 tick, .int .i64 rows] w fun e w' => e = .returned (.string (shownS bk (boardD bk rs s tick rows))) ∧ Below w.heap.size w w' := by
  have HOK : Hid (∀ r ∈ boardD bk rs s tick rows, RowOk bk r) := board_ok
  have hK40 : (boardD bk rs s tick rows).length ≤ 40 := by
    unfold boardD
    split
    · rename_i h
      have := pick_length rows.toNat (collect bk (newsTo bk tick rs) s tick bk.trips.length)
      omega
    · simp
  obtain ⟨sa, sc, ta, tc, rfl, hsa, hta⟩ := hat
  have HBK : Hid (BookAt w (.agg #[.slice sa bk.sts.length sc, .slice ta bk.trips.length tc]) bk) := ⟨sa, sc, ta, tc, rfl, hsa, hta⟩
  have HRA : Hid (RepsAt w ra rs) := hra
  have HWF : Hid (∀ t ∈ bk.trips, ∀ i (h : i < t.calls.length), (Lit.int .i64 t.calls[i].st).wf = true) := hwf
  have HTB : Hid (TabW w) := htab
  clear hsa hta hra hwf htab
  obtain ⟨W1, hW1⟩ : ∃ W1, w.alloc (.cells #[.slice sa bk.sts.length sc, .slice ta bk.trips.length tc] 26) = W1 := ⟨_, rfl⟩
  have bW1 : Below w.heap.size w W1 := by subst hW1; exact (Below.refl _ _).alloc (Nat.le_refl _) _
  have p0 : W1.cell? ⟨w.heap.size, 0, none⟩ = some (.slice sa bk.sts.length sc) := by subst hW1; simp [go_sem]
  have p1 : W1.cell? ⟨w.heap.size, 1, none⟩ = some (.slice ta bk.trips.length tc) := by subst hW1; simp [go_sem]
  obtain ⟨W2, hW2⟩ : ∃ W2, W1.alloc (.cells #[.pointer none, .slice none 0 0] 92) = W2 := ⟨_, rfl⟩
  have bW2 : Below W1.heap.size W1 W2 := by subst hW2; exact (Below.refl _ _).alloc (Nat.le_refl _) _
  have HBD : Hid (Lib.IsBuilderF 92 5 W1.heap.size W1.heap.size [] W2) := by subst hW2; exact Lib.IsBuilderF.of (Lib.fresh_isBuilder _ _ W1)
  have B2 : Below w.heap.size w W2 := bW1.trans (bW2.mono bW1.size)
  have q0 := cell_keep bW2 p0
  have q1 := cell_keep bW2 p1
  have hs2 : W1.heap.size < W2.heap.size := by subst hW2; simp
  go_enter Tryz.func14, Tryz.ntmps14
  go_wp2_with fail
  refine (implBoard_any _ bk _ _ rs s tick rows _ hn hm HWF.out hsw (by exact HBK.out.keep B2) (by exact HRA.out.keep B2) (by exact hev.keep B2)).mono ?_
  rintro e w3 ⟨v3, rfl, hown3, hb3⟩
  have hb23 : Below W1.heap.size W1 w3 := bW2.trans (hb3.mono bW2.size)
  obtain ⟨a3, c3, rfl, _⟩ := rows_at hown3
  obtain ⟨K, hKe⟩ : ∃ K, boardD bk rs s tick rows = K := ⟨_, rfl⟩
  have HKE : Hid (boardD bk rs s tick rows = K) := hKe
  rw [hKe] at HOK hK40 hown3 ⊢
  have HOW3 : Hid (w3.ownsRow W2.heap.size 52 6 (.slice a3 K.length c3) K.length (sixes K)) := hown3
  have HBD3 : Hid (Lib.IsBuilderF 92 5 W1.heap.size W1.heap.size (Lib.strCells (shownS bk (K.take 0))) w3) := builder_below HBD.out hb3
  have z3 := hb3.size
  have P0 : Hid (∀ w', Below W1.heap.size W1 w' → w'.cell? ⟨w.heap.size, 0, none⟩ = some (.slice sa bk.sts.length sc) ∧ w'.cell? ⟨w.heap.size, 1, none⟩ = some (.slice ta bk.trips.length tc)) := fun w' hb => ⟨cell_keep hb p0, cell_keep hb p1⟩
  clear hown3 hKe hW1 hW2 p0 p1 HBD hb3 q0 q1
  go_wp2_with fail
  go_loopw [21] (fun i wr => ∃ k : Nat, k ≤ K.length ∧ i = .int .i64 k ∧ Hid (wr.ownsRow W2.heap.size 52 6 (.slice a3 K.length c3) K.length (sixes K)) ∧ Hid (Lib.IsBuilderF 92 5 W1.heap.size W1.heap.size (Lib.strCells (shownS bk (K.take k))) wr) ∧ Below W1.heap.size W1 wr) (fun i _ => K.length - (intOf i).toNat)
  case atStart => exact ⟨0, Nat.zero_le _, rfl, HOW3, HBD3, hb23⟩
  case round =>
    obtain ⟨k, hk, rfl, HOW, HBL, hbel⟩ := hrel
    have hB : Below w.heap.size w wr := bW1.trans (hbel.mono bW1.size)
    have hzz := hbel.size
    clear HOW3 HBD3 hb23 z3
    by_cases hlt : k < K.length
    · obtain ⟨a3', c3', e3, hrows⟩ := rows_at HOW.out
      simp only [Value.slice.injEq] at e3
      obtain ⟨rfl, _, rfl⟩ := e3
      obtain ⟨b, o, rfl, c0, c1, c2, c4, c5, c6⟩ := hrows k hlt
      have hok := HOK.out _ (List.getElem_mem hlt)
      have HT : Hid (shownS bk (K.take (k + 1)) = shownS bk (K.take k) ++ lineS bk K[k]) := shownS_take bk K k hlt
      have HS1 : Hid ((shownS bk (K.take (k + 1))).size ≤ 140737488355328) := by have := shownS_size HOK.out (k + 1) hlt; unfold Hid; omega
      obtain ⟨f0, f1⟩ := P0.out wr hbel
      have hki : (k : Int) < (K.length : Int) := by omega
      have hk0 : (0 : Int) ≤ (k : Int) := by omega
      have z0 := cell_lt c0
      have z1 := cell_lt f0
      have HLN : Hid (∀ w', Below w.heap.size w w' → Calls Tryz.prog 39 #[.agg #[.slice sa bk.sts.length sc, .slice ta bk.trips.length tc], .agg #[.int .i64 K[k].trip, .int .i64 K[k].to, .int .i64 K[k].due, .int .i64 K[k].expect, .int .i64 K[k].track, .int .i64 K[k].state]] w' fun e w'' => e = .returned (.string (lineS bk K[k])) ∧ Below w'.heap.size w' w'') := fun w' hb' => lineOf_by TabW _ bk K[k] w' hok (HBK.out.keep hb') (tabW_keep _ _ hb' HTB.out) tabW_keep (fun k w hk ht => itoa_ok.calls k w hk ht)
      generalize K[k] = r at *
      clear hrows hok
      obtain ⟨W5, hW5⟩ : ∃ W5, wr.alloc (.cells #[.int .i64 r.trip, .int .i64 r.to, .int .i64 r.due, .int .i64 r.expect, .int .i64 r.track, .int .i64 r.state] 52) = W5 := ⟨_, rfl⟩
      have bW5 : Below wr.heap.size wr W5 := by subst hW5; exact (Below.refl _ _).alloc (Nat.le_refl _) _
      obtain ⟨⟨g0, g1, g2, g3, g4, g5⟩, _⟩ := six_cells (show W5.heap[wr.heap.size]? = some (.cells #[.int .i64 r.trip, .int .i64 r.to, .int .i64 r.due, .int .i64 r.expect, .int .i64 r.track, .int .i64 r.state] 52 (0, 0)) from by subst hW5; exact heap_alloc_last wr _)
      have d0 := cell_keep bW5 f0
      have d1 := cell_keep bW5 f1
      have B5 : Below w.heap.size w W5 := hB.trans (bW5.mono hB.size)
      clear f0 f1
      go_wp2_with fail
      refine (HLN.out _ (by exact B5)).mono ?_
      rintro e w6 ⟨rfl, hb6⟩
      have b6 : Below wr.heap.size wr w6 := bW5.trans (hb6.mono bW5.size)
      have HBL6 : Hid (Lib.IsBuilderF 92 5 W1.heap.size W1.heap.size (Lib.strCells (shownS bk (K.take k))) w6) := builder_below HBL.out b6
      have hbel6 : Below W1.heap.size W1 w6 := hbel.trans (b6.mono hzz)
      have HOW6 : Hid (w6.ownsRow W2.heap.size 52 6 (.slice (some ⟨b, o, none⟩) K.length c3) K.length (sixes K)) := owns_below HOW.out b6 (owns_lt HOW.out)
      have HLE : Hid ((Lib.strCells (shownS bk (K.take k))).length + (lineS bk r).size ≤ 140737488355328) := by
        have h1 := HS1.out
        rw [HT.out, ByteArray.size_append] at h1
        unfold Hid
        rw [Lib.strCells_length]; exact h1
      have hz6 : W1.heap.size ≤ w6.heap.size := hbel6.size
      clear c0 c1 c2 c4 c5 c6 g0 g1 g2 g3 g4 g5 d0 d1 hW5 bW5 hb6 HBL HOW HLN
      generalize hlr : lineS bk r = L at *
      go_wp2_with fail
      refine (writeString_any W1.heap.size W1.heap.size _ L _ HBL6.out HLE.out hz6).mono ?_
      rintro e w7 ⟨rfl, hbd7, hb7, hok7⟩
      have HBL7 : Hid (Lib.IsBuilderF 92 5 W1.heap.size W1.heap.size (Lib.strCells (shownS bk (K.take (k + 1)))) w7) := by
        unfold Hid; rw [HT.out, strCells_append]; exact Or.inr hbd7
      have hbel7 : Below W1.heap.size W1 w7 := hbel6.trans hb7
      have HOW7 : Hid (w7.ownsRow W2.heap.size 52 6 (.slice (some ⟨b, o, none⟩) K.length c3) K.length (sixes K)) := owns_others HOW6.out hok7 (by decide) (fun e => by
        have := (HOW6.out.lt _ e).1
        omega)
      clear hbd7 hok7 hb7 HBL6 HOW6
      go_wp2_with fail
      go_roundw
      case rel => exact ⟨k + 1, by omega, by go_num, HOW7, HBL7, hbel7⟩
      case measure => simp [intOf]; omega
    · have hk' : k = K.length := by omega
      subst hk'
      rw [List.take_length] at HBL
      go_wp2_with fail
      refine (Tryz.Builder_String_any_k W1.heap.size W1.heap.size (shownS bk K).data.toList _ (by exact HBL.out) hzz).mono ?_
      rintro e w8 ⟨rfl, _, hb8, _⟩
      have B8 : Below w.heap.size w w8 := hB.trans (hb8.mono bW1.size)
      have HST : Hid ((⟨(shownS bk K).data.toList.toArray⟩ : ByteArray) = shownS bk K) := by unfold Hid; rw [Array.toArray_toList]
      rw [HST.out]
      go_wp2_with fail
      go_ret
      exact ⟨ret_str (by rw [HKE.out]), B8⟩

end Go.Proofs.YtjioingdpfgadaaGreatDoor
