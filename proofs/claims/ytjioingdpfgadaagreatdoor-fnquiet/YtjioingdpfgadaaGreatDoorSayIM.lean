import Derived.Test.YtjioingdpfgadaaGreatDoorProg
import Derived.Test.YtjioingdpfgadaaGreatDoorSayCM
import Derived.Deep.RegionHeld3
import Derived.Test.YtjioingdpfgadaaGreatDoorShelfM
import Derived.Lib.ItoaNum
import Derived.Lib.LaidTab
namespace Go.Proofs.YtjioingdpfgadaaGreatDoor
open Go Go.RowKit Go.Deep

/-- What a report brings to a call, as the program holds it. -/
def noticeV (nm tn : ByteArray) (n : Int) (x : NewsD) (ends : Bool) : Value := .agg #[.string nm, .string tn, .int .i64 n, .int .i64 x.late, .int .i64 x.track, .bool x.off, .bool x.here, .bool x.gone, .bool ends]
/-- What strconv.Itoa asks of a world and answers. -/
structure ItoaOk (Tab : World → Prop) : Prop where
  keep : ∀ w w', Below w.heap.size w w' → Tab w → Tab w'
  calls : ∀ (k : Nat) (w : World), k ≤ 1000000000000 → Tab w → Calls Tryz.prog 60 #[.int .i64 k] w fun e w' => e = .returned (.string (numS k)) ∧ Below w.heap.size w w'

set_option maxRecDepth 100000 in
set_option maxHeartbeats 1000000 in
theorem bound_any (nm tn : ByteArray) (n : Int) (x : NewsD) (ends : Bool) (w : World) (h1 : nm.size ≤ 20) (h2 : tn.size ≤ 20) :
    Calls Tryz.prog 85 #[noticeV nm tn n x ends] w fun e w' => e = .returned (.string (boundS nm tn)) ∧ Below w.heap.size w w' := by
  have E1 : ∀ w, (Op.stringOp .add nm ⟨#[32, 116, 111, 32]⟩).run Tryz.prog w = .ok (.string (nm ++ ⟨#[32, 116, 111, 32]⟩)) w := fun w => run_string_add_sum w _ _ (by show nm.size + 4 ≤ _; omega)
  have E2 : ∀ w, (Op.stringOp .add (nm ++ ⟨#[32, 116, 111, 32]⟩) tn).run Tryz.prog w = .ok (.string (nm ++ ⟨#[32, 116, 111, 32]⟩ ++ tn)) w := fun w => run_string_add_sum w _ _ (by rw [ByteArray.size_append]; show nm.size + 4 + tn.size ≤ _; omega)
  unfold noticeV
  go_enter Tryz.func85, Tryz.ntmps85
  go_wp2_with fail
  go_ret
  exact ⟨rfl, (Below.refl _ _).alloc (Nat.le_refl _) _⟩

set_option maxRecDepth 100000 in
set_option maxHeartbeats 1000000 in
theorem stops_any (nm tn : ByteArray) (n : Int) (x : NewsD) (ends : Bool) (w : World) (h1 : nm.size ≤ 20) (h2 : tn.size ≤ 20) :
    Calls Tryz.prog 77 #[noticeV nm tn n x ends] w fun e w' => e = .returned (.string (sayX nm tn ends x 3 n)) ∧ Below w.heap.size w w' := by
  have hA := bound_size h1 h2
  have HF : Hid (sayX nm tn ends x 3 n = boundS nm tn ++ ⟨#[32, 100, 111, 101, 115, 32, 110, 111, 116, 32, 99, 111, 109, 101]⟩) := sayX_3
  have E3 : ∀ w, (Op.stringOp .add (boundS nm tn) ⟨#[32, 100, 111, 101, 115, 32, 110, 111, 116, 32, 99, 111, 109, 101]⟩).run Tryz.prog w = .ok (.string (boundS nm tn ++ ⟨#[32, 100, 111, 101, 115, 32, 110, 111, 116, 32, 99, 111, 109, 101]⟩)) w := fun w => run_string_add_sum w _ _ (by show (boundS nm tn).size + 14 ≤ _; omega)
  have HB : Hid (∀ w, Calls Tryz.prog 85 #[.agg #[.string nm, .string tn, .int .i64 n, .int .i64 x.late, .int .i64 x.track, .bool x.off, .bool x.here, .bool x.gone, .bool ends]] w fun e w' => e = .returned (.string (boundS nm tn)) ∧ Below w.heap.size w w') := fun w => bound_any nm tn n x ends w h1 h2
  unfold noticeV
  go_enter Tryz.func77, Tryz.ntmps77
  go_wp2_with fail
  refine (HB.out _).mono ?_
  rintro e w1 ⟨rfl, hb1⟩
  go_wp2_with fail
  go_ret
  exact ⟨ret_str HF.out.symm, ((Below.refl _ _).alloc (Nat.le_refl _) _).trans (hb1.mono (by simp))⟩

set_option maxRecDepth 100000 in
set_option maxHeartbeats 1000000 in
theorem goes_any (nm tn : ByteArray) (n : Int) (x : NewsD) (ends : Bool) (w : World) (h1 : nm.size ≤ 20) (h2 : tn.size ≤ 20) :
    Calls Tryz.prog 79 #[noticeV nm tn n x ends] w fun e w' => e = .returned (.string (sayX nm tn ends x 5 n)) ∧ Below w.heap.size w w' := by
  have hA := bound_size h1 h2
  have HF : Hid (sayX nm tn ends x 5 n = boundS nm tn ++ ⟨#[32, 103, 111, 101, 115]⟩) := sayX_5
  have E3 : ∀ w, (Op.stringOp .add (boundS nm tn) ⟨#[32, 103, 111, 101, 115]⟩).run Tryz.prog w = .ok (.string (boundS nm tn ++ ⟨#[32, 103, 111, 101, 115]⟩)) w := fun w => run_string_add_sum w _ _ (by show (boundS nm tn).size + 5 ≤ _; omega)
  have HB : Hid (∀ w, Calls Tryz.prog 85 #[.agg #[.string nm, .string tn, .int .i64 n, .int .i64 x.late, .int .i64 x.track, .bool x.off, .bool x.here, .bool x.gone, .bool ends]] w fun e w' => e = .returned (.string (boundS nm tn)) ∧ Below w.heap.size w w') := fun w => bound_any nm tn n x ends w h1 h2
  unfold noticeV
  go_enter Tryz.func79, Tryz.ntmps79
  go_wp2_with fail
  refine (HB.out _).mono ?_
  rintro e w1 ⟨rfl, hb1⟩
  go_wp2_with fail
  go_ret
  exact ⟨ret_str HF.out.symm, ((Below.refl _ _).alloc (Nat.le_refl _) _).trans (hb1.mono (by simp))⟩

set_option maxRecDepth 100000 in
set_option maxHeartbeats 4000000 in
theorem comes_any {Tab : World → Prop} (hit : ItoaOk Tab) (nm tn : ByteArray) (m : Nat) (x : NewsD) (ends : Bool) (w : World) (h1 : nm.size ≤ 20) (h2 : tn.size ≤ 20) (hm : m ≤ 1000000) (htab : Tab w) :
    Calls Tryz.prog 76 #[noticeV nm tn m x ends] w fun e w' => e = .returned (.string (sayX nm tn ends x 2 m)) ∧ Below w.heap.size w w' := by
  have hA := bound_size h1 h2
  have hD := numS_size m
  have HF : Hid (sayX nm tn ends x 2 (m : Int) = boundS nm tn ++ ⟨#[32, 99, 111, 109, 101, 115, 32, 111, 110, 32, 116, 114, 97, 99, 107, 32]⟩ ++ numS m) := sayX_2
  obtain ⟨W, hW⟩ : ∃ W, w.alloc (.cells #[.string nm, .string tn, .int .i64 m, .int .i64 x.late, .int .i64 x.track, .bool x.off, .bool x.here, .bool x.gone, .bool ends] 131) = W := ⟨_, rfl⟩
  have bW : Below w.heap.size w W := by subst hW; exact (Below.refl _ _).alloc (Nat.le_refl _) _
  have g0 : W.cell? ⟨w.heap.size, 0, none⟩ = some (.string nm) := by subst hW; simp [go_sem]
  have g1 : W.cell? ⟨w.heap.size, 1, none⟩ = some (.string tn) := by subst hW; simp [go_sem]
  have g2 : W.cell? ⟨w.heap.size, 2, none⟩ = some (.int .i64 m) := by subst hW; simp [go_sem]
  have g3 : W.cell? ⟨w.heap.size, 3, none⟩ = some (.int .i64 x.late) := by subst hW; simp [go_sem]
  have g4 : W.cell? ⟨w.heap.size, 4, none⟩ = some (.int .i64 x.track) := by subst hW; simp [go_sem]
  have g5 : W.cell? ⟨w.heap.size, 5, none⟩ = some (.bool x.off) := by subst hW; simp [go_sem]
  have g6 : W.cell? ⟨w.heap.size, 6, none⟩ = some (.bool x.here) := by subst hW; simp [go_sem]
  have g7 : W.cell? ⟨w.heap.size, 7, none⟩ = some (.bool x.gone) := by subst hW; simp [go_sem]
  have g8 : W.cell? ⟨w.heap.size, 8, none⟩ = some (.bool ends) := by subst hW; simp [go_sem]
  have HTD : Hid (Tab W.drew) := hit.keep _ _ (Below.refl _ _).drew (hit.keep _ _ bW htab)
  have HTK : Hid (∀ w w', Below w.heap.size w w' → Tab w → Tab w') := hit.keep
  have HIT : Hid (∀ (w : World), Tab w → Calls Tryz.prog 60 #[.int .i64 m] w fun e w' => e = .returned (.string (numS m)) ∧ Below w.heap.size w w') := fun w ht => hit.calls m w (by omega) ht
  have HB : Hid (∀ w, Calls Tryz.prog 85 #[.agg #[.string nm, .string tn, .int .i64 m, .int .i64 x.late, .int .i64 x.track, .bool x.off, .bool x.here, .bool x.gone, .bool ends]] w fun e w' => e = .returned (.string (boundS nm tn)) ∧ Below w.heap.size w w') := fun w => bound_any nm tn m x ends w h1 h2
  generalize boundS nm tn = A at *
  generalize numS (m : Int) = D at *
  have E3 : ∀ w, (Op.stringOp .add A ⟨#[32, 99, 111, 109, 101, 115, 32, 111, 110, 32, 116, 114, 97, 99, 107, 32]⟩).run Tryz.prog w = .ok (.string (A ++ ⟨#[32, 99, 111, 109, 101, 115, 32, 111, 110, 32, 116, 114, 97, 99, 107, 32]⟩)) w := fun w => run_string_add_sum w _ _ (by show A.size + 16 ≤ _; omega)
  have E4 : ∀ w, (Op.stringOp .add (A ++ ⟨#[32, 99, 111, 109, 101, 115, 32, 111, 110, 32, 116, 114, 97, 99, 107, 32]⟩) D).run Tryz.prog w = .ok (.string (A ++ ⟨#[32, 99, 111, 109, 101, 115, 32, 111, 110, 32, 116, 114, 97, 99, 107, 32]⟩ ++ D)) w := fun w => run_string_add_sum w _ _ (by rw [ByteArray.size_append]; show A.size + 16 + D.size ≤ _; omega)
  unfold noticeV
  clear htab hit
  go_enter Tryz.func76, Tryz.ntmps76
  go_upto_region 1 with fail
  clear hW
  go_region_held3 (fun w' => w'.cell? ⟨w.heap.size, 0, none⟩ = some (.string nm) ∧ w'.cell? ⟨w.heap.size, 1, none⟩ = some (.string tn) ∧ w'.cell? ⟨w.heap.size, 2, none⟩ = some (.int .i64 m) ∧ w'.cell? ⟨w.heap.size, 3, none⟩ = some (.int .i64 x.late) ∧ w'.cell? ⟨w.heap.size, 4, none⟩ = some (.int .i64 x.track) ∧ w'.cell? ⟨w.heap.size, 5, none⟩ = some (.bool x.off) ∧ w'.cell? ⟨w.heap.size, 6, none⟩ = some (.bool x.here) ∧ w'.cell? ⟨w.heap.size, 7, none⟩ = some (.bool x.gone) ∧ w'.cell? ⟨w.heap.size, 8, none⟩ = some (.bool ends))
    (first | exact ⟨cell_keep hb3 (by exact g0), cell_keep hb3 (by exact g1), cell_keep hb3 (by exact g2), cell_keep hb3 (by exact g3), cell_keep hb3 (by exact g4), cell_keep hb3 (by exact g5), cell_keep hb3 (by exact g6), cell_keep hb3 (by exact g7), cell_keep hb3 (by exact g8)⟩ | exact ⟨cell_keep hb4 (cell_keep hb3 (by exact g0)), cell_keep hb4 (cell_keep hb3 (by exact g1)), cell_keep hb4 (cell_keep hb3 (by exact g2)), cell_keep hb4 (cell_keep hb3 (by exact g3)), cell_keep hb4 (cell_keep hb3 (by exact g4)), cell_keep hb4 (cell_keep hb3 (by exact g5)), cell_keep hb4 (cell_keep hb3 (by exact g6)), cell_keep hb4 (cell_keep hb3 (by exact g7)), cell_keep hb4 (cell_keep hb3 (by exact g8))⟩ | go_keep)
    (first
      | (go_at_call 85; first | (have _ := hb3; refine (HB.out _).mono ?_; rintro e w4 ⟨rfl, hb4⟩) | (refine (HB.out _).mono ?_; rintro e w3 ⟨rfl, hb3⟩))
      | (go_at_call 60; first | (have _ := hb3; refine (HIT.out _ (by exact HTK.out _ _ hb3 (by exact HTD.out))).mono ?_; rintro e w4 ⟨rfl, hb4⟩) | (refine (HIT.out _ (by exact HTD.out)).mono ?_; rintro e w3 ⟨rfl, hb3⟩)))
  all_goals
    have B4 : Below W.heap.size W w4 := ((Below.refl _ _).drew.trans (by exact hb3)).trans (hb4.mono (by have := hb3.size; exact this))
    go_wp2_with fail
    go_ret
    exact ⟨ret_str HF.out.symm, bW.trans (B4.mono bW.size)⟩

set_option maxRecDepth 100000 in
set_option maxHeartbeats 4000000 in
theorem late_any {Tab : World → Prop} (hit : ItoaOk Tab) (nm tn : ByteArray) (m : Nat) (x : NewsD) (ends : Bool) (w : World) (h1 : nm.size ≤ 20) (h2 : tn.size ≤ 20) (hm : m ≤ 1000000) (htab : Tab w) :
    Calls Tryz.prog 75 #[noticeV nm tn m x ends] w fun e w' => e = .returned (.string (sayX nm tn ends x 1 m)) ∧ Below w.heap.size w w' := by
  have hA := bound_size h1 h2
  have hD := numS_size m
  have HF1 : Hid (ends = true ∨ x.late = (m : Int) → sayX nm tn ends x 1 (m : Int) = ⟨#[]⟩) := fun h => sayX_1e h
  have HF2 : Hid (¬ (ends = true ∨ x.late = (m : Int)) → (m : Int) = 0 → sayX nm tn ends x 1 (m : Int) = boundS nm tn ++ ⟨#[32, 105, 115, 32, 111, 110, 32, 116, 105, 109, 101]⟩) := fun h h0 => sayX_1z h h0
  have HF3 : Hid (¬ (ends = true ∨ x.late = (m : Int)) → ¬ (m : Int) = 0 → sayX nm tn ends x 1 (m : Int) = boundS nm tn ++ ⟨#[32, 105, 115, 32, 108, 97, 116, 101, 32, 98, 121, 32]⟩ ++ numS m) := fun h h0 => sayX_1n h h0
  obtain ⟨W, hW⟩ : ∃ W, w.alloc (.cells #[.string nm, .string tn, .int .i64 m, .int .i64 x.late, .int .i64 x.track, .bool x.off, .bool x.here, .bool x.gone, .bool ends] 131) = W := ⟨_, rfl⟩
  have bW : Below w.heap.size w W := by subst hW; exact (Below.refl _ _).alloc (Nat.le_refl _) _
  have g0 : W.cell? ⟨w.heap.size, 0, none⟩ = some (.string nm) := by subst hW; simp [go_sem]
  have g1 : W.cell? ⟨w.heap.size, 1, none⟩ = some (.string tn) := by subst hW; simp [go_sem]
  have g2 : W.cell? ⟨w.heap.size, 2, none⟩ = some (.int .i64 m) := by subst hW; simp [go_sem]
  have g3 : W.cell? ⟨w.heap.size, 3, none⟩ = some (.int .i64 x.late) := by subst hW; simp [go_sem]
  have g4 : W.cell? ⟨w.heap.size, 4, none⟩ = some (.int .i64 x.track) := by subst hW; simp [go_sem]
  have g5 : W.cell? ⟨w.heap.size, 5, none⟩ = some (.bool x.off) := by subst hW; simp [go_sem]
  have g6 : W.cell? ⟨w.heap.size, 6, none⟩ = some (.bool x.here) := by subst hW; simp [go_sem]
  have g7 : W.cell? ⟨w.heap.size, 7, none⟩ = some (.bool x.gone) := by subst hW; simp [go_sem]
  have g8 : W.cell? ⟨w.heap.size, 8, none⟩ = some (.bool ends) := by subst hW; simp [go_sem]
  have HTD : Hid (Tab W.drew) := hit.keep _ _ (Below.refl _ _).drew (hit.keep _ _ bW htab)
  have HTK : Hid (∀ w w', Below w.heap.size w w' → Tab w → Tab w') := hit.keep
  have HIT : Hid (∀ (w : World), Tab w → Calls Tryz.prog 60 #[.int .i64 m] w fun e w' => e = .returned (.string (numS m)) ∧ Below w.heap.size w w') := fun w ht => hit.calls m w (by omega) ht
  have HB : Hid (∀ w, Calls Tryz.prog 85 #[.agg #[.string nm, .string tn, .int .i64 m, .int .i64 x.late, .int .i64 x.track, .bool x.off, .bool x.here, .bool x.gone, .bool ends]] w fun e w' => e = .returned (.string (boundS nm tn)) ∧ Below w.heap.size w w') := fun w => bound_any nm tn m x ends w h1 h2
  generalize boundS nm tn = A at *
  generalize numS (m : Int) = D at *
  have E3 : ∀ w, (Op.stringOp .add A ⟨#[32, 105, 115, 32, 108, 97, 116, 101, 32, 98, 121, 32]⟩).run Tryz.prog w = .ok (.string (A ++ ⟨#[32, 105, 115, 32, 108, 97, 116, 101, 32, 98, 121, 32]⟩)) w := fun w => run_string_add_sum w _ _ (by show A.size + 12 ≤ _; omega)
  have E4 : ∀ w, (Op.stringOp .add (A ++ ⟨#[32, 105, 115, 32, 108, 97, 116, 101, 32, 98, 121, 32]⟩) D).run Tryz.prog w = .ok (.string (A ++ ⟨#[32, 105, 115, 32, 108, 97, 116, 101, 32, 98, 121, 32]⟩ ++ D)) w := fun w => run_string_add_sum w _ _ (by rw [ByteArray.size_append]; show A.size + 12 + D.size ≤ _; omega)
  have E5 : ∀ w, (Op.stringOp .add A ⟨#[32, 105, 115, 32, 111, 110, 32, 116, 105, 109, 101]⟩).run Tryz.prog w = .ok (.string (A ++ ⟨#[32, 105, 115, 32, 111, 110, 32, 116, 105, 109, 101]⟩)) w := fun w => run_string_add_sum w _ _ (by show A.size + 11 ≤ _; omega)
  unfold noticeV
  clear htab hit
  cases ends
  · by_cases hla : x.late = (m : Int)
    · have HF := HF1.out (.inr hla)
      have HF : Hid _ := HF
      have ba : (x.late == (m : Int)) = true := by simpa using hla
      clear hla HF1 HF2 HF3
      go_enter Tryz.func75, Tryz.ntmps75
      go_wp2_with fail
      go_ret
      exact ⟨ret_str HF.out.symm, bW⟩
    · have ba : (x.late == (m : Int)) = false := by simpa using hla
      have hne : ¬ (false = true ∨ x.late = (m : Int)) := fun h => by rcases h with h | h <;> simp_all
      by_cases hz : (m : Int) = 0
      · have HF := HF2.out hne hz
        have HF : Hid _ := HF
        have bz : ((m : Int) == 0) = true := by simpa using hz
        clear hla HF1 HF2 HF3 hne hz
        go_enter Tryz.func75, Tryz.ntmps75
        go_wp2_with fail
        refine (HB.out _).mono ?_
        rintro e w1 ⟨rfl, hb1⟩
        go_wp2_with fail
        go_ret
        exact ⟨ret_str HF.out.symm, bW.trans (hb1.mono bW.size)⟩
      · have HF := HF3.out hne hz
        have HF : Hid _ := HF
        have bz : ((m : Int) == 0) = false := by simpa using hz
        clear hla HF1 HF2 HF3 hne hz E5
        go_enter Tryz.func75, Tryz.ntmps75
        go_upto_region 5 with fail
        clear hW
        go_region_held3 (fun w' => w'.cell? ⟨w.heap.size, 0, none⟩ = some (.string nm) ∧ w'.cell? ⟨w.heap.size, 1, none⟩ = some (.string tn) ∧ w'.cell? ⟨w.heap.size, 2, none⟩ = some (.int .i64 m) ∧ w'.cell? ⟨w.heap.size, 3, none⟩ = some (.int .i64 x.late) ∧ w'.cell? ⟨w.heap.size, 4, none⟩ = some (.int .i64 x.track) ∧ w'.cell? ⟨w.heap.size, 5, none⟩ = some (.bool x.off) ∧ w'.cell? ⟨w.heap.size, 6, none⟩ = some (.bool x.here) ∧ w'.cell? ⟨w.heap.size, 7, none⟩ = some (.bool x.gone) ∧ w'.cell? ⟨w.heap.size, 8, none⟩ = some (.bool false))
          (first | exact ⟨cell_keep hb3 (by exact g0), cell_keep hb3 (by exact g1), cell_keep hb3 (by exact g2), cell_keep hb3 (by exact g3), cell_keep hb3 (by exact g4), cell_keep hb3 (by exact g5), cell_keep hb3 (by exact g6), cell_keep hb3 (by exact g7), cell_keep hb3 (by exact g8)⟩ | exact ⟨cell_keep hb4 (cell_keep hb3 (by exact g0)), cell_keep hb4 (cell_keep hb3 (by exact g1)), cell_keep hb4 (cell_keep hb3 (by exact g2)), cell_keep hb4 (cell_keep hb3 (by exact g3)), cell_keep hb4 (cell_keep hb3 (by exact g4)), cell_keep hb4 (cell_keep hb3 (by exact g5)), cell_keep hb4 (cell_keep hb3 (by exact g6)), cell_keep hb4 (cell_keep hb3 (by exact g7)), cell_keep hb4 (cell_keep hb3 (by exact g8))⟩ | go_keep)
          (first
            | (go_at_call 85; first | (have _ := hb3; refine (HB.out _).mono ?_; rintro e w4 ⟨rfl, hb4⟩) | (refine (HB.out _).mono ?_; rintro e w3 ⟨rfl, hb3⟩))
            | (go_at_call 60; first | (have _ := hb3; refine (HIT.out _ (by exact HTK.out _ _ hb3 (by exact HTD.out))).mono ?_; rintro e w4 ⟨rfl, hb4⟩) | (refine (HIT.out _ (by exact HTD.out)).mono ?_; rintro e w3 ⟨rfl, hb3⟩)))
        all_goals
          have B4 : Below W.heap.size W w4 := ((Below.refl _ _).drew.trans (by exact hb3)).trans (hb4.mono (by have := hb3.size; exact this))
          go_wp2_with fail
          go_ret
          exact ⟨ret_str HF.out.symm, bW.trans (B4.mono bW.size)⟩
  · have HF := HF1.out (.inl rfl)
    have HF : Hid _ := HF
    clear HF1 HF2 HF3
    go_enter Tryz.func75, Tryz.ntmps75
    go_wp2_with fail
    go_ret
    exact ⟨ret_str HF.out.symm, bW⟩

set_option maxRecDepth 100000 in
set_option maxHeartbeats 4000000 in
theorem here_any {Tab : World → Prop} (hit : ItoaOk Tab) (nm tn : ByteArray) (n : Int) (x : NewsD) (ends : Bool) (m : Nat) (w : World) (h1 : nm.size ≤ 20) (h2 : tn.size ≤ 20) (hx : x.track = (m : Int)) (hm : m ≤ 1000000) (htab : Tab w) :
    Calls Tryz.prog 78 #[noticeV nm tn n x ends] w fun e w' => e = .returned (.string (sayX nm tn ends x 4 n)) ∧ Below w.heap.size w w' := by
  have hA := bound_size h1 h2
  have hD := numS_size m
  have HF1 : Hid (ends = true → sayX nm tn ends x 4 n = nm ++ ⟨#[32, 101, 110, 100, 115, 32, 104, 101, 114, 101]⟩) := fun h => sayX_4e h
  have HF2 : Hid (¬ ends = true → sayX nm tn ends x 4 n = boundS nm tn ++ ⟨#[32, 105, 115, 32, 104, 101, 114, 101, 32, 111, 110, 32, 116, 114, 97, 99, 107, 32]⟩ ++ numS m) := fun h => by have := sayX_4n (nm := nm) (tn := tn) (x := x) (n := n) h; rw [hx] at this; exact this
  have E5 : ∀ w, (Op.stringOp .add nm ⟨#[32, 101, 110, 100, 115, 32, 104, 101, 114, 101]⟩).run Tryz.prog w = .ok (.string (nm ++ ⟨#[32, 101, 110, 100, 115, 32, 104, 101, 114, 101]⟩)) w := fun w => run_string_add_sum w _ _ (by show nm.size + 10 ≤ _; omega)
  have HBB : Hid (∀ w, Calls Tryz.prog 85 #[noticeV nm tn n x ends] w fun e w' => e = .returned (.string (boundS nm tn)) ∧ Below w.heap.size w w') := fun w => bound_any nm tn n x ends w h1 h2
  unfold noticeV at HBB ⊢
  rw [hx] at HBB ⊢
  obtain ⟨W, hW⟩ : ∃ W, w.alloc (.cells #[.string nm, .string tn, .int .i64 n, .int .i64 x.late, .int .i64 m, .bool x.off, .bool x.here, .bool x.gone, .bool ends] 131) = W := ⟨_, rfl⟩
  have bW : Below w.heap.size w W := by subst hW; exact (Below.refl _ _).alloc (Nat.le_refl _) _
  have g0 : W.cell? ⟨w.heap.size, 0, none⟩ = some (.string nm) := by subst hW; simp [go_sem]
  have g1 : W.cell? ⟨w.heap.size, 1, none⟩ = some (.string tn) := by subst hW; simp [go_sem]
  have g2 : W.cell? ⟨w.heap.size, 2, none⟩ = some (.int .i64 n) := by subst hW; simp [go_sem]
  have g3 : W.cell? ⟨w.heap.size, 3, none⟩ = some (.int .i64 x.late) := by subst hW; simp [go_sem]
  have g4 : W.cell? ⟨w.heap.size, 4, none⟩ = some (.int .i64 m) := by subst hW; simp [go_sem]
  have g5 : W.cell? ⟨w.heap.size, 5, none⟩ = some (.bool x.off) := by subst hW; simp [go_sem]
  have g6 : W.cell? ⟨w.heap.size, 6, none⟩ = some (.bool x.here) := by subst hW; simp [go_sem]
  have g7 : W.cell? ⟨w.heap.size, 7, none⟩ = some (.bool x.gone) := by subst hW; simp [go_sem]
  have g8 : W.cell? ⟨w.heap.size, 8, none⟩ = some (.bool ends) := by subst hW; simp [go_sem]
  have HTD : Hid (Tab W.drew) := hit.keep _ _ (Below.refl _ _).drew (hit.keep _ _ bW htab)
  have HTK : Hid (∀ w w', Below w.heap.size w w' → Tab w → Tab w') := hit.keep
  have HIT : Hid (∀ (w : World), Tab w → Calls Tryz.prog 60 #[.int .i64 m] w fun e w' => e = .returned (.string (numS m)) ∧ Below w.heap.size w w') := fun w ht => hit.calls m w (by omega) ht
  have HB : Hid (∀ w, Calls Tryz.prog 85 #[.agg #[.string nm, .string tn, .int .i64 n, .int .i64 x.late, .int .i64 m, .bool x.off, .bool x.here, .bool x.gone, .bool ends]] w fun e w' => e = .returned (.string (boundS nm tn)) ∧ Below w.heap.size w w') := HBB.out
  generalize boundS nm tn = A at *
  generalize numS (m : Int) = D at *
  have E3 : ∀ w, (Op.stringOp .add A ⟨#[32, 105, 115, 32, 104, 101, 114, 101, 32, 111, 110, 32, 116, 114, 97, 99, 107, 32]⟩).run Tryz.prog w = .ok (.string (A ++ ⟨#[32, 105, 115, 32, 104, 101, 114, 101, 32, 111, 110, 32, 116, 114, 97, 99, 107, 32]⟩)) w := fun w => run_string_add_sum w _ _ (by show A.size + 18 ≤ _; omega)
  have E4 : ∀ w, (Op.stringOp .add (A ++ ⟨#[32, 105, 115, 32, 104, 101, 114, 101, 32, 111, 110, 32, 116, 114, 97, 99, 107, 32]⟩) D).run Tryz.prog w = .ok (.string (A ++ ⟨#[32, 105, 115, 32, 104, 101, 114, 101, 32, 111, 110, 32, 116, 114, 97, 99, 107, 32]⟩ ++ D)) w := fun w => run_string_add_sum w _ _ (by rw [ByteArray.size_append]; show A.size + 18 + D.size ≤ _; omega)
  clear htab hit HBB hx
  cases ends
  · have HF := HF2.out (by decide)
    have HF : Hid _ := HF
    clear HF1 HF2 E5
    go_enter Tryz.func78, Tryz.ntmps78
    go_upto_region 3 with fail
    clear hW
    go_region_held3 (fun w' => w'.cell? ⟨w.heap.size, 0, none⟩ = some (.string nm) ∧ w'.cell? ⟨w.heap.size, 1, none⟩ = some (.string tn) ∧ w'.cell? ⟨w.heap.size, 2, none⟩ = some (.int .i64 n) ∧ w'.cell? ⟨w.heap.size, 3, none⟩ = some (.int .i64 x.late) ∧ w'.cell? ⟨w.heap.size, 4, none⟩ = some (.int .i64 m) ∧ w'.cell? ⟨w.heap.size, 5, none⟩ = some (.bool x.off) ∧ w'.cell? ⟨w.heap.size, 6, none⟩ = some (.bool x.here) ∧ w'.cell? ⟨w.heap.size, 7, none⟩ = some (.bool x.gone) ∧ w'.cell? ⟨w.heap.size, 8, none⟩ = some (.bool false))
      (first | exact ⟨cell_keep hb3 (by exact g0), cell_keep hb3 (by exact g1), cell_keep hb3 (by exact g2), cell_keep hb3 (by exact g3), cell_keep hb3 (by exact g4), cell_keep hb3 (by exact g5), cell_keep hb3 (by exact g6), cell_keep hb3 (by exact g7), cell_keep hb3 (by exact g8)⟩ | exact ⟨cell_keep hb4 (cell_keep hb3 (by exact g0)), cell_keep hb4 (cell_keep hb3 (by exact g1)), cell_keep hb4 (cell_keep hb3 (by exact g2)), cell_keep hb4 (cell_keep hb3 (by exact g3)), cell_keep hb4 (cell_keep hb3 (by exact g4)), cell_keep hb4 (cell_keep hb3 (by exact g5)), cell_keep hb4 (cell_keep hb3 (by exact g6)), cell_keep hb4 (cell_keep hb3 (by exact g7)), cell_keep hb4 (cell_keep hb3 (by exact g8))⟩ | go_keep)
      (first
        | (go_at_call 85; first | (have _ := hb3; refine (HB.out _).mono ?_; rintro e w4 ⟨rfl, hb4⟩) | (refine (HB.out _).mono ?_; rintro e w3 ⟨rfl, hb3⟩))
        | (go_at_call 60; first | (have _ := hb3; refine (HIT.out _ (by exact HTK.out _ _ hb3 (by exact HTD.out))).mono ?_; rintro e w4 ⟨rfl, hb4⟩) | (refine (HIT.out _ (by exact HTD.out)).mono ?_; rintro e w3 ⟨rfl, hb3⟩)))
    all_goals
      have B4 : Below W.heap.size W w4 := ((Below.refl _ _).drew.trans (by exact hb3)).trans (hb4.mono (by have := hb3.size; exact this))
      go_wp2_with fail
      go_ret
      exact ⟨ret_str HF.out.symm, bW.trans (B4.mono bW.size)⟩
  · have HF := HF1.out rfl
    have HF : Hid _ := HF
    clear HF1 HF2
    go_enter Tryz.func78, Tryz.ntmps78
    go_wp2_with fail
    go_ret
    exact ⟨ret_str HF.out.symm, bW⟩

end Go.Proofs.YtjioingdpfgadaaGreatDoor
namespace Go.Proofs.YtjioingdpfgadaaGreatDoor
open Go Go.RowKit Go.Deep

theorem decF_nil (f : Nat) : decF f 0 = [] := by cases f <;> simp [decF]
theorem decF_digits : ∀ (f k : Nat), 0 < k → k < 10 ^ f → decF f k = Lib.decDigits k
  | 0, k, h, h2 => by simp at h2; omega
  | f + 1, k, h, h2 => by
    unfold decF
    rw [if_neg (by omega), Lib.decDigits]
    by_cases h3 : k < 10
    · rw [dif_pos h3, show k / 10 = 0 by omega, decF_nil, Nat.mod_eq_of_lt h3]; rfl
    · rw [dif_neg h3, decF_digits f (k / 10) (by omega) (by rw [Nat.pow_succ] at h2; omega)]
theorem itoa_dec (k : Nat) (h : k ≤ 1000000000000) : Lib.itoa (k : Int) = decL k := by
  unfold Lib.itoa decL
  rw [if_neg (by omega), Int.toNat_natCast]
  by_cases h0 : k = 0
  · subst h0; rw [if_pos rfl, Lib.decDigits, dif_pos (by omega)]; rfl
  · rw [if_neg h0, decF_digits 20 k (by omega) (by omega)]

theorem grow_below (w : World) (k : Nat) (os : Array Obj) : Below w.heap.size w (Sort.grow (w.drewN k) os) :=
  ⟨rfl, rfl, rfl, by show w.heap.size ≤ (w.heap ++ os).size; rw [Array.size_append]; omega, fun j hj => by
    show (w.heap ++ os)[j]? = _
    rw [Array.getElem?_append_left hj]⟩
theorem gPow10 : Tryz.prog.globalNamed "internal/strconv.uint64pow10" = some 4 := by kernel_rfl
/-- What strconv.Itoa asks of a world: its table of powers of ten. -/
def TabW (w : World) : Prop := Lib.TabIs Tryz.prog w "internal/strconv.uint64pow10" .u64 Lib.pow10Tab
theorem tabW_keep (w w' : World) (hb : Below w.heap.size w w') (h : TabW w) : TabW w' := by
  have hc : w.cell? ⟨4, 0, none⟩ = some (.int .u64 1) := by
    have := h.cell gPow10 0 (by decide)
    simpa [Lib.pow10Tab] using this
  exact var?_below hb gPow10 (cell_lt hc) h
theorem itoa_ok : ItoaOk TabW where
  keep := tabW_keep
  calls := fun k w hk ht => by
    refine (Tryz.strconv_Itoa (k : Int) (by omega) (by omega) w ht).mono ?_
    rintro e w' ⟨rfl, n, os, rfl⟩
    exact ⟨ret_str (by unfold numS; rw [itoa_dec k hk, Int.toNat_natCast]), grow_below _ _ _⟩

end Go.Proofs.YtjioingdpfgadaaGreatDoor
