import Derived.Test.YtjioingdpfgadabGreatDoorProg
import Derived.Test.YtjioingdpfgadabGreatDoorShBM
import Derived.Deep.RegionHeld3
import Derived.Test.YtjioingdpfgadabGreatDoorArr
import Derived.Deep.AppendLies
import Derived.Deep.MidRow
namespace Go.Proofs.YtjioingdpfgadabGreatDoor
open Go Go.RowKit Go.Deep

/-- What a report brings to a call, as the program holds it. -/
def noticeV (nm tn : ByteArray) (n : Int) (x : NewsD) (ends : Bool) : Value := .agg #[.string nm, .string tn, .int .i64 n, .int .i64 x.late, .int .i64 x.track, .bool x.off, .bool x.here, .bool x.gone, .bool ends]
/-- What strconv.Itoa asks of a world and answers. -/
structure ItoaOk (Tab : World → Prop) : Prop where
  keep : ∀ w w', Below w.heap.size w w' → Tab w → Tab w'
  calls : ∀ (k : Nat) (w : World), k ≤ 1000000000000 → Tab w → Calls Tryz.prog 76 #[.int .i64 k] w fun e w' => e = .returned (.string (numS k)) ∧ Below w.heap.size w w'

set_option maxRecDepth 100000 in
set_option maxHeartbeats 1000000 in
theorem bound_any (nm tn : ByteArray) (n : Int) (x : NewsD) (ends : Bool) (w : World) (h1 : nm.size ≤ 20) (h2 : tn.size ≤ 20) :
    Calls Tryz.prog 109 #[noticeV nm tn n x ends] w fun e w' => e = .returned (.string (boundS nm tn)) ∧ Below w.heap.size w w' := by
  have E1 : ∀ w, (Op.stringOp .add nm ⟨#[32, 116, 111, 32]⟩).run Tryz.prog w = .ok (.string (nm ++ ⟨#[32, 116, 111, 32]⟩)) w := fun w => run_string_add_sum w _ _ (by show nm.size + 4 ≤ _; omega)
  have E2 : ∀ w, (Op.stringOp .add (nm ++ ⟨#[32, 116, 111, 32]⟩) tn).run Tryz.prog w = .ok (.string (nm ++ ⟨#[32, 116, 111, 32]⟩ ++ tn)) w := fun w => run_string_add_sum w _ _ (by rw [ByteArray.size_append]; show nm.size + 4 + tn.size ≤ _; omega)
  unfold noticeV
  go_enter Tryz.func109, Tryz.ntmps109
  go_wp2_with fail
  go_ret
  exact ⟨rfl, (Below.refl _ _).alloc (Nat.le_refl _) _⟩

set_option maxRecDepth 100000 in
set_option maxHeartbeats 1000000 in
theorem stops_any (nm tn : ByteArray) (n : Int) (x : NewsD) (ends : Bool) (w : World) (h1 : nm.size ≤ 20) (h2 : tn.size ≤ 20) :
    Calls Tryz.prog 99 #[noticeV nm tn n x ends] w fun e w' => e = .returned (.string (sayX nm tn ends x 3 n)) ∧ Below w.heap.size w w' := by
  have hA := bound_size h1 h2
  have HF : Hid (sayX nm tn ends x 3 n = boundS nm tn ++ ⟨#[32, 100, 111, 101, 115, 32, 110, 111, 116, 32, 99, 111, 109, 101]⟩) := sayX_3
  have E3 : ∀ w, (Op.stringOp .add (boundS nm tn) ⟨#[32, 100, 111, 101, 115, 32, 110, 111, 116, 32, 99, 111, 109, 101]⟩).run Tryz.prog w = .ok (.string (boundS nm tn ++ ⟨#[32, 100, 111, 101, 115, 32, 110, 111, 116, 32, 99, 111, 109, 101]⟩)) w := fun w => run_string_add_sum w _ _ (by show (boundS nm tn).size + 14 ≤ _; omega)
  have HB : Hid (∀ w, Calls Tryz.prog 109 #[.agg #[.string nm, .string tn, .int .i64 n, .int .i64 x.late, .int .i64 x.track, .bool x.off, .bool x.here, .bool x.gone, .bool ends]] w fun e w' => e = .returned (.string (boundS nm tn)) ∧ Below w.heap.size w w') := fun w => bound_any nm tn n x ends w h1 h2
  unfold noticeV
  go_enter Tryz.func99, Tryz.ntmps99
  go_wp2_with fail
  refine (HB.out _).mono ?_
  rintro e w1 ⟨rfl, hb1⟩
  go_wp2_with fail
  go_ret
  exact ⟨ret_str HF.out.symm, ((Below.refl _ _).alloc (Nat.le_refl _) _).trans (hb1.mono (by simp))⟩

set_option maxRecDepth 100000 in
set_option maxHeartbeats 1000000 in
theorem goes_any (nm tn : ByteArray) (n : Int) (x : NewsD) (ends : Bool) (w : World) (h1 : nm.size ≤ 20) (h2 : tn.size ≤ 20) :
    Calls Tryz.prog 101 #[noticeV nm tn n x ends] w fun e w' => e = .returned (.string (sayX nm tn ends x 5 n)) ∧ Below w.heap.size w w' := by
  have hA := bound_size h1 h2
  have HF : Hid (sayX nm tn ends x 5 n = boundS nm tn ++ ⟨#[32, 103, 111, 101, 115]⟩) := sayX_5
  have E3 : ∀ w, (Op.stringOp .add (boundS nm tn) ⟨#[32, 103, 111, 101, 115]⟩).run Tryz.prog w = .ok (.string (boundS nm tn ++ ⟨#[32, 103, 111, 101, 115]⟩)) w := fun w => run_string_add_sum w _ _ (by show (boundS nm tn).size + 5 ≤ _; omega)
  have HB : Hid (∀ w, Calls Tryz.prog 109 #[.agg #[.string nm, .string tn, .int .i64 n, .int .i64 x.late, .int .i64 x.track, .bool x.off, .bool x.here, .bool x.gone, .bool ends]] w fun e w' => e = .returned (.string (boundS nm tn)) ∧ Below w.heap.size w w') := fun w => bound_any nm tn n x ends w h1 h2
  unfold noticeV
  go_enter Tryz.func101, Tryz.ntmps101
  go_wp2_with fail
  refine (HB.out _).mono ?_
  rintro e w1 ⟨rfl, hb1⟩
  go_wp2_with fail
  go_ret
  exact ⟨ret_str HF.out.symm, ((Below.refl _ _).alloc (Nat.le_refl _) _).trans (hb1.mono (by simp))⟩

set_option maxRecDepth 100000 in
set_option maxHeartbeats 4000000 in
theorem comes_any {Tab : World → Prop} (hit : ItoaOk Tab) (nm tn : ByteArray) (m : Nat) (x : NewsD) (ends : Bool) (w : World) (h1 : nm.size ≤ 20) (h2 : tn.size ≤ 20) (hm : m ≤ 1000000) (htab : Tab w) :
    Calls Tryz.prog 98 #[noticeV nm tn m x ends] w fun e w' => e = .returned (.string (sayX nm tn ends x 2 m)) ∧ Below w.heap.size w w' := by
  have hA := bound_size h1 h2
  have hD := numS_size m
  have HF : Hid (sayX nm tn ends x 2 (m : Int) = boundS nm tn ++ ⟨#[32, 99, 111, 109, 101, 115, 32, 111, 110, 32, 116, 114, 97, 99, 107, 32]⟩ ++ numS m) := sayX_2
  obtain ⟨W, hW⟩ : ∃ W, w.alloc (.cells #[.string nm, .string tn, .int .i64 m, .int .i64 x.late, .int .i64 x.track, .bool x.off, .bool x.here, .bool x.gone, .bool ends] 144) = W := ⟨_, rfl⟩
  have bW : Below w.heap.size w W := by subst hW; exact (Below.refl _ _).alloc (Nat.le_refl _) _
  have g0 : W.cell? ⟨w.heap.size, 0, none⟩ = some (.string nm) := by subst hW; simp [go_sem]
  have g1 : W.cell? ⟨w.heap.size, 1, none⟩ = some (.string tn) := by subst hW; simp [go_sem]
  have g2 : W.cell? ⟨w.heap.size, 2, none⟩ = some (.int .i64 m) := by subst hW; simp [go_sem]
  have g3 : W.cell? ⟨w.heap.size, 3, none⟩ = some (.int .i64 x.late) := by subst hW; simp [go_sem]
  have g4 : W.cell? ⟨w.heap.size, 4, none⟩ = some (.int .i64 x.track) := by subst hW; simp [go_sem]
  have g5 : W.cell? ⟨w.heap.size, 5, none⟩ = some (.bool x.off) := by subst hW; simp [go_sem]
  have g6 : W.cell? ⟨w.heap.size, 6, none⟩ = some (.bool x.here) := by subst hW; simp [go_sem]
  have g7 : W.cell? ⟨w.heap.size, 7, none⟩ = some (.bool x.gone) := by subst hW; simp [go_sem]
  have g8 : W.cell? ⟨w.heap.size, 8, none⟩ = some (.bool ends) := by subst hW; simp [go_sem]
  have HTD : Hid (Tab W.drew) := hit.keep _ _ (Below.refl _ _).drew (hit.keep _ _ bW htab)
  have HTK : Hid (∀ w w', Below w.heap.size w w' → Tab w → Tab w') := hit.keep
  have HIT : Hid (∀ (w : World), Tab w → Calls Tryz.prog 76 #[.int .i64 m] w fun e w' => e = .returned (.string (numS m)) ∧ Below w.heap.size w w') := fun w ht => hit.calls m w (by omega) ht
  have HB : Hid (∀ w, Calls Tryz.prog 109 #[.agg #[.string nm, .string tn, .int .i64 m, .int .i64 x.late, .int .i64 x.track, .bool x.off, .bool x.here, .bool x.gone, .bool ends]] w fun e w' => e = .returned (.string (boundS nm tn)) ∧ Below w.heap.size w w') := fun w => bound_any nm tn m x ends w h1 h2
  generalize boundS nm tn = A at *
  generalize numS (m : Int) = D at *
  have E3 : ∀ w, (Op.stringOp .add A ⟨#[32, 99, 111, 109, 101, 115, 32, 111, 110, 32, 116, 114, 97, 99, 107, 32]⟩).run Tryz.prog w = .ok (.string (A ++ ⟨#[32, 99, 111, 109, 101, 115, 32, 111, 110, 32, 116, 114, 97, 99, 107, 32]⟩)) w := fun w => run_string_add_sum w _ _ (by show A.size + 16 ≤ _; omega)
  have E4 : ∀ w, (Op.stringOp .add (A ++ ⟨#[32, 99, 111, 109, 101, 115, 32, 111, 110, 32, 116, 114, 97, 99, 107, 32]⟩) D).run Tryz.prog w = .ok (.string (A ++ ⟨#[32, 99, 111, 109, 101, 115, 32, 111, 110, 32, 116, 114, 97, 99, 107, 32]⟩ ++ D)) w := fun w => run_string_add_sum w _ _ (by rw [ByteArray.size_append]; show A.size + 16 + D.size ≤ _; omega)
  unfold noticeV
  clear htab hit
  go_enter Tryz.func98, Tryz.ntmps98
  go_upto_region 1 with fail
  clear hW
  go_region_held3 (fun w' => w'.cell? ⟨w.heap.size, 0, none⟩ = some (.string nm) ∧ w'.cell? ⟨w.heap.size, 1, none⟩ = some (.string tn) ∧ w'.cell? ⟨w.heap.size, 2, none⟩ = some (.int .i64 m) ∧ w'.cell? ⟨w.heap.size, 3, none⟩ = some (.int .i64 x.late) ∧ w'.cell? ⟨w.heap.size, 4, none⟩ = some (.int .i64 x.track) ∧ w'.cell? ⟨w.heap.size, 5, none⟩ = some (.bool x.off) ∧ w'.cell? ⟨w.heap.size, 6, none⟩ = some (.bool x.here) ∧ w'.cell? ⟨w.heap.size, 7, none⟩ = some (.bool x.gone) ∧ w'.cell? ⟨w.heap.size, 8, none⟩ = some (.bool ends))
    (first | exact ⟨cell_keep hb3 (by exact g0), cell_keep hb3 (by exact g1), cell_keep hb3 (by exact g2), cell_keep hb3 (by exact g3), cell_keep hb3 (by exact g4), cell_keep hb3 (by exact g5), cell_keep hb3 (by exact g6), cell_keep hb3 (by exact g7), cell_keep hb3 (by exact g8)⟩ | exact ⟨cell_keep hb4 (cell_keep hb3 (by exact g0)), cell_keep hb4 (cell_keep hb3 (by exact g1)), cell_keep hb4 (cell_keep hb3 (by exact g2)), cell_keep hb4 (cell_keep hb3 (by exact g3)), cell_keep hb4 (cell_keep hb3 (by exact g4)), cell_keep hb4 (cell_keep hb3 (by exact g5)), cell_keep hb4 (cell_keep hb3 (by exact g6)), cell_keep hb4 (cell_keep hb3 (by exact g7)), cell_keep hb4 (cell_keep hb3 (by exact g8))⟩ | go_keep)
    (first
      | (go_at_call 109; first | (have _ := hb3; refine (HB.out _).mono ?_; rintro e w4 ⟨rfl, hb4⟩) | (refine (HB.out _).mono ?_; rintro e w3 ⟨rfl, hb3⟩))
      | (go_at_call 76; first | (have _ := hb3; refine (HIT.out _ (by exact HTK.out _ _ hb3 (by exact HTD.out))).mono ?_; rintro e w4 ⟨rfl, hb4⟩) | (refine (HIT.out _ (by exact HTD.out)).mono ?_; rintro e w3 ⟨rfl, hb3⟩)))
  all_goals
    have B4 : Below W.heap.size W w4 := ((Below.refl _ _).drew.trans (by exact hb3)).trans (hb4.mono (by have := hb3.size; exact this))
    go_wp2_with fail
    go_ret
    exact ⟨ret_str HF.out.symm, bW.trans (B4.mono bW.size)⟩

set_option maxRecDepth 100000 in
set_option maxHeartbeats 4000000 in
theorem late_any {Tab : World → Prop} (hit : ItoaOk Tab) (nm tn : ByteArray) (m : Nat) (x : NewsD) (ends : Bool) (w : World) (h1 : nm.size ≤ 20) (h2 : tn.size ≤ 20) (hm : m ≤ 1000000) (htab : Tab w) :
    Calls Tryz.prog 97 #[noticeV nm tn m x ends] w fun e w' => e = .returned (.string (sayX nm tn ends x 1 m)) ∧ Below w.heap.size w w' := by
  have hA := bound_size h1 h2
  have hD := numS_size m
  have HF1 : Hid (ends = true ∨ x.late = (m : Int) → sayX nm tn ends x 1 (m : Int) = ⟨#[]⟩) := fun h => sayX_1e h
  have HF2 : Hid (¬ (ends = true ∨ x.late = (m : Int)) → (m : Int) = 0 → sayX nm tn ends x 1 (m : Int) = boundS nm tn ++ ⟨#[32, 105, 115, 32, 111, 110, 32, 116, 105, 109, 101]⟩) := fun h h0 => sayX_1z h h0
  have HF3 : Hid (¬ (ends = true ∨ x.late = (m : Int)) → ¬ (m : Int) = 0 → sayX nm tn ends x 1 (m : Int) = boundS nm tn ++ ⟨#[32, 105, 115, 32, 108, 97, 116, 101, 32, 98, 121, 32]⟩ ++ numS m) := fun h h0 => sayX_1n h h0
  obtain ⟨W, hW⟩ : ∃ W, w.alloc (.cells #[.string nm, .string tn, .int .i64 m, .int .i64 x.late, .int .i64 x.track, .bool x.off, .bool x.here, .bool x.gone, .bool ends] 144) = W := ⟨_, rfl⟩
  have bW : Below w.heap.size w W := by subst hW; exact (Below.refl _ _).alloc (Nat.le_refl _) _
  have g0 : W.cell? ⟨w.heap.size, 0, none⟩ = some (.string nm) := by subst hW; simp [go_sem]
  have g1 : W.cell? ⟨w.heap.size, 1, none⟩ = some (.string tn) := by subst hW; simp [go_sem]
  have g2 : W.cell? ⟨w.heap.size, 2, none⟩ = some (.int .i64 m) := by subst hW; simp [go_sem]
  have g3 : W.cell? ⟨w.heap.size, 3, none⟩ = some (.int .i64 x.late) := by subst hW; simp [go_sem]
  have g4 : W.cell? ⟨w.heap.size, 4, none⟩ = some (.int .i64 x.track) := by subst hW; simp [go_sem]
  have g5 : W.cell? ⟨w.heap.size, 5, none⟩ = some (.bool x.off) := by subst hW; simp [go_sem]
  have g6 : W.cell? ⟨w.heap.size, 6, none⟩ = some (.bool x.here) := by subst hW; simp [go_sem]
  have g7 : W.cell? ⟨w.heap.size, 7, none⟩ = some (.bool x.gone) := by subst hW; simp [go_sem]
  have g8 : W.cell? ⟨w.heap.size, 8, none⟩ = some (.bool ends) := by subst hW; simp [go_sem]
  have HTD : Hid (Tab W.drew) := hit.keep _ _ (Below.refl _ _).drew (hit.keep _ _ bW htab)
  have HTK : Hid (∀ w w', Below w.heap.size w w' → Tab w → Tab w') := hit.keep
  have HIT : Hid (∀ (w : World), Tab w → Calls Tryz.prog 76 #[.int .i64 m] w fun e w' => e = .returned (.string (numS m)) ∧ Below w.heap.size w w') := fun w ht => hit.calls m w (by omega) ht
  have HB : Hid (∀ w, Calls Tryz.prog 109 #[.agg #[.string nm, .string tn, .int .i64 m, .int .i64 x.late, .int .i64 x.track, .bool x.off, .bool x.here, .bool x.gone, .bool ends]] w fun e w' => e = .returned (.string (boundS nm tn)) ∧ Below w.heap.size w w') := fun w => bound_any nm tn m x ends w h1 h2
  generalize boundS nm tn = A at *
  generalize numS (m : Int) = D at *
  have E3 : ∀ w, (Op.stringOp .add A ⟨#[32, 105, 115, 32, 108, 97, 116, 101, 32, 98, 121, 32]⟩).run Tryz.prog w = .ok (.string (A ++ ⟨#[32, 105, 115, 32, 108, 97, 116, 101, 32, 98, 121, 32]⟩)) w := fun w => run_string_add_sum w _ _ (by show A.size + 12 ≤ _; omega)
  have E4 : ∀ w, (Op.stringOp .add (A ++ ⟨#[32, 105, 115, 32, 108, 97, 116, 101, 32, 98, 121, 32]⟩) D).run Tryz.prog w = .ok (.string (A ++ ⟨#[32, 105, 115, 32, 108, 97, 116, 101, 32, 98, 121, 32]⟩ ++ D)) w := fun w => run_string_add_sum w _ _ (by rw [ByteArray.size_append]; show A.size + 12 + D.size ≤ _; omega)
  have E5 : ∀ w, (Op.stringOp .add A ⟨#[32, 105, 115, 32, 111, 110, 32, 116, 105, 109, 101]⟩).run Tryz.prog w = .ok (.string (A ++ ⟨#[32, 105, 115, 32, 111, 110, 32, 116, 105, 109, 101]⟩)) w := fun w => run_string_add_sum w _ _ (by show A.size + 11 ≤ _; omega)
  unfold noticeV
  clear htab hit
  cases ends
  · by_cases hla : x.late = (m : Int)
    · have HF := HF1.out (.inr hla)
      have HF : Hid _ := HF
      have ba : (x.late == (m : Int)) = true := by simpa using hla
      clear hla HF1 HF2 HF3
      go_enter Tryz.func97, Tryz.ntmps97
      go_wp2_with fail
      go_ret
      exact ⟨ret_str HF.out.symm, bW⟩
    · have ba : (x.late == (m : Int)) = false := by simpa using hla
      have hne : ¬ (false = true ∨ x.late = (m : Int)) := fun h => by rcases h with h | h <;> simp_all
      by_cases hz : (m : Int) = 0
      · have HF := HF2.out hne hz
        have HF : Hid _ := HF
        have bz : ((m : Int) == 0) = true := by simpa using hz
        clear hla HF1 HF2 HF3 hne hz
        go_enter Tryz.func97, Tryz.ntmps97
        go_wp2_with fail
        refine (HB.out _).mono ?_
        rintro e w1 ⟨rfl, hb1⟩
        go_wp2_with fail
        go_ret
        exact ⟨ret_str HF.out.symm, bW.trans (hb1.mono bW.size)⟩
      · have HF := HF3.out hne hz
        have HF : Hid _ := HF
        have bz : ((m : Int) == 0) = false := by simpa using hz
        clear hla HF1 HF2 HF3 hne hz E5
        go_enter Tryz.func97, Tryz.ntmps97
        go_upto_region 5 with fail
        clear hW
        go_region_held3 (fun w' => w'.cell? ⟨w.heap.size, 0, none⟩ = some (.string nm) ∧ w'.cell? ⟨w.heap.size, 1, none⟩ = some (.string tn) ∧ w'.cell? ⟨w.heap.size, 2, none⟩ = some (.int .i64 m) ∧ w'.cell? ⟨w.heap.size, 3, none⟩ = some (.int .i64 x.late) ∧ w'.cell? ⟨w.heap.size, 4, none⟩ = some (.int .i64 x.track) ∧ w'.cell? ⟨w.heap.size, 5, none⟩ = some (.bool x.off) ∧ w'.cell? ⟨w.heap.size, 6, none⟩ = some (.bool x.here) ∧ w'.cell? ⟨w.heap.size, 7, none⟩ = some (.bool x.gone) ∧ w'.cell? ⟨w.heap.size, 8, none⟩ = some (.bool false))
          (first | exact ⟨cell_keep hb3 (by exact g0), cell_keep hb3 (by exact g1), cell_keep hb3 (by exact g2), cell_keep hb3 (by exact g3), cell_keep hb3 (by exact g4), cell_keep hb3 (by exact g5), cell_keep hb3 (by exact g6), cell_keep hb3 (by exact g7), cell_keep hb3 (by exact g8)⟩ | exact ⟨cell_keep hb4 (cell_keep hb3 (by exact g0)), cell_keep hb4 (cell_keep hb3 (by exact g1)), cell_keep hb4 (cell_keep hb3 (by exact g2)), cell_keep hb4 (cell_keep hb3 (by exact g3)), cell_keep hb4 (cell_keep hb3 (by exact g4)), cell_keep hb4 (cell_keep hb3 (by exact g5)), cell_keep hb4 (cell_keep hb3 (by exact g6)), cell_keep hb4 (cell_keep hb3 (by exact g7)), cell_keep hb4 (cell_keep hb3 (by exact g8))⟩ | go_keep)
          (first
            | (go_at_call 109; first | (have _ := hb3; refine (HB.out _).mono ?_; rintro e w4 ⟨rfl, hb4⟩) | (refine (HB.out _).mono ?_; rintro e w3 ⟨rfl, hb3⟩))
            | (go_at_call 76; first | (have _ := hb3; refine (HIT.out _ (by exact HTK.out _ _ hb3 (by exact HTD.out))).mono ?_; rintro e w4 ⟨rfl, hb4⟩) | (refine (HIT.out _ (by exact HTD.out)).mono ?_; rintro e w3 ⟨rfl, hb3⟩)))
        all_goals
          have B4 : Below W.heap.size W w4 := ((Below.refl _ _).drew.trans (by exact hb3)).trans (hb4.mono (by have := hb3.size; exact this))
          go_wp2_with fail
          go_ret
          exact ⟨ret_str HF.out.symm, bW.trans (B4.mono bW.size)⟩
  · have HF := HF1.out (.inl rfl)
    have HF : Hid _ := HF
    clear HF1 HF2 HF3
    go_enter Tryz.func97, Tryz.ntmps97
    go_wp2_with fail
    go_ret
    exact ⟨ret_str HF.out.symm, bW⟩

set_option maxRecDepth 100000 in
set_option maxHeartbeats 4000000 in
theorem here_any {Tab : World → Prop} (hit : ItoaOk Tab) (nm tn : ByteArray) (n : Int) (x : NewsD) (ends : Bool) (m : Nat) (w : World) (h1 : nm.size ≤ 20) (h2 : tn.size ≤ 20) (hx : x.track = (m : Int)) (hm : m ≤ 1000000) (htab : Tab w) :
    Calls Tryz.prog 100 #[noticeV nm tn n x ends] w fun e w' => e = .returned (.string (sayX nm tn ends x 4 n)) ∧ Below w.heap.size w w' := by
  have hA := bound_size h1 h2
  have hD := numS_size m
  have HF1 : Hid (ends = true → sayX nm tn ends x 4 n = nm ++ ⟨#[32, 101, 110, 100, 115, 32, 104, 101, 114, 101]⟩) := fun h => sayX_4e h
  have HF2 : Hid (¬ ends = true → sayX nm tn ends x 4 n = boundS nm tn ++ ⟨#[32, 105, 115, 32, 104, 101, 114, 101, 32, 111, 110, 32, 116, 114, 97, 99, 107, 32]⟩ ++ numS m) := fun h => by have := sayX_4n (nm := nm) (tn := tn) (x := x) (n := n) h; rw [hx] at this; exact this
  have E5 : ∀ w, (Op.stringOp .add nm ⟨#[32, 101, 110, 100, 115, 32, 104, 101, 114, 101]⟩).run Tryz.prog w = .ok (.string (nm ++ ⟨#[32, 101, 110, 100, 115, 32, 104, 101, 114, 101]⟩)) w := fun w => run_string_add_sum w _ _ (by show nm.size + 10 ≤ _; omega)
  have HBB : Hid (∀ w, Calls Tryz.prog 109 #[noticeV nm tn n x ends] w fun e w' => e = .returned (.string (boundS nm tn)) ∧ Below w.heap.size w w') := fun w => bound_any nm tn n x ends w h1 h2
  unfold noticeV at HBB ⊢
  rw [hx] at HBB ⊢
  obtain ⟨W, hW⟩ : ∃ W, w.alloc (.cells #[.string nm, .string tn, .int .i64 n, .int .i64 x.late, .int .i64 m, .bool x.off, .bool x.here, .bool x.gone, .bool ends] 144) = W := ⟨_, rfl⟩
  have bW : Below w.heap.size w W := by subst hW; exact (Below.refl _ _).alloc (Nat.le_refl _) _
  have g0 : W.cell? ⟨w.heap.size, 0, none⟩ = some (.string nm) := by subst hW; simp [go_sem]
  have g1 : W.cell? ⟨w.heap.size, 1, none⟩ = some (.string tn) := by subst hW; simp [go_sem]
  have g2 : W.cell? ⟨w.heap.size, 2, none⟩ = some (.int .i64 n) := by subst hW; simp [go_sem]
  have g3 : W.cell? ⟨w.heap.size, 3, none⟩ = some (.int .i64 x.late) := by subst hW; simp [go_sem]
  have g4 : W.cell? ⟨w.heap.size, 4, none⟩ = some (.int .i64 m) := by subst hW; simp [go_sem]
  have g5 : W.cell? ⟨w.heap.size, 5, none⟩ = some (.bool x.off) := by subst hW; simp [go_sem]
  have g6 : W.cell? ⟨w.heap.size, 6, none⟩ = some (.bool x.here) := by subst hW; simp [go_sem]
  have g7 : W.cell? ⟨w.heap.size, 7, none⟩ = some (.bool x.gone) := by subst hW; simp [go_sem]
  have g8 : W.cell? ⟨w.heap.size, 8, none⟩ = some (.bool ends) := by subst hW; simp [go_sem]
  have HTD : Hid (Tab W.drew) := hit.keep _ _ (Below.refl _ _).drew (hit.keep _ _ bW htab)
  have HTK : Hid (∀ w w', Below w.heap.size w w' → Tab w → Tab w') := hit.keep
  have HIT : Hid (∀ (w : World), Tab w → Calls Tryz.prog 76 #[.int .i64 m] w fun e w' => e = .returned (.string (numS m)) ∧ Below w.heap.size w w') := fun w ht => hit.calls m w (by omega) ht
  have HB : Hid (∀ w, Calls Tryz.prog 109 #[.agg #[.string nm, .string tn, .int .i64 n, .int .i64 x.late, .int .i64 m, .bool x.off, .bool x.here, .bool x.gone, .bool ends]] w fun e w' => e = .returned (.string (boundS nm tn)) ∧ Below w.heap.size w w') := HBB.out
  generalize boundS nm tn = A at *
  generalize numS (m : Int) = D at *
  have E3 : ∀ w, (Op.stringOp .add A ⟨#[32, 105, 115, 32, 104, 101, 114, 101, 32, 111, 110, 32, 116, 114, 97, 99, 107, 32]⟩).run Tryz.prog w = .ok (.string (A ++ ⟨#[32, 105, 115, 32, 104, 101, 114, 101, 32, 111, 110, 32, 116, 114, 97, 99, 107, 32]⟩)) w := fun w => run_string_add_sum w _ _ (by show A.size + 18 ≤ _; omega)
  have E4 : ∀ w, (Op.stringOp .add (A ++ ⟨#[32, 105, 115, 32, 104, 101, 114, 101, 32, 111, 110, 32, 116, 114, 97, 99, 107, 32]⟩) D).run Tryz.prog w = .ok (.string (A ++ ⟨#[32, 105, 115, 32, 104, 101, 114, 101, 32, 111, 110, 32, 116, 114, 97, 99, 107, 32]⟩ ++ D)) w := fun w => run_string_add_sum w _ _ (by rw [ByteArray.size_append]; show A.size + 18 + D.size ≤ _; omega)
  clear htab hit HBB hx
  cases ends
  · have HF := HF2.out (by decide)
    have HF : Hid _ := HF
    clear HF1 HF2 E5
    go_enter Tryz.func100, Tryz.ntmps100
    go_upto_region 3 with fail
    clear hW
    go_region_held3 (fun w' => w'.cell? ⟨w.heap.size, 0, none⟩ = some (.string nm) ∧ w'.cell? ⟨w.heap.size, 1, none⟩ = some (.string tn) ∧ w'.cell? ⟨w.heap.size, 2, none⟩ = some (.int .i64 n) ∧ w'.cell? ⟨w.heap.size, 3, none⟩ = some (.int .i64 x.late) ∧ w'.cell? ⟨w.heap.size, 4, none⟩ = some (.int .i64 m) ∧ w'.cell? ⟨w.heap.size, 5, none⟩ = some (.bool x.off) ∧ w'.cell? ⟨w.heap.size, 6, none⟩ = some (.bool x.here) ∧ w'.cell? ⟨w.heap.size, 7, none⟩ = some (.bool x.gone) ∧ w'.cell? ⟨w.heap.size, 8, none⟩ = some (.bool false))
      (first | exact ⟨cell_keep hb3 (by exact g0), cell_keep hb3 (by exact g1), cell_keep hb3 (by exact g2), cell_keep hb3 (by exact g3), cell_keep hb3 (by exact g4), cell_keep hb3 (by exact g5), cell_keep hb3 (by exact g6), cell_keep hb3 (by exact g7), cell_keep hb3 (by exact g8)⟩ | exact ⟨cell_keep hb4 (cell_keep hb3 (by exact g0)), cell_keep hb4 (cell_keep hb3 (by exact g1)), cell_keep hb4 (cell_keep hb3 (by exact g2)), cell_keep hb4 (cell_keep hb3 (by exact g3)), cell_keep hb4 (cell_keep hb3 (by exact g4)), cell_keep hb4 (cell_keep hb3 (by exact g5)), cell_keep hb4 (cell_keep hb3 (by exact g6)), cell_keep hb4 (cell_keep hb3 (by exact g7)), cell_keep hb4 (cell_keep hb3 (by exact g8))⟩ | go_keep)
      (first
        | (go_at_call 109; first | (have _ := hb3; refine (HB.out _).mono ?_; rintro e w4 ⟨rfl, hb4⟩) | (refine (HB.out _).mono ?_; rintro e w3 ⟨rfl, hb3⟩))
        | (go_at_call 76; first | (have _ := hb3; refine (HIT.out _ (by exact HTK.out _ _ hb3 (by exact HTD.out))).mono ?_; rintro e w4 ⟨rfl, hb4⟩) | (refine (HIT.out _ (by exact HTD.out)).mono ?_; rintro e w3 ⟨rfl, hb3⟩)))
    all_goals
      have B4 : Below W.heap.size W w4 := ((Below.refl _ _).drew.trans (by exact hb3)).trans (hb4.mono (by have := hb3.size; exact this))
      go_wp2_with fail
      go_ret
      exact ⟨ret_str HF.out.symm, bW.trans (B4.mono bW.size)⟩
  · have HF := HF1.out rfl
    have HF : Hid _ := HF
    clear HF1 HF2
    go_enter Tryz.func100, Tryz.ntmps100
    go_wp2_with fail
    go_ret
    exact ⟨ret_str HF.out.symm, bW⟩

end Go.Proofs.YtjioingdpfgadabGreatDoor
namespace Go.Proofs.YtjioingdpfgadabGreatDoor
open Go Go.RowKit Go.Deep

/-- At a step of a region that draws its order: a whole row is loaded (for go_region_law). -/
theorem step_load_all {P : Program} {ops : Array Oper} {o : Oper} {a : Act} {w : World} {K : Act → World → Prop} {Q : Exit → Act → World → Prop} {E : Prop} (hgd : o.guard = none) (ty : TypeId) (x : Operand) (ho : o.op = .load ty x)
    (g off : Nat) (hx : a.eval x = .pointer (some ⟨g, off, none⟩)) (vs : List Value) (d : TypeDesc) (hc : ∀ j u, vs[j]? = some u → w.cell? ⟨g, off + j, none⟩ = some u)
    (hu : P.underlying ty = some d) (hd : (match d with | .struct _ | .array _ _ => true | _ => false) = true) (hi : (P.info? ty).map (·.size) = some vs.length)
    (h : K (a.put o.dst (.agg vs.toArray)) w) : if Region.wanted o (yielded ops a.tmps) = true then Oper.wp P o a w K Q else E := by
  have hw : Region.wanted o (yielded ops a.tmps) = true := by simp [Region.wanted, hgd]
  rw [if_pos hw]
  unfold Oper.wp execOp
  simp only [ho, hx, Instr.loadAt, Instr.sureAddr, Sem.run_bind, Sem.run_pure, Result.andThen_ok, run_loadVar_part w g off ty vs d hc hu hd hi]
  exact h
/-- The same: a row is stored into a part of a block. -/
theorem step_store_part {P : Program} {ops : Array Oper} {o : Oper} {a : Act} {w : World} {K : Act → World → Prop} {Q : Exit → Act → World → Prop} {E : Prop} (hgd : o.guard = none) (ty : TypeId) (x y : Operand) (ho : o.op = .store ty x y)
    (g off : Nat) (vs : List Value) (hx : a.eval x = .pointer (some ⟨g, off, none⟩)) (hy : a.eval y = .agg vs.toArray)
    (t : TypeId) (old : Array Value) (hg : w.heap[g]? = some (.cells old t (0, 0))) (hi : (P.info? ty).map (·.size) = some vs.length)
    (hold : off + vs.length ≤ old.size) (h1 : ∀ v ∈ vs, v.oneCell' = true)
    (h : K (a.put o.dst undef) (w.setRow g (putAt old off vs))) : if Region.wanted o (yielded ops a.tmps) = true then Oper.wp P o a w K Q else E := by
  have hw : Region.wanted o (yielded ops a.tmps) = true := by simp [Region.wanted, hgd]
  rw [if_pos hw]
  unfold Oper.wp execOp
  simp only [ho, hx, hy, Instr.storeAt, Instr.sureAddr, Sem.run_bind, Sem.run_pure, Result.andThen_ok, run_storeVar_part w g off t ty old vs hg hi hold h1]
  exact h
/-- The same: a call by its contract. -/
theorem step_calls {P : Program} {ops : Array Oper} {o : Oper} {a : Act} {w : World} {K : Act → World → Prop} {Q : Exit → Act → World → Prop} {E : Prop} {R : Ending → World → Prop} (hgd : o.guard = none) (f : FuncId) (args : Array Value) (hrun : (execOp a.eval o).run P w = .ok (.enter f args) w) (hc : Calls P f args w R)
    (h : ∀ e w', R e w' → ∃ v, e = .returned v ∧ K (a.put o.dst v) w') : if Region.wanted o (yielded ops a.tmps) = true then Oper.wp P o a w K Q else E := by
  have hw : Region.wanted o (yielded ops a.tmps) = true := by simp [Region.wanted, hgd]
  rw [if_pos hw]
  unfold Oper.wp
  rw [hrun, Oper.upon_enter]
  refine hc.mono fun e w' hr => ?_
  obtain ⟨v, rfl, hk⟩ := h e w' hr
  exact hk
theorem run_loadAt_part {P : Program} {w : World} {g off : Nat} {ty : TypeId} {vs : List Value} {d : TypeDesc} (hc : ∀ j u, vs[j]? = some u → w.cell? ⟨g, off + j, none⟩ = some u)
    (hu : P.underlying ty = some d) (hd : (match d with | .struct _ | .array _ _ => true | _ => false) = true) (hi : (P.info? ty).map (·.size) = some vs.length) :
    (Instr.loadAt ty (.pointer (some ⟨g, off, none⟩))).run P w = .ok (.agg vs.toArray) w := by
  simp only [Instr.loadAt, Instr.sureAddr, Sem.run_bind, Sem.run_pure, Result.andThen_ok, run_loadVar_part w g off ty vs d hc hu hd hi]
theorem run_storeAt_part {P : Program} {w : World} {g off : Nat} {ty t : TypeId} {vs : List Value} {old : Array Value} (hg : w.heap[g]? = some (.cells old t (0, 0))) (hi : (P.info? ty).map (·.size) = some vs.length)
    (hold : off + vs.length ≤ old.size) (h1 : ∀ v ∈ vs, v.oneCell' = true) :
    (Instr.storeAt ty (.pointer (some ⟨g, off, none⟩)) (.agg vs.toArray)).run P w = .ok () (w.setRow g (putAt old off vs)) := by
  simp only [Instr.storeAt, Instr.sureAddr, Sem.run_bind, Sem.run_pure, Result.andThen_ok, run_storeVar_part w g off t ty old vs hg hi hold h1]
theorem there_of_block {w : World} {g : Nat} {old : Array Value} {t : TypeId} (hg : w.heap[g]? = some (.cells old t (0, 0))) {off n : Nat} (h : off + n ≤ old.size) : w.there g off n := fun j hj => by
  refine ⟨?_, by simp [World.frozen?, hg]⟩
  rw [cell_of_row _ _ _ _ _ _ hg, Array.getElem?_eq_getElem (by omega)]
  rfl
theorem range_of_block {w : World} {g : Nat} {vs : List Value} {t : TypeId} (hg : w.heap[g]? = some (.cells vs.toArray t (0, 0))) : w.rangeAt g 0 vs := fun j v hv => by
  rw [Nat.zero_add, cell_of_row _ _ _ _ _ _ hg]
  simpa using hv
/-- A store of many cells, as a row put into a block. -/
theorem setCells_row {P : Program} {w : World} {g off : Nat} {ty t : TypeId} {vs : List Value} {old : Array Value} (hg : w.heap[g]? = some (.cells old t (0, 0))) (hi : (P.info? ty).map (·.size) = some vs.length)
    (hold : off + vs.length ≤ old.size) (h1 : ∀ v ∈ vs, v.oneCell' = true) : w.setCells g off vs = w.setRow g (putAt old off vs) := by
  have e1 := run_storeVar_part (P := P) w g off t ty old vs hg hi hold h1
  have e2 := run_storeVar_mid (P := P) w g off ty vs.toArray (there_of_block hg (by simpa using hold)) (by simpa using hi) (by rw [Array.all_eq_true_iff_forall_mem]; intro x hx; exact h1 x (by simpa using hx))
  rw [e1] at e2
  simp at e2
  exact e2.symm
theorem below_grown {w w' : World} {r : Nat} (h : Below w.heap.size w w') : w.grownBy w' (some r) := ⟨h.os, h.tape, h.output, h.size, fun k hk _ => h.block k hk⟩
theorem grown_row (w : World) (g : Nat) (cs : Array Value) : w.grownBy (w.setRow g cs) (some g) := ⟨rfl, rfl, rfl, by rw [setRow_size]; exact Nat.le_refl _, fun k _ hne => by
  have h1 : k ≠ g := fun e => hne (by rw [e])
  have h2 : g ≠ k := fun e => hne (by rw [e])
  first | exact setRow_other _ _ _ _ h1 | exact setRow_other _ _ _ _ h2⟩

end Go.Proofs.YtjioingdpfgadabGreatDoor
namespace Go.Proofs.YtjioingdpfgadabGreatDoor
open Go Go.RowKit Go.Deep

set_option maxRecDepth 100000 in
set_option maxHeartbeats 4000000 in
theorem text_any {Tab : World → Prop} (hit : ItoaOk Tab) (nm tn : ByteArray) (n : Int) (x : NewsD) (ends : Bool) (op : Int) (w : World) (h1 : nm.size ≤ 20) (h2 : tn.size ≤ 20) (hop : 1 ≤ op ∧ op ≤ 5) (hn : op = 1 ∨ op = 2 → 0 ≤ n ∧ n ≤ 1000000) (hx : 1 ≤ x.track ∧ x.track ≤ 20) (htab : Tab w) :
    Calls Tryz.prog 84 #[noticeV nm tn n x ends, .int .i64 op] w fun e w' => e = .returned (.string (sayX nm tn ends x op n)) ∧ Below w.heap.size w w' := by
  have HTK : Hid (∀ w w', Below w.heap.size w w' → Tab w → Tab w') := hit.keep
  have HV : Hid (noticeV nm tn n x ends = .agg #[.string nm, .string tn, .int .i64 n, .int .i64 x.late, .int .i64 x.track, .bool x.off, .bool x.here, .bool x.gone, .bool ends]) := rfl
  rw [HV.out]
  obtain ⟨W1, hW1⟩ : ∃ W1, w.alloc (.cells #[.string nm, .string tn, .int .i64 n, .int .i64 x.late, .int .i64 x.track, .bool x.off, .bool x.here, .bool x.gone, .bool ends] 144) = W1 := ⟨_, rfl⟩
  have bW1 : Below w.heap.size w W1 := by subst hW1; exact (Below.refl _ _).alloc (Nat.le_refl _) _
  have g0 : W1.cell? ⟨w.heap.size, 0, none⟩ = some (.string nm) := by subst hW1; simp [go_sem]
  have g1 : W1.cell? ⟨w.heap.size, 1, none⟩ = some (.string tn) := by subst hW1; simp [go_sem]
  have g2 : W1.cell? ⟨w.heap.size, 2, none⟩ = some (.int .i64 n) := by subst hW1; simp [go_sem]
  have g3 : W1.cell? ⟨w.heap.size, 3, none⟩ = some (.int .i64 x.late) := by subst hW1; simp [go_sem]
  have g4 : W1.cell? ⟨w.heap.size, 4, none⟩ = some (.int .i64 x.track) := by subst hW1; simp [go_sem]
  have g5 : W1.cell? ⟨w.heap.size, 5, none⟩ = some (.bool x.off) := by subst hW1; simp [go_sem]
  have g6 : W1.cell? ⟨w.heap.size, 6, none⟩ = some (.bool x.here) := by subst hW1; simp [go_sem]
  have g7 : W1.cell? ⟨w.heap.size, 7, none⟩ = some (.bool x.gone) := by subst hW1; simp [go_sem]
  have g8 : W1.cell? ⟨w.heap.size, 8, none⟩ = some (.bool ends) := by subst hW1; simp [go_sem]
  obtain ⟨W2, hW2⟩ : ∃ W2, (W1.alloc (.cells #[.nilFunc, .nilFunc, .nilFunc, .nilFunc, .nilFunc, .nilFunc] 168)).setRow W1.heap.size #[.nilFunc, .func (.func 97) #[.agg #[.string nm, .string tn, .int .i64 n, .int .i64 x.late, .int .i64 x.track, .bool x.off, .bool x.here, .bool x.gone, .bool ends]] #[], .func (.func 98) #[.agg #[.string nm, .string tn, .int .i64 n, .int .i64 x.late, .int .i64 x.track, .bool x.off, .bool x.here, .bool x.gone, .bool ends]] #[], .func (.func 99) #[.agg #[.string nm, .string tn, .int .i64 n, .int .i64 x.late, .int .i64 x.track, .bool x.off, .bool x.here, .bool x.gone, .bool ends]] #[], .func (.func 100) #[.agg #[.string nm, .string tn, .int .i64 n, .int .i64 x.late, .int .i64 x.track, .bool x.off, .bool x.here, .bool x.gone, .bool ends]] #[], .func (.func 101) #[.agg #[.string nm, .string tn, .int .i64 n, .int .i64 x.late, .int .i64 x.track, .bool x.off, .bool x.here, .bool x.gone, .bool ends]] #[]] = W2 := ⟨_, rfl⟩
  have HH2 : Hid (W2.heap[W1.heap.size]? = some (.cells #[.nilFunc, .func (.func 97) #[.agg #[.string nm, .string tn, .int .i64 n, .int .i64 x.late, .int .i64 x.track, .bool x.off, .bool x.here, .bool x.gone, .bool ends]] #[], .func (.func 98) #[.agg #[.string nm, .string tn, .int .i64 n, .int .i64 x.late, .int .i64 x.track, .bool x.off, .bool x.here, .bool x.gone, .bool ends]] #[], .func (.func 99) #[.agg #[.string nm, .string tn, .int .i64 n, .int .i64 x.late, .int .i64 x.track, .bool x.off, .bool x.here, .bool x.gone, .bool ends]] #[], .func (.func 100) #[.agg #[.string nm, .string tn, .int .i64 n, .int .i64 x.late, .int .i64 x.track, .bool x.off, .bool x.here, .bool x.gone, .bool ends]] #[], .func (.func 101) #[.agg #[.string nm, .string tn, .int .i64 n, .int .i64 x.late, .int .i64 x.track, .bool x.off, .bool x.here, .bool x.gone, .bool ends]] #[]] 168 (0, 0))) := by unfold Hid; rw [← hW2]; exact setRow_heap _ _ _ _ _ _ (heap_alloc_last W1 _)
  have HC : Hid (∀ (i : Nat) (v : Value), #[.nilFunc, .func (.func 97) #[.agg #[.string nm, .string tn, .int .i64 n, .int .i64 x.late, .int .i64 x.track, .bool x.off, .bool x.here, .bool x.gone, .bool ends]] #[], .func (.func 98) #[.agg #[.string nm, .string tn, .int .i64 n, .int .i64 x.late, .int .i64 x.track, .bool x.off, .bool x.here, .bool x.gone, .bool ends]] #[], .func (.func 99) #[.agg #[.string nm, .string tn, .int .i64 n, .int .i64 x.late, .int .i64 x.track, .bool x.off, .bool x.here, .bool x.gone, .bool ends]] #[], .func (.func 100) #[.agg #[.string nm, .string tn, .int .i64 n, .int .i64 x.late, .int .i64 x.track, .bool x.off, .bool x.here, .bool x.gone, .bool ends]] #[], .func (.func 101) #[.agg #[.string nm, .string tn, .int .i64 n, .int .i64 x.late, .int .i64 x.track, .bool x.off, .bool x.here, .bool x.gone, .bool ends]] #[]][i]? = some v → W2.cell? ⟨W1.heap.size, i, none⟩ = some v) := fun i v hv => by rw [cell_of_row _ _ _ _ _ _ HH2.out]; exact hv
  have bW2 : Below w.heap.size w W2 := by rw [← hW2]; exact below_setRow (bW1.alloc bW1.size _) _ _ bW1.size
  have HT2 : Hid (Tab W2) := HTK.out _ _ bW2 htab
  have hsz : (Tryz.prog.info? 168).map (·.size) = some (#[.nilFunc, .func (.func 97) #[.agg #[.string nm, .string tn, .int .i64 n, .int .i64 x.late, .int .i64 x.track, .bool x.off, .bool x.here, .bool x.gone, .bool ends]] #[], .func (.func 98) #[.agg #[.string nm, .string tn, .int .i64 n, .int .i64 x.late, .int .i64 x.track, .bool x.off, .bool x.here, .bool x.gone, .bool ends]] #[], .func (.func 99) #[.agg #[.string nm, .string tn, .int .i64 n, .int .i64 x.late, .int .i64 x.track, .bool x.off, .bool x.here, .bool x.gone, .bool ends]] #[], .func (.func 100) #[.agg #[.string nm, .string tn, .int .i64 n, .int .i64 x.late, .int .i64 x.track, .bool x.off, .bool x.here, .bool x.gone, .bool ends]] #[], .func (.func 101) #[.agg #[.string nm, .string tn, .int .i64 n, .int .i64 x.late, .int .i64 x.track, .bool x.off, .bool x.here, .bool x.gone, .bool ends]] #[]] : Array Value).size := by
    show _ = some 6
    kernel_rfl
  have hone : (#[.nilFunc, .func (.func 97) #[.agg #[.string nm, .string tn, .int .i64 n, .int .i64 x.late, .int .i64 x.track, .bool x.off, .bool x.here, .bool x.gone, .bool ends]] #[], .func (.func 98) #[.agg #[.string nm, .string tn, .int .i64 n, .int .i64 x.late, .int .i64 x.track, .bool x.off, .bool x.here, .bool x.gone, .bool ends]] #[], .func (.func 99) #[.agg #[.string nm, .string tn, .int .i64 n, .int .i64 x.late, .int .i64 x.track, .bool x.off, .bool x.here, .bool x.gone, .bool ends]] #[], .func (.func 100) #[.agg #[.string nm, .string tn, .int .i64 n, .int .i64 x.late, .int .i64 x.track, .bool x.off, .bool x.here, .bool x.gone, .bool ends]] #[], .func (.func 101) #[.agg #[.string nm, .string tn, .int .i64 n, .int .i64 x.late, .int .i64 x.track, .bool x.off, .bool x.here, .bool x.gone, .bool ends]] #[]] : Array Value).all (·.oneCell') = true := by simp [Value.oneCell']
  have HL : Hid (∀ m : Nat, m ≤ 1000000 → n = (m : Int) → Calls Tryz.prog 97 #[.agg #[.string nm, .string tn, .int .i64 n, .int .i64 x.late, .int .i64 x.track, .bool x.off, .bool x.here, .bool x.gone, .bool ends]] W2 fun e w' => e = .returned (.string (sayX nm tn ends x 1 n)) ∧ Below W2.heap.size W2 w') := fun m hm e => by subst e; exact late_any hit nm tn m x ends W2 h1 h2 hm HT2.out
  have HC2 : Hid (∀ m : Nat, m ≤ 1000000 → n = (m : Int) → Calls Tryz.prog 98 #[.agg #[.string nm, .string tn, .int .i64 n, .int .i64 x.late, .int .i64 x.track, .bool x.off, .bool x.here, .bool x.gone, .bool ends]] W2 fun e w' => e = .returned (.string (sayX nm tn ends x 2 n)) ∧ Below W2.heap.size W2 w') := fun m hm e => by subst e; exact comes_any hit nm tn m x ends W2 h1 h2 hm HT2.out
  have HST : Hid (Calls Tryz.prog 99 #[.agg #[.string nm, .string tn, .int .i64 n, .int .i64 x.late, .int .i64 x.track, .bool x.off, .bool x.here, .bool x.gone, .bool ends]] W2 fun e w' => e = .returned (.string (sayX nm tn ends x 3 n)) ∧ Below W2.heap.size W2 w') := stops_any nm tn n x ends W2 h1 h2
  have HHE : Hid (Calls Tryz.prog 100 #[.agg #[.string nm, .string tn, .int .i64 n, .int .i64 x.late, .int .i64 x.track, .bool x.off, .bool x.here, .bool x.gone, .bool ends]] W2 fun e w' => e = .returned (.string (sayX nm tn ends x 4 n)) ∧ Below W2.heap.size W2 w') := by
    obtain ⟨m, hm⟩ := Int.eq_ofNat_of_zero_le (show 0 ≤ x.track by omega)
    exact here_any hit nm tn n x ends m W2 h1 h2 hm (by omega) HT2.out
  have HGO : Hid (Calls Tryz.prog 101 #[.agg #[.string nm, .string tn, .int .i64 n, .int .i64 x.late, .int .i64 x.track, .bool x.off, .bool x.here, .bool x.gone, .bool ends]] W2 fun e w' => e = .returned (.string (sayX nm tn ends x 5 n)) ∧ Below W2.heap.size W2 w') := goes_any nm tn n x ends W2 h1 h2
  have HN : Hid (op = 1 ∨ op = 2 → ∃ m : Nat, m ≤ 1000000 ∧ n = (m : Int)) := fun h => by
    obtain ⟨a, b⟩ := hn h
    obtain ⟨m, rfl⟩ := Int.eq_ofNat_of_zero_le a
    exact ⟨m, by omega, rfl⟩
  clear htab hit hn hx h1 h2
  rcases (show op = 1 ∨ op = 2 ∨ op = 3 ∨ op = 4 ∨ op = 5 by omega) with rfl | rfl | rfl | rfl | rfl
  · obtain ⟨m, hm, he⟩ := HN.out (.inl rfl)
    have HE : Hid (n = (m : Int)) := he
    clear he
    have cop := HC.out 1 _ rfl
    clear HC hop HN
    go_enter Tryz.func84, Tryz.ntmps84
    go_wp2_with (refine wpList_store_row (by rfl) 168 (.tmp 5) (.tmp 16) (by rfl) W1.heap.size #[.nilFunc, .func (.func 97) #[.agg #[.string nm, .string tn, .int .i64 n, .int .i64 x.late, .int .i64 x.track, .bool x.off, .bool x.here, .bool x.gone, .bool ends]] #[], .func (.func 98) #[.agg #[.string nm, .string tn, .int .i64 n, .int .i64 x.late, .int .i64 x.track, .bool x.off, .bool x.here, .bool x.gone, .bool ends]] #[], .func (.func 99) #[.agg #[.string nm, .string tn, .int .i64 n, .int .i64 x.late, .int .i64 x.track, .bool x.off, .bool x.here, .bool x.gone, .bool ends]] #[], .func (.func 100) #[.agg #[.string nm, .string tn, .int .i64 n, .int .i64 x.late, .int .i64 x.track, .bool x.off, .bool x.here, .bool x.gone, .bool ends]] #[], .func (.func 101) #[.agg #[.string nm, .string tn, .int .i64 n, .int .i64 x.late, .int .i64 x.track, .bool x.off, .bool x.here, .bool x.gone, .bool ends]] #[]] (by rfl) (by rfl) 168 #[.nilFunc, .nilFunc, .nilFunc, .nilFunc, .nilFunc, .nilFunc] (heap_alloc_last W1 _) hsz (by rfl) hone ?_)
    refine (HL.out m hm HE.out).mono ?_
    rintro e w3 ⟨rfl, hb3⟩
    go_wp2_with fail
    go_ret
    exact ⟨rfl, bW2.trans (hb3.mono bW2.size)⟩
  · obtain ⟨m, hm, he⟩ := HN.out (.inr rfl)
    have HE : Hid (n = (m : Int)) := he
    clear he
    have cop := HC.out 2 _ rfl
    clear HC hop HN
    go_enter Tryz.func84, Tryz.ntmps84
    go_wp2_with (refine wpList_store_row (by rfl) 168 (.tmp 5) (.tmp 16) (by rfl) W1.heap.size #[.nilFunc, .func (.func 97) #[.agg #[.string nm, .string tn, .int .i64 n, .int .i64 x.late, .int .i64 x.track, .bool x.off, .bool x.here, .bool x.gone, .bool ends]] #[], .func (.func 98) #[.agg #[.string nm, .string tn, .int .i64 n, .int .i64 x.late, .int .i64 x.track, .bool x.off, .bool x.here, .bool x.gone, .bool ends]] #[], .func (.func 99) #[.agg #[.string nm, .string tn, .int .i64 n, .int .i64 x.late, .int .i64 x.track, .bool x.off, .bool x.here, .bool x.gone, .bool ends]] #[], .func (.func 100) #[.agg #[.string nm, .string tn, .int .i64 n, .int .i64 x.late, .int .i64 x.track, .bool x.off, .bool x.here, .bool x.gone, .bool ends]] #[], .func (.func 101) #[.agg #[.string nm, .string tn, .int .i64 n, .int .i64 x.late, .int .i64 x.track, .bool x.off, .bool x.here, .bool x.gone, .bool ends]] #[]] (by rfl) (by rfl) 168 #[.nilFunc, .nilFunc, .nilFunc, .nilFunc, .nilFunc, .nilFunc] (heap_alloc_last W1 _) hsz (by rfl) hone ?_)
    refine (HC2.out m hm HE.out).mono ?_
    rintro e w3 ⟨rfl, hb3⟩
    go_wp2_with fail
    go_ret
    exact ⟨rfl, bW2.trans (hb3.mono bW2.size)⟩
  · clear HL HC2
    have cop := HC.out 3 _ rfl
    clear HC hop HN
    go_enter Tryz.func84, Tryz.ntmps84
    go_wp2_with (refine wpList_store_row (by rfl) 168 (.tmp 5) (.tmp 16) (by rfl) W1.heap.size #[.nilFunc, .func (.func 97) #[.agg #[.string nm, .string tn, .int .i64 n, .int .i64 x.late, .int .i64 x.track, .bool x.off, .bool x.here, .bool x.gone, .bool ends]] #[], .func (.func 98) #[.agg #[.string nm, .string tn, .int .i64 n, .int .i64 x.late, .int .i64 x.track, .bool x.off, .bool x.here, .bool x.gone, .bool ends]] #[], .func (.func 99) #[.agg #[.string nm, .string tn, .int .i64 n, .int .i64 x.late, .int .i64 x.track, .bool x.off, .bool x.here, .bool x.gone, .bool ends]] #[], .func (.func 100) #[.agg #[.string nm, .string tn, .int .i64 n, .int .i64 x.late, .int .i64 x.track, .bool x.off, .bool x.here, .bool x.gone, .bool ends]] #[], .func (.func 101) #[.agg #[.string nm, .string tn, .int .i64 n, .int .i64 x.late, .int .i64 x.track, .bool x.off, .bool x.here, .bool x.gone, .bool ends]] #[]] (by rfl) (by rfl) 168 #[.nilFunc, .nilFunc, .nilFunc, .nilFunc, .nilFunc, .nilFunc] (heap_alloc_last W1 _) hsz (by rfl) hone ?_)
    refine (HST.out).mono ?_
    rintro e w3 ⟨rfl, hb3⟩
    go_wp2_with fail
    go_ret
    exact ⟨rfl, bW2.trans (hb3.mono bW2.size)⟩
  · clear HL HC2
    have cop := HC.out 4 _ rfl
    clear HC hop HN
    go_enter Tryz.func84, Tryz.ntmps84
    go_wp2_with (refine wpList_store_row (by rfl) 168 (.tmp 5) (.tmp 16) (by rfl) W1.heap.size #[.nilFunc, .func (.func 97) #[.agg #[.string nm, .string tn, .int .i64 n, .int .i64 x.late, .int .i64 x.track, .bool x.off, .bool x.here, .bool x.gone, .bool ends]] #[], .func (.func 98) #[.agg #[.string nm, .string tn, .int .i64 n, .int .i64 x.late, .int .i64 x.track, .bool x.off, .bool x.here, .bool x.gone, .bool ends]] #[], .func (.func 99) #[.agg #[.string nm, .string tn, .int .i64 n, .int .i64 x.late, .int .i64 x.track, .bool x.off, .bool x.here, .bool x.gone, .bool ends]] #[], .func (.func 100) #[.agg #[.string nm, .string tn, .int .i64 n, .int .i64 x.late, .int .i64 x.track, .bool x.off, .bool x.here, .bool x.gone, .bool ends]] #[], .func (.func 101) #[.agg #[.string nm, .string tn, .int .i64 n, .int .i64 x.late, .int .i64 x.track, .bool x.off, .bool x.here, .bool x.gone, .bool ends]] #[]] (by rfl) (by rfl) 168 #[.nilFunc, .nilFunc, .nilFunc, .nilFunc, .nilFunc, .nilFunc] (heap_alloc_last W1 _) hsz (by rfl) hone ?_)
    refine (HHE.out).mono ?_
    rintro e w3 ⟨rfl, hb3⟩
    go_wp2_with fail
    go_ret
    exact ⟨rfl, bW2.trans (hb3.mono bW2.size)⟩
  · clear HL HC2
    have cop := HC.out 5 _ rfl
    clear HC hop HN
    go_enter Tryz.func84, Tryz.ntmps84
    go_wp2_with (refine wpList_store_row (by rfl) 168 (.tmp 5) (.tmp 16) (by rfl) W1.heap.size #[.nilFunc, .func (.func 97) #[.agg #[.string nm, .string tn, .int .i64 n, .int .i64 x.late, .int .i64 x.track, .bool x.off, .bool x.here, .bool x.gone, .bool ends]] #[], .func (.func 98) #[.agg #[.string nm, .string tn, .int .i64 n, .int .i64 x.late, .int .i64 x.track, .bool x.off, .bool x.here, .bool x.gone, .bool ends]] #[], .func (.func 99) #[.agg #[.string nm, .string tn, .int .i64 n, .int .i64 x.late, .int .i64 x.track, .bool x.off, .bool x.here, .bool x.gone, .bool ends]] #[], .func (.func 100) #[.agg #[.string nm, .string tn, .int .i64 n, .int .i64 x.late, .int .i64 x.track, .bool x.off, .bool x.here, .bool x.gone, .bool ends]] #[], .func (.func 101) #[.agg #[.string nm, .string tn, .int .i64 n, .int .i64 x.late, .int .i64 x.track, .bool x.off, .bool x.here, .bool x.gone, .bool ends]] #[]] (by rfl) (by rfl) 168 #[.nilFunc, .nilFunc, .nilFunc, .nilFunc, .nilFunc, .nilFunc] (heap_alloc_last W1 _) hsz (by rfl) hone ?_)
    refine (HGO.out).mono ?_
    rintro e w3 ⟨rfl, hb3⟩
    go_wp2_with fail
    go_ret
    exact ⟨rfl, bW2.trans (hb3.mono bW2.size)⟩

set_option maxRecDepth 100000 in
set_option maxHeartbeats 1000000 in
theorem reaches_any (r : RepD) (k : Int) (w : World) (hc : 0 ≤ r.call) :
    Calls Tryz.prog 81 #[repV r, .int .i64 k] w fun e w' => e = .returned (.bool (reachB r.op r.call k)) ∧ Below w.heap.size w w' := by
  unfold repV
  rcases Int.lt_trichotomy k r.call with h | h | h
  · have HR : Hid (reachB r.op r.call k = false) := reachB_lt h
    have b1 : (k == r.call) = false := by simp; omega
    have b2 : ¬ (r.call < k) := by omega
    clear hc
    go_enter Tryz.func81, Tryz.ntmps81
    go_wp2_with fail
    go_ret
    exact ⟨ret_bool HR.out.symm, (Below.refl _ _).alloc (Nat.le_refl _) _⟩
  · have HR : Hid (reachB r.op r.call k = true) := reachB_eq h (by omega)
    have b1 : (k == r.call) = true := by simpa using h
    clear h hc
    go_enter Tryz.func81, Tryz.ntmps81
    go_wp2_with fail
    go_ret
    exact ⟨ret_bool HR.out.symm, (Below.refl _ _).alloc (Nat.le_refl _) _⟩
  · have b1 : (k == r.call) = false := by simp; omega
    have HRG : Hid (r.op = 1 ∨ r.op = 3 → reachB r.op r.call k = true) := fun ho => reachB_gt h (by omega) ho
    by_cases o1 : r.op = 1
    · have HR : Hid (reachB r.op r.call k = true) := HRG.out (.inl o1)
      have c1 : (r.op == 1) = true := by simpa using o1
      clear o1 hc
      go_enter Tryz.func81, Tryz.ntmps81
      go_wp2_with fail
      go_ret
      exact ⟨ret_bool HR.out.symm, (Below.refl _ _).alloc (Nat.le_refl _) _⟩
    · have c1 : (r.op == 1) = false := by simpa using o1
      by_cases o3 : r.op = 3
      · have HR : Hid (reachB r.op r.call k = true) := HRG.out (.inr o3)
        have c3 : (r.op == 3) = true := by simpa using o3
        clear o1 o3 hc
        go_enter Tryz.func81, Tryz.ntmps81
        go_wp2_with fail
        go_ret
        exact ⟨ret_bool HR.out.symm, (Below.refl _ _).alloc (Nat.le_refl _) _⟩
      · have HR : Hid (reachB r.op r.call k = false) := reachB_no h (by omega)
        have c3 : (r.op == 3) = false := by simpa using o3
        clear o1 o3 hc
        go_enter Tryz.func81, Tryz.ntmps81
        go_wp2_with fail
        go_ret
        exact ⟨ret_bool HR.out.symm, (Below.refl _ _).alloc (Nat.le_refl _) _⟩

set_option maxRecDepth 100000 in
set_option maxHeartbeats 1000000 in
theorem isSpoken_any (x : NewsD) (op : Int) (w : World) :
    Calls Tryz.prog 82 #[newsV x, .int .i64 op] w fun e w' => e = .returned (.bool (spokenB x op)) ∧ Below w.heap.size w w' := by
  obtain ⟨la, tr, off, here, gone⟩ := x
  unfold newsV
  cases gone
  · cases off
    · cases here
      · have HR : Hid (spokenB ⟨la, tr, false, false, false⟩ op = true) := rfl
        go_enter Tryz.func82, Tryz.ntmps82
        go_wp2_with fail
        go_ret
        exact ⟨ret_bool HR.out.symm, (Below.refl _ _).alloc (Nat.le_refl _) _⟩
      · by_cases o1 : op = 1
        · have HR : Hid (spokenB ⟨la, tr, false, true, false⟩ op = true) := by unfold Hid spokenB; simp [o1]
          have c1 : (op == 1) = true := by simpa using o1
          clear o1
          go_enter Tryz.func82, Tryz.ntmps82
          go_wp2_with fail
          go_ret
          exact ⟨ret_bool HR.out.symm, (Below.refl _ _).alloc (Nat.le_refl _) _⟩
        · have c1 : (op == 1) = false := by simpa using o1
          by_cases o5 : op = 5
          · have HR : Hid (spokenB ⟨la, tr, false, true, false⟩ op = true) := by unfold Hid spokenB; simp [o5]
            have c5 : (op == 5) = true := by simpa using o5
            clear o1 o5
            go_enter Tryz.func82, Tryz.ntmps82
            go_wp2_with fail
            go_ret
            exact ⟨ret_bool HR.out.symm, (Below.refl _ _).alloc (Nat.le_refl _) _⟩
          · have HR : Hid (spokenB ⟨la, tr, false, true, false⟩ op = false) := by unfold Hid spokenB; simp [o1, o5]
            have c5 : (op == 5) = false := by simpa using o5
            clear o1 o5
            go_enter Tryz.func82, Tryz.ntmps82
            go_wp2_with fail
            go_ret
            exact ⟨ret_bool HR.out.symm, (Below.refl _ _).alloc (Nat.le_refl _) _⟩
    · have HR : Hid (spokenB ⟨la, tr, true, here, false⟩ op = false) := rfl
      go_enter Tryz.func82, Tryz.ntmps82
      go_wp2_with fail
      go_ret
      exact ⟨ret_bool HR.out.symm, (Below.refl _ _).alloc (Nat.le_refl _) _⟩
  · have HR : Hid (spokenB ⟨la, tr, off, here, true⟩ op = false) := rfl
    go_enter Tryz.func82, Tryz.ntmps82
    go_wp2_with fail
    go_ret
    exact ⟨ret_bool HR.out.symm, (Below.refl _ _).alloc (Nat.le_refl _) _⟩

end Go.Proofs.YtjioingdpfgadabGreatDoor
