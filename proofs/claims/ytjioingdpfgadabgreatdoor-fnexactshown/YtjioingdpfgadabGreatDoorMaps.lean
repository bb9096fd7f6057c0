import Derived.Test.YtjioingdpfgadabGreatDoorProg
import Derived.Test.YtjioingdpfgadabGreatDoorNames
import Derived.Test.YtjioingdpfgadabGreatDoorPlainM
import Derived.Maps.OwnOps
import Derived.Deep.OwnRows
namespace Go.Proofs.YtjioingdpfgadabGreatDoor
open Go Go.RowKit Go.WideMaps Go.Maps Go.Deep

theorem um : Tryz.prog.underlying 151 = some (.map 3 3) := by kernel_rfl
theorem ums : Tryz.prog.underlying 221 = some (.map 9 3) := by kernel_rfl
theorem ui : Tryz.prog.underlying 3 = some (.int .i64) := by kernel_rfl
theorem us : Tryz.prog.underlying 9 = some .string := by kernel_rfl
theorem lawI : Keyed Tryz.prog 3 := int_keyed ui
theorem lawS : Keyed Tryz.prog 9 := string_keyed us
theorem zeroI (w : World) : (zeroValue 3).run Tryz.prog w = .ok (.int .i64 0) w := by kernel_rfl
theorem run_makeMap_hint (t k e : TypeId) (ht : Tryz.prog.underlying t = some (.map k e)) (n : Int) (w : World) : (Instr.makeMap t (some (.int .i64 n))).run Tryz.prog w = .ok (.map (some w.heap.size)) (w.alloc (.map #[] 0)) := by
  simp [Instr.makeMap, run_underlying ht, asInt, asIntOf, Result.andThen, newObj]
  rfl
theorem intKey (s : Int) : WideAt.IsKeyLit (.int .i64 s) := by
  simp [WideAt.IsKeyLit]
theorem strKey (s : List UInt8) : WideAt.IsKeyLit (.string s) := by
  simp [WideAt.IsKeyLit]

set_option maxHeartbeats 400000 in
theorem callsByStation_any (a : Option Addr) (cs : List CallD) (c : Nat) (w : World) (hn : cs.length ≤ 1048576) (hwf : ∀ i (h : i < cs.length), (Lit.int .i64 cs[i].st).wf = true) (hat : CallsAt w a cs) :
    Calls Tryz.prog 88 #[.slice a cs.length c] w fun e w' => ∃ b D, e = .returned (.map (some b)) ∧ w.heap.size ≤ b ∧ w'.ownsMap Tryz.prog 3 (plainElem Tryz.prog 3) b cs.length D ∧ IntsMap (cs.map (·.st)) D ∧ Below w.heap.size w w' := by
  have hmm := run_makeMap_hint 151 3 3 um
  go_enter Tryz.func88, Tryz.ntmps88
  go_wp2
  go_loopw [11] (fun i wr => ∃ (k : Nat) (D : DataW Unit), k ≤ cs.length ∧ i = .int .i64 k ∧ wr.ownsMap Tryz.prog 3 (plainElem Tryz.prog 3) w.heap.size k D ∧ IntsMap ((cs.take k).map (·.st)) D ∧ Below w.heap.size w wr) (fun i _ => cs.length - (intOf i).toNat)
  case atStart => exact ⟨0, .map [], Nat.zero_le _, rfl, World.ownsMap_made _ _ _ _, by simpa using intsMap_nil, (Below.refl _ _).alloc (Nat.le_refl _) _⟩
  case round =>
    obtain ⟨k, D, hk, rfl, hown, him, hbel⟩ := hrel
    by_cases hlt : k < cs.length
    · obtain ⟨b, o, rfl, hc0, hc1, hc2, hc3⟩ := hat.keep hbel k hlt
      have hw := hwf k hlt
      have HIM : Hid (IntsMap ((cs.take (k + 1)).map (·.st)) (D.put (.int .i64 cs[k].st) (.lit (.int .i64 k)))) := by
        have h := intsMap_snoc him hown.isMap (hown.tidy lawI) cs[k].st (intKey _)
        have e : ((cs.take k).map (·.st)).length = k := by simp; omega
        rw [e] at h
        unfold Hid; rw [take_snoc cs k hlt, List.map_append]; exact h
      have HO : Hid (wr.ownsMap Tryz.prog 3 (plainElem Tryz.prog 3) w.heap.size k D) := hown
      generalize cs[k].st = x0 at *
      generalize cs[k].co = x1 at *
      generalize cs[k].go = x2 at *
      generalize cs[k].tr = x3 at *
      clear hat hwf hmm him hown
      go_wp2_with (at_mapUpdate; refine wpList_mapUpdate_own _ rfl _ _ _ 151 rfl 3 3 lawI um _ w.heap.size k _ rfl (HO.out.alloc _) (by unfold maxLen; omega) _ _ _ rfl rfl (keyOf_int_mk ui hw) _ [] (plainElem_int ui (WalkArith.wf_i64 (by omega))) ?_)
      intro w1 hown1 hgrow1
      have HO1 : Hid (w1.ownsMap Tryz.prog 3 (plainElem Tryz.prog 3) w.heap.size (k + 1) (D.put (.int .i64 x0) (.lit (.int .i64 k)))) := hown1
      have R2 : Below w.heap.size w w1 := (hbel.alloc hbel.size _).grown hgrow1 (by have := hbel.size; simp; omega) (fun j hj => by cases hj; exact Nat.le_refl _)
      clear hown1 hgrow1
      go_wp2
      go_roundw
      case rel => exact ⟨k + 1, _, by omega, by go_num, HO1.out, HIM.out, R2⟩
      case measure => simp [intOf]; omega
    · go_wp2
      go_ret
      have e : cs.take k = cs := List.take_of_length_le (by omega)
      have ek : k = cs.length := by omega
      rw [e] at him
      subst ek
      exact ⟨_, D, rfl, Nat.le_refl _, hown, him, hbel⟩

end Go.Proofs.YtjioingdpfgadabGreatDoor
