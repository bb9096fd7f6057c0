import Derived.Test.YtjioingdpfgadaaDoorArrM
import Derived.Lib.ReflectliteSwap
import Derived.Test.YtjioingdpfgadaaDoorProg
import Derived.Test.YtjioingdpfgadaaDoorBaseM
namespace Go.Proofs.YtjioingdpfgadaaDoor
open Go Go.RowKit Go.Extern.Stop Go.Stop Go.Extern Go.Lib

theorem Tryd.partsEa (a : Addr) (w : World) : (ReflectliteValue.parts (.agg #[.pointer (some ⟨12, 126, none⟩), .pointer (some a), .int .u64 409])).run Tryd.prog w = .ok (some (126, a, 409)) w := by kernel_rfl
theorem Tryd.partsE (a : Addr) (w : World) : (ReflectliteValue.parts (.agg #[.pointer (some ⟨12, 126, none⟩), .pointer (some a), .int .u64 153])).run Tryd.prog w = .ok (some (126, a, 153)) w := by kernel_rfl
theorem Tryd.directE (w : World) : (Rtype.directlyAssignable 126 126).run Tryd.prog w = .ok true w := by kernel_rfl
theorem Tryd.infoE : ∃ ie, Tryd.prog.info? 126 = some ie ∧ ie.size = 3 := by
  have h : (Tryd.prog.info? 126).map (fun i => i.size) = some 3 := by kernel_rfl
  obtain ⟨ie, h1, h2⟩ := Option.map_eq_some_iff.1 h
  exact ⟨ie, h1, h2⟩
theorem Tryd.aggE (w : World) : (isAgg 126).run Tryd.prog w = .ok true w := by kernel_rfl
set_option maxRecDepth 100000 in
theorem Tryd.setE (tb b : Nat) (x y z x' y' z' : Value) (W : World) (h0 : W.cell? ⟨b, 0, none⟩ = some x) (h1 : W.cell? ⟨b, 1, none⟩ = some y) (h2 : W.cell? ⟨b, 2, none⟩ = some z)
    (t0 : W.cell? ⟨tb, 0, none⟩ = some x') (t1 : W.cell? ⟨tb, 1, none⟩ = some y') (t2 : W.cell? ⟨tb, 2, none⟩ = some z') (hf : ∀ o, W.frozen? ⟨tb, o, none⟩ = false)
    (cx : x.oneCell' = true) (cy : y.oneCell' = true) (cz : z.oneCell' = true) :
    (ReflectliteValue.set #[.agg #[.pointer (some ⟨12, 126, none⟩), .pointer (some ⟨tb, 0, none⟩), .int .u64 409], .agg #[.pointer (some ⟨12, 126, none⟩), .pointer (some ⟨b, 0, none⟩), .int .u64 153]]).run Tryd.prog W
      = .ok (.tuple #[]) (((W.setCell ⟨tb, 0, none⟩ x).setCell ⟨tb, 1, none⟩ y).setCell ⟨tb, 2, none⟩ z) := by
  obtain ⟨ie, hie, hs⟩ := Tryd.infoE
  have l := rl_loadVar_cells (P := Tryd.prog) 126 ie hie Tryd.aggE b 0 [x, y, z] (by rw [hs]; rfl) W (by
    intro k v hv
    match k with
    | 0 => simp at hv; subst hv; exact h0
    | 1 => simp at hv; subst hv; exact h1
    | 2 => simp at hv; subst hv; exact h2
    | k + 3 => simp at hv)
  have s := rl_storeVar_cells (P := Tryd.prog) 126 ie hie tb 0 [x, y, z] (by rw [hs]; rfl) (by simp [cx, cy, cz]) W (by
    intro k hk
    match k, hk with
    | 0, _ => simp [t0]
    | 1, _ => simp [t1]
    | 2, _ => simp [t2]) (fun k _ => hf _)
  change Sem.run Tryd.prog (ReflectliteValue.parts (.agg #[.pointer (some ⟨12, 126, none⟩), .pointer (some ⟨tb, 0, none⟩), .int .u64 409]) >>= fun u => ReflectliteValue.parts (.agg #[.pointer (some ⟨12, 126, none⟩), .pointer (some ⟨b, 0, none⟩), .int .u64 153]) >>= _) W = _
  simp only [Sem.run_bind, Tryd.partsEa, Tryd.partsE, Result.andThen]
  simp [ReflectliteValue.flagAddr, Result.andThen, Tryd.directE, l, s]
  simp [World.setCells]
theorem Tryd.methodKind (h : Value) (w : World) : (Go.method 376 205 (.agg #[h]) "Kind").run Tryd.prog w = .ok (160, h) w := by kernel_rfl
theorem Tryd.methodElem (h : Value) (w : World) : (Go.method 376 205 (.agg #[h]) "Elem").run Tryd.prog w = .ok (176, .agg #[h]) w := by kernel_rfl
theorem Tryd.methodImplements (h : Value) (w : World) : (Go.method 376 205 (.agg #[h]) "Implements").run Tryd.prog w = .ok (177, .agg #[h]) w := by kernel_rfl
theorem Tryd.methodAssignableTo (h : Value) (w : World) : (Go.method 376 205 (.agg #[h]) "AssignableTo").run Tryd.prog w = .ok (174, .agg #[h]) w := by kernel_rfl

set_option maxRecDepth 100000 in
set_option maxHeartbeats 4000000 in
theorem as_hit (tb : Nat) (x y : Int) (z x' y' z' : Value) (w : World) (cz : z.oneCell' = true) (hg : w.cell? ⟨0, 0, none⟩ = some (.iface 205 (.agg #[.pointer (some ⟨12, 124, none⟩)])))
    (t0 : w.cell? ⟨tb, 0, none⟩ = some x') (t1 : w.cell? ⟨tb, 1, none⟩ = some y') (t2 : w.cell? ⟨tb, 2, none⟩ = some z') (hf : ∀ o, w.frozen? ⟨tb, o, none⟩ = false) :
    Calls Tryd.prog 63 #[.iface 126 (.agg #[.int .i64 x, .int .i64 y, z]), .iface 129 (.pointer (some ⟨tb, 0, none⟩))] w fun ev w' => ev = .returned (.bool true) ∧ w' = ((((((w.alloc (.cells #[.pointer (some ⟨tb, 0, none⟩)] 129)).alloc (.cells #[.pointer (some ⟨12, 129, none⟩), .pointer (some ⟨w.heap.size, 0, none⟩), .int .u64 150] 174)).alloc (.cells #[.pointer (some ⟨12, 129, none⟩), .pointer (some ⟨w.heap.size, 0, none⟩), .int .u64 150] 174)).alloc (.cells #[.int .i64 x, .int .i64 y, z] 126)).setCell ⟨tb, 0, none⟩ (.int .i64 x)).setCell ⟨tb, 1, none⟩ (.int .i64 y)).setCell ⟨tb, 2, none⟩ z := by
  have h29 := @run_callFunc_extern Tryd.prog 98 _ (fun args => ReflectliteValue.unpack (args.getD 0 (.tuple #[]))) Tryd.func98 (by kernel_rfl) (by kernel_rfl) (by kernel_rfl) (by kernel_rfl)
  have h30 := @run_callFunc_extern Tryd.prog 99 _ (ReflectliteValue.methodAny (ReflectliteValue.valueError "reflectlite.Value.Type" 0) (fun t _ _ _ => ReflectliteType.toType t)) Tryd.func99 (by kernel_rfl) (by kernel_rfl) (by kernel_rfl) (by kernel_rfl)
  have h31 := @run_callFunc_extern Tryd.prog 100 _ (ReflectliteValue.method (ReflectliteValue.valueError "reflectlite.Value.IsNil" 0) ReflectliteValue.isNil) Tryd.func100 (by kernel_rfl) (by kernel_rfl) (by kernel_rfl) (by kernel_rfl)
  have h63 := @run_callFunc_extern Tryd.prog 160 _ (ReflectliteType.abiMethod fun t => do pure (.int .u8 (← Rtype.kind t))) Tryd.func160 (by kernel_rfl) (by kernel_rfl) (by kernel_rfl) (by kernel_rfl)
  have h74 := @run_callFunc_extern Tryd.prog 176 _ (ReflectliteType.method ReflectliteType.elem) Tryd.func176 (by kernel_rfl) (by kernel_rfl) (by kernel_rfl) (by kernel_rfl)
  have h75 := @run_callFunc_extern Tryd.prog 177 _ (ReflectliteType.relation "Implements" ReflectliteType.implements_) Tryd.func177 (by kernel_rfl) (by kernel_rfl) (by kernel_rfl) (by kernel_rfl)
  have h39 := @run_callFunc_extern Tryd.prog 119 _ ReflectliteType.typeOf Tryd.func119 (by kernel_rfl) (by kernel_rfl) (by kernel_rfl) (by kernel_rfl)
  have h72 := @run_callFunc_extern Tryd.prog 174 _ (ReflectliteType.relation "AssignableTo" ReflectliteType.assignableTo) Tryd.func174 (by kernel_rfl) (by kernel_rfl) (by kernel_rfl) (by kernel_rfl)
  have h40 := @run_callFunc_extern Tryd.prog 120 _ (ReflectliteValue.method (ReflectliteValue.valueError "reflectlite.Value.Elem" 0) ReflectliteValue.elem) Tryd.func120 (by kernel_rfl) (by kernel_rfl) (by kernel_rfl) (by kernel_rfl)
  have h41 := @run_callFunc_extern Tryd.prog 121 _ ReflectliteValue.set Tryd.func121 (by kernel_rfl) (by kernel_rfl) (by kernel_rfl) (by kernel_rfl)
  have mK := Tryd.methodKind
  have mE := Tryd.methodElem
  have mI := Tryd.methodImplements
  have mA := Tryd.methodAssignableTo
  have tO := Tryd.typeOfE
  have aE := Tryd.assignE
  have vE := Tryd.valueOfE
  have f6 := Tryd.valueOfP
  have f7 := Tryd.typeP
  have kP := Tryd.kindP
  have kE := Tryd.kindE
  have eT := Tryd.elemT
  have iE := Tryd.implE
  have n8 := Tryd.isNilP ⟨w.heap.size, 0, none⟩ ⟨tb, 0, none⟩ ((w.alloc (.cells #[.pointer (some ⟨tb, 0, none⟩)] 129)).alloc (.cells #[.pointer (some ⟨12, 129, none⟩), .pointer (some ⟨w.heap.size, 0, none⟩), .int .u64 150] 174)) (by simp)
  have hlt : 0 < w.heap.size := cell_lt hg
  have htl : tb < w.heap.size := cell_lt t0
  have hg2 : ((w.alloc (.cells #[.pointer (some ⟨tb, 0, none⟩)] 129)).alloc (.cells #[.pointer (some ⟨12, 129, none⟩), .pointer (some ⟨w.heap.size, 0, none⟩), .int .u64 150] 174)).cell? ⟨0, 0, none⟩ = some (.iface 205 (.agg #[.pointer (some ⟨12, 124, none⟩)])) := by
    rw [World.cell?_alloc_lt _ _ ⟨0, 0, none⟩ (by simp), World.cell?_alloc_lt _ _ ⟨0, 0, none⟩ hlt]; exact hg
  have el := Tryd.elemV ⟨w.heap.size, 0, none⟩ ⟨tb, 0, none⟩ (((w.alloc (.cells #[.pointer (some ⟨tb, 0, none⟩)] 129)).alloc (.cells #[.pointer (some ⟨12, 129, none⟩), .pointer (some ⟨w.heap.size, 0, none⟩), .int .u64 150] 174)).alloc (.cells #[.pointer (some ⟨12, 129, none⟩), .pointer (some ⟨w.heap.size, 0, none⟩), .int .u64 150] 174)) (by rw [World.cell?_alloc_lt _ _ ⟨w.heap.size, 0, none⟩ (by simp; omega)]; simp)
  have hkeep : ∀ o v, w.cell? ⟨tb, o, none⟩ = some v → ((((w.alloc (.cells #[.pointer (some ⟨tb, 0, none⟩)] 129)).alloc (.cells #[.pointer (some ⟨12, 129, none⟩), .pointer (some ⟨w.heap.size, 0, none⟩), .int .u64 150] 174)).alloc (.cells #[.pointer (some ⟨12, 129, none⟩), .pointer (some ⟨w.heap.size, 0, none⟩), .int .u64 150] 174)).alloc (.cells #[.int .i64 x, .int .i64 y, z] 126)).cell? ⟨tb, o, none⟩ = some v := by
    intro o v h
    rw [World.cell?_alloc_lt _ _ ⟨tb, o, none⟩ (by simp; omega), World.cell?_alloc_lt _ _ ⟨tb, o, none⟩ (by simp; omega), World.cell?_alloc_lt _ _ ⟨tb, o, none⟩ (by simp; omega), World.cell?_alloc_lt _ _ ⟨tb, o, none⟩ htl]; exact h
  have st := Tryd.setE tb (w.heap.size + 1 + 1 + 1) (.int .i64 x) (.int .i64 y) z x' y' z' ((((w.alloc (.cells #[.pointer (some ⟨tb, 0, none⟩)] 129)).alloc (.cells #[.pointer (some ⟨12, 129, none⟩), .pointer (some ⟨w.heap.size, 0, none⟩), .int .u64 150] 174)).alloc (.cells #[.pointer (some ⟨12, 129, none⟩), .pointer (some ⟨w.heap.size, 0, none⟩), .int .u64 150] 174)).alloc (.cells #[.int .i64 x, .int .i64 y, z] 126))
    (by rw [World.cell?_alloc_at _ _ _ _ (by simp)]; rfl) (by rw [World.cell?_alloc_at _ _ _ _ (by simp)]; rfl) (by rw [World.cell?_alloc_at _ _ _ _ (by simp)]; rfl)
    (hkeep 0 _ t0) (hkeep 1 _ t1) (hkeep 2 _ t2)
    (fun o => by rw [World.frozen?_alloc_old _ _ ⟨tb, o, none⟩ (by simp; omega), World.frozen?_alloc_old _ _ ⟨tb, o, none⟩ (by simp; omega), World.frozen?_alloc_old _ _ ⟨tb, o, none⟩ (by simp; omega), World.frozen?_alloc_old _ _ ⟨tb, o, none⟩ (Nat.ne_of_lt htl)]; exact hf o)
    rfl rfl cz
  clear hkeep
  go_enter Tryd.func63, Tryd.ntmps63
  go_wp2
  refine wp_loop_rounds 1 ?_
  rw [rounds_succ]
  go_wp2
  go_ret
  exact ⟨rfl, rfl⟩

end Go.Proofs.YtjioingdpfgadaaDoor
namespace Go.Proofs.YtjioingdpfgadaaDoor
open Go Go.RowKit

set_option maxHeartbeats 400000 in
theorem l1in_any (x a b : Int) (w : World) :
    Calls Tryd.prog 50 #[.int .i64 x, .int .i64 a, .int .i64 b] w fun e w' => e = .returned (.bool (decide (a ≤ x ∧ x ≤ b))) ∧ w' = w := by
  by_cases h : a ≤ x
  · by_cases h2 : x ≤ b
    · go_enter Tryd.func50, Tryd.ntmps50
      go_wp2
      go_ret
      exact ⟨ret_bool (by simp [h, h2]), rfl⟩
    · go_enter Tryd.func50, Tryd.ntmps50
      go_wp2
      go_ret
      exact ⟨ret_bool (by simp [h2]), rfl⟩
  · go_enter Tryd.func50, Tryd.ntmps50
    go_wp2
    go_ret
    exact ⟨ret_bool (by rw [decide_eq_false (by omega)]; rfl), rfl⟩

set_option maxRecDepth 100000 in
set_option maxHeartbeats 4000000 in
theorem l1name_any (s : ByteArray) (w : World) (hs : s.size ≤ 1048576) :
    Calls Tryd.prog 65 #[.string s] w fun e w' => e = .returned (.bool (nameB s)) ∧ w' = w := by
  go_enter Tryd.func65, Tryd.ntmps65
  go_wp2
  go_loop [3, 4] (fun bl i => ∃ (k : Nat) (b : Bool), k ≤ s.size ∧ i = .int .i64 k ∧ bl = .bool b ∧ Hid (scanB (s.data.toList.take k) = some b)) (fun _ i => s.size - (intOf i).toNat)
  case atStart => exact ⟨0, true, Nat.zero_le _, rfl, rfl, by unfold Hid; simp [scanB]⟩
  case round =>
    obtain ⟨k, b, hk, rfl, rfl, hsc⟩ := hrel
    by_cases hlt : k < s.size
    · obtain ⟨c0, c1⟩ := byte_lt s[k]
      have HS : Hid (scanB (s.data.toList.take (k + 1)) = stepB s[k].toNat b) := scanB_step s k hlt hsc.out
      by_cases h32 : (s[k].toNat : Int) = 32
      · have H32 : Hid ((s[k].toNat : Int) = 32) := h32
        have hb32 : ((s[k].toNat : Int) == 32) = true := by simp [h32]
        clear h32
        cases b
        · go_wp2
          go_round
          case rel => exact ⟨k + 1, true, by omega, by go_num, rfl, by unfold Hid; rw [HS.out, step_blank H32.out]⟩
          case measure => simp [intOf]; omega
        · go_wp2
          go_ret
          exact ⟨ret_bool (by rw [nameB_dead s (k + 1) (by rw [HS.out, step_blank_bad H32.out])]), rfl⟩
      · have hb32 : ((s[k].toNat : Int) == 32) = false := by simpa using h32
        have H32 : Hid ((s[k].toNat : Int) ≠ 32) := h32
        clear h32
        by_cases hl : 97 ≤ (s[k].toNat : Int) ∧ (s[k].toNat : Int) ≤ 122 ∨ 65 ≤ (s[k].toNat : Int) ∧ (s[k].toNat : Int) ≤ 90 ∨ 48 ≤ (s[k].toNat : Int) ∧ (s[k].toNat : Int) ≤ 57
        · have HL : Hid (ldB (s[k].toNat : Int) = true) := ldB_yes hl
          rcases hl with ⟨l1, l2⟩ | ⟨l1, l2⟩ | ⟨l1, l2⟩
          all_goals
            go_wp2
            go_round
            case rel => exact ⟨k + 1, false, by omega, by go_num, rfl, by unfold Hid; rw [HS.out, step_ld H32.out HL.out]⟩
            case measure => simp [intOf]; omega
        · have HL : Hid (ldB (s[k].toNat : Int) = false) := ldB_no hl
          have hdead : nameB s = false := nameB_dead s (k + 1) (by rw [HS.out, step_bad H32.out HL.out])
          have HD : Hid (nameB s = false) := hdead
          clear hdead
          by_cases g1 : (s[k].toNat : Int) < 48
          · clear hl
            go_wp2
            go_ret
            exact ⟨ret_bool HD.out.symm, rfl⟩
          · by_cases g2 : (s[k].toNat : Int) < 65
            · have g3 : decide ((s[k].toNat : Int) ≤ 57) = false := by simp; omega
              clear hl
              go_wp2
              go_ret
              exact ⟨ret_bool HD.out.symm, rfl⟩
            · by_cases g4 : (s[k].toNat : Int) < 97
              · have g3 : decide ((s[k].toNat : Int) ≤ 90) = false := by simp; omega
                have g5 : decide ((s[k].toNat : Int) ≤ 57) = false := by simp; omega
                clear hl
                go_wp2
                go_ret
                exact ⟨ret_bool HD.out.symm, rfl⟩
              · have g3 : decide ((s[k].toNat : Int) ≤ 122) = false := by simp; omega
                have g5 : decide ((s[k].toNat : Int) ≤ 57) = false := by simp; omega
                have g6 : decide ((s[k].toNat : Int) ≤ 90) = false := by simp; omega
                clear hl
                go_wp2
                go_ret
                exact ⟨ret_bool HD.out.symm, rfl⟩
    · by_cases hz : s.size = 0
      · have HZ : Hid (nameB s = false) := nameB_empty hz
        have hz' : ¬ (0 : Int) < (s.size : Int) := by omega
        clear hz
        go_wp2
        go_ret
        exact ⟨ret_bool HZ.out.symm, rfl⟩
      · by_cases h20 : s.size ≤ 20
        · go_wp2
          go_ret
          exact ⟨ret_bool (by rw [nameB_end s k (by omega) hsc.out]; simp [h20]), rfl⟩
        · go_wp2
          go_ret
          exact ⟨ret_bool (nameB_long h20).symm, rfl⟩

end Go.Proofs.YtjioingdpfgadaaDoor
