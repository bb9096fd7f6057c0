import Derived.Test.YtjioingdpfgadaaDoorProg
import Derived.Test.YtjioingdpfgadaaDoorBaseM
import Derived.Maps.OwnOps
import Derived.Deep.OwnRows
import Derived.BigRegion
import Derived.Deep.RegionWith
import Derived.BigQuiet
namespace Go.Proofs.YtjioingdpfgadaaDoor
open Go Go.RowKit

set_option maxHeartbeats 400000 in
theorem isLetterOrDigit_any (c : Int) (w : World) (h0 : 0 ≤ c) (h1 : c < 256) :
    Calls Tryd.prog 129 #[.int .u8 c] w fun e w' => e = .returned (.bool (ldB c)) ∧ w' = w := by
  go_enter Tryd.func129, Tryd.ntmps129
  go_wp2
  all_goals go_ret
  all_goals exact ⟨ret_bool (by unfold ldB; rw [Bool.eq_iff_iff]; simp; omega), rfl⟩

set_option maxHeartbeats 400000 in
theorem isName_any (s : ByteArray) (w : World) (hs : s.size ≤ 1048576) :
    Calls Tryd.prog 122 #[.string s] w fun e w' => e = .returned (.bool (nameB s)) ∧ w' = w := by
  by_cases h20 : s.size ≤ 20
  · go_enter Tryd.func122, Tryd.ntmps122
    go_wp2
    go_loop [3, 4] (fun bl i => ∃ (k : Nat) (b : Bool), k ≤ s.size ∧ i = .int .i64 k ∧ bl = .bool b ∧ Hid (scanB (s.data.toList.take k) = some b)) (fun _ i => s.size - (intOf i).toNat)
    case atStart => exact ⟨0, true, Nat.zero_le _, rfl, rfl, by unfold Hid; simp [scanB]⟩
    case round =>
      obtain ⟨k, b, hk, rfl, rfl, hsc⟩ := hrel
      by_cases hlt : k < s.size
      · obtain ⟨c0, c1⟩ := byte_lt s[k]
        have HS : Hid (scanB (s.data.toList.take (k + 1)) = stepB s[k].toNat b) := scanB_step s k hlt hsc.out
        by_cases h32 : (s[k].toNat : Int) = 32
        · have H32 : Hid ((s[k].toNat : Int) = 32) := h32
          have hb32 : ((s[k].toNat : Int) == 32) = true := by simp [h32]
          clear h32
          cases b
          · go_wp2_with (go_at_call 129; refine (isLetterOrDigit_any _ _ c0 c1).mono ?_; rintro e w' ⟨rfl, rfl⟩)
            go_round
            case rel => exact ⟨k + 1, true, by omega, by go_num, rfl, by unfold Hid; rw [HS.out, step_blank H32.out]⟩
            case measure => simp [intOf]; omega
          · have hl : ldB (s[k].toNat : Int) = false := ldB_no (by have := H32.out; omega)
            go_wp2_with (go_at_call 129; refine (isLetterOrDigit_any _ _ c0 c1).mono ?_; rintro e w' ⟨rfl, rfl⟩; rw [hl])
            go_ret
            exact ⟨ret_bool (by rw [nameB_dead s (k + 1) (by rw [HS.out, step_blank_bad H32.out])]), rfl⟩
        · have hb32 : ((s[k].toNat : Int) == 32) = false := by simpa using h32
          have H32 : Hid ((s[k].toNat : Int) ≠ 32) := h32
          clear h32
          cases hl : ldB (s[k].toNat : Int)
          · go_wp2_with (go_at_call 129; refine (isLetterOrDigit_any _ _ c0 c1).mono ?_; rintro e w' ⟨rfl, rfl⟩; rw [hl])
            go_ret
            exact ⟨ret_bool (by rw [nameB_dead s (k + 1) (by rw [HS.out, step_bad H32.out hl])]), rfl⟩
          · go_wp2_with (go_at_call 129; refine (isLetterOrDigit_any _ _ c0 c1).mono ?_; rintro e w' ⟨rfl, rfl⟩; rw [hl])
            go_round
            case rel => exact ⟨k + 1, false, by omega, by go_num, rfl, by unfold Hid; rw [HS.out, step_ld H32.out hl]⟩
            case measure => simp [intOf]; omega
      · go_wp2
        go_ret
        exact ⟨ret_bool (by rw [nameB_end s k (by omega) hsc.out]; simp [h20]), rfl⟩
  · go_enter Tryd.func122, Tryd.ntmps122
    go_wp2
    go_ret
    exact ⟨ret_bool (nameB_long h20).symm, rfl⟩

end Go.Proofs.YtjioingdpfgadaaDoor
namespace Go.Proofs.YtjioingdpfgadaaDoor
open Go Go.RowKit Go.WideMaps Go.Maps Go.Deep

theorem um : Tryd.prog.underlying 187 = some (.map 3 3) := by kernel_rfl
theorem ums : Tryd.prog.underlying 218 = some (.map 9 3) := by kernel_rfl
theorem ui : Tryd.prog.underlying 3 = some (.int .i64) := by kernel_rfl
theorem us : Tryd.prog.underlying 9 = some .string := by kernel_rfl
theorem lawI : Keyed Tryd.prog 3 := int_keyed ui
theorem lawS : Keyed Tryd.prog 9 := string_keyed us
theorem zeroI (w : World) : (zeroValue 3).run Tryd.prog w = .ok (.int .i64 0) w := by kernel_rfl
theorem run_makeMap_hint (t k e : TypeId) (ht : Tryd.prog.underlying t = some (.map k e)) (n : Int) (w : World) : (Instr.makeMap t (some (.int .i64 n))).run Tryd.prog w = .ok (.map (some w.heap.size)) (w.alloc (.map #[] 0)) := by
  simp [Instr.makeMap, run_underlying ht, asInt, asIntOf, Result.andThen, newObj]
  rfl
theorem intKey (s : Int) : WideAt.IsKeyLit (.int .i64 s) := by
  simp [WideAt.IsKeyLit]
theorem strKey (s : List UInt8) : WideAt.IsKeyLit (.string s) := by
  simp [WideAt.IsKeyLit]

set_option maxHeartbeats 400000 in
theorem callsByStation_any (a : Option Addr) (cs : List CallD) (c : Nat) (w : World) (hn : cs.length ≤ 1048576) (hwf : ∀ i (h : i < cs.length), (Lit.int .i64 cs[i].st).wf = true) (hat : CallsAt w a cs) :
    Calls Tryd.prog 105 #[.slice a cs.length c] w fun e w' => ∃ b D, e = .returned (.map (some b)) ∧ w.heap.size ≤ b ∧ w'.ownsMap Tryd.prog 3 (plainElem Tryd.prog 3) b cs.length D ∧ IntsMap (cs.map (·.st)) D ∧ Below w.heap.size w w' := by
  have hmm := run_makeMap_hint 187 3 3 um
  go_enter Tryd.func105, Tryd.ntmps105
  go_wp2
  go_loopw [11] (fun i wr => ∃ (k : Nat) (D : DataW Unit), k ≤ cs.length ∧ i = .int .i64 k ∧ wr.ownsMap Tryd.prog 3 (plainElem Tryd.prog 3) w.heap.size k D ∧ IntsMap ((cs.take k).map (·.st)) D ∧ Below w.heap.size w wr) (fun i _ => cs.length - (intOf i).toNat)
  case atStart => exact ⟨0, .map [], Nat.zero_le _, rfl, World.ownsMap_made _ _ _ _, by simpa using intsMap_nil, (Below.refl _ _).alloc (Nat.le_refl _) _⟩
  case round =>
    obtain ⟨k, D, hk, rfl, hown, him, hbel⟩ := hrel
    by_cases hlt : k < cs.length
    · obtain ⟨b, o, rfl, hc0, hc1, hc2, hc3⟩ := hat.keep hbel k hlt
      have hw := hwf k hlt
      have HIM : Hid (IntsMap ((cs.take (k + 1)).map (·.st)) (D.put (.int .i64 cs[k].st) (.lit (.int .i64 k)))) := by
        have h := intsMap_snoc him hown.isMap (hown.tidy lawI) cs[k].st (intKey _)
        have e : ((cs.take k).map (·.st)).length = k := by simp; omega
        rw [e] at h
        unfold Hid; rw [take_snoc cs k hlt, List.map_append]; exact h
      have HO : Hid (wr.ownsMap Tryd.prog 3 (plainElem Tryd.prog 3) w.heap.size k D) := hown
      generalize cs[k].st = x0 at *
      generalize cs[k].co = x1 at *
      generalize cs[k].go = x2 at *
      generalize cs[k].tr = x3 at *
      clear hat hwf hmm him hown
      go_wp2_with (at_mapUpdate; refine wpList_mapUpdate_own _ rfl _ _ _ 187 rfl 3 3 lawI um _ w.heap.size k _ rfl (HO.out.alloc _) (by unfold maxLen; omega) _ _ _ rfl rfl (keyOf_int_mk ui hw) _ [] (plainElem_int ui (WalkArith.wf_i64 (by omega))) ?_)
      intro w1 hown1 hgrow1
      have HO1 : Hid (w1.ownsMap Tryd.prog 3 (plainElem Tryd.prog 3) w.heap.size (k + 1) (D.put (.int .i64 x0) (.lit (.int .i64 k)))) := hown1
      have R2 : Below w.heap.size w w1 := (hbel.alloc hbel.size _).grown hgrow1 (by have := hbel.size; simp; omega) (fun j hj => by cases hj; exact Nat.le_refl _)
      clear hown1 hgrow1
      go_wp2
      go_roundw
      case rel => exact ⟨k + 1, _, by omega, by go_num, HO1.out, HIM.out, R2⟩
      case measure => simp [intOf]; omega
    · go_wp2
      go_ret
      have e : cs.take k = cs := List.take_of_length_le (by omega)
      have ek : k = cs.length := by omega
      rw [e] at him
      subst ek
      exact ⟨_, D, rfl, Nat.le_refl _, hown, him, hbel⟩

end Go.Proofs.YtjioingdpfgadaaDoor
namespace Go.Proofs.YtjioingdpfgadaaDoor
open Go Go.RowKit Go.WideMaps Go.Maps Go.Deep

/-- The package-level errors lie where they were laid. -/
structure ErrVars (w : World) : Prop where
  tooMany : ∃ x, w.cell? ⟨1, 0, none⟩ = some (.iface 243 x)
  noName : ∃ x, w.cell? ⟨2, 0, none⟩ = some (.iface 243 x)
  nameTwice : ∃ x, w.cell? ⟨3, 0, none⟩ = some (.iface 243 x)
  callCount : ∃ x, w.cell? ⟨4, 0, none⟩ = some (.iface 243 x)
  stationTwice : ∃ x, w.cell? ⟨5, 0, none⟩ = some (.iface 243 x)
  noStation : ∃ x, w.cell? ⟨6, 0, none⟩ = some (.iface 243 x)
  time : ∃ x, w.cell? ⟨7, 0, none⟩ = some (.iface 243 x)
  track : ∃ x, w.cell? ⟨8, 0, none⟩ = some (.iface 243 x)
  type : w.cell? ⟨0, 0, none⟩ = some (.iface 205 (.agg #[.pointer (some ⟨12, 124, none⟩)]))
theorem cell_keep' {w w' : World} {b o : Nat} {t : TypeId} (hb : Below w.heap.size w w') (h : ∃ x, w.cell? ⟨b, o, none⟩ = some (.iface t x)) : ∃ x, w'.cell? ⟨b, o, none⟩ = some (.iface t x) := by
  obtain ⟨x, h⟩ := h; exact ⟨x, cell_keep hb h⟩
theorem ErrVars.keep {w w' : World} (h : ErrVars w) (hb : Below w.heap.size w w') : ErrVars w' :=
  ⟨cell_keep' hb h.tooMany, cell_keep' hb h.noName, cell_keep' hb h.nameTwice, cell_keep' hb h.callCount, cell_keep' hb h.stationTwice, cell_keep' hb h.noStation, cell_keep' hb h.time, cell_keep' hb h.track, cell_keep hb h.type⟩

/-- What a check hands back: nil, or the fault with its place. -/
def FaultIs (code : Int) (o : Option Nat) (e : Ending) : Prop :=
  match o with
  | none => e = .returned .nilIface
  | some i => ∃ z, Value.oneCell' z = true ∧ e = .returned (.iface 126 (.agg #[.int .i64 code, .int .i64 i, z]))

set_option maxRecDepth 100000 in
set_option maxHeartbeats 1000000 in
theorem checkNames_any (a : Option Addr) (ss : List ByteArray) (c : Nat) (code : Int) (w : World) (hn : ss.length ≤ 1048576) (hs : ∀ i (h : i < ss.length), ss[i].size ≤ 1048576) (hat : StrsAt w a ss) (hev : ErrVars w) :
    Calls Tryd.prog 102 #[.slice a ss.length c, .int .i64 code] w fun e w' => FaultIs code (firstIdx (badName ss) ss.length) e ∧ Below w.heap.size w w' := by
  have hmm := run_makeMap_hint 218 9 3 ums
  go_enter Tryd.func102, Tryd.ntmps102
  go_wp2
  go_loopw [15] (fun i wr => ∃ (k : Nat) (D : DataW Unit), k ≤ ss.length ∧ i = .int .i64 k ∧ wr.ownsMap Tryd.prog 9 (plainElem Tryd.prog 3) w.heap.size k D ∧ StrsMap (keysOf (ss.take k)) D ∧ Hid (∀ j, j < k → badName ss j = false) ∧ Below w.heap.size w wr) (fun i _ => ss.length - (intOf i).toNat)
  case atStart => exact ⟨0, .map [], Nat.zero_le _, rfl, World.ownsMap_made _ _ _ _, by simpa [keysOf] using strsMap_nil, fun j hj => by omega, (Below.refl _ _).alloc (Nat.le_refl _) _⟩
  case round =>
    obtain ⟨k, D, hk, rfl, hown, hsm, hgood, hbel⟩ := hrel
    by_cases hlt : k < ss.length
    · obtain ⟨b, o, rfl, hc⟩ := hat.keep hbel k hlt
      have hsz := hs k hlt
      obtain ⟨ex, hex⟩ := (hev.keep hbel).noName
      obtain ⟨ey, hey⟩ := (hev.keep hbel).nameTwice
      have HB : Hid (badName ss k = (!nameB ss[k] || (keysOf (ss.take k)).contains ss[k].data.toList)) := badName_at ss k hlt
      have HH : Hid (Maps.has D (.string ss[k].data.toList) = (keysOf (ss.take k)).contains ss[k].data.toList) := hsm.has _
      have HSM : Hid (StrsMap (keysOf (ss.take (k + 1))) (D.put (.string ss[k].data.toList) (.lit (.int .i64 k)))) := by
        unfold Hid; rw [keysOf_snoc ss k hlt]
        exact strsMap_snoc hsm hown.isMap _ (strKey _) _
      have HO : Hid (wr.ownsMap Tryd.prog 9 (plainElem Tryd.prog 3) w.heap.size k D) := hown
      have HG := hgood
      have hkey : keyOf Tryd.prog 9 (.string ss[k]) = some (.string ss[k].data.toList) := keyOf_string_mk us (by unfold maxLen; omega)
      have HK : Hid (keyOf Tryd.prog 9 (.string ss[k]) = some (.string ss[k].data.toList)) := hkey
      generalize ss[k] = s at *
      clear hat hs hmm hsm hown hev hgood hkey
      cases hnm : nameB s
      · have HN : Hid (nameB s = false) := hnm
        go_wp2_with fail
        refine (isName_any _ _ hsz).mono ?_
        rintro e w1 ⟨rfl, rfl⟩
        rw [hnm]
        clear hnm
        go_wp2_with fail
        go_ret
        refine ⟨?_, hbel⟩
        rw [first_some (k := k) hlt (by rw [HB.out, HN.out]; rfl) HG.out]
        exact ⟨_, rfl, rfl⟩
      · have HN : Hid (nameB s = true) := hnm
        go_wp2_with fail
        refine (isName_any _ _ hsz).mono ?_
        rintro e w1 ⟨rfl, rfl⟩
        rw [hnm]
        clear hnm
        cases hin : (keysOf (ss.take k)).contains s.data.toList
        · have HI : Hid ((keysOf (ss.take k)).contains s.data.toList = false) := hin
          clear hin
          go_wp2_with (first | (at_lookup; refine wpList_lookup_own_ok_int _ rfl _ _ 218 rfl 9 3 .i64 lawS ums ui (zeroI _) w.heap.size k _ rfl HO.out _ _ rfl HK.out ?_; intro c hat hwc; rw [HH.out, HI.out]; clear hat hwc) | (at_mapUpdate; refine wpList_mapUpdate_own _ rfl _ _ _ 218 rfl 9 3 lawS ums _ w.heap.size k _ rfl HO.out (by unfold maxLen; omega) _ _ _ rfl rfl HK.out _ [] (plainElem_int ui (WalkArith.wf_i64 (by omega))) ?_))
          intro w2 hown1 hgrow1
          have HO1 : Hid (w2.ownsMap Tryd.prog 9 (plainElem Tryd.prog 3) w.heap.size (k + 1) (D.put (.string s.data.toList) (.lit (.int .i64 k)))) := hown1
          have R2 : Below w.heap.size w w2 := hbel.grown hgrow1 hbel.size (fun j hj => by cases hj; exact Nat.le_refl _)
          clear hown1 hgrow1
          go_wp2
          go_roundw
          case rel =>
            refine ⟨k + 1, _, by omega, by go_num, HO1.out, HSM.out, fun j hj => ?_, R2⟩
            by_cases e : j = k
            · subst e; rw [HB.out, HN.out, HI.out]; rfl
            · exact HG.out j (by omega)
          case measure => simp [intOf]; omega
        · have HI : Hid ((keysOf (ss.take k)).contains s.data.toList = true) := hin
          clear hin
          go_wp2_with (at_lookup; refine wpList_lookup_own_ok_int _ rfl _ _ 218 rfl 9 3 .i64 lawS ums ui (zeroI _) w.heap.size k _ rfl HO.out _ _ rfl HK.out ?_; intro c hat hwc; rw [HH.out, HI.out]; clear hat hwc)
          go_ret
          refine ⟨?_, hbel⟩
          rw [first_some (k := k) hlt (by rw [HB.out, HI.out]; simp) HG.out]
          exact ⟨_, rfl, rfl⟩
    · go_wp2
      go_ret
      refine ⟨?_, hbel⟩
      rw [first_none (fun j hj => hgood.out j (by omega))]
      rfl

end Go.Proofs.YtjioingdpfgadaaDoor
namespace Go.Proofs.YtjioingdpfgadaaDoor
open Go Go.RowKit Go.WideMaps Go.Maps Go.Deep

set_option maxRecDepth 100000 in
set_option maxHeartbeats 1000000 in
theorem checkCall_ok (c : CallD) (n gone : Int) (w : World) (h : callB n gone c = true) :
    Calls Tryd.prog 130 #[.agg #[.int .i64 c.st, .int .i64 c.co, .int .i64 c.go, .int .i64 c.tr], .int .i64 n, .int .i64 gone] w fun e w' => e = .returned .nilIface ∧ Below w.heap.size w w' := by
  obtain ⟨a1, a2, a3, a4, a5, a6, a7⟩ := callB_yes h
  clear h
  go_enter Tryd.func130, Tryd.ntmps130
  go_wp2
  go_ret
  exact ⟨rfl, (Below.refl _ _).alloc (Nat.le_refl _) _⟩

set_option maxRecDepth 100000 in
set_option maxHeartbeats 2000000 in
theorem checkCall_bad (c : CallD) (n gone : Int) (w : World) (h : callB n gone c = false) (hev : ErrVars w) :
    Calls Tryd.prog 130 #[.agg #[.int .i64 c.st, .int .i64 c.co, .int .i64 c.go, .int .i64 c.tr], .int .i64 n, .int .i64 gone] w fun e w' => (∃ x, e = .returned (.iface 243 x)) ∧ Below w.heap.size w w' := by
  have hno := callB_no h
  obtain ⟨x6, h6⟩ := hev.noStation
  obtain ⟨x7, h7⟩ := hev.time
  obtain ⟨x8, h8⟩ := hev.track
  have l6 := cell_lt h6
  have l7 := cell_lt h7
  have l8 := cell_lt h8
  clear h hev
  by_cases a1 : 0 ≤ c.st
  · by_cases a2 : c.st < n
    · by_cases a3 : gone ≤ c.co
      · by_cases a4 : c.co ≤ c.go
        · by_cases a5 : c.go ≤ 1000000
          · by_cases a6 : 1 ≤ c.tr
            · have a7 : ¬ c.tr ≤ 20 := fun a7 => hno ⟨a1, a2, a3, a4, a5, a6, a7⟩
              clear hno
              go_enter Tryd.func130, Tryd.ntmps130
              go_wp2
              go_ret
              exact ⟨⟨_, rfl⟩, (Below.refl _ _).alloc (Nat.le_refl _) _⟩
            · clear hno
              go_enter Tryd.func130, Tryd.ntmps130
              go_wp2
              go_ret
              exact ⟨⟨_, rfl⟩, (Below.refl _ _).alloc (Nat.le_refl _) _⟩
          · clear hno
            go_enter Tryd.func130, Tryd.ntmps130
            go_wp2
            go_ret
            exact ⟨⟨_, rfl⟩, (Below.refl _ _).alloc (Nat.le_refl _) _⟩
        · clear hno
          go_enter Tryd.func130, Tryd.ntmps130
          go_wp2
          go_ret
          exact ⟨⟨_, rfl⟩, (Below.refl _ _).alloc (Nat.le_refl _) _⟩
      · clear hno
        go_enter Tryd.func130, Tryd.ntmps130
        go_wp2
        go_ret
        exact ⟨⟨_, rfl⟩, (Below.refl _ _).alloc (Nat.le_refl _) _⟩
    · clear hno
      go_enter Tryd.func130, Tryd.ntmps130
      go_wp2
      go_ret
      exact ⟨⟨_, rfl⟩, (Below.refl _ _).alloc (Nat.le_refl _) _⟩
  · clear hno
    go_enter Tryd.func130, Tryd.ntmps130
    go_wp2
    go_ret
    exact ⟨⟨_, rfl⟩, (Below.refl _ _).alloc (Nat.le_refl _) _⟩

end Go.Proofs.YtjioingdpfgadaaDoor
namespace Go.Proofs.YtjioingdpfgadaaDoor
open Go Go.RowKit Go.WideMaps Go.Maps Go.Deep

/-- nil when 'ok', else one of the package's errors. -/
def ErrIf (ok : Bool) (e : Ending) : Prop :=
  match ok with
  | true => e = .returned .nilIface
  | false => ∃ x, e = .returned (.iface 243 x)

theorem box_below (w : World) (o : Obj) : Below w.heap.size w (w.alloc o) := (Below.refl _ _).alloc (Nat.le_refl _) _
theorem box_cell (w : World) (x y : Value) (t : TypeId) (wr : World) (h : Below (w.heap.size + 1) (w.alloc (.cells #[x, y] t)) wr) :
    wr.cell? ⟨w.heap.size, 0, none⟩ = some x ∧ wr.cell? ⟨w.heap.size, 1, none⟩ = some y := by
  have h0 := h.cell (p := ⟨w.heap.size, 0, none⟩) (Nat.lt_succ_self _)
  have h1 := h.cell (p := ⟨w.heap.size, 1, none⟩) (Nat.lt_succ_self _)
  rw [h0, h1]; simp [go_sem]

set_option maxRecDepth 100000 in
set_option maxHeartbeats 2000000 in
theorem checkTrip_any (t : TripD) (ca : Option Addr) (cc : Nat) (n : Int) (w : World) (hs : t.name.size ≤ 1048576) (hn : t.calls.length ≤ 1048576) (hwf : ∀ i (h : i < t.calls.length), (Lit.int .i64 t.calls[i].st).wf = true) (hat : CallsAt w ca t.calls) (hev : ErrVars w) :
    Calls Tryd.prog 123 #[.agg #[.string t.name, .slice ca t.calls.length cc], .int .i64 n] w fun e w' => ErrIf (tripB n t) e ∧ Below w.heap.size w w' := by
  have hb0 := box_below w (.cells #[.string t.name, .slice ca t.calls.length cc] 54)
  cases hnm : nameB t.name
  · have HF : Hid (tripB n t = false) := tripB_name hnm
    obtain ⟨x2, h2⟩ := (hev.keep hb0).noName
    clear hev
    go_enter Tryd.func123, Tryd.ntmps123
    go_wp2_with fail
    refine (isName_any _ _ hs).mono ?_
    rintro e w1 ⟨rfl, rfl⟩
    rw [hnm]
    go_wp2_with fail
    go_ret
    refine ⟨?_, hb0⟩
    rw [HF.out]
    exact ⟨_, rfl⟩
  · have HN : Hid (nameB t.name = true) := hnm
    by_cases hct : 2 ≤ t.calls.length ∧ t.calls.length ≤ 20
    · obtain ⟨g1, g2⟩ := hct
      go_enter Tryd.func123, Tryd.ntmps123
      go_wp2_with fail
      refine (isName_any _ _ hs).mono ?_
      rintro e w1 ⟨rfl, rfl⟩
      rw [hnm]
      clear hnm
      go_wp2_with fail
      go_loopw [5, 28] (fun gn i wr => ∃ k : Nat, k ≤ t.calls.length ∧ i = .int .i64 k ∧ gn = .int .i64 (prevGo t.calls k) ∧ Hid (∀ j, j < k → callAtB n t.calls j = true) ∧ Below (w.heap.size + 1) (w.alloc (.cells #[.string t.name, .slice ca t.calls.length cc] 54)) wr) (fun _ i _ => t.calls.length - (intOf i).toNat)
      case atStart => exact ⟨0, Nat.zero_le _, rfl, rfl, fun j hj => by omega, Below.refl _ _⟩
      case round =>
        obtain ⟨k, hk, rfl, rfl, hgood, hbel⟩ := hrel
        have hB : Below w.heap.size w wr := hb0.trans (hbel.mono (by omega))
        by_cases hlt : k < t.calls.length
        · obtain ⟨b, o, rfl, hc0, hc1, hc2, hc3⟩ := hat.keep hB k hlt
          have HA : Hid (callAtB n t.calls k = callB n (prevGo t.calls k) t.calls[k]) := callAtB_at n _ k hlt
          have HP : Hid (prevGo t.calls (k + 1) = t.calls[k].go) := prevGo_succ _ k hlt
          have HE : Hid (ErrVars wr) := hev.keep hB
          generalize t.calls[k] = c at *
          generalize prevGo t.calls k = gn at *
          clear hat hev hwf
          cases hcb : callB n gn c
          · have HC : Hid (callB n gn c = false) := hcb
            clear hcb
            go_wp2_with fail
            refine (checkCall_bad _ _ _ _ HC.out (HE.out.keep (box_below _ _))).mono ?_
            rintro e w1 ⟨⟨x, rfl⟩, hb1⟩
            go_wp2_with fail
            go_ret
            have HF : tripB n t = false := tripB_call (callsB_no hlt (by rw [HA.out, HC.out]))
            refine ⟨?_, (hB.alloc hB.size _).trans (hb1.mono (by have := hB.size; simp; omega))⟩
            rw [HF]
            exact ⟨_, rfl⟩
          · have HC : Hid (callB n gn c = true) := hcb
            clear hcb
            go_wp2_with fail
            refine (checkCall_ok _ _ _ _ HC.out).mono ?_
            rintro e w1 ⟨rfl, hb1⟩
            have q := hb1.cell (p := ⟨wr.heap.size, 2, none⟩) (by simp)
            have q2 : w1.cell? ⟨wr.heap.size, 2, none⟩ = some (.int .i64 c.go) := by rw [q]; simp [go_sem]
            clear q
            go_wp2_with fail
            go_roundw
            case rel =>
              refine ⟨k + 1, by omega, by go_num, by rw [HP.out], fun j hj => ?_, ?_⟩
              · by_cases e : j = k
                · subst e; rw [HA.out, HC.out]
                · exact hgood.out j (by omega)
              · have hz := hbel.size
                simp at hz
                exact (hbel.alloc (by omega) _).trans (hb1.mono (by simp; omega))
            case measure => simp [intOf]; omega
        · have HCS : Hid (callsB n t.calls = true) := callsB_yes (fun j hj => hgood.out j (by omega))
          obtain ⟨q0, q1⟩ := box_cell _ _ _ _ _ hbel
          have HAT : Hid (CallsAt wr ca t.calls) := hat.keep hB
          obtain ⟨x5, h5⟩ := (hev.keep hB).stationTwice
          have HWF : Hid (∀ i (h : i < t.calls.length), (Lit.int .i64 t.calls[i].st).wf = true) := hwf
          clear hat hev hwf
          go_wp2_with fail
          go_region_with (go_at_call 105; refine (callsByStation_any _ _ _ _ hn HWF.out (by exact HAT.out)).mono ?_; rintro e w1 ⟨bm, D, rfl, hbm, hown, him, hb1⟩; have hlen := hown.len um 3; have q2 := cell_keep hb1 (by exact q1))
          all_goals
            have hB1 : Below w.heap.size w w1 := hB.drew.trans (by exact hb1.mono hB.size)
            have q5 := cell_keep hb1 (by exact h5)
            have hfull := him.full
            have hsize := him.size
            simp only [List.length_map] at hfull hsize
            by_cases hd : Maps.size D < t.calls.length
            · have HF : Hid (tripB n t = false) := tripB_dup (by
                have : ¬ (stationsOf t.calls).Nodup := fun hnd => by have := hfull.2 hnd; omega
                simp [dupB, this])
              clear hfull hsize him hown hlen
              go_wp2
              go_ret
              refine ⟨?_, hB1⟩
              rw [HF.out]
              exact ⟨_, rfl⟩
            · have HF : Hid (tripB n t = true) := tripB_yes HN.out ⟨g1, g2⟩ HCS.out (by
                have : (stationsOf t.calls).Nodup := hfull.1 (by omega)
                simp [dupB, this])
              clear hfull hsize him hown hlen
              go_wp2
              go_ret
              refine ⟨?_, hB1⟩
              rw [HF.out]
              rfl
    · have HF : Hid (tripB n t = false) := tripB_count hct
      obtain ⟨x4, h4⟩ := (hev.keep hb0).callCount
      clear hev
      by_cases g1 : t.calls.length < 2
      · clear hct
        go_enter Tryd.func123, Tryd.ntmps123
        go_wp2_with fail
        refine (isName_any _ _ hs).mono ?_
        rintro e w1 ⟨rfl, rfl⟩
        rw [hnm]
        go_wp2_with fail
        go_ret
        refine ⟨?_, hb0⟩
        rw [HF.out]
        exact ⟨_, rfl⟩
      · have g2 : 20 < t.calls.length := by omega
        clear hct
        go_enter Tryd.func123, Tryd.ntmps123
        go_wp2_with fail
        refine (isName_any _ _ hs).mono ?_
        rintro e w1 ⟨rfl, rfl⟩
        rw [hnm]
        go_wp2_with fail
        go_ret
        refine ⟨?_, hb0⟩
        rw [HF.out]
        exact ⟨_, rfl⟩

end Go.Proofs.YtjioingdpfgadaaDoor
