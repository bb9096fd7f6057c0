import Derived.Test.YtjioingdpfgadabGreatDoorProg
import Derived.Test.YtjioingdpfgadabGreatDoorMaps
import Derived.Test.YtjioingdpfgadabGreatDoorPlainM
import Derived.BigRegion
import Derived.Deep.RegionWith
import Derived.BigQuiet
namespace Go.Proofs.YtjioingdpfgadabGreatDoor
open Go Go.RowKit Go.WideMaps Go.Maps Go.Deep

/-- The package-level errors lie where they were laid. -/
structure ErrVars (w : World) : Prop where
  tooMany : ∃ x, w.cell? ⟨1, 0, none⟩ = some (.iface 228 x)
  noName : ∃ x, w.cell? ⟨3, 0, none⟩ = some (.iface 228 x)
  nameTwice : ∃ x, w.cell? ⟨4, 0, none⟩ = some (.iface 228 x)
  callCount : ∃ x, w.cell? ⟨5, 0, none⟩ = some (.iface 228 x)
  stationTwice : ∃ x, w.cell? ⟨6, 0, none⟩ = some (.iface 228 x)
  noStation : ∃ x, w.cell? ⟨9, 0, none⟩ = some (.iface 228 x)
  time : ∃ x, w.cell? ⟨10, 0, none⟩ = some (.iface 228 x)
  track : ∃ x, w.cell? ⟨11, 0, none⟩ = some (.iface 228 x)
  type : w.cell? ⟨0, 0, none⟩ = some (.iface 208 (.agg #[.pointer (some ⟨12, 87, none⟩)]))
theorem cell_keep' {w w' : World} {b o : Nat} {t : TypeId} (hb : Below w.heap.size w w') (h : ∃ x, w.cell? ⟨b, o, none⟩ = some (.iface t x)) : ∃ x, w'.cell? ⟨b, o, none⟩ = some (.iface t x) := by
  obtain ⟨x, h⟩ := h; exact ⟨x, cell_keep hb h⟩
theorem ErrVars.keep {w w' : World} (h : ErrVars w) (hb : Below w.heap.size w w') : ErrVars w' :=
  ⟨cell_keep' hb h.tooMany, cell_keep' hb h.noName, cell_keep' hb h.nameTwice, cell_keep' hb h.callCount, cell_keep' hb h.stationTwice, cell_keep' hb h.noStation, cell_keep' hb h.time, cell_keep' hb h.track, cell_keep hb h.type⟩

/-- What a check hands back: nil, or the fault with its place. -/
def FaultIs (code : Int) (o : Option Nat) (e : Ending) : Prop :=
  match o with
  | none => e = .returned .nilIface
  | some i => ∃ z, Value.oneCell' z = true ∧ e = .returned (.iface 176 (.agg #[.int .i64 code, .int .i64 i, z]))

set_option maxRecDepth 100000 in
set_option maxHeartbeats 1000000 in
theorem checkNames_any (a : Option Addr) (ss : List ByteArray) (c : Nat) (code : Int) (w : World) (hn : ss.length ≤ 1048576) (hs : ∀ i (h : i < ss.length), ss[i].size ≤ 1048576) (hat : StrsAt w a ss) (hev : ErrVars w) :
    Calls Tryz.prog 118 #[.slice a ss.length c, .int .i64 code] w fun e w' => FaultIs code (firstIdx (badName ss) ss.length) e ∧ Below w.heap.size w w' := by
  have hmm := run_makeMap_hint 221 9 3 ums
  go_enter Tryz.func118, Tryz.ntmps118
  go_wp2
  go_loopw [15] (fun i wr => ∃ (k : Nat) (D : DataW Unit), k ≤ ss.length ∧ i = .int .i64 k ∧ wr.ownsMap Tryz.prog 9 (plainElem Tryz.prog 3) w.heap.size k D ∧ StrsMap (keysOf (ss.take k)) D ∧ Hid (∀ j, j < k → badName ss j = false) ∧ Below w.heap.size w wr) (fun i _ => ss.length - (intOf i).toNat)
  case atStart => exact ⟨0, .map [], Nat.zero_le _, rfl, World.ownsMap_made _ _ _ _, by simpa [keysOf] using strsMap_nil, fun j hj => by omega, (Below.refl _ _).alloc (Nat.le_refl _) _⟩
  case round =>
    obtain ⟨k, D, hk, rfl, hown, hsm, hgood, hbel⟩ := hrel
    by_cases hlt : k < ss.length
    · obtain ⟨b, o, rfl, hc⟩ := hat.keep hbel k hlt
      have hsz := hs k hlt
      obtain ⟨ex, hex⟩ := (hev.keep hbel).noName
      obtain ⟨ey, hey⟩ := (hev.keep hbel).nameTwice
      have HB : Hid (badName ss k = (!nameB ss[k] || (keysOf (ss.take k)).contains ss[k].data.toList)) := badName_at ss k hlt
      have HH : Hid (Maps.has D (.string ss[k].data.toList) = (keysOf (ss.take k)).contains ss[k].data.toList) := hsm.has _
      have HSM : Hid (StrsMap (keysOf (ss.take (k + 1))) (D.put (.string ss[k].data.toList) (.lit (.int .i64 k)))) := by
        unfold Hid; rw [keysOf_snoc ss k hlt]
        exact strsMap_snoc hsm hown.isMap _ (strKey _) _
      have HO : Hid (wr.ownsMap Tryz.prog 9 (plainElem Tryz.prog 3) w.heap.size k D) := hown
      have HG := hgood
      have hkey : keyOf Tryz.prog 9 (.string ss[k]) = some (.string ss[k].data.toList) := keyOf_string_mk us (by unfold maxLen; omega)
      have HK : Hid (keyOf Tryz.prog 9 (.string ss[k]) = some (.string ss[k].data.toList)) := hkey
      generalize ss[k] = s at *
      clear hat hs hmm hsm hown hev hgood hkey
      cases hnm : nameB s
      · have HN : Hid (nameB s = false) := hnm
        go_wp2_with fail
        refine (isName_any _ _ hsz).mono ?_
        rintro e w1 ⟨rfl, rfl⟩
        rw [hnm]
        clear hnm
        go_wp2_with fail
        go_ret
        refine ⟨?_, hbel⟩
        rw [first_some (k := k) hlt (by rw [HB.out, HN.out]; rfl) HG.out]
        exact ⟨_, rfl, rfl⟩
      · have HN : Hid (nameB s = true) := hnm
        go_wp2_with fail
        refine (isName_any _ _ hsz).mono ?_
        rintro e w1 ⟨rfl, rfl⟩
        rw [hnm]
        clear hnm
        cases hin : (keysOf (ss.take k)).contains s.data.toList
        · have HI : Hid ((keysOf (ss.take k)).contains s.data.toList = false) := hin
          clear hin
          go_wp2_with (first | (at_lookup; refine wpList_lookup_own_ok_int _ rfl _ _ 221 rfl 9 3 .i64 lawS ums ui (zeroI _) w.heap.size k _ rfl HO.out _ _ rfl HK.out ?_; intro c hat hwc; rw [HH.out, HI.out]; clear hat hwc) | (at_mapUpdate; refine wpList_mapUpdate_own _ rfl _ _ _ 221 rfl 9 3 lawS ums _ w.heap.size k _ rfl HO.out (by unfold maxLen; omega) _ _ _ rfl rfl HK.out _ [] (plainElem_int ui (WalkArith.wf_i64 (by omega))) ?_))
          intro w2 hown1 hgrow1
          have HO1 : Hid (w2.ownsMap Tryz.prog 9 (plainElem Tryz.prog 3) w.heap.size (k + 1) (D.put (.string s.data.toList) (.lit (.int .i64 k)))) := hown1
          have R2 : Below w.heap.size w w2 := hbel.grown hgrow1 hbel.size (fun j hj => by cases hj; exact Nat.le_refl _)
          clear hown1 hgrow1
          go_wp2
          go_roundw
          case rel =>
            refine ⟨k + 1, _, by omega, by go_num, HO1.out, HSM.out, fun j hj => ?_, R2⟩
            by_cases e : j = k
            · subst e; rw [HB.out, HN.out, HI.out]; rfl
            · exact HG.out j (by omega)
          case measure => simp [intOf]; omega
        · have HI : Hid ((keysOf (ss.take k)).contains s.data.toList = true) := hin
          clear hin
          go_wp2_with (at_lookup; refine wpList_lookup_own_ok_int _ rfl _ _ 221 rfl 9 3 .i64 lawS ums ui (zeroI _) w.heap.size k _ rfl HO.out _ _ rfl HK.out ?_; intro c hat hwc; rw [HH.out, HI.out]; clear hat hwc)
          go_ret
          refine ⟨?_, hbel⟩
          rw [first_some (k := k) hlt (by rw [HB.out, HI.out]; simp) HG.out]
          exact ⟨_, rfl, rfl⟩
    · go_wp2
      go_ret
      refine ⟨?_, hbel⟩
      rw [first_none (fun j hj => hgood.out j (by omega))]
      rfl

end Go.Proofs.YtjioingdpfgadabGreatDoor
namespace Go.Proofs.YtjioingdpfgadabGreatDoor
open Go Go.RowKit Go.WideMaps Go.Maps Go.Deep

set_option maxRecDepth 100000 in
set_option maxHeartbeats 1000000 in
theorem checkCall_ok (c : CallD) (n gone : Int) (w : World) (h : callB n gone c = true) :
    Calls Tryz.prog 134 #[.agg #[.int .i64 c.st, .int .i64 c.co, .int .i64 c.go, .int .i64 c.tr], .int .i64 n, .int .i64 gone] w fun e w' => e = .returned .nilIface ∧ Below w.heap.size w w' := by
  obtain ⟨a1, a2, a3, a4, a5, a6, a7⟩ := callB_yes h
  clear h
  go_enter Tryz.func134, Tryz.ntmps134
  go_wp2
  go_ret
  exact ⟨rfl, (Below.refl _ _).alloc (Nat.le_refl _) _⟩

set_option maxRecDepth 100000 in
set_option maxHeartbeats 2000000 in
theorem checkCall_bad (c : CallD) (n gone : Int) (w : World) (h : callB n gone c = false) (hev : ErrVars w) :
    Calls Tryz.prog 134 #[.agg #[.int .i64 c.st, .int .i64 c.co, .int .i64 c.go, .int .i64 c.tr], .int .i64 n, .int .i64 gone] w fun e w' => (∃ x, e = .returned (.iface 228 x)) ∧ Below w.heap.size w w' := by
  have hno := callB_no h
  obtain ⟨x6, h6⟩ := hev.noStation
  obtain ⟨x7, h7⟩ := hev.time
  obtain ⟨x8, h8⟩ := hev.track
  have l6 := cell_lt h6
  have l7 := cell_lt h7
  have l8 := cell_lt h8
  clear h hev
  by_cases a1 : 0 ≤ c.st
  · by_cases a2 : c.st < n
    · by_cases a3 : gone ≤ c.co
      · by_cases a4 : c.co ≤ c.go
        · by_cases a5 : c.go ≤ 1000000
          · by_cases a6 : 1 ≤ c.tr
            · have a7 : ¬ c.tr ≤ 20 := fun a7 => hno ⟨a1, a2, a3, a4, a5, a6, a7⟩
              clear hno
              go_enter Tryz.func134, Tryz.ntmps134
              go_wp2
              go_ret
              exact ⟨⟨_, rfl⟩, (Below.refl _ _).alloc (Nat.le_refl _) _⟩
            · clear hno
              go_enter Tryz.func134, Tryz.ntmps134
              go_wp2
              go_ret
              exact ⟨⟨_, rfl⟩, (Below.refl _ _).alloc (Nat.le_refl _) _⟩
          · clear hno
            go_enter Tryz.func134, Tryz.ntmps134
            go_wp2
            go_ret
            exact ⟨⟨_, rfl⟩, (Below.refl _ _).alloc (Nat.le_refl _) _⟩
        · clear hno
          go_enter Tryz.func134, Tryz.ntmps134
          go_wp2
          go_ret
          exact ⟨⟨_, rfl⟩, (Below.refl _ _).alloc (Nat.le_refl _) _⟩
      · clear hno
        go_enter Tryz.func134, Tryz.ntmps134
        go_wp2
        go_ret
        exact ⟨⟨_, rfl⟩, (Below.refl _ _).alloc (Nat.le_refl _) _⟩
    · clear hno
      go_enter Tryz.func134, Tryz.ntmps134
      go_wp2
      go_ret
      exact ⟨⟨_, rfl⟩, (Below.refl _ _).alloc (Nat.le_refl _) _⟩
  · clear hno
    go_enter Tryz.func134, Tryz.ntmps134
    go_wp2
    go_ret
    exact ⟨⟨_, rfl⟩, (Below.refl _ _).alloc (Nat.le_refl _) _⟩

end Go.Proofs.YtjioingdpfgadabGreatDoor
