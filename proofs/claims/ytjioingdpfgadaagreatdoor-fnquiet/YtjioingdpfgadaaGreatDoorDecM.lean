import Derived.Test.YtjioingdpfgadaaGreatDoorProg
import Derived.Test.YtjioingdpfgadaaGreatDoorBaseM
import Derived.Laws.IdiomStrings
import Derived.Test.YtjioingdpfgadaaGreatDoorBoardCM
import Derived.Test.YtjioingdpfgadaaGreatDoorBrdCM
import Derived.BigQuiet
import Derived.WalkSmall
import Derived.RangeFuncBox
import Derived.Laws.Bits64b
namespace Go.Proofs.YtjioingdpfgadaaGreatDoor
open Go Go.RowKit

/-- The decimal signs of a number, none of nought; f: how many at most. -/
def decF : Nat → Nat → List UInt8
  | 0, _ => []
  | f + 1, k => if k = 0 then [] else decF f (k / 10) ++ [UInt8.ofNat (48 + k % 10)]

/-- The mark of a number. -/
def markL (k : Nat) : List UInt8 := 109 :: (if k = 0 then [48] else decF 20 k)
theorem markL_pos {k : Nat} (h : k ≠ 0) : markL k = 109 :: decF 20 k := by unfold markL; rw [if_neg h]
theorem ret_str {a b : ByteArray} (h : a = b) : Ending.returned (.string a) = .returned (.string b) := by rw [h]
theorem str_cons (c : UInt8) (l : List UInt8) : (⟨#[c]⟩ : ByteArray) ++ ⟨l.toArray⟩ = ⟨(c :: l).toArray⟩ := by
  apply ByteArray.ext; simp
theorem uBytes : Tryz.prog.underlying 22 = some (.slice 5) := by kernel_rfl
theorem uByte : Tryz.prog.underlying 5 = some (.int .u8) := by kernel_rfl
theorem uStr : Tryz.prog.underlying 9 = some .string := by kernel_rfl
theorem digit_nat (m : Nat) : ((UInt8.ofNat (48 + m % 10)).toNat : Int) = 48 + (m : Int) % 10 := by
  have : m % 10 < 10 := Nat.mod_lt _ (by omega)
  have e : (UInt8.ofNat (48 + m % 10)).toNat = 48 + m % 10 := by
    simp; omega
  rw [e]; omega
/-- string of a new slice of one byte: a decimal sign. -/
theorem run_digit (m : Nat) (w : World) : (convert 22 9 (.slice (some ⟨w.heap.size, 0, none⟩) 1 1)).run Tryz.prog (w.alloc (.cells #[.int .u8 (48 + (m : Int) % 10)] 5)) = .ok (.string ⟨[UInt8.ofNat (48 + m % 10)].toArray⟩) (w.alloc (.cells #[.int .u8 (48 + (m : Int) % 10)] 5)) := by
  refine run_convert_bytes_back _ 22 9 5 ⟨w.heap.size, 0, none⟩ 1 [UInt8.ofNat (48 + m % 10)] uBytes uByte uStr ?_
  intro j hj
  have hj0 : j = 0 := by simp at hj; omega
  subst hj0
  have := digit_nat m
  simp only [List.getElem_cons_zero]
  rw [this]
  simp [Addr.add, go_sem]
theorem decF_step (f m : Nat) (h : m ≠ 0) : decF (f + 1) m = decF f (m / 10) ++ [UInt8.ofNat (48 + m % 10)] := by
  simp [decF, h]
theorem decF_zero (f : Nat) : decF f 0 = [] := by cases f <;> simp [decF]

/-- A number in decimal signs. -/
def decL (k : Nat) : List UInt8 := if k = 0 then [48] else decF 20 k
theorem decL_pos {k : Nat} (h : k ≠ 0) : decL k = decF 20 k := by unfold decL; rw [if_neg h]

set_option maxRecDepth 100000 in
set_option maxHeartbeats 1000000 in
theorem l3decimal_any (k : Nat) (w : World) (hk : k ≤ 1000000000000) :
    Calls Tryz.prog 41 #[.int .i64 k] w fun e w' => e = .returned (.string ⟨(decL k).toArray⟩) ∧ Below w.heap.size w w' := by
  by_cases h0 : k = 0
  · subst h0
    go_enter Tryz.func41, Tryz.ntmps41
    go_wp2
    go_ret
    exact ⟨rfl, Below.refl _ _⟩
  · have h1 : (0 : Int) < (k : Int) := by omega
    go_enter Tryz.func41, Tryz.ntmps41
    go_wp2
    go_loopw [0, 3] (fun n s wr => ∃ (f m : Nat) (out : List UInt8), n = .int .i64 m ∧ s = .string ⟨out.toArray⟩ ∧ m < 10 ^ f ∧ f ≤ 20 ∧ out.length + f = 20 ∧ m ≤ 1000000000000 ∧ Hid (decF f m ++ out = decF 20 k) ∧ Below w.heap.size w wr) (fun n _ _ => (intOf n).toNat)
    case atStart => exact ⟨20, k, [], rfl, rfl, by omega, by omega, rfl, hk, by unfold Hid; simp, Below.refl _ _⟩
    case round =>
      obtain ⟨f, m, out, rfl, rfl, hf, hf20, hol, hm, hd, hbel⟩ := hrel
      by_cases hm0 : m = 0
      · subst hm0
        have HO : Hid (out = decF 20 k) := by
          unfold Hid; have := hd.out; rw [decF_zero] at this; simpa using this
        have hlen : out.length ≤ 20 := by omega
        clear hf hf20 hol
        go_wp2
        all_goals try (exfalso; simp at *; omega)
        go_ret
        exact ⟨ret_str (by rw [decL_pos h0, ← HO.out]), hbel⟩
      · have hmp : (0 : Int) < (m : Int) := by omega
        obtain ⟨f', rfl⟩ : ∃ f', f = f' + 1 := ⟨f - 1, by
          rcases f with _ | f
          · simp at hf; omega
          · omega⟩
        have hrun := run_digit m wr
        have HD : Hid (decF f' (m / 10) ++ (UInt8.ofNat (48 + m % 10) :: out) = decF 20 k) := by
          unfold Hid
          have := hd.out
          rw [decF_step f' m hm0] at this
          simpa using this
        have hf1 : m / 10 < 10 ^ f' := by
          rw [Nat.pow_succ] at hf; omega
        have hlen : out.length ≤ 20 := by omega
        have HF : Hid (f' + 1 ≤ 20 ∧ out.length + (f' + 1) = 20) := ⟨hf20, hol⟩
        clear hf hf20 hol
        go_wp2
        all_goals try (exfalso; simp at *; omega)
        go_roundw
        case rel =>
          obtain ⟨g1, g2⟩ := HF.out
          exact ⟨f', m / 10, UInt8.ofNat (48 + m % 10) :: out, by go_num, by simp; rfl, hf1, by omega, by simp; omega, by omega, HD.out, hbel.alloc hbel.size _⟩
        case measure => simp [intOf]; omega

end Go.Proofs.YtjioingdpfgadaaGreatDoor
namespace Go.Proofs.YtjioingdpfgadaaGreatDoor
open Go Go.RowKit Go.Deep

/-- Where the reader of choices stands. -/
structure Rd where
  ix : Nat
  sd : Int
def seedB (s x : Int) : Int := IntKind.u64.wrap (IntKind.u64.wrap (IntKind.u64.wrap (s * 6364136223846793005) + x) + 1442695040888963407)
def seedN (s : Int) : Int := IntKind.u64.wrap (IntKind.u64.wrap (s * 6364136223846793005) + 1442695040888963407)
/-- The next choice, and where the reader stands behind it. -/
def nextF (bs : List Int) (s : Rd) : Nat × Rd :=
  match bs[s.ix]? with
  | some x => (x.toNat, ⟨s.ix + 1, seedB s.sd x⟩)
  | none => ((bits BinOp.and IntKind.u64 (seedN s.sd / 1099511627776) 255).toNat, ⟨s.ix + 1, seedN s.sd⟩)
def pickF (bs : List Int) (k : Nat) (s : Rd) : Nat × Rd :=
  if k ≤ 1 then (0, s)
  else if 200 < k then (((nextF bs s).1 * 256 + (nextF bs (nextF bs s).2).1) % k, (nextF bs (nextF bs s).2).2)
  else ((nextF bs s).1 % k, (nextF bs s).2)
theorem pickF_lt (bs : List Int) (k : Nat) (s : Rd) : (pickF bs k s).1 < k ∨ (pickF bs k s).1 = 0 := by
  unfold pickF
  split
  · exact .inr rfl
  · split
    · exact .inl (Nat.mod_lt _ (by omega))
    · exact .inl (Nat.mod_lt _ (by omega))
/-- Bytes that were handed in. -/
def BytesAt (w : World) (a : Option Addr) (bs : List Int) : Prop := ∀ i (h : i < bs.length), ∃ b o, a = some ⟨b, o, none⟩ ∧ w.cell? ⟨b, o + i, none⟩ = some (.int .u8 bs[i]) ∧ 0 ≤ bs[i] ∧ bs[i] ≤ 255
/-- The reader of choices at block C: where it stands, at m at most. -/
structure CurAt (w : World) (C : Nat) (ca : Option Addr) (bs : List Int) (cap : Nat) (s : Rd) (m : Nat) : Prop where
  low : s.ix ≤ m
  sd0 : 0 ≤ s.sd
  sd1 : s.sd ≤ 18446744073709551615
  box : w.heap[C]? = some (.cells #[.slice ca bs.length cap, .int .i64 s.ix, .int .u64 s.sd] 58 (0, 0))
  code : BytesAt w ca bs
  apart : ∀ b o, ca = some ⟨b, o, none⟩ → b ≠ C
theorem cur_cells {w : World} {C : Nat} {x y z : Value} {T : TypeId} (h : w.heap[C]? = some (.cells #[x, y, z] T (0, 0))) : (w.cell? ⟨C, 0, none⟩ = some x ∧ w.cell? ⟨C, 1, none⟩ = some y ∧ w.cell? ⟨C, 2, none⟩ = some z) ∧ (∀ i, w.frozen? ⟨C, i, none⟩ = false) := by
  refine ⟨⟨?_, ?_, ?_⟩, fun i => ?_⟩ <;> simp [World.cell?, World.frozen?, h]
theorem cur_next {w w' : World} {C : Nat} {ca : Option Addr} {bs : List Int} {cap m a : Nat} {sd sd' : Int} (h : CurAt w C ca bs cap ⟨a, sd⟩ m) (hg : w.grownBy w' (some C)) (hh : w'.heap[C]? = some (.cells #[.slice ca bs.length cap, .int .i64 ((a : Int) + 1), .int .u64 sd'] 58 (0, 0))) (h0 : 0 ≤ sd') (h1 : sd' ≤ 18446744073709551615) : CurAt w' C ca bs cap ⟨a + 1, sd'⟩ (m + 1) := by
  refine ⟨by have := h.low; simp at this ⊢; omega, h0, h1, ?_, ?_, h.apart⟩
  · rw [hh]; simp
  · intro i hi
    obtain ⟨b, o, e, hc, hx⟩ := h.code i hi
    refine ⟨b, o, e, ?_, hx⟩
    rw [World.cell?_of_block (w := w) (hg.block b (cell_lt hc) (fun e' => h.apart b o e (by cases e'; rfl)))]
    exact hc
theorem grown_two {w : World} {C i j k : Nat} {u v : Value} : w.grownBy (((w.drewN k).setCell ⟨C, i, none⟩ u).setCell ⟨C, j, none⟩ v) (some C) := by
  have hb : Below 0 w (((w.drewN k).setCell ⟨C, i, none⟩ u).setCell ⟨C, j, none⟩ v) := ((below_drewN (Below.refl 0 w) k).setCell (Nat.zero_le _) _).setCell (Nat.zero_le _) _
  refine ⟨hb.os, hb.tape, hb.output, hb.size, fun x _ hne => ?_⟩
  have : x ≠ C := fun e => hne (by rw [e])
  rw [Below.heap_setCell _ _ _ x this, Below.heap_setCell _ _ _ x this]
  rfl
theorem u64_range (z : Int) : 0 ≤ IntKind.u64.wrap z ∧ IntKind.u64.wrap z ≤ 18446744073709551615 := by rw [IntKind.wrap_u64]; omega
theorem and255 (z : Int) (h0 : 0 ≤ z) (h1 : z ≤ 18446744073709551615) : ∃ r : Nat, r ≤ 255 ∧ bits BinOp.and IntKind.u64 z 255 = (r : Int) := by
  obtain ⟨a, rfl⟩ := Int.eq_ofNat_of_zero_le h0
  have := bits_and_u64_nat a 255 (by omega) (by omega)
  exact ⟨a &&& 255, Nat.and_le_right, this⟩

set_option maxRecDepth 100000 in
set_option maxHeartbeats 4000000 in
theorem next_any (C : Nat) (ca : Option Addr) (bs : List Int) (cap m : Nat) (s : Rd) (w : World) (hm : m ≤ 1000000000) (h : CurAt w C ca bs cap s m) :
    Calls Tryz.prog 69 #[.pointer (some ⟨C, 0, none⟩)] w fun e w' => ∃ (r : Nat) (s' : Rd), nextF bs s = (r, s') ∧ r ≤ 255 ∧ e = .returned (.int .i64 r) ∧ CurAt w' C ca bs cap s' (m + 1) ∧ w.grownBy w' (some C) := by
  obtain ⟨a, sd⟩ := s
  have ha := h.low
  have s0 := h.sd0
  have s1 := h.sd1
  have hh := h.box
  simp only at ha s0 s1 hh
  obtain ⟨⟨c0, c1, c2⟩, cf⟩ := cur_cells hh
  have cf1 := cf 1
  have cf2 := cf 2
  have HH : Hid (w.heap[C]? = some (.cells #[.slice ca bs.length cap, .int .i64 a, .int .u64 sd] 58 (0, 0))) := hh
  have HC : Hid (CurAt w C ca bs cap ⟨a, sd⟩ m) := h
  have ham : a ≤ 1000000000 := by omega
  by_cases hlt : a < bs.length
  · obtain ⟨b, o, rfl, hx, x0, x1⟩ := h.code a hlt
    have HN : Hid (nextF bs ⟨a, sd⟩ = (bs[a].toNat, ⟨a + 1, seedB sd bs[a]⟩)) := by unfold Hid nextF; simp [List.getElem?_eq_getElem hlt]
    have hne := h.apart b o rfl
    generalize bs[a] = x at *
    have hai : (a : Int) < (bs.length : Int) := by omega
    have ha0 : (0 : Int) ≤ (a : Int) := by omega
    clear h hh cf
    go_enter Tryz.func69, Tryz.ntmps69
    go_wp2_with fail
    go_quiet (fail)
    go_wp2_with fail
    go_quiet (fail)
    go_wp2_with fail
    obtain ⟨r, hr⟩ := Int.eq_ofNat_of_zero_le x0
    obtain ⟨z0, z1⟩ := u64_range (IntKind.u64.wrap (IntKind.u64.wrap (sd * 6364136223846793005) + x) + 1442695040888963407)
    go_ret
    refine ⟨r, ⟨a + 1, seedB sd x⟩, by rw [HN.out, hr]; rfl, by omega, ret_int hr, ?_, grown_two⟩
    exact cur_next HC.out grown_two (by simp [World.setCell, Array.getElem?_modify, World.drewN, HH.out, seedB]) z0 z1
  · have hai : ¬ (a : Int) < (bs.length : Int) := by omega
    have HN : Hid (nextF bs ⟨a, sd⟩ = ((bits BinOp.and IntKind.u64 (seedN sd / 1099511627776) 255).toNat, ⟨a + 1, seedN sd⟩)) := by unfold Hid nextF; simp [List.getElem?_eq_none (Nat.le_of_not_lt hlt)]
    clear h hh cf
    go_enter Tryz.func69, Tryz.ntmps69
    go_wp2_with fail
    go_quiet (fail)
    go_wp2_with fail
    obtain ⟨z0, z1⟩ := u64_range (IntKind.u64.wrap (sd * 6364136223846793005) + 1442695040888963407)
    obtain ⟨r, hr, er⟩ := and255 (IntKind.u64.wrap (IntKind.u64.wrap (sd * 6364136223846793005) + 1442695040888963407) / 1099511627776) (by omega) (by omega)
    go_ret
    refine ⟨r, ⟨a + 1, seedN sd⟩, by rw [HN.out]; unfold seedN; rw [er]; rfl, hr, ret_int (by rw [er]; unfold wrap64; omega), ?_, grown_two⟩
    exact cur_next HC.out grown_two (by simp [World.setCell, Array.getElem?_modify, World.drewN, HH.out, seedN]) z0 z1

set_option maxRecDepth 100000 in
set_option maxHeartbeats 4000000 in
theorem pick_any (C : Nat) (ca : Option Addr) (bs : List Int) (cap m k : Nat) (s : Rd) (w : World) (hm : m ≤ 100000000) (hk : k ≤ 100000) (h : CurAt w C ca bs cap s m) :
    Calls Tryz.prog 47 #[.pointer (some ⟨C, 0, none⟩), .int .i64 k] w fun e w' => ∃ (r : Nat) (s' : Rd), pickF bs k s = (r, s') ∧ (r < k ∨ r = 0) ∧ e = .returned (.int .i64 r) ∧ CurAt w' C ca bs cap s' (m + 2) ∧ w.grownBy w' (some C) := by
  have HC : Hid (CurAt w C ca bs cap s m) := h
  have hmore : ∀ {w' : World} {s : Rd} {m m' : Nat}, m ≤ m' → CurAt w' C ca bs cap s m → CurAt w' C ca bs cap s m' := fun hle hc => ⟨by have := hc.low; omega, hc.sd0, hc.sd1, hc.box, hc.code, hc.apart⟩
  have HMO : Hid (∀ (w' : World) (s : Rd) (m m' : Nat), m ≤ m' → CurAt w' C ca bs cap s m → CurAt w' C ca bs cap s m') := fun _ _ _ _ h1 h2 => hmore h1 h2
  have HLT : Hid ((pickF bs k s).1 < k ∨ (pickF bs k s).1 = 0) := pickF_lt bs k s
  clear h hmore
  by_cases h1 : k ≤ 1
  · have hki : (k : Int) ≤ 1 := by omega
    have HP : Hid (pickF bs k s = (0, s)) := by unfold Hid pickF; rw [if_pos h1]
    go_enter Tryz.func47, Tryz.ntmps47
    go_wp2_with fail
    go_ret
    exact ⟨0, s, HP.out, .inr rfl, rfl, HMO.out _ _ _ _ (by omega) HC.out, World.grownBy.refl _ _⟩
  · have hki : ¬ (k : Int) ≤ 1 := by omega
    have hkz : ¬ (k : Int) = 0 := by omega
    go_enter Tryz.func47, Tryz.ntmps47
    go_wp2_with fail
    refine (next_any C ca bs cap m s _ (by omega) HC.out).mono ?_
    rintro e w1 ⟨r, s1, hs1, hr, rfl, hc1, hg1⟩
    have HC1 : Hid (CurAt w1 C ca bs cap s1 (m + 1)) := hc1
    have HS1 : Hid (nextF bs s = (r, s1)) := hs1
    clear hc1 hs1
    by_cases h2 : 200 < k
    · have hk2 : (200 : Int) < (k : Int) := by omega
      go_wp2_with fail
      refine (next_any C ca bs cap (m + 1) s1 _ (by omega) (by exact HC1.out)).mono ?_
      rintro e w2 ⟨r2, s2, hs2, hr2, rfl, hc2, hg2⟩
      have HC2 : Hid (CurAt w2 C ca bs cap s2 (m + 1 + 1)) := hc2
      have HP : Hid (pickF bs k s = ((r * 256 + r2) % k, s2)) := by unfold Hid pickF; rw [if_neg h1, if_pos h2, HS1.out, hs2]
      clear hc2 hs2
      go_wp2_with fail
      go_ret
      exact ⟨(r * 256 + r2) % k, s2, HP.out, .inl (Nat.mod_lt _ (by omega)), ret_int (by simp), HC2.out, hg1.trans hg2⟩
    · have hk2 : ¬ (200 : Int) < (k : Int) := by omega
      have HP : Hid (pickF bs k s = (r % k, s1)) := by unfold Hid pickF; rw [if_neg h1, if_neg h2, HS1.out]
      go_wp2_with fail
      go_ret
      exact ⟨r % k, s1, HP.out, .inl (Nat.mod_lt _ (by omega)), ret_int (by simp), HMO.out _ _ _ _ (by omega) HC1.out, hg1⟩

/-- The names of stations, as they are drawn. -/
def nameF (i : Nat) : ByteArray :=
  match i % 8 with
  | 0 => ⟨#[65, 115, 104]⟩
  | 1 => ⟨#[66, 101, 99, 107]⟩
  | 2 => ⟨#[67, 111, 118, 101]⟩
  | 3 => ⟨#[68, 101, 110, 101]⟩
  | 4 => ⟨#[69, 108, 109, 32, 72, 97, 108, 116]⟩
  | 5 => ⟨#[70, 111, 114, 100, 32, 50]⟩
  | 6 => ⟨#[71, 108, 101, 110]⟩
  | _ => ⟨#[72, 111, 108, 116]⟩

set_option maxRecDepth 100000 in
set_option maxHeartbeats 4000000 in
theorem name_any (p : Option Addr) (i : Nat) (w : World) (hi : i ≤ 100000) :
    Calls Tryz.prog 48 #[.pointer p, .int .i64 i] w fun e w' => e = .returned (.string (nameF i)) ∧ Below w.heap.size w w' := by
  obtain ⟨q, hq⟩ : ∃ q : Nat, i % 8 = q := ⟨_, rfl⟩
  have hqi : (i : Int) % 8 = (q : Int) := by omega
  have hq8 : q < 8 := by omega
  have HQ : Hid (i % 8 = q) := hq
  clear hq
  have hcase : q = 0 ∨ q = 1 ∨ q = 2 ∨ q = 3 ∨ q = 4 ∨ q = 5 ∨ q = 6 ∨ q = 7 := by omega
  rcases hcase with rfl | rfl | rfl | rfl | rfl | rfl | rfl | rfl
  all_goals
    go_enter Tryz.func48, Tryz.ntmps48
    go_wp2_with fail
    go_ret
    exact ⟨ret_str (by unfold nameF; rw [HQ.out]; rfl), (Below.refl _ _).alloc (Nat.le_refl _) _⟩

end Go.Proofs.YtjioingdpfgadaaGreatDoor
