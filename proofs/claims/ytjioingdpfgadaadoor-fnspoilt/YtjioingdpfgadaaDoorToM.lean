import Derived.Test.YtjioingdpfgadaaDoorProg
import Derived.Test.YtjioingdpfgadaaDoorSzM
import Derived.Deep.OwnRows
namespace Go.Proofs.YtjioingdpfgadaaDoor
open Go Go.RowKit Go.Deep

theorem u22 : Tryd.prog.underlying 23 = some (.slice 9) := by kernel_rfl
theorem u42 : Tryd.prog.underlying 52 = some (.slice 56) := by kernel_rfl
theorem u30 : Tryd.prog.underlying 24 = some (.slice 54) := by kernel_rfl
theorem info9 : (Tryd.prog.info? 9).map (fun i => (i.zero, i.size, i.bytes)) = some (some (.string ByteArray.empty), 1, 16) := by kernel_rfl
theorem info67 : (Tryd.prog.info? 56).map (fun i => (i.zero, i.size, i.bytes)) = some (some (.agg #[.int .i64 0, .int .i64 0, .int .i64 0, .int .i64 0]), 4, 32) := by kernel_rfl
theorem info44 : (Tryd.prog.info? 54).map (fun i => (i.zero, i.size, i.bytes)) = some (some (.agg #[.string ByteArray.empty, .slice none 0 0]), 2, 40) := by kernel_rfl

/-- 'make([]T, n)', T of several cells. -/
theorem run_make_wide (t e : TypeId) (z : Value) (size bytes : Nat) (ht : Tryd.prog.underlying t = some (.slice e)) (hinfo : (Tryd.prog.info? e).map (fun i => (i.zero, i.size, i.bytes)) = some (some z, size, bytes))
    (kl kc : IntKind) (n : Nat) (hbytes : bytes * n ≤ 281474976710656) (h63 : n ≤ 9223372036854775807) (w : World) :
    (Instr.makeSlice t (.int kl (n : Int)) (.int kc (n : Int))).run Tryd.prog w = .ok (.slice (some ⟨w.heap.size, 0, none⟩) n n) (w.alloc (.cells (madeCells z.cells (n * size)) e)) := by
  obtain ⟨i, hi, hzz⟩ := Option.map_eq_some_iff.1 hinfo
  simp only [Prod.mk.injEq] at hzz
  obtain ⟨hz, hs, hb⟩ := hzz
  subst hs; subst hb
  have hb' : (i.bytes : Int) * (n : Int) ≤ 281474976710656 := by
    have h : ((i.bytes * n : Nat) : Int) ≤ 281474976710656 := by omega
    rwa [Int.natCast_mul] at h
  have hr := run_make (P := Tryd.prog) w t e i z ht hi hz kl kc n n (by omega) (Int.le_refl _) hb' (by omega)
  simp only [Int.toNat_natCast] at hr
  exact hr
theorem rowIs_wide (w : World) (z : Array Value) (n : Nat) (t : TypeId) : ∃ f, (w.alloc (.cells (madeCells z n) t)).rowIs w.heap.size t n f :=
  ⟨fun i => (madeCells z n)[i]?.getD default, _, blk_alloc_new _ _, size_madeCells _ _, fun i hi => by
    show (madeCells z n)[i]? = some ((madeCells z n)[i]?.getD default)
    rw [Array.getElem?_eq_getElem (by rw [size_madeCells]; exact hi)]; rfl⟩
theorem rowIs_pair (w : World) (x y : Value) (t : TypeId) : (w.alloc (.cells #[x, y] t)).rowIs w.heap.size t 2 (fun i => if i = 0 then x else y) :=
  ⟨_, blk_alloc_new _ _, rfl, fun i hi => by
    match i, hi with
    | 0, _ => rfl
    | 1, _ => rfl⟩

set_option maxHeartbeats 400000 in
theorem toCall_any (c0 c1 c2 c3 : Int) (w : World) :
    Calls Tryd.prog 131 #[.agg #[.int .i64 c0, .int .i64 c1, .int .i64 c2, .int .i64 c3]] w fun e w' => e = .returned (.agg #[.int .i64 c0, .int .i64 c1, .int .i64 c2, .int .i64 c3]) ∧ Below w.heap.size w w' := by
  go_enter Tryd.func131, Tryd.ntmps131
  go_wp2
  exact bodyPost_ret (v := .agg #[.int .i64 c0, .int .i64 c1, .int .i64 c2, .int .i64 c3]) (by simp [results, Tryd.results131, go_sem]) rfl ⟨rfl, (((Below.refl _ _).alloc (Nat.le_refl _) _).alloc (by simp) _).alloc (by simp; omega) _⟩

set_option maxHeartbeats 400000 in
theorem toStringS_any (a : Option Addr) (ss : List ByteArray) (c : Nat) (w : World) (hn : ss.length ≤ 1048576) (hat : StrsAt w a ss) :
    Calls Tryd.prog 72 #[.slice a ss.length c] w fun e w' => ∃ b, e = .returned (.slice (some ⟨b, 0, none⟩) ss.length ss.length) ∧ w.heap.size ≤ b ∧ StrsAt w' (some ⟨b, 0, none⟩) ss ∧ Below w.heap.size w w' := by
  have hmk := run_make_wide 23 9 (.string ByteArray.empty) 1 16 u22 info9 .i64 .i64 ss.length (by omega) (by omega)
  obtain ⟨f0, hf0⟩ := rowIs_wide w #[.string ByteArray.empty] (ss.length * 1) 9
  go_enter Tryd.func72, Tryd.ntmps72
  go_wp2
  go_loopw [4] (fun i wr => ∃ k : Nat, k ≤ ss.length ∧ i = .int .i64 k ∧ (∃ f, wr.rowIs w.heap.size 9 ss.length f ∧ ∀ j (_ : j < k) (h : j < ss.length), f j = .string ss[j]) ∧ Below w.heap.size w wr) (fun i _ => ss.length - (intOf i).toNat)
  case atStart =>
    rw [Nat.mul_one] at hf0
    exact ⟨0, Nat.zero_le _, rfl, ⟨f0, by simpa using hf0, fun j hj => by omega⟩, (Below.refl _ _).alloc (Nat.le_refl _) _⟩
  case round =>
    obtain ⟨k, hk, rfl, ⟨f, hrow, hf⟩, hbel⟩ := hrel
    clear hf0
    by_cases hlt : k < ss.length
    · obtain ⟨b, o, rfl, hc⟩ := hat.keep hbel k hlt
      have hfr := hrow.frozen k
      have hce := hrow.cell hlt
      have H : Hid (∀ j (_ : j < k) (h : j < ss.length), f j = .string ss[j]) := hf
      clear hmk hat hf
      go_wp2
      go_roundw
      case rel =>
        refine ⟨k + 1, by omega, by go_num, ⟨_, hrow.set k _, fun j hj h => ?_⟩, hbel.setCell (Nat.le_refl _) _⟩
        by_cases e : j = k
        · subst e; rw [if_pos rfl]
        · rw [if_neg e]; exact H.out j (by omega) h
      case measure => simp [intOf]; omega
    · go_wp2
      go_ret
      refine ⟨w.heap.size, rfl, Nat.le_refl _, fun i hi => ⟨_, _, rfl, ?_⟩, hbel⟩
      rw [Nat.zero_add, hrow.cell hi, hf i (by omega) hi]

set_option maxHeartbeats 400000 in
theorem toCallS_any (a : Option Addr) (cs : List CallD) (c : Nat) (w : World) (hn : cs.length ≤ 1048576) (hat : CallsAt w a cs) :
    Calls Tryd.prog 125 #[.slice a cs.length c] w fun e w' => ∃ b, e = .returned (.slice (some ⟨b, 0, none⟩) cs.length cs.length) ∧ w.heap.size ≤ b ∧ CallsAt w' (some ⟨b, 0, none⟩) cs ∧ Below w.heap.size w w' := by
  have hmk := run_make_wide 52 56 (.agg #[.int .i64 0, .int .i64 0, .int .i64 0, .int .i64 0]) 4 32 u42 info67 .i64 .i64 cs.length (by omega) (by omega)
  obtain ⟨f0, hf0⟩ := rowIs_wide w #[.int .i64 0, .int .i64 0, .int .i64 0, .int .i64 0] (cs.length * 4) 56
  go_enter Tryd.func125, Tryd.ntmps125
  go_wp2
  go_loopw [4] (fun i wr => ∃ k : Nat, k ≤ cs.length ∧ i = .int .i64 k ∧ (∃ f, wr.rowIs w.heap.size 56 (cs.length * 4) f ∧ ∀ j (_ : j < k) (h : j < cs.length), f (j * 4) = .int .i64 cs[j].st ∧ f (j * 4 + 1) = .int .i64 cs[j].co ∧ f (j * 4 + 2) = .int .i64 cs[j].go ∧ f (j * 4 + 3) = .int .i64 cs[j].tr) ∧ Below w.heap.size w wr) (fun i _ => cs.length - (intOf i).toNat)
  case atStart =>
    exact ⟨0, Nat.zero_le _, rfl, ⟨f0, by simpa using hf0, fun j hj => by omega⟩, (Below.refl _ _).alloc (Nat.le_refl _) _⟩
  case round =>
    obtain ⟨k, hk, rfl, ⟨f, hrow, hf⟩, hbel⟩ := hrel
    clear hf0
    by_cases hlt : k < cs.length
    · obtain ⟨b, o, rfl, hc0, hc1, hc2, hc3⟩ := hat.keep hbel k hlt
      have H : Hid (∀ j (_ : j < k) (h : j < cs.length), f (j * 4) = .int .i64 cs[j].st ∧ f (j * 4 + 1) = .int .i64 cs[j].co ∧ f (j * 4 + 2) = .int .i64 cs[j].go ∧ f (j * 4 + 3) = .int .i64 cs[j].tr) := hf
      clear hmk hat hf
      go_wp2_with fail
      refine (toCall_any _ _ _ _ _).mono ?_
      rintro e w1 ⟨rfl, hb1⟩
      have hrow1 := hrow.of_block (hb1.block _ hrow.lt)
      have hfr := hrow1.frozen
      have hce0 := hrow1.cell (i := k * 4) (by omega)
      have hce1 := hrow1.cell (i := k * 4 + 1) (by omega)
      have hce2 := hrow1.cell (i := k * 4 + 2) (by omega)
      have hce3 := hrow1.cell (i := k * 4 + 3) (by omega)
      clear hc0 hc1 hc2 hc3
      go_wp2_with fail
      go_roundw
      case rel =>
        have B1 := hbel.trans (hb1.mono hbel.size)
        refine ⟨k + 1, by omega, by go_num, ⟨_, (((hrow1.set (k * 4) _).set (k * 4 + 1) _).set (k * 4 + 2) _).set (k * 4 + 3) _, fun j hj h => ?_⟩, (((B1.setCell (Nat.le_refl _) _).setCell (Nat.le_refl _) _).setCell (Nat.le_refl _) _).setCell (Nat.le_refl _) _⟩
        by_cases e : j = k
        · subst e; simp
        · obtain ⟨e0, e1, e2, e3⟩ := H.out j (by omega) h
          refine ⟨?_, ?_, ?_, ?_⟩ <;> (rw [if_neg (by omega), if_neg (by omega), if_neg (by omega), if_neg (by omega)]; assumption)
      case measure => simp [intOf]; omega
    · go_wp2
      go_ret
      refine ⟨w.heap.size, rfl, Nat.le_refl _, fun i hi => ⟨_, _, rfl, ?_⟩, hbel⟩
      obtain ⟨e0, e1, e2, e3⟩ := hf i (by omega) hi
      simp only [Nat.zero_add]
      exact ⟨by rw [hrow.cell (by omega), e0], by rw [hrow.cell (by omega), e1], by rw [hrow.cell (by omega), e2], by rw [hrow.cell (by omega), e3]⟩

set_option maxHeartbeats 400000 in
theorem toTrip_any (nm : ByteArray) (ca : Option Addr) (cs : List CallD) (cc : Nat) (w : World) (hn : cs.length ≤ 1048576) (hat : CallsAt w ca cs) :
    Calls Tryd.prog 108 #[.agg #[.string nm, .slice ca cs.length cc]] w fun e w' => ∃ b, e = .returned (.agg #[.string nm, .slice (some ⟨b, 0, none⟩) cs.length cs.length]) ∧ w.heap.size ≤ b ∧ CallsAt w' (some ⟨b, 0, none⟩) cs ∧ Below w.heap.size w w' := by
  go_enter Tryd.func108, Tryd.ntmps108
  go_wp2_with fail
  refine (toCallS_any _ _ _ _ hn (by exact hat.keep ((((Below.refl _ _).alloc (Nat.le_refl _) _).alloc (by simp) _).alloc (by simp; omega) _))).mono ?_
  rintro e w1 ⟨b, rfl, hb, hat1, hb1⟩
  obtain ⟨hc, hf⟩ := bcell hb1
  simp at hb
  go_wp2_with fail
  refine bodyPost_ret (v := .agg #[.string nm, .slice (some ⟨b, 0, none⟩) cs.length cs.length]) (by simp [results, Tryd.results108, go_sem, hc]) rfl ⟨b, rfl, by omega, ?_, ?_⟩
  · exact ((hat1.setOther (by simp; omega)).setOther (by simp; omega)).setOther (by simp; omega)
  · exact (((((((Below.refl _ _).alloc (Nat.le_refl _) _).alloc (by simp) _).alloc (by simp; omega) _).trans (hb1.mono (by simp; omega))).setCell (by simp; omega) _).setCell (by simp) _).setCell (by simp) _

set_option maxHeartbeats 400000 in
theorem toTripS_any (a : Option Addr) (ts : List TripD) (c : Nat) (w : World) (hn : ts.length ≤ 1048576) (hns : ∀ i (h : i < ts.length), ts[i].calls.length ≤ 1048576) (hat : TripsAt w a ts) :
    Calls Tryd.prog 73 #[.slice a ts.length c] w fun e w' => ∃ b, e = .returned (.slice (some ⟨b, 0, none⟩) ts.length ts.length) ∧ w.heap.size ≤ b ∧ TripsFrom w.heap.size w' (some ⟨b, 0, none⟩) ts ∧ Below w.heap.size w w' := by
  have hmk := run_make_wide 24 54 (.agg #[.string ByteArray.empty, .slice none 0 0]) 2 40 u30 info44 .i64 .i64 ts.length (by omega) (by omega)
  obtain ⟨f0, hf0⟩ := rowIs_wide w #[.string ByteArray.empty, .slice none 0 0] (ts.length * 2) 54
  go_enter Tryd.func73, Tryd.ntmps73
  go_wp2
  go_loopw [4] (fun i wr => ∃ k : Nat, k ≤ ts.length ∧ i = .int .i64 k ∧ (∃ f, wr.rowIs w.heap.size 54 (ts.length * 2) f ∧ ∀ j (_ : j < k) (h : j < ts.length), f (j * 2) = .string ts[j].name ∧ ∃ b cc, w.heap.size < b ∧ f (j * 2 + 1) = .slice (some ⟨b, 0, none⟩) ts[j].calls.length cc ∧ CallsAt wr (some ⟨b, 0, none⟩) ts[j].calls) ∧ Below w.heap.size w wr) (fun i _ => ts.length - (intOf i).toNat)
  case atStart =>
    exact ⟨0, Nat.zero_le _, rfl, ⟨f0, by simpa using hf0, fun j hj => by omega⟩, (Below.refl _ _).alloc (Nat.le_refl _) _⟩
  case round =>
    obtain ⟨k, hk, rfl, ⟨f, hrow, hf⟩, hbel⟩ := hrel
    clear hf0
    by_cases hlt : k < ts.length
    · obtain ⟨b, o, ca, cc, rfl, hc0, hc1, hca⟩ := hat.keep hbel k hlt
      have H : Hid (∀ j (_ : j < k) (h : j < ts.length), f (j * 2) = .string ts[j].name ∧ ∃ b cc, w.heap.size < b ∧ f (j * 2 + 1) = .slice (some ⟨b, 0, none⟩) ts[j].calls.length cc ∧ CallsAt wr (some ⟨b, 0, none⟩) ts[j].calls) := hf
      have HC : Hid (CallsAt wr ca ts[k].calls) := hca
      have hnk := hns k hlt
      clear hmk hat hf hca hns
      go_wp2_with fail
      refine (toTrip_any _ _ _ _ _ hnk HC.out).mono ?_
      rintro e w1 ⟨b', rfl, hb', hat1, hb1⟩
      have hrow1 := hrow.of_block (hb1.block _ hrow.lt)
      have hfr := hrow1.frozen
      have hce0 := hrow1.cell (i := k * 2) (by omega)
      have hce1 := hrow1.cell (i := k * 2 + 1) (by omega)
      have hlt1 := hrow.lt
      have HA : Hid (CallsAt w1 (some ⟨b', 0, none⟩) ts[k].calls) := hat1
      clear hc0 hc1 hat1
      go_wp2_with fail
      go_roundw
      case rel =>
        have B1 := hbel.trans (hb1.mono hbel.size)
        refine ⟨k + 1, by omega, by go_num, ⟨_, (hrow1.set (k * 2) _).set (k * 2 + 1) _, fun j hj h => ?_⟩, (B1.setCell (Nat.le_refl _) _).setCell (Nat.le_refl _) _⟩
        by_cases e : j = k
        · subst e
          refine ⟨by simp, b', _, by omega, by simp; rfl, ?_⟩
          exact (HA.out.setOther (by simp; omega)).setOther (by simp; omega)
        · obtain ⟨e0, bb, cx, e1, e2, e3⟩ := H.out j (by omega) h
          refine ⟨?_, bb, cx, e1, ?_, ?_⟩
          · rw [if_neg (by omega), if_neg (by omega)]; exact e0
          · rw [if_neg (by omega), if_neg (by omega)]; exact e2
          · exact ((e3.keep hb1).setOther (by simp; omega)).setOther (by simp; omega)
      case measure => simp [intOf]; omega
    · go_wp2
      go_ret
      refine ⟨w.heap.size, rfl, Nat.le_refl _, fun i hi => ?_, hbel⟩
      obtain ⟨e0, bb, cx, e1, e2, e3⟩ := hf i (by omega) hi
      refine ⟨_, _, bb, cx, Nat.le_refl _, Nat.le_of_lt e1, rfl, ?_, ?_, e3⟩
      · simp only [Nat.zero_add]; rw [hrow.cell (by omega), e0]
      · simp only [Nat.zero_add]; rw [hrow.cell (by omega), e2]

set_option maxHeartbeats 400000 in
theorem toBook_any (v : Value) (bk : BookD) (w : World) (hn : bookSize bk ≤ 1048576) (hat : BookAt w v bk) :
    Calls Tryd.prog 31 #[v] w fun e w' => ∃ v', e = .returned v' ∧ BookAt w' v' bk ∧ Below w.heap.size w w' := by
  obtain ⟨sa, sc, ta, tc, rfl, hsa, hta⟩ := hat
  have n1 : bk.sts.length ≤ 1048576 := by unfold bookSize strsSize at hn; omega
  have n2 : bk.trips.length ≤ 1048576 := by unfold bookSize tripsSize at hn; omega
  have n3 : ∀ i (h : i < bk.trips.length), bk.trips[i].calls.length ≤ 1048576 := by
    intro i h
    have := sumTrips_get bk.trips i h
    unfold bookSize tripsSize at hn; unfold tripSize at this; omega
  have hb0 : Below w.heap.size w (((w.alloc (.cells #[.slice sa bk.sts.length sc, .slice ta bk.trips.length tc] 65)).alloc (.cells #[.slice none 0 0, .slice none 0 0] 26)).alloc (.cells #[.slice none 0 0, .slice none 0 0] 26)) := (((Below.refl _ _).alloc (Nat.le_refl _) _).alloc (by simp) _).alloc (by simp; omega) _
  clear hn
  go_enter Tryd.func31, Tryd.ntmps31
  go_wp2_with fail
  refine (toStringS_any _ _ _ _ n1 (by exact hsa.keep hb0)).mono ?_
  rintro e w1 ⟨b1, rfl, hb1, hat1, hbe1⟩
  have hz : w.heap.size + 1 + 1 + 1 ≤ w1.heap.size := by have := hbe1.size; simpa using this
  simp at hb1
  have r1 : w1.rowIs (w.heap.size + 1) 26 2 (fun i => if i = 0 then .slice none 0 0 else .slice none 0 0) := by
    refine World.rowIs.of_block ?_ (hbe1.block _ (by simp))
    have h := (rowIs_pair (w.alloc (.cells #[.slice sa bk.sts.length sc, .slice ta bk.trips.length tc] 65)) (.slice none 0 0) (.slice none 0 0) 26).alloc (.cells #[.slice none 0 0, .slice none 0 0] 26)
    rwa [nblk_alloc] at h
  have r2 : w1.rowIs (w.heap.size + 1 + 1) 26 2 (fun i => if i = 0 then .slice none 0 0 else .slice none 0 0) := by
    refine World.rowIs.of_block ?_ (hbe1.block _ (by simp))
    have h := rowIs_pair ((w.alloc (.cells #[.slice sa bk.sts.length sc, .slice ta bk.trips.length tc] 65)).alloc (.cells #[.slice none 0 0, .slice none 0 0] 26)) (.slice none 0 0) (.slice none 0 0) 26
    rwa [nblk_alloc, nblk_alloc] at h
  have hold := hbe1.cell (p := ⟨w.heap.size, 1, none⟩) (by simp; omega)
  have hold' : w1.cell? ⟨w.heap.size, 1, none⟩ = some (.slice ta bk.trips.length tc) := by rw [hold]; simp [go_sem]
  have q1 := r2.cell (i := 0) (by omega)
  have q2 := r2.frozen 0
  have HS : Hid (StrsAt w1 (some ⟨b1, 0, none⟩) bk.sts) := hat1
  have hB1 : Below w.heap.size w w1 := hb0.trans (hbe1.mono (by simp; omega))
  clear hat1 hsa hbe1 hold
  go_wp2_with fail
  refine (toTripS_any _ _ _ _ n2 n3 (by exact hta.keep (hB1.setCell (by simp; omega) _))).mono ?_
  rintro e w2 ⟨b2, rfl, hb2, hat2, hbe2⟩
  have hz2 : w1.heap.size ≤ w2.heap.size := by have := hbe2.size; simpa [World.setCell] using this
  have hb2' : w1.heap.size ≤ b2 := by simpa [World.setCell] using hb2
  have s1 := (r1.setOther (a := ⟨w.heap.size + 1 + 1, 0, none⟩) (by simp) (.slice (some ⟨b1, 0, none⟩) bk.sts.length bk.sts.length)).of_block (hbe2.block _ (by simp [World.setCell]; omega))
  have s2 := (r2.set 0 (.slice (some ⟨b1, 0, none⟩) bk.sts.length bk.sts.length)).of_block (hbe2.block _ (by simp [World.setCell]; omega))
  have c00 := s1.cell (i := 0) (by omega)
  have c01 := s1.cell (i := 1) (by omega)
  have f0 := s1.frozen
  have c10 := s2.cell (i := 0) (by omega)
  have c11 := s2.cell (i := 1) (by omega)
  have f1 := s2.frozen
  simp at c10 c11
  have HT : Hid (TripsFrom w1.heap.size w2 (some ⟨b2, 0, none⟩) bk.trips) := by
    unfold Hid; simpa [World.setCell] using hat2
  have hB2 : Below w.heap.size w w2 := (hB1.setCell (by simp; omega) _).trans (hbe2.mono (by simp [World.setCell]; omega))
  have HS2 : Hid (StrsAt w2 (some ⟨b1, 0, none⟩) bk.sts) := (HS.out.setOther (by simp; omega)).keep hbe2
  clear hat2 hb2 hta hbe2 r1 r2 q1 q2
  go_wp2_with fail
  refine bodyPost_ret (v := .agg #[.slice (some ⟨b1, 0, none⟩) bk.sts.length bk.sts.length, .slice (some ⟨b2, 0, none⟩) bk.trips.length bk.trips.length]) (by simp [results, Tryd.results31, go_sem, c00, c01]) rfl ⟨_, rfl, ⟨_, _, _, _, rfl, ?_, ?_⟩, ?_⟩
  · exact ((HS2.out.setOther (by simp; omega)).setOther (by simp; omega)).setOther (by simp; omega)
  · exact (((HT.out.setBelow (by simp; omega)).setBelow (by simp; omega)).setBelow (by simp; omega)).at
  · exact ((hB2.setCell (by simp; omega) _).setCell (by simp) _).setCell (by simp) _

end Go.Proofs.YtjioingdpfgadaaDoor
