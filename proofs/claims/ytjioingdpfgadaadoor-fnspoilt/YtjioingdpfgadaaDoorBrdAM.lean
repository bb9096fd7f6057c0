import Derived.Test.YtjioingdpfgadaaDoorProg
import Derived.Test.YtjioingdpfgadaaDoorSpecOM
import Derived.Deep.RegionHeld3
import Derived.Test.YtjioingdpfgadaaDoorBoardCM
namespace Go.Proofs.YtjioingdpfgadaaDoor
open Go Go.RowKit Go.Deep

set_option maxRecDepth 100000 in
theorem isNaN_any (x : Int) (w : World) :
    Calls Tryd.prog 166 #[.int .i64 x] w fun e w' => e = .returned (.bool false) ∧ w' = w := by
  go_enter Tryd.func166, Tryd.ntmps166
  go_wp2
  go_ret
  exact ⟨rfl, rfl⟩

/-- -1, 0 or 1. -/
def cmpD (x y : Int) : Int := if x < y then -1 else if y < x then 1 else 0

set_option maxRecDepth 100000 in
set_option maxHeartbeats 1000000 in
theorem compare_any (x y : Int) (w : World) :
    Calls Tryd.prog 165 #[.int .i64 x, .int .i64 y] w fun e w' => e = .returned (.int .i64 (cmpD x y)) ∧ w' = w := by
  by_cases h1 : x < y
  · have HC : Hid (cmpD x y = -1) := by unfold Hid cmpD; rw [if_pos h1]
    go_enter Tryd.func165, Tryd.ntmps165
    go_wp2_with (go_at_call 166; refine (isNaN_any _ _).mono ?_; rintro e w1 ⟨rfl, rfl⟩)
    go_ret
    exact ⟨ret_int HC.out.symm, rfl⟩
  · by_cases h2 : y < x
    · have HC : Hid (cmpD x y = 1) := by unfold Hid cmpD; rw [if_neg h1, if_pos h2]
      go_enter Tryd.func165, Tryd.ntmps165
      go_wp2_with (go_at_call 166; refine (isNaN_any _ _).mono ?_; rintro e w1 ⟨rfl, rfl⟩)
      go_ret
      exact ⟨ret_int HC.out.symm, rfl⟩
    · have HC : Hid (cmpD x y = 0) := by unfold Hid cmpD; rw [if_neg h1, if_neg h2]
      go_enter Tryd.func165, Tryd.ntmps165
      go_wp2_with (go_at_call 166; refine (isNaN_any _ _).mono ?_; rintro e w1 ⟨rfl, rfl⟩)
      go_ret
      exact ⟨ret_int HC.out.symm, rfl⟩

/-- The first of three numbers that is not 0. -/
def orD (a b c : Int) : Int := if a ≠ 0 then a else if b ≠ 0 then b else c
theorem orD_1 {a b c : Int} (h : a ≠ 0) : orD a b c = a := by unfold orD; rw [if_pos h]
theorem orD_2 {a b c : Int} (h : a = 0) (h2 : b ≠ 0) : orD a b c = b := by unfold orD; rw [if_neg (by simp [h]), if_pos h2]
theorem orD_3 {a b c : Int} (h : a = 0) (h2 : b = 0) : orD a b c = c := by unfold orD; rw [if_neg (by simp [h]), if_neg (by simp [h2])]

set_option maxRecDepth 100000 in
set_option maxHeartbeats 2000000 in
theorem or_any (a b c : Int) (g : Nat) (w : World) (h0 : w.cell? ⟨g, 0, none⟩ = some (.int .i64 a)) (h1 : w.cell? ⟨g, 1, none⟩ = some (.int .i64 b)) (h2 : w.cell? ⟨g, 2, none⟩ = some (.int .i64 c)) :
    Calls Tryd.prog 164 #[.slice (some ⟨g, 0, none⟩) 3 3] w fun e w' => e = .returned (.int .i64 (orD a b c)) ∧ w' = w := by
  have H0 : Hid (w.cell? ⟨g, 0, none⟩ = some (.int .i64 a)) := h0
  have H1 : Hid (w.cell? ⟨g, 1, none⟩ = some (.int .i64 b)) := h1
  have H2 : Hid (w.cell? ⟨g, 2, none⟩ = some (.int .i64 c)) := h2
  clear h0 h1 h2
  go_enter Tryd.func164, Tryd.ntmps164
  go_wp2
  go_loopw [8] (fun i wr => ∃ k : Nat, k ≤ 3 ∧ i = .int .i64 k ∧ Hid ((0 < k → a = 0) ∧ (1 < k → b = 0) ∧ (2 < k → c = 0)) ∧ Hid (wr = w)) (fun i _ => 3 - (intOf i).toNat)
  case atStart => exact ⟨0, by omega, rfl, ⟨by omega, by omega, by omega⟩, rfl⟩
  case round =>
    obtain ⟨k, hk, rfl, hz, hw0⟩ := hrel
    obtain rfl : wr = w := hw0.out
    have hcase : k = 0 ∨ k = 1 ∨ k = 2 ∨ k = 3 := by omega
    rcases hcase with rfl | rfl | rfl | rfl
    · have h0 := H0.out
      by_cases ha : a = 0
      · subst ha
        go_wp2_with fail
        go_roundw
        case rel => exact ⟨1, by omega, by go_num, by simp [Hid], by simp [Hid]⟩
        case measure => simp [intOf]
      · have HA : Hid (orD a b c = a) := orD_1 ha
        have hab : (a != 0) = true := by simp [ha]
        clear ha
        go_wp2_with fail
        go_ret
        exact ⟨ret_int HA.out.symm, rfl⟩
    · have h1 := H1.out
      by_cases hb : b = 0
      · subst hb
        go_wp2_with fail
        go_roundw
        case rel => exact ⟨2, by omega, by go_num, by have := hz.out.1 (by omega); simp [Hid, this], by simp [Hid]⟩
        case measure => simp [intOf]
      · have HA : Hid (orD a b c = b) := orD_2 (hz.out.1 (by omega)) hb
        have hab : (b != 0) = true := by simp [hb]
        clear hb
        go_wp2_with fail
        go_ret
        exact ⟨ret_int HA.out.symm, rfl⟩
    · have h2 := H2.out
      by_cases hc : c = 0
      · subst hc
        go_wp2_with fail
        go_roundw
        case rel => exact ⟨3, by omega, by go_num, by have := hz.out.1 (by omega); have := hz.out.2.1 (by omega); simp [Hid, *], by simp [Hid]⟩
        case measure => simp [intOf]
      · have HA : Hid (orD a b c = c) := orD_3 (hz.out.1 (by omega)) (hz.out.2.1 (by omega))
        have hab : (c != 0) = true := by simp [hc]
        clear hc
        go_wp2_with fail
        go_ret
        exact ⟨ret_int HA.out.symm, rfl⟩
    · have HA : Hid (orD a b c = 0) := by unfold Hid; rw [orD_3 (hz.out.1 (by omega)) (hz.out.2.1 (by omega))]; exact hz.out.2.2 (by omega)
      go_wp2_with fail
      go_ret
      exact ⟨ret_int HA.out.symm, rfl⟩

theorem lessD_cmp (a b : RowD) : decide (orD (cmpD a.expect b.expect) (cmpD a.due b.due) (cmpD a.trip b.trip) < 0) = lessD a b := by
  have hc : ∀ x y : Int, (x < y ∧ cmpD x y = -1) ∨ (y < x ∧ cmpD x y = 1) ∨ (x = y ∧ cmpD x y = 0) := fun x y => by
    unfold cmpD
    by_cases h1 : x < y
    · exact .inl ⟨h1, if_pos h1⟩
    · by_cases h2 : y < x
      · exact .inr (.inl ⟨h2, by rw [if_neg h1, if_pos h2]⟩)
      · exact .inr (.inr ⟨by omega, by rw [if_neg h1, if_neg h2]⟩)
  unfold lessD
  rcases hc a.expect b.expect with ⟨h, e⟩ | ⟨h, e⟩ | ⟨h, e⟩
  · rw [e, orD_1 (by omega), if_pos (by omega)]; simp [h]
  · rw [e, orD_1 (by omega), if_pos (by omega)]; simp; omega
  · rw [e, if_neg (by simp [h])]
    rcases hc a.due b.due with ⟨h', e'⟩ | ⟨h', e'⟩ | ⟨h', e'⟩
    · rw [e', orD_2 rfl (by omega), if_pos (by omega)]; simp [h']
    · rw [e', orD_2 rfl (by omega), if_pos (by omega)]; simp; omega
    · rw [e', orD_3 rfl rfl, if_neg (by simp [h'])]
      rcases hc a.trip b.trip with ⟨h3, e3⟩ | ⟨h3, e3⟩ | ⟨h3, e3⟩
      · rw [e3]; simp [h3]
      · rw [e3]; simp; omega
      · rw [e3]; simp; omega

theorem three_cells {w : World} {a b c : Value} {T : TypeId} : ((w.alloc (.cells #[a, b, c] T)).cell? ⟨w.heap.size, 0, none⟩ = some a ∧ (w.alloc (.cells #[a, b, c] T)).cell? ⟨w.heap.size, 1, none⟩ = some b ∧ (w.alloc (.cells #[a, b, c] T)).cell? ⟨w.heap.size, 2, none⟩ = some c) := by
  refine ⟨?_, ?_, ?_⟩ <;> simp [go_sem]

set_option maxRecDepth 100000 in
set_option maxHeartbeats 4000000 in
theorem before_any (a b : RowD) (w : World) :
    Calls Tryd.prog 163 #[rowV a, rowV b] w fun e w' => e = .returned (.bool (lessD a b)) ∧ Below w.heap.size w w' := by
  have HL : Hid (decide (orD (cmpD a.expect b.expect) (cmpD a.due b.due) (cmpD a.trip b.trip) < 0) = lessD a b) := lessD_cmp a b
  unfold rowV
  obtain ⟨W2, hW2⟩ : ∃ W2, (w.alloc (.cells #[.int .i64 a.trip, .int .i64 a.to, .int .i64 a.due, .int .i64 a.expect, .int .i64 a.track, .int .i64 a.state] 38)).alloc (.cells #[.int .i64 b.trip, .int .i64 b.to, .int .i64 b.due, .int .i64 b.expect, .int .i64 b.track, .int .i64 b.state] 38) = W2 := ⟨_, rfl⟩
  have hb2 : Below w.heap.size w W2 := by subst hW2; exact ((Below.refl _ _).alloc (Nat.le_refl _) _).alloc (by simp) _
  have p0 : W2.cell? ⟨w.heap.size, 0, none⟩ = some (.int .i64 a.trip) := by subst hW2; simp [go_sem]
  have p2 : W2.cell? ⟨w.heap.size, 2, none⟩ = some (.int .i64 a.due) := by subst hW2; simp [go_sem]
  have p3 : W2.cell? ⟨w.heap.size, 3, none⟩ = some (.int .i64 a.expect) := by subst hW2; simp [go_sem]
  have q0 : W2.cell? ⟨w.heap.size + 1, 0, none⟩ = some (.int .i64 b.trip) := by subst hW2; simp [go_sem]
  have q2 : W2.cell? ⟨w.heap.size + 1, 2, none⟩ = some (.int .i64 b.due) := by subst hW2; simp [go_sem]
  have q3 : W2.cell? ⟨w.heap.size + 1, 3, none⟩ = some (.int .i64 b.expect) := by subst hW2; simp [go_sem]
  go_enter Tryd.func163, Tryd.ntmps163
  go_wp2_with fail
  clear hW2
  go_region_held3 (fun w' => w'.cell? ⟨w.heap.size, 0, none⟩ = some (.int .i64 a.trip) ∧ w'.cell? ⟨w.heap.size, 2, none⟩ = some (.int .i64 a.due) ∧ w'.cell? ⟨w.heap.size, 3, none⟩ = some (.int .i64 a.expect) ∧ w'.cell? ⟨w.heap.size + 1, 0, none⟩ = some (.int .i64 b.trip) ∧ w'.cell? ⟨w.heap.size + 1, 2, none⟩ = some (.int .i64 b.due) ∧ w'.cell? ⟨w.heap.size + 1, 3, none⟩ = some (.int .i64 b.expect))
    (go_keep)
    (first
      | (go_at_call 165; refine (compare_any _ _ _).mono ?_; rintro e w3 ⟨rfl, rfl⟩)
      | (go_at_call 164; refine (or_any _ _ _ _ _ (by exact three_cells.1) (by exact three_cells.2.1) (by exact three_cells.2.2)).mono ?_; rintro e w4 ⟨rfl, rfl⟩))
  all_goals
    go_wp2
    go_ret
    exact ⟨ret_bool HL.out, (hb2.alloc hb2.size _).drew⟩

end Go.Proofs.YtjioingdpfgadaaDoor
namespace Go.Proofs.YtjioingdpfgadaaDoor
open Go Go.RowKit Go.Deep

/-- The last of the first k calls that is not called off; -1 when all are. -/
def endIdx (ns : List NewsD) : Nat → Int
  | 0 => -1
  | k + 1 => if ((ns[k]?.map (·.off)).getD true) then endIdx ns k else k
theorem endIdx_succ (ns : List NewsD) (k : Nat) (h : k < ns.length) : endIdx ns (k + 1) = if ns[k].off then endIdx ns k else k := by
  simp [endIdx, List.getElem?_eq_getElem h]
theorem endIdx_lt (ns : List NewsD) (k : Nat) : -1 ≤ endIdx ns k ∧ endIdx ns k < k := by
  induction k with
  | zero => simp [endIdx]
  | succ k ih => unfold endIdx; split <;> omega
theorem endIdx_ge (ns : List NewsD) (k n : Nat) (hk : k < n) (hn : n ≤ ns.length) (ho : (ns[k]'(by omega)).off = false) : (k : Int) ≤ endIdx ns n := by
  induction n with
  | zero => omega
  | succ n ih =>
    rw [endIdx_succ ns n (by omega)]
    split
    · rename_i h
      by_cases e : k = n
      · subst e; rw [ho] at h; simp at h
      · exact ih (by omega) (by omega) ho
    · omega
def callV (c : CallD) : Value := .agg #[.int .i64 c.st, .int .i64 c.co, .int .i64 c.go, .int .i64 c.tr]
/-- Where the trip is bound for from a call. -/
def boundD (ns : List NewsD) (x : NewsD) : Int := if x.off then (ns.length : Int) - 1 else endIdx ns ns.length
/-- Whether a call stands on a board. -/
def shownD (ns : List NewsD) (k : Nat) (c : CallD) (x : NewsD) (tick : Int) : Bool :=
  if x.gone = true ∨ (k : Int) = boundD ns x then false else !x.off || decide (tick - 10 ≤ c.go)
def stateD (x : NewsD) : Int := if x.off then 3 else if x.here then 2 else if 0 < x.late then 1 else 0
def rowD (cs : List CallD) (ns : List NewsD) (trip : Int) (c : CallD) (x : NewsD) : RowD := ⟨trip, (cs[(boundD ns x).toNat]?.map (·.st)).getD 0, c.go, c.go + x.late, x.track, stateD x⟩

set_option maxRecDepth 100000 in
set_option maxHeartbeats 2000000 in
theorem endOf_any (na : Option Addr) (nc : Nat) (ns : List NewsD) (w : World) (hm : ns.length ≤ 1048576) (hna : NewsAt w na ns) :
    Calls Tryd.prog 95 #[.slice na ns.length nc] w fun e w' => e = .returned (.int .i64 (endIdx ns ns.length)) ∧ w' = w := by
  have HN : Hid (NewsAt w na ns) := hna
  clear hna
  go_enter Tryd.func95, Tryd.ntmps95
  go_wp2
  go_loopw [3] (fun i wr => ∃ k : Nat, k ≤ ns.length ∧ i = .int .i64 ((k : Int) - 1) ∧ Hid (endIdx ns ns.length = endIdx ns k) ∧ Hid (wr = w)) (fun i _ => (intOf i + 1).toNat)
  case atStart => exact ⟨ns.length, Nat.le_refl _, by first | rfl | go_num, rfl, rfl⟩
  case round =>
    obtain ⟨k, hk, rfl, he, hw⟩ := hrel
    obtain rfl : wr = w := hw.out
    cases k with
    | zero =>
      have HE : Hid (endIdx ns ns.length = -1) := he.out
      go_wp2_with fail
      go_ret
      exact ⟨ret_int (by rw [HE.out]), rfl⟩
    | succ k =>
      obtain ⟨b, o, rfl, x0, x1, x2, x3, x4⟩ := HN.out k (by omega)
      have hk0 : (0 : Int) ≤ (k : Int) := by omega
      have hk1 : (k : Int) < (ns.length : Int) := by omega
      have hes := endIdx_succ ns k (by omega)
      have hkk : ((k + 1 : Nat) : Int) - 1 = (k : Int) := by omega
      rw [hkk]
      cases ho : ns[k].off
      · rw [ho] at x2 hes
        have HE : Hid (endIdx ns ns.length = k) := by unfold Hid; rw [he.out, hes]; rfl
        clear ho hes he
        go_wp2_with fail
        go_ret
        exact ⟨ret_int HE.out.symm, rfl⟩
      · rw [ho] at x2 hes
        have HE : Hid (endIdx ns ns.length = endIdx ns k) := by unfold Hid; rw [he.out, hes]; rfl
        clear ho hes he
        go_wp2_with fail
        go_roundw
        case rel => exact ⟨k, by omega, by go_num, HE, by first | exact rfl | exact trivial⟩
        case measure => simp [intOf]

set_option maxRecDepth 100000 in
set_option maxHeartbeats 2000000 in
theorem boundFor_any (k : Nat) (na : Option Addr) (nc : Nat) (ns : List NewsD) (w : World) (hk : k < ns.length) (hm : ns.length ≤ 1048576) (hna : NewsAt w na ns) :
    Calls Tryd.prog 112 #[.int .i64 k, .slice na ns.length nc] w fun e w' => e = .returned (.int .i64 (boundD ns ns[k])) ∧ w' = w := by
  obtain ⟨b, o, rfl, x0, x1, x2, x3, x4⟩ := hna k hk
  have HN : Hid (NewsAt w (some ⟨b, o, none⟩) ns) := hna
  have hk0 : (0 : Int) ≤ (k : Int) := by omega
  have hk1 : (k : Int) < (ns.length : Int) := by omega
  clear hna
  cases ho : ns[k].off
  · rw [ho] at x2
    have HB : Hid (boundD ns ns[k] = endIdx ns ns.length) := by unfold Hid boundD; rw [ho]; rfl
    clear ho
    generalize ns[k] = x at *
    go_enter Tryd.func112, Tryd.ntmps112
    go_wp2_with (go_at_call 95; refine (endOf_any _ _ ns _ hm (by exact HN.out)).mono ?_; rintro e w1 ⟨rfl, rfl⟩)
    go_ret
    exact ⟨ret_int HB.out.symm, rfl⟩
  · rw [ho] at x2
    have HB : Hid (boundD ns ns[k] = (ns.length : Int) - 1) := by unfold Hid boundD; rw [ho]; rfl
    clear ho
    generalize ns[k] = x at *
    go_enter Tryd.func112, Tryd.ntmps112
    go_wp2_with fail
    go_ret
    exact ⟨ret_int (by rw [HB.out]), rfl⟩

theorem shownD_gone {ns : List NewsD} {k : Nat} {c : CallD} {x : NewsD} {tick : Int} (h : x.gone = true) : shownD ns k c x tick = false := by unfold shownD; rw [if_pos (.inl h)]
theorem shownD_end {ns : List NewsD} {k : Nat} {c : CallD} {x : NewsD} {tick : Int} (h : (k : Int) = boundD ns x) : shownD ns k c x tick = false := by unfold shownD; rw [if_pos (.inr h)]
theorem shownD_else {ns : List NewsD} {k : Nat} {c : CallD} {x : NewsD} {tick : Int} (h : x.gone = false) (h2 : (k : Int) ≠ boundD ns x) : shownD ns k c x tick = (!x.off || decide (tick - 10 ≤ c.go)) := by
  unfold shownD; rw [if_neg (fun e => e.elim (fun e => absurd (h.symm.trans e) (by simp)) h2)]

set_option maxRecDepth 100000 in
set_option maxHeartbeats 4000000 in
theorem isShown_any (c : CallD) (k : Nat) (na : Option Addr) (nc : Nat) (ns : List NewsD) (tick : Int) (w : World) (hk : k < ns.length) (hm : ns.length ≤ 1048576) (htk : 0 ≤ tick ∧ tick ≤ 1000000) (hna : NewsAt w na ns) :
    Calls Tryd.prog 86 #[callV c, .int .i64 k, .slice na ns.length nc, .int .i64 tick] w fun e w' => e = .returned (.bool (shownD ns k c ns[k] tick)) ∧ Below w.heap.size w w' := by
  unfold callV
  have hb0 : Below w.heap.size w (w.alloc (.cells #[.int .i64 c.st, .int .i64 c.co, .int .i64 c.go, .int .i64 c.tr] 56)) := (Below.refl _ _).alloc (Nat.le_refl _) _
  obtain ⟨b, o, rfl, x0, x1, x2, x3, x4⟩ := hna k hk
  have HN : Hid (NewsAt w (some ⟨b, o, none⟩) ns) := hna
  have hk0 : (0 : Int) ≤ (k : Int) := by omega
  have hk1 : (k : Int) < (ns.length : Int) := by omega
  have HBF : Hid (∀ w, NewsAt w (some ⟨b, o, none⟩) ns → Calls Tryd.prog 112 #[.int .i64 k, .slice (some ⟨b, o, none⟩) ns.length nc] w fun e w' => e = .returned (.int .i64 (boundD ns ns[k])) ∧ w' = w) := fun w h => boundFor_any k _ nc ns w hk hm h
  clear hna
  have l0 := cell_lt x0
  generalize ns[k] = x at *
  cases hg : x.gone
  · rw [hg] at x4
    by_cases he : (k : Int) = boundD ns x
    · have HS : Hid (shownD ns k c x tick = false) := shownD_end he
      have heb : ((k : Int) == boundD ns x) = true := by simp [he]
      clear he
      go_enter Tryd.func86, Tryd.ntmps86
      go_wp2_with (go_at_call 112; refine (HBF.out _ (by exact HN.out.keep hb0)).mono ?_; rintro e w1 ⟨rfl, rfl⟩)
      go_ret
      exact ⟨ret_bool HS.out.symm, hb0⟩
    · have HS := shownD_else (c := c) (tick := tick) hg he
      have heb : ((k : Int) == boundD ns x) = false := by simp [he]
      clear he
      cases ho : x.off
      · rw [ho] at x2 HS
        have HS' : Hid (shownD ns k c x tick = true) := HS
        clear HS
        go_enter Tryd.func86, Tryd.ntmps86
        go_wp2_with (go_at_call 112; refine (HBF.out _ (by exact HN.out.keep hb0)).mono ?_; rintro e w1 ⟨rfl, rfl⟩)
        go_ret
        exact ⟨ret_bool HS'.out.symm, hb0⟩
      · rw [ho] at x2 HS
        have HS' : Hid (shownD ns k c x tick = decide (tick - 10 ≤ c.go)) := by unfold Hid; rw [HS]; simp
        clear HS
        go_enter Tryd.func86, Tryd.ntmps86
        go_wp2_with (go_at_call 112; refine (HBF.out _ (by exact HN.out.keep hb0)).mono ?_; rintro e w1 ⟨rfl, rfl⟩)
        go_ret
        exact ⟨ret_bool HS'.out.symm, hb0⟩
  · rw [hg] at x4
    have HS : Hid (shownD ns k c x tick = false) := shownD_gone hg
    go_enter Tryd.func86, Tryd.ntmps86
    go_wp2_with fail
    go_ret
    exact ⟨ret_bool HS.out.symm, hb0⟩

set_option maxRecDepth 100000 in
set_option maxHeartbeats 2000000 in
theorem stateOf_any (x : NewsD) (w : World) :
    Calls Tryd.prog 113 #[newsV x] w fun e w' => e = .returned (.int .i64 (stateD x)) ∧ Below w.heap.size w w' := by
  unfold newsV
  have hb0 : Below w.heap.size w (w.alloc (.cells #[.int .i64 x.late, .int .i64 x.track, .bool x.off, .bool x.here, .bool x.gone] 41)) := (Below.refl _ _).alloc (Nat.le_refl _) _
  cases ho : x.off
  · cases hh : x.here
    · by_cases hl : 0 < x.late
      · have HS : Hid (stateD x = 1) := by unfold Hid stateD; rw [ho, hh, if_pos hl]; rfl
        rw [ho, hh] at hb0
        clear ho hh
        go_enter Tryd.func113, Tryd.ntmps113
        go_wp2_with fail
        go_ret
        exact ⟨ret_int HS.out.symm, hb0⟩
      · have HS : Hid (stateD x = 0) := by unfold Hid stateD; rw [ho, hh, if_neg hl]; rfl
        rw [ho, hh] at hb0
        clear ho hh
        go_enter Tryd.func113, Tryd.ntmps113
        go_wp2_with fail
        go_ret
        exact ⟨ret_int HS.out.symm, hb0⟩
    · have HS : Hid (stateD x = 2) := by unfold Hid stateD; rw [ho, hh]; rfl
      rw [ho, hh] at hb0
      clear ho hh
      go_enter Tryd.func113, Tryd.ntmps113
      go_wp2_with fail
      go_ret
      exact ⟨ret_int HS.out.symm, hb0⟩
  · have HS : Hid (stateD x = 3) := by unfold Hid stateD; rw [ho]; rfl
    rw [ho] at hb0
    clear ho
    go_enter Tryd.func113, Tryd.ntmps113
    go_wp2_with fail
    go_ret
    exact ⟨ret_int HS.out.symm, hb0⟩

end Go.Proofs.YtjioingdpfgadaaDoor
