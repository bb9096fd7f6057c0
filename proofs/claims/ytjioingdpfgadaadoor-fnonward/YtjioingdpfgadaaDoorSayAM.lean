import Derived.Test.YtjioingdpfgadaaDoorProg
import Derived.Test.YtjioingdpfgadaaDoorSpecOM
import Derived.Test.YtjioingdpfgadaaDoorSpecBM
import Derived.Test.YtjioingdpfgadaaDoorHeapM
namespace Go.Proofs.YtjioingdpfgadaaDoor
open Go Go.RowKit Go.Deep

/-- A number's text. -/
def numS (n : Int) : ByteArray := ⟨(decL n.toNat).toArray⟩
/-- YtjioingdpfgadaaDoor to TO. -/
def boundS (nm tn : ByteArray) : ByteArray := nm ++ ⟨#[32, 116, 111, 32]⟩ ++ tn
/-- What is said of a call of which x was known; ends: whether the trip ends there. -/
def sayX (nm tn : ByteArray) (ends : Bool) (x : NewsD) (op n : Int) : ByteArray :=
  if op = 1 then (if ends = true ∨ x.late = n then ⟨#[]⟩ else if n = 0 then boundS nm tn ++ ⟨#[32, 105, 115, 32, 111, 110, 32, 116, 105, 109, 101]⟩ else boundS nm tn ++ ⟨#[32, 105, 115, 32, 108, 97, 116, 101, 32, 98, 121, 32]⟩ ++ numS n)
  else if op = 2 then boundS nm tn ++ ⟨#[32, 99, 111, 109, 101, 115, 32, 111, 110, 32, 116, 114, 97, 99, 107, 32]⟩ ++ numS n
  else if op = 3 then boundS nm tn ++ ⟨#[32, 100, 111, 101, 115, 32, 110, 111, 116, 32, 99, 111, 109, 101]⟩
  else if op = 4 then (if ends = true then nm ++ ⟨#[32, 101, 110, 100, 115, 32, 104, 101, 114, 101]⟩ else boundS nm tn ++ ⟨#[32, 105, 115, 32, 104, 101, 114, 101, 32, 111, 110, 32, 116, 114, 97, 99, 107, 32]⟩ ++ numS x.track)
  else boundS nm tn ++ ⟨#[32, 103, 111, 101, 115]⟩
/-- Whether a report of call c reaches call k of its trip. -/
def reachB (op c k : Int) : Bool := decide (0 ≤ k ∧ c ≤ k ∧ (c < k → op = 1 ∨ op = 3))
/-- Whether something is said of a call of which x was known. -/
def spokenB (x : NewsD) (op : Int) : Bool := !x.gone && !x.off && (!x.here || (decide (op = 5) || decide (op = 1)))
/-- The name of the station where a trip ends. -/
def endS (bk : BookD) (cs : List CallD) (ns : List NewsD) : ByteArray := (bk.sts[(endD cs ns).toNat]?).getD ⟨#[]⟩
/-- What is said of a report of a trip, by what was known of it. -/
def textT (bk : BookD) (t : TripD) (ns : List NewsD) (r : RepD) (s : Int) : ByteArray :=
  match ns[(callAtC t.calls s).toNat]? with
  | none => ⟨#[]⟩
  | some x => if reachB r.op r.call (callAtC t.calls s) = true ∧ spokenB x r.op = true then sayX t.name (endS bk t.calls ns) (decide (endD t.calls ns = s)) x r.op r.n else ⟨#[]⟩
def textD (bk : BookD) (nss : List (List NewsD)) (r : RepD) (s : Int) : ByteArray :=
  match bk.trips[r.trip.toNat]?, nss[r.trip.toNat]? with
  | some t, some ns => textT bk t ns r s
  | _, _ => ⟨#[]⟩
theorem textD_at (bk : BookD) (nss : List (List NewsD)) (r : RepD) (s : Int) (j : Nat) (h1 : j < bk.trips.length) (h2 : j < nss.length) (hj : r.trip = (j : Int)) : textD bk nss r s = textT bk bk.trips[j] nss[j] r s := by
  unfold textD; rw [hj, Int.toNat_natCast, List.getElem?_eq_getElem h1, List.getElem?_eq_getElem h2]
/-- What is said, and when. -/
structure SaidD where
  tick : Int
  text : ByteArray
/-- The last tick. -/
def lastTick : Int := 1000000
/-- What is said of report k. -/
def saidAt (bk : BookD) (rs : List RepD) (s frm till : Int) (k : Nat) : List SaidD :=
  match rs[k]? with
  | none => []
  | some r =>
    if countsN (newsTo bk lastTick (rs.take k)) r = true ∧ textD bk (newsTo bk lastTick (rs.take k)) r s ≠ ⟨#[]⟩ ∧ frm ≤ r.tick ∧ r.tick ≤ till then [⟨r.tick, textD bk (newsTo bk lastTick (rs.take k)) r s⟩] else []
def saidTo (bk : BookD) (rs : List RepD) (s frm till : Int) : Nat → List SaidD
  | 0 => []
  | k + 1 => saidTo bk rs s frm till k ++ saidAt bk rs s frm till k
theorem saidAt_at (bk : BookD) (rs : List RepD) (s frm till : Int) (k : Nat) (h : k < rs.length) : saidAt bk rs s frm till k = if countsN (newsTo bk lastTick (rs.take k)) rs[k] = true ∧ textD bk (newsTo bk lastTick (rs.take k)) rs[k] s ≠ ⟨#[]⟩ ∧ frm ≤ rs[k].tick ∧ rs[k].tick ≤ till then [⟨rs[k].tick, textD bk (newsTo bk lastTick (rs.take k)) rs[k] s⟩] else [] := by
  unfold saidAt; rw [List.getElem?_eq_getElem h]
theorem saidAt_length (bk : BookD) (rs : List RepD) (s frm till : Int) (k : Nat) : (saidAt bk rs s frm till k).length ≤ 1 := by
  unfold saidAt
  repeat' split
  all_goals simp
theorem saidTo_length (bk : BookD) (rs : List RepD) (s frm till : Int) (k : Nat) : (saidTo bk rs s frm till k).length ≤ k := by
  induction k with
  | zero => simp [saidTo]
  | succ k ih =>
    unfold saidTo
    rw [List.length_append]
    have := saidAt_length bk rs s frm till k
    omega
/-- Say's answer. -/
def sayD (bk : BookD) (rs : List RepD) (s frm till : Int) : List SaidD :=
  if reportsB bk rs = true ∧ (0 ≤ s ∧ s < bk.sts.length) then saidTo bk rs s frm till rs.length else []
theorem sayD_no {bk : BookD} {rs : List RepD} {s frm till : Int} (h : ¬ (reportsB bk rs = true ∧ (0 ≤ s ∧ s < bk.sts.length))) : sayD bk rs s frm till = [] := by unfold sayD; rw [if_neg h]
theorem sayD_yes {bk : BookD} {rs : List RepD} {s frm till : Int} (h : reportsB bk rs = true ∧ (0 ≤ s ∧ s < bk.sts.length)) : sayD bk rs s frm till = saidTo bk rs s frm till rs.length := by unfold sayD; rw [if_pos h]
theorem sayD_length (bk : BookD) (rs : List RepD) (s frm till : Int) : (sayD bk rs s frm till).length ≤ rs.length := by
  unfold sayD
  split
  · exact saidTo_length _ _ _ _ _ _
  · simp

end Go.Proofs.YtjioingdpfgadaaDoor
