import Derived.Test.YtjioingdpfgadabGreatDoorBase
import Derived.BigQuiet
namespace Go.Proofs.YtjioingdpfgadabGreatDoor
open Go Go.RowKit

/-- A world that came of W: below block B it is as W was. -/
structure Later (B : Nat) (W : World) where
  w : World
  below : Below B W w

/-- A region that draws its order, whose operations read what lies below B alone and whose callees turn nothing there: one walk, in the order of the text. -/
theorem wp_region_later {P : Program} {id : Nat} {Q : Exit → Act → World → Prop} {a : Act} {w W : World} {B : Nat} {l : List Oper} (hm : P.follows .mixedOrders = true) (hB : Region.lexB .any l.toArray = true) (hW : Below B W w)
    (h : wpQuiet P l.toArray (fun w' => ∃ x : Later B W, w' = x.w) (fun a' => ∀ w', (∃ x : Later B W, w' = x.w) → Q .normal a' w') l a) : (Code.region id l.toArray true).wp P Q a w :=
  wp_region_quiet (C := fun w' => ∃ x : Later B W, w' = x.w) hm hB ⟨⟨_, hW.drew⟩, rfl⟩ (by simpa using h)
theorem later_ne (B : Nat) (W : World) : Nonempty (Later B W) := ⟨⟨W, Below.refl _ _⟩⟩
/-- A cell below B, in every later world. -/
theorem later_cell {B : Nat} {W : World} {b o : Nat} {v : Value} (h : W.cell? ⟨b, o, none⟩ = some v) (hb : b < B) : ∀ x : Later B W, x.w.cell? ⟨b, o, none⟩ = some v :=
  fun x => by rw [x.below.cell (p := ⟨b, o, none⟩) hb]; exact h
/-- A callee's contract at a later world. -/
theorem later_call {P : Program} {f : FuncId} {args : Array Value} {B : Nat} {W : World} {x : Later B W} {v : Value} (hs : B ≤ W.heap.size)
    (h : Calls P f args x.w fun e w' => e = .returned v ∧ Below x.w.heap.size x.w w') : Calls P f args x.w fun e w'' => e = .returned v ∧ ∃ y : Later B W, w'' = y.w :=
  h.mono fun _ w' ⟨he, hb⟩ => ⟨he, ⟨w', x.below.trans (hb.mono (Nat.le_trans hs x.below.size))⟩, rfl⟩
theorem later_call_same {P : Program} {f : FuncId} {args : Array Value} {B : Nat} {W : World} {x : Later B W} {v : Value}
    (h : Calls P f args x.w fun e w' => e = .returned v ∧ w' = x.w) : Calls P f args x.w fun e w'' => e = .returned v ∧ ∃ y : Later B W, w'' = y.w :=
  h.mono fun _ _ ⟨he, hw⟩ => ⟨he, x, hw⟩

end Go.Proofs.YtjioingdpfgadabGreatDoor
