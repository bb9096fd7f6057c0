import Derived.Test.YtjioingdpfgadaaDoorRows
import Derived.Test.YtjioingdpfgadaaDoorLaid
import Derived.Test.YtjioingdpfgadaaDoorOpen
import Derived.ChangeSame
import Derived.ChangeVars
import Derived.JoinedOf
import Derived.SevenTiedAt
namespace Go.Proofs.YtjioingdpfgadaaDoor
open Go Go.RowKit Go.Deep Go.ChangeShapes Go.WideShapes Go.ChangeAt

theorem ownKnob_none : ownKnob Tryd.prog.godebug = none := by kernel_rfl
theorem laidOut_ok : laidOutB Tryd.prog = true := by kernel_rfl

def errNames : List String := ["loop.example/tannoy/impl.errTooMany", "loop.example/tannoy/impl.errNoName", "loop.example/tannoy/impl.errNameTwice", "loop.example/tannoy/impl.errCallCount", "loop.example/tannoy/impl.errStationTwice", "loop.example/tannoy/impl.errNoStation", "loop.example/tannoy/impl.errTime", "loop.example/tannoy/impl.errTrack"]
def errPlaces : List MemPlace := [.cell 1 0, .cell 2 0, .cell 3 0, .cell 4 0, .cell 5 0, .cell 6 0, .cell 7 0, .cell 8 0]

theorem vars_read8 {H : Type} (enc : TypeId × Value → H) {W : World} {x1 x2 x3 x4 x5 x6 x7 x8 : Value}
    (h1 : W.var? Tryd.prog "loop.example/tannoy/impl.errTooMany" = some #[x1]) (h2 : W.var? Tryd.prog "loop.example/tannoy/impl.errNoName" = some #[x2]) (h3 : W.var? Tryd.prog "loop.example/tannoy/impl.errNameTwice" = some #[x3]) (h4 : W.var? Tryd.prog "loop.example/tannoy/impl.errCallCount" = some #[x4])
    (h5 : W.var? Tryd.prog "loop.example/tannoy/impl.errStationTwice" = some #[x5]) (h6 : W.var? Tryd.prog "loop.example/tannoy/impl.errNoStation" = some #[x6]) (h7 : W.var? Tryd.prog "loop.example/tannoy/impl.errTime" = some #[x7]) (h8 : W.var? Tryd.prog "loop.example/tannoy/impl.errTrack" = some #[x8])
    (i1 : IsIface x1) (i2 : IsIface x2) (i3 : IsIface x3) (i4 : IsIface x4) (i5 : IsIface x5) (i6 : IsIface x6) (i7 : IsIface x7) (i8 : IsIface x8) (sp : Nat → Bool) :
    DataW.TrodVars enc Tryd.prog W sp errNames [tok enc x1, tok enc x2, tok enc x3, tok enc x4, tok enc x5, tok enc x6, tok enc x7, tok enc x8] errPlaces :=
  ⟨1, 124, #[x1], 1, [], _, gTooMany, tTooMany, h1, trod_held Tryd.underlying124 i1 0,
  ⟨2, 124, #[x2], 1, [], _, gNoName, tNoName, h2, trod_held Tryd.underlying124 i2 0,
  ⟨3, 124, #[x3], 1, [], _, gNameTwice, tNameTwice, h3, trod_held Tryd.underlying124 i3 0,
  ⟨4, 124, #[x4], 1, [], _, gCallCount, tCallCount, h4, trod_held Tryd.underlying124 i4 0,
  ⟨5, 124, #[x5], 1, [], _, gStationTwice, tStationTwice, h5, trod_held Tryd.underlying124 i5 0,
  ⟨6, 124, #[x6], 1, [], _, gNoStation, tNoStation, h6, trod_held Tryd.underlying124 i6 0,
  ⟨7, 124, #[x7], 1, [], _, gTime, tTime, h7, trod_held Tryd.underlying124 i7 0,
  ⟨8, 124, #[x8], 1, [], [], gTrack, tTrack, h8, trod_held Tryd.underlying124 i8 0, rfl, rfl⟩, rfl⟩, rfl⟩, rfl⟩, rfl⟩, rfl⟩, rfl⟩, rfl⟩

end Go.Proofs.YtjioingdpfgadaaDoor
