import Derived.Test.YtgnipbdefgdppabGreatDoorProg
import Derived.Test.YtgnipbdefgdppabGreatDoorBaseR
import Derived.Deep.OwnRows
import Derived.BigRegion
import Derived.Deep.RegionWith
import Derived.BigQuiet
namespace Go.Proofs.YtgnipbdefgdppabGreatDoor
open Go Go.RowKit Go.Deep

end Go.Proofs.YtgnipbdefgdppabGreatDoor
