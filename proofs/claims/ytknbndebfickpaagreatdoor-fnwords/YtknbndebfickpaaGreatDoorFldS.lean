/- The laws' helpers over slices of fields: they copy one, reckon its size, and hold two against each other. -/
import Derived.Test.YtknbndebfickpaaGreatDoorAppF
import Derived.Test.YtknbndebfickpaaGreatDoorOpnF
import Derived.Deep.RegionHeld3
namespace Go.Proofs.YtknbndebfickpaaGreatDoor
open Go.RowKit

end Go.Proofs.YtknbndebfickpaaGreatDoor
