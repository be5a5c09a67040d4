/- The laws' helpers over slices of fields: they copy one, reckon its size, and hold two against each other. -/
import Derived.Test.YtknbndebfickpaaDoorAppF
import Derived.Test.YtknbndebfickpaaDoorOpnF
import Derived.Deep.RegionHeld3
namespace Go.Proofs.YtknbndebfickpaaDoor
open Go.RowKit

end Go.Proofs.YtknbndebfickpaaDoor
