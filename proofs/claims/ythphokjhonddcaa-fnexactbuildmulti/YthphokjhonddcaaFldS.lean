/- The laws' helpers over slices of fields: they copy one, reckon its size, and hold two against each other. -/
import Derived.Test.YthphokjhonddcaaAppF
import Derived.Test.YthphokjhonddcaaOpnF
import Derived.Deep.RegionHeld3
namespace Go.Proofs.Ythphokjhonddcaa
open Go.RowKit

end Go.Proofs.Ythphokjhonddcaa
