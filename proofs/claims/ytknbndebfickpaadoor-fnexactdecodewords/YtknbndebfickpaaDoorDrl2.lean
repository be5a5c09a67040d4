/- The draws of chapters 2 and 3: each ends with some numbers, in memory of the draw's own; nothing that was there is turned; sources of at most 1048576 bytes. -/
import Derived.Test.YtknbndebfickpaaDoorDrl
namespace Go.Proofs.YtknbndebfickpaaDoor
open Go.RowKit

end Go.Proofs.YtknbndebfickpaaDoor
