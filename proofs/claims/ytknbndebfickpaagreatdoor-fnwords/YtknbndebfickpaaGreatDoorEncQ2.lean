/- The program's EncodeQuoted: of at most 400 bytes it answers their quoted text, of more the code 2. -/
import Derived.Test.YtknbndebfickpaaGreatDoorEncQ
import Derived.Deep.RegionHeld3
import Derived.WalkLawsBesides
namespace Go.Proofs.YtknbndebfickpaaGreatDoor
open Go.RowKit

end Go.Proofs.YtknbndebfickpaaGreatDoor
