/- The laws' helpers over slices of fields: they copy one, reckon its size, and hold two against each other. -/
import Derived.Test.YtpgjichcpnjeoaaDoorAppF
import Derived.Test.YtpgjichcpnjeoaaDoorOpnF
import Derived.Deep.RegionHeld3
namespace Go.Proofs.YtpgjichcpnjeoaaDoor
open Go.RowKit

end Go.Proofs.YtpgjichcpnjeoaaDoor
