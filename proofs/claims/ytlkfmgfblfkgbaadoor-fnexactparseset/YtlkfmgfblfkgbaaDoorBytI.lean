/- Each helper of the laws over slices of whole numbers does what its text says: it copies one, and holds two against each other; slices of at most 1048576 numbers. -/
import Derived.Test.YtlkfmgfblfkgbaaDoorMemI
import Derived.Test.YtlkfmgfblfkgbaaDoorChecked
import Derived.BigQuiet
import Derived.Deep.QuietTactic
import Derived.KernelRfl
namespace Go.Proofs.YtlkfmgfblfkgbaaDoor
open Go.RowKit

theorem infoBI : (Tryd.prog.info? 2).map (fun i => (i.zero, i.size, i.bytes)) = some (some (.int .i64 0), 1, 8) := by kernel_rfl

end Go.Proofs.YtlkfmgfblfkgbaaDoor
