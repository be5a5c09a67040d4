/- What the program knows of the type of a byte: a closed fact. -/
import Derived.Test.YtmidjgpegdodcaaDoorMem
import Derived.Test.YtmidjgpegdodcaaDoorProg
import Derived.BigQuiet
import Derived.Deep.QuietTactic
import Derived.KernelRfl
namespace Go.Proofs.YtmidjgpegdodcaaDoor
open Go.RowKit

theorem infoB : (Tryd.prog.info? 5).map (fun i => (i.zero, i.size, i.bytes)) = some (some (.int .u8 0), 1, 1) := by kernel_rfl
end Go.Proofs.YtmidjgpegdodcaaDoor
