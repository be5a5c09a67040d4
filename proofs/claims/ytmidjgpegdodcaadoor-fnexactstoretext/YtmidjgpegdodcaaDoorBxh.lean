/- The fault of a mailbox: the model; no conditions beyond those that each fact names. -/
import Derived.Test.YtmidjgpegdodcaaDoorBxg
namespace Go.Proofs.YtmidjgpegdodcaaDoor
open Go.RowKit

end Go.Proofs.YtmidjgpegdodcaaDoor
