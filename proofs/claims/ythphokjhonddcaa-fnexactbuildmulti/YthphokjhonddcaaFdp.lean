/- FieldsFault, the program's, at every slice of fields: by the same plain function as the model's. -/
import Derived.Test.YthphokjhonddcaaHdr
import Derived.Handy
namespace Go.Proofs.Ythphokjhonddcaa
open Go.RowKit

end Go.Proofs.Ythphokjhonddcaa
