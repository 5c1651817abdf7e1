/- Compare of the reference. -/
import Derived.Test.YtbhgchhoeokjhaaDoorCM
namespace Go.Proofs.YtbhgchhoeokjhaaDoor
open Go.RowKit M
set_option linter.unusedSimpArgs false
set_option linter.unusedVariables false

end Go.Proofs.YtbhgchhoeokjhaaDoor
