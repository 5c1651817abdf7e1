/- Compare of the reference. -/
import Derived.Test.YtbhgchhoeokjhabDoorCM
namespace Go.Proofs.YtbhgchhoeokjhabDoor
open Go.RowKit M
set_option linter.unusedSimpArgs false
set_option linter.unusedVariables false

end Go.Proofs.YtbhgchhoeokjhabDoor
