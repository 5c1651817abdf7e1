/- Valid: the reference's side. -/
import Derived.Test.YtdjlfpkemdiadaaDoorQQ
namespace Go.Proofs.YtdjlfpkemdiadaaDoor
open Go.RowKit M
set_option linter.unusedSimpArgs false
set_option linter.unusedVariables false

end Go.Proofs.YtdjlfpkemdiadaaDoor
