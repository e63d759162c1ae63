/- Div and Cmp of package num, and what is refused. -/
import Derived.Test.YtacliakmhkebbaaDoorB6
namespace Go.Proofs.YtacliakmhkebbaaDoor
open Go.RowKit
set_option linter.unusedVariables false
set_option linter.unusedSimpArgs false

end Go.Proofs.YtacliakmhkebbaaDoor
