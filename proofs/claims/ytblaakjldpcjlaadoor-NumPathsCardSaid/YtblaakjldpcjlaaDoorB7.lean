/- Div and Cmp of package num, and what is refused. -/
import Derived.Test.YtblaakjldpcjlaaDoorB6
namespace Go.Proofs.YtblaakjldpcjlaaDoor
open Go.RowKit
set_option linter.unusedVariables false
set_option linter.unusedSimpArgs false

end Go.Proofs.YtblaakjldpcjlaaDoor
