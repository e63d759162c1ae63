/- Scale and MulDiv of package num: what each call comes to. -/
import Derived.Test.YtblaakjldpcjlaaDoorB3
import Derived.Test.YtblaakjldpcjlaaDoorB9
namespace Go.Proofs.YtblaakjldpcjlaaDoor
open Go.RowKit
set_option linter.unusedVariables false
set_option linter.unusedSimpArgs false

end Go.Proofs.YtblaakjldpcjlaaDoor
