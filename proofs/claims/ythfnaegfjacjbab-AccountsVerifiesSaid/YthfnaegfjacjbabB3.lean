/- Round, Neg, lowest, Make and the four operations of package num: what each call comes to. -/
import Derived.Test.YthfnaegfjacjbabB2
import Derived.Deep.RegionWith
import Derived.Deep.RegionHeld3
namespace Go.Proofs.Ythfnaegfjacjbab
open Go.RowKit
set_option linter.unusedVariables false
set_option linter.unusedSimpArgs false

/-- lowest: what it comes to. -/
def lowV (neg : Bool) (n d : Int) : Int := if n / Int.gcd n d ≤ 1099511627776 ∧ d / Int.gcd n d ≤ 1048576 then (bif neg then -(n / Int.gcd n d) else n / Int.gcd n d) else 0
def lowD (n d : Int) : Int := if n / Int.gcd n d ≤ 1099511627776 ∧ d / Int.gcd n d ≤ 1048576 then d / Int.gcd n d else 0
def lowE (n d : Int) : Int := if n / Int.gcd n d ≤ 1099511627776 ∧ d / Int.gcd n d ≤ 1048576 then 0 else 4

end Go.Proofs.Ythfnaegfjacjbab
