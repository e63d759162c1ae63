/- What the run of accounts' closed example asks of the functions: which only look. -/
import Derived.Test.YthfnaegfjacjbabEVC
namespace Go.Proofs.Ythfnaegfjacjbab
open Go.RowKit

def aaX (_ : Nat) : Bool := false
theorem aaX_ok : Ev.ExtOk Try.prog aaX := Ev.ExtOk.none _
def aaQ : List Nat := [17, 18, 19, 20, 21, 36, 37, 38, 39, 40, 41, 43, 44, 45, 46, 47, 49, 55, 56, 59, 67, 76, 80, 81, 82, 83, 85, 88, 99, 100, 105, 111, 112, 114, 115, 122, 123, 124, 131, 134, 135, 136, 138, 142]
theorem aaQ_ok : aaQ.all (Ev.quietFn Try.prog (Ev.listQ aaQ)) = true := by kernel_rfl
end Go.Proofs.Ythfnaegfjacjbab
