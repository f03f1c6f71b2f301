/- Matrices of fractions: what rows span, rank, what an elimination leaves, solutions. -/
import Derived.Test.YtcnjcfoaoaldeaaGreatDoorVm
set_option linter.unusedVariables false
namespace Go.Proofs.Mm
open Vm (sum sum_congr sum_zero sum_add sum_one)
/-- A matrix: by row and column. -/
abbrev F := Nat → Nat → Rat
/-- A row by a column. -/
def dotF (v x : Nat → Rat) (n : Nat) : Rat := sum (fun k => v k * x k) n
end Go.Proofs.Mm
