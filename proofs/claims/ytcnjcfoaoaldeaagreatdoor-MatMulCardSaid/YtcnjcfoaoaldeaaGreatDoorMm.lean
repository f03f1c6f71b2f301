/- Matrices of fractions: what rows span, rank, what an elimination leaves, solutions. -/
import Derived.Test.YtcnjcfoaoaldeaaGreatDoorVm
set_option linter.unusedVariables false
namespace Go.Proofs.Mm
open Vm (sum)
/-- A matrix: by row and column. -/
abbrev F := Nat → Nat → Rat
/-- The products of two matrices; what is 1 on the way down. -/
def mulF (A B : F) (n : Nat) : F := fun i k => sum (fun j => A i j * B j k) n
end Go.Proofs.Mm
