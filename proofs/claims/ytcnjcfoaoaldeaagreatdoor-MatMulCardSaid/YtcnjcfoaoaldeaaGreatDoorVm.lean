/- Vectors as lists of columns and fractions: what stands where, sums, products. -/
import Derived.Test.YtcnjcfoaoaldeaaGreatDoorFq
set_option linter.unusedVariables false
namespace Go.Proofs.Vm
/-- The sum of a function's values ahead of n. -/
def sum (f : Nat → Rat) : Nat → Rat
 | 0 => 0
 | n + 1 => sum f n + f n
end Go.Proofs.Vm
