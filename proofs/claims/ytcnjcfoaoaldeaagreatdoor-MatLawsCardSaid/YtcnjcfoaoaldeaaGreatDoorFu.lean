/- What strconv.FormatUint at base 10, a builder's WriteString return, over the shelf's contracts at this program. -/
import Derived.Test.YtcnjcfoaoaldeaaGreatDoorShelf
import Derived.Lib.ItoaMem
import Derived.Lib.AppendIntMem
import Derived.Lib.SmallJoins
import Derived.Lib.Walk
import Derived.WalkKit
import Derived.BigCall
import Derived.BigGuard
import Derived.Below
set_option linter.unusedVariables false
namespace Go.Proofs
open Go.Shelf Go.RowKit Go.Sort Go.Lib
end Go.Proofs
