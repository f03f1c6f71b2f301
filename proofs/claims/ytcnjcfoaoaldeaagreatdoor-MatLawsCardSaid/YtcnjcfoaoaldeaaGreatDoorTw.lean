/- What Text of the package nat returns: the numeral of the number. -/
import Derived.Test.YtcnjcfoaoaldeaaGreatDoorTt
import Derived.Test.YtcnjcfoaoaldeaaGreatDoorFu
import Derived.Test.YtcnjcfoaoaldeaaGreatDoorWd6
import Derived.ShutString
set_option linter.unusedVariables false
namespace Go.Proofs.Wd
open Go.RowKit
/-- strconv's table of powers of ten lies as the program lays it, now and behind whatever makes new memory alone. -/
def TabOk (w : World) : Prop := ∀ w', Below w.heap.size w w' → Lib.TabIs Tryz.prog w' "internal/strconv.uint64pow10" .u64 Lib.pow10Tab
theorem TabOk.of {w : World} (h : Lib.TabIs Tryz.prog w "internal/strconv.uint64pow10" .u64 Lib.pow10Tab) : TabOk w := Lib.tabBelow_of_tabIs h
end Go.Proofs.Wd
