/- strconv's table of powers of ten lies as the program lays it, in the worlds that the rows of this seat speak of. -/
import Derived.Test.YtcnjcfoaoaldeaaGreatDoorBase
import Derived.Test.YtcnjcfoaoaldeaaGreatDoorTw
set_option linter.unusedVariables false
namespace Go.Proofs.YtcnjcfoaoaldeaaGreatDoor
open Go Go.RowKit
theorem tab_is {W : World} (h : laidMetH Tryz.prog Rows.vecAllRow.laid W) : Lib.TabIs Tryz.prog W "internal/strconv.uint64pow10" .u64 Lib.pow10Tab := by
 rw [MakeChecks.laidMetH_plain _ _ _ (by kernel_rfl)] at h
 have h3:=(h.tail).tail
 exact Lib.tabIs_of_head (show Tryz.prog.globalNamed "internal/strconv.uint64pow10" = some 1 by kernel_rfl) (show (Tryz.prog.globals[1]?).map (·.type) = some 262 by kernel_rfl)
  Tryz.underlying262 Tryz.underlying73 (by kernel_rfl) (by kernel_rfl) h3
theorem tab_ok {W:World} (h:laidMetH Tryz.prog Rows.vecAllRow.laid W):Wd.TabOk W:=Wd.TabOk.of (tab_is h)
end Go.Proofs.YtcnjcfoaoaldeaaGreatDoor
