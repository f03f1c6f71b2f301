/- What Add of the package vec returns. -/
import Derived.Test.YtcnjcfoaoaldeaaGreatDoorVo
import Derived.Laws.MakeOwn
set_option linter.unusedVariables false
namespace Go.Proofs.Vt
open Go.RowKit Go.Proofs.Wd Go.Proofs.Fr
end Go.Proofs.Vt
