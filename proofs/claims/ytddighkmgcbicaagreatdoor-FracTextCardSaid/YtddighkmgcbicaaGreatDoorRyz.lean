/- What Get of the reference's fractions returns. -/
import Derived.Test.YtddighkmgcbicaaGreatDoorRye
import Derived.Test.YtddighkmgcbicaaGreatDoorRyp
import Derived.Test.YtddighkmgcbicaaGreatDoorRym
namespace Go.Proofs
open Go.RowKit
theorem Tryz.rGet (s : ByteArray) (w : World) (hmax : s.size ≤ 30000) :
    Calls Tryz.prog 18 #[.string s] w fun e w' => RGet s w' e ∧ Below w.heap.size w w' := by
  by_cases h0 : s.size = 0
  · exact Tryz.rGetE s w hmax h0
  · cases hm : Fr.minus s
    · exact Tryz.rGetP s w hmax (by omega) hm
    · exact Tryz.rGetM s w hmax (by omega) hm
end Go.Proofs
