/- MatLaws: products of matrices are associative, turned about they change places, the inverse of the inverse is the matrix: the call returns true. -/
import Derived.Test.YtcnjcfoaoaldeaaGreatDoorLawMatLawsA
import Derived.Test.YtcnjcfoaoaldeaaGreatDoorMn
import Derived.Test.YtcnjcfoaoaldeaaGreatDoorVr
import Derived.Test.YtcnjcfoaoaldeaaGreatDoorTie
import Derived.ProofKit
import Derived.OpenShut
import Derived.ChangeMaps5
import Derived.LaidMore
import Derived.Lay
import Derived.SevenTiedAt
import Derived.Stop.Joined
import Derived.Test.YtcnjcfoaoaldeaaGreatDoorCards
set_option linter.unusedVariables false
set_option maxHeartbeats 16000000
set_option maxRecDepth 100000
namespace Go.Proofs.YtcnjcfoaoaldeaaGreatDoor.lawMatLaws
open Go.ChangeShapes Go.WideShapes Go.ChangeAt Go.RowKit Go.ChangeMaps
theorem closed:joinedFacts Tryz.pinned.checked.prog 9 Tryz.f9 Rows.matLawsSpec Rows.matLawsRow = true:=by
 unfold joinedFacts
 simp only [Bool.and_eq_true]
 and_intros
 all_goals (as_aux_lemma=>kernel_rfl)
theorem over:Rows.matLawsRow.holds Tryz.pinned (OpenSpec.ofChange Rows.matLawsSpec):=
 OpenClaim.holds_of_wide 9 Tryz.f9 rfl rfl rfl rfl rfl rfl rfl ⟨rfl,rfl,rfl,rfl,rfl⟩ rfl rfl rfl rfl rfl (by as_aux_lemma=>kernel_rfl) Tryz.func9 closed
  (of_decide_eq_true (by as_aux_lemma=>kernel_rfl)) (by as_aux_lemma=>unfold Func.isWrapper; first | (rw [if_pos (by decide +kernel)]; kernel_rfl) | (rw [if_neg (by decide +kernel)]; exact ⟨rfl,rfl⟩))
  (fun os started H enc _=>lifted os started H enc)
end Go.Proofs.YtcnjcfoaoaldeaaGreatDoor.lawMatLaws
