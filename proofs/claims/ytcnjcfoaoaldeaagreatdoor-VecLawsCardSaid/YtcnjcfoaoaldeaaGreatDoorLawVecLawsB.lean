/- VecLaws: products of vectors go with sums; a vector less itself is nothing: the call returns true. -/
import Derived.Test.YtcnjcfoaoaldeaaGreatDoorLawVecLawsA
import Derived.Test.YtcnjcfoaoaldeaaGreatDoorVg
import Derived.Test.YtcnjcfoaoaldeaaGreatDoorVr
import Derived.Test.YtcnjcfoaoaldeaaGreatDoorTie
import Derived.ProofKit
import Derived.OpenShut
import Derived.ChangeMaps5
import Derived.LaidMore
import Derived.Lay
import Derived.SevenTiedAt
import Derived.Stop.Joined
import Derived.Test.YtcnjcfoaoaldeaaGreatDoorCards
namespace Go.Proofs.YtcnjcfoaoaldeaaGreatDoor.lawVecLaws
open Go.ChangeShapes Go.WideShapes Go.ChangeAt Go.RowKit Go.ChangeMaps
set_option linter.unusedVariables false

set_option maxHeartbeats 16000000 in
set_option maxRecDepth 100000 in
theorem closed : joinedFacts Tryz.pinned.checked.prog 7 Tryz.f7 Rows.vecLawsSpec Rows.vecLawsRow = true := by
  unfold joinedFacts
  simp only [Bool.and_eq_true]
  and_intros
  all_goals (as_aux_lemma => kernel_rfl)
set_option maxHeartbeats 16000000 in
set_option maxRecDepth 100000 in
theorem over : Rows.vecLawsRow.holds Tryz.pinned (OpenSpec.ofChange Rows.vecLawsSpec) :=
  OpenClaim.holds_of_wide 7 Tryz.f7 rfl rfl rfl rfl rfl rfl rfl ⟨rfl, rfl, rfl, rfl, rfl⟩ rfl rfl rfl rfl rfl (by as_aux_lemma => kernel_rfl) Tryz.func7 closed
    (of_decide_eq_true (by as_aux_lemma => kernel_rfl)) (by as_aux_lemma => unfold Func.isWrapper; first | (rw [if_pos (by decide +kernel)]; kernel_rfl) | (rw [if_neg (by decide +kernel)]; exact ⟨rfl, rfl⟩))
    (fun os started H enc _ => lifted os started H enc)
end Go.Proofs.YtcnjcfoaoaldeaaGreatDoor.lawVecLaws
