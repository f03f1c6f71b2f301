/- FracText: any text is a fraction, its own, or none; of whole numbers: the call returns true. -/
import Derived.Test.YtddighkmgcbicaaGreatDoorLawFracTextB
import Derived.Test.YtddighkmgcbicaaGreatDoorFe
import Derived.Test.YtddighkmgcbicaaGreatDoorTie
import Derived.ProofKit
import Derived.OpenShut
import Derived.ChangeMaps5
import Derived.LaidMore
import Derived.Lay
import Derived.SevenTiedAt
import Derived.Stop.Joined
import Derived.Test.YtddighkmgcbicaaGreatDoorCards
namespace Go.Proofs.YtddighkmgcbicaaGreatDoor.lawFracText
open Go.ChangeShapes Go.WideShapes Go.ChangeAt Go.RowKit Go.ChangeMaps
set_option linter.unusedVariables false

theorem holds : Rows.FracTextSaid := over
set_option maxHeartbeats 16000000 in
set_option maxRecDepth 100000 in
/-- The card: the row, its listed variables tied to the program's text by the given tie. -/
theorem proved : Rows.FracTextCardSaid :=
  Claim7.holds_tied_plain_at .later [] [.data, .data, .data, .data, .sentinel, .sentinel, .pinned] true (true, "94e1f882e38b9d44844427176992da2be9846896fb42bde13a25998404240dc1") true holds (fun _ h => by cases h) (by as_aux_lemma => kernel_rfl) (fun _ h => by cases h) fracText_row_tie rfl ⟨rfl, rfl⟩ (by as_aux_lemma => kernel_rfl) rfl
    (fun f fn hf hfn => by
      obtain rfl : f = 3 := Option.some.inj ((show Tryz.prog.funcNamed "victualler/victuallerlaw1.FracText" = some 3 by as_aux_lemma => kernel_rfl).symm.trans hf) |>.symm
      obtain rfl : fn = Tryz.f3 := (Option.some.inj (Tryz.func3.symm.trans hfn)).symm
      exact ⟨by as_aux_lemma => kernel_rfl, fun j t ht => by
        rw [Tryz.params3] at ht
        have hm : t ∈ [9, 2] := by simpa using Array.mem_of_getElem? ht
        have hall : ([9, 2].all fun u => !Tryz.prog.wantsStandIn u) = true := by as_aux_lemma => kernel_rfl
        exact (show Tryz.prog.wantsStandIn t = false by simpa using List.all_eq_true.1 hall t hm)⟩)
    (by as_aux_lemma => kernel_rfl)
#print axioms proved
end Go.Proofs.YtddighkmgcbicaaGreatDoor.lawFracText
