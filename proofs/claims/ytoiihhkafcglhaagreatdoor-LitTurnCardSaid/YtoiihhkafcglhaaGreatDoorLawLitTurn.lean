/- LitTurn: a literal of which a byte is another one: the call returns true. -/
import Derived.Test.YtoiihhkafcglhaaGreatDoorLawLitTurnB
import Derived.Test.YtoiihhkafcglhaaGreatDoorLu
import Derived.Test.YtoiihhkafcglhaaGreatDoorTie
import Derived.ProofKit
import Derived.OpenShut
import Derived.ChangeMaps5
import Derived.LaidMore
import Derived.Lay
import Derived.SevenTiedAt
import Derived.Stop.Joined
import Derived.Test.YtoiihhkafcglhaaGreatDoorCards
namespace Go.Proofs.YtoiihhkafcglhaaGreatDoor.lawLitTurn
open Go.ChangeShapes Go.WideShapes Go.ChangeAt Go.RowKit Go.ChangeMaps
set_option linter.unusedVariables false

theorem holds : Rows.LitTurnSaid := over
set_option maxHeartbeats 16000000 in
set_option maxRecDepth 100000 in
/-- The card: the row, its listed variables tied to the program's text by the given tie. -/
theorem proved : Rows.LitTurnCardSaid :=
  Claim7.holds_tied_plain_at .later [] [.data, .data, .data, .data, .sentinel, .sentinel, .pinned] true (true, "99f8268e30fc40fc5a064a2df243310771c0a9e8596edfb39f229486a3515ef1") true holds (fun _ h => by cases h) (by as_aux_lemma => kernel_rfl) (fun _ h => by cases h) litTurn_row_tie rfl ⟨rfl, rfl⟩ (by as_aux_lemma => kernel_rfl) rfl
    (fun f fn hf hfn => by
      obtain rfl : f = 5 := Option.some.inj ((show Tryz.prog.funcNamed "victualler/victuallerlaw1.LitTurn" = some 5 by as_aux_lemma => kernel_rfl).symm.trans hf) |>.symm
      obtain rfl : fn = Tryz.f5 := (Option.some.inj (Tryz.func5.symm.trans hfn)).symm
      exact ⟨by as_aux_lemma => kernel_rfl, fun j t ht => by
        rw [Tryz.params5] at ht
        have hm : t ∈ [9, 3, 3, 5] := by simpa using Array.mem_of_getElem? ht
        have hall : ([9, 3, 3, 5].all fun u => !Tryz.prog.wantsStandIn u) = true := by as_aux_lemma => kernel_rfl
        exact (show Tryz.prog.wantsStandIn t = false by simpa using List.all_eq_true.1 hall t hm)⟩)
    (by as_aux_lemma => kernel_rfl)
#print axioms proved
end Go.Proofs.YtoiihhkafcglhaaGreatDoor.lawLitTurn
