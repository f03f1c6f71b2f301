/-
  DERIVED. GIVEN WITH THE SEED: THE CARDS: each row of YtoiihhkafcglhaaGreatDoorRows.lean that lists a variable, with what it lists TIED to the program's text (the seventh form; the later family's looks); each row that meets fmt, with fmt's text TOLD by the authors' own Lean function (tested against real Go, not proved from fmt's source: count such statements apart). THE CARD IS WHAT COUNTS. Prove the row's statement (the work); the ties are given (YtoiihhkafcglhaaGreatDoorTie.lean); close each card by the builder's one call (the guide's Derived/Test/ToyasCard.lean, 'card_holds'). Laid BY PROGRAM, IN A SANDBOX (cutbox-door.mjs). By AI agents, Wed Nov 11 2026. No macro, syntax, notation, axiom, sorry.
-/
import Derived.Test.YtoiihhkafcglhaaGreatDoorRows
import GoSem.ClaimSeven
namespace Go.Proofs.YtoiihhkafcglhaaGreatDoor
namespace Rows

/-- THE TIED CARD OF 'victuallerlaw1.LitForms'. -/
def litFormsCard : Claim7 := { stood := { row := litFormsRow, standIns := [], harness := (true, "99f8268e30fc40fc5a064a2df243310771c0a9e8596edfb39f229486a3515ef1"), looks := true }, kinds := [], alts := [], laidByText := true, laidKinds := [.data, .data, .data, .data, .sentinel, .sentinel, .pinned], laidTests := true, laidLooks := .later }
def LitFormsCardSaid : Prop := Claim7.holds Tryz.pinned (.plain (OpenSpec.ofChange litFormsSpec)) litFormsCard

/-- THE TIED CARD OF 'victuallerlaw1.FracOwn'. -/
def fracOwnCard : Claim7 := { stood := { row := fracOwnRow, standIns := [], harness := (true, "99f8268e30fc40fc5a064a2df243310771c0a9e8596edfb39f229486a3515ef1"), looks := true }, kinds := [], alts := [], laidByText := true, laidKinds := [.data, .data, .data, .data, .sentinel, .sentinel, .pinned], laidTests := true, laidLooks := .later }
def FracOwnCardSaid : Prop := Claim7.holds Tryz.pinned (.plain (OpenSpec.ofChange fracOwnSpec)) fracOwnCard

/-- THE TIED CARD OF 'victuallerlaw1.LitTurn'. -/
def litTurnCard : Claim7 := { stood := { row := litTurnRow, standIns := [], harness := (true, "99f8268e30fc40fc5a064a2df243310771c0a9e8596edfb39f229486a3515ef1"), looks := true }, kinds := [], alts := [], laidByText := true, laidKinds := [.data, .data, .data, .data, .sentinel, .sentinel, .pinned], laidTests := true, laidLooks := .later }
def LitTurnCardSaid : Prop := Claim7.holds Tryz.pinned (.plain (OpenSpec.ofChange litTurnSpec)) litTurnCard

/-- THE SECOND FORM's CARD OF 'victuallerlaw1.LitForms'. -/
def litFormsUptoCard : Claim7 := { stood := { row := litFormsUptoRow, standIns := [], harness := (true, "99f8268e30fc40fc5a064a2df243310771c0a9e8596edfb39f229486a3515ef1"), looks := true }, kinds := [], alts := [], laidByText := true, laidKinds := [.data, .data, .data, .data, .sentinel, .sentinel, .pinned], laidTests := true, laidLooks := .later }
def LitFormsUptoCardSaid : Prop := Claim7.holds Tryz.pinned (.plain (OpenSpec.upto litFormsSpec)) litFormsUptoCard

/-- THE SECOND FORM's CARD OF 'victuallerlaw1.FracOwn'. -/
def fracOwnUptoCard : Claim7 := { stood := { row := fracOwnUptoRow, standIns := [], harness := (true, "99f8268e30fc40fc5a064a2df243310771c0a9e8596edfb39f229486a3515ef1"), looks := true }, kinds := [], alts := [], laidByText := true, laidKinds := [.data, .data, .data, .data, .sentinel, .sentinel, .pinned], laidTests := true, laidLooks := .later }
def FracOwnUptoCardSaid : Prop := Claim7.holds Tryz.pinned (.plain (OpenSpec.upto fracOwnSpec)) fracOwnUptoCard

/-- THE SECOND FORM's CARD OF 'victuallerlaw1.LitTurn'. -/
def litTurnUptoCard : Claim7 := { stood := { row := litTurnUptoRow, standIns := [], harness := (true, "99f8268e30fc40fc5a064a2df243310771c0a9e8596edfb39f229486a3515ef1"), looks := true }, kinds := [], alts := [], laidByText := true, laidKinds := [.data, .data, .data, .data, .sentinel, .sentinel, .pinned], laidTests := true, laidLooks := .later }
def LitTurnUptoCardSaid : Prop := Claim7.holds Tryz.pinned (.plain (OpenSpec.upto litTurnSpec)) litTurnUptoCard
end Rows
end Go.Proofs.YtoiihhkafcglhaaGreatDoor
