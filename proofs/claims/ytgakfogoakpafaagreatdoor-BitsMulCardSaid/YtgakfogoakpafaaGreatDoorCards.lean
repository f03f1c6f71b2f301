/-
  DERIVED. GIVEN WITH THE SEED: THE CARDS: each row of YtgakfogoakpafaaGreatDoorRows.lean that lists a variable, with what it lists TIED to the program's text (the seventh form; the later family's looks); each row that meets fmt, with fmt's text TOLD by the authors' own Lean function (tested against real Go, not proved from fmt's source: count such statements apart). THE CARD IS WHAT COUNTS. Prove the row's statement (the work); the ties are given (YtgakfogoakpafaaGreatDoorTie.lean); close each card by the builder's one call (the guide's Derived/Test/ToyasCard.lean, 'card_holds'). Laid BY PROGRAM, IN A SANDBOX (cutbox-door.mjs). By AI agents, Wed Nov 11 2026. No macro, syntax, notation, axiom, sorry.
-/
import Derived.Test.YtgakfogoakpafaaGreatDoorRows
import GoSem.ClaimSeven
namespace Go.Proofs.YtgakfogoakpafaaGreatDoor
namespace Rows

/-- THE TIED CARD OF 'victuallerlaw1.BitsShift'. -/
def bitsShiftCard : Claim7 := { stood := { row := bitsShiftRow, standIns := [], harness := (true, "5487aafa00b0ad8532485386042fb9eb51a3f1bdcd3444bf5e8c8a95c668b4eb"), looks := true }, kinds := [], alts := [], laidByText := true, laidKinds := [.data, .data, .data, .data, .sentinel, .sentinel, .pinned], laidTests := true, laidLooks := .later }
def BitsShiftCardSaid : Prop := Claim7.holds Tryz.pinned (.plain (OpenSpec.ofChange bitsShiftSpec)) bitsShiftCard

/-- THE TIED CARD OF 'victuallerlaw1.BitsMul'. -/
def bitsMulCard : Claim7 := { stood := { row := bitsMulRow, standIns := [], harness := (true, "5487aafa00b0ad8532485386042fb9eb51a3f1bdcd3444bf5e8c8a95c668b4eb"), looks := true }, kinds := [], alts := [], laidByText := true, laidKinds := [.data, .data, .data, .data, .sentinel, .sentinel, .pinned], laidTests := true, laidLooks := .later }
def BitsMulCardSaid : Prop := Claim7.holds Tryz.pinned (.plain (OpenSpec.ofChange bitsMulSpec)) bitsMulCard

/-- THE TIED CARD OF 'victuallerlaw1.BitsCarry'. -/
def bitsCarryCard : Claim7 := { stood := { row := bitsCarryRow, standIns := [], harness := (true, "5487aafa00b0ad8532485386042fb9eb51a3f1bdcd3444bf5e8c8a95c668b4eb"), looks := true }, kinds := [], alts := [], laidByText := true, laidKinds := [.data, .data, .data, .data, .sentinel, .sentinel, .pinned], laidTests := true, laidLooks := .later }
def BitsCarryCardSaid : Prop := Claim7.holds Tryz.pinned (.plain (OpenSpec.ofChange bitsCarrySpec)) bitsCarryCard

/-- THE TIED CARD OF 'victuallerlaw1.BitsSigned'. -/
def bitsSignedCard : Claim7 := { stood := { row := bitsSignedRow, standIns := [], harness := (true, "5487aafa00b0ad8532485386042fb9eb51a3f1bdcd3444bf5e8c8a95c668b4eb"), looks := true }, kinds := [], alts := [], laidByText := true, laidKinds := [.data, .data, .data, .data, .sentinel, .sentinel, .pinned], laidTests := true, laidLooks := .later }
def BitsSignedCardSaid : Prop := Claim7.holds Tryz.pinned (.plain (OpenSpec.ofChange bitsSignedSpec)) bitsSignedCard

/-- THE TIED CARD OF 'victuallerlaw1.BitsTwo'. -/
def bitsTwoCard : Claim7 := { stood := { row := bitsTwoRow, standIns := [], harness := (true, "5487aafa00b0ad8532485386042fb9eb51a3f1bdcd3444bf5e8c8a95c668b4eb"), looks := true }, kinds := [], alts := [], laidByText := true, laidKinds := [.data, .data, .data, .data, .sentinel, .sentinel, .pinned], laidTests := true, laidLooks := .later }
def BitsTwoCardSaid : Prop := Claim7.holds Tryz.pinned (.plain (OpenSpec.ofChange bitsTwoSpec)) bitsTwoCard

/-- THE TIED CARD OF 'victuallerlaw1.BitsEdges'. -/
def bitsEdgesCard : Claim7 := { stood := { row := bitsEdgesRow, standIns := [], harness := (true, "5487aafa00b0ad8532485386042fb9eb51a3f1bdcd3444bf5e8c8a95c668b4eb"), looks := true }, kinds := [], alts := [], laidByText := true, laidKinds := [.data, .data, .data, .data, .sentinel, .sentinel, .pinned], laidTests := true, laidLooks := .later }
def BitsEdgesCardSaid : Prop := Claim7.holds Tryz.pinned (.plain (OpenSpec.ofChange bitsEdgesSpec)) bitsEdgesCard

/-- THE TIED CARD OF 'victuallerlaw1.BitsDiv'. -/
def bitsDivCard : Claim7 := { stood := { row := bitsDivRow, standIns := [], harness := (true, "5487aafa00b0ad8532485386042fb9eb51a3f1bdcd3444bf5e8c8a95c668b4eb"), looks := true }, kinds := [], alts := [], laidByText := true, laidKinds := [.data, .data, .data, .data, .sentinel, .sentinel, .pinned], laidTests := true, laidLooks := .later }
def BitsDivCardSaid : Prop := Claim7.holds Tryz.pinned (.plain (OpenSpec.ofChange bitsDivSpec)) bitsDivCard

/-- THE TIED CARD OF 'victuallerlaw1.BitsNarrow'. -/
def bitsNarrowCard : Claim7 := { stood := { row := bitsNarrowRow, standIns := [], harness := (true, "5487aafa00b0ad8532485386042fb9eb51a3f1bdcd3444bf5e8c8a95c668b4eb"), looks := true }, kinds := [], alts := [], laidByText := true, laidKinds := [.data, .data, .data, .data, .sentinel, .sentinel, .pinned], laidTests := true, laidLooks := .later }
def BitsNarrowCardSaid : Prop := Claim7.holds Tryz.pinned (.plain (OpenSpec.ofChange bitsNarrowSpec)) bitsNarrowCard

/-- THE SECOND FORM's CARD OF 'victuallerlaw1.BitsShift'. -/
def bitsShiftUptoCard : Claim7 := { stood := { row := bitsShiftUptoRow, standIns := [], harness := (true, "5487aafa00b0ad8532485386042fb9eb51a3f1bdcd3444bf5e8c8a95c668b4eb"), looks := true }, kinds := [], alts := [], laidByText := true, laidKinds := [.data, .data, .data, .data, .sentinel, .sentinel, .pinned], laidTests := true, laidLooks := .later }
def BitsShiftUptoCardSaid : Prop := Claim7.holds Tryz.pinned (.plain (OpenSpec.upto bitsShiftSpec)) bitsShiftUptoCard

/-- THE SECOND FORM's CARD OF 'victuallerlaw1.BitsMul'. -/
def bitsMulUptoCard : Claim7 := { stood := { row := bitsMulUptoRow, standIns := [], harness := (true, "5487aafa00b0ad8532485386042fb9eb51a3f1bdcd3444bf5e8c8a95c668b4eb"), looks := true }, kinds := [], alts := [], laidByText := true, laidKinds := [.data, .data, .data, .data, .sentinel, .sentinel, .pinned], laidTests := true, laidLooks := .later }
def BitsMulUptoCardSaid : Prop := Claim7.holds Tryz.pinned (.plain (OpenSpec.upto bitsMulSpec)) bitsMulUptoCard

/-- THE SECOND FORM's CARD OF 'victuallerlaw1.BitsCarry'. -/
def bitsCarryUptoCard : Claim7 := { stood := { row := bitsCarryUptoRow, standIns := [], harness := (true, "5487aafa00b0ad8532485386042fb9eb51a3f1bdcd3444bf5e8c8a95c668b4eb"), looks := true }, kinds := [], alts := [], laidByText := true, laidKinds := [.data, .data, .data, .data, .sentinel, .sentinel, .pinned], laidTests := true, laidLooks := .later }
def BitsCarryUptoCardSaid : Prop := Claim7.holds Tryz.pinned (.plain (OpenSpec.upto bitsCarrySpec)) bitsCarryUptoCard

/-- THE SECOND FORM's CARD OF 'victuallerlaw1.BitsSigned'. -/
def bitsSignedUptoCard : Claim7 := { stood := { row := bitsSignedUptoRow, standIns := [], harness := (true, "5487aafa00b0ad8532485386042fb9eb51a3f1bdcd3444bf5e8c8a95c668b4eb"), looks := true }, kinds := [], alts := [], laidByText := true, laidKinds := [.data, .data, .data, .data, .sentinel, .sentinel, .pinned], laidTests := true, laidLooks := .later }
def BitsSignedUptoCardSaid : Prop := Claim7.holds Tryz.pinned (.plain (OpenSpec.upto bitsSignedSpec)) bitsSignedUptoCard

/-- THE SECOND FORM's CARD OF 'victuallerlaw1.BitsTwo'. -/
def bitsTwoUptoCard : Claim7 := { stood := { row := bitsTwoUptoRow, standIns := [], harness := (true, "5487aafa00b0ad8532485386042fb9eb51a3f1bdcd3444bf5e8c8a95c668b4eb"), looks := true }, kinds := [], alts := [], laidByText := true, laidKinds := [.data, .data, .data, .data, .sentinel, .sentinel, .pinned], laidTests := true, laidLooks := .later }
def BitsTwoUptoCardSaid : Prop := Claim7.holds Tryz.pinned (.plain (OpenSpec.upto bitsTwoSpec)) bitsTwoUptoCard

/-- THE SECOND FORM's CARD OF 'victuallerlaw1.BitsEdges'. -/
def bitsEdgesUptoCard : Claim7 := { stood := { row := bitsEdgesUptoRow, standIns := [], harness := (true, "5487aafa00b0ad8532485386042fb9eb51a3f1bdcd3444bf5e8c8a95c668b4eb"), looks := true }, kinds := [], alts := [], laidByText := true, laidKinds := [.data, .data, .data, .data, .sentinel, .sentinel, .pinned], laidTests := true, laidLooks := .later }
def BitsEdgesUptoCardSaid : Prop := Claim7.holds Tryz.pinned (.plain (OpenSpec.upto bitsEdgesSpec)) bitsEdgesUptoCard

/-- THE SECOND FORM's CARD OF 'victuallerlaw1.BitsDiv'. -/
def bitsDivUptoCard : Claim7 := { stood := { row := bitsDivUptoRow, standIns := [], harness := (true, "5487aafa00b0ad8532485386042fb9eb51a3f1bdcd3444bf5e8c8a95c668b4eb"), looks := true }, kinds := [], alts := [], laidByText := true, laidKinds := [.data, .data, .data, .data, .sentinel, .sentinel, .pinned], laidTests := true, laidLooks := .later }
def BitsDivUptoCardSaid : Prop := Claim7.holds Tryz.pinned (.plain (OpenSpec.upto bitsDivSpec)) bitsDivUptoCard

/-- THE SECOND FORM's CARD OF 'victuallerlaw1.BitsNarrow'. -/
def bitsNarrowUptoCard : Claim7 := { stood := { row := bitsNarrowUptoRow, standIns := [], harness := (true, "5487aafa00b0ad8532485386042fb9eb51a3f1bdcd3444bf5e8c8a95c668b4eb"), looks := true }, kinds := [], alts := [], laidByText := true, laidKinds := [.data, .data, .data, .data, .sentinel, .sentinel, .pinned], laidTests := true, laidLooks := .later }
def BitsNarrowUptoCardSaid : Prop := Claim7.holds Tryz.pinned (.plain (OpenSpec.upto bitsNarrowSpec)) bitsNarrowUptoCard
end Rows
end Go.Proofs.YtgakfogoakpafaaGreatDoor
