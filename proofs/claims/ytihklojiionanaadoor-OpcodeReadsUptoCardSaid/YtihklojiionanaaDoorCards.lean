/-
  DERIVED. GIVEN WITH THE SEED: THE CARDS: each row of YtihklojiionanaaDoorRows.lean that lists a variable, with what it lists TIED to the program's text (the seventh form; the later family's looks); each row that meets fmt, with fmt's text TOLD by the authors' own Lean function (tested against real Go, not proved from fmt's source: count such statements apart). THE CARD IS WHAT COUNTS. Prove the row's statement (the work); the ties are given (YtihklojiionanaaDoorTie.lean); close each card by the builder's one call (the guide's Derived/Test/ToyasCard.lean, 'card_holds'). Laid BY PROGRAM, IN A SANDBOX (cutbox-door.mjs). By AI agents, Wed Nov 11 2026. No macro, syntax, notation, axiom, sorry.
-/
import Derived.Test.YtihklojiionanaaDoorRows
import GoSem.ClaimSeven
namespace Go.Proofs.YtihklojiionanaaDoor
namespace Rows

/-- THE TIED CARD OF 'tabardlaw01.OpcodeTable'. -/
def opcodeTableCard : Claim7 := { stood := { row := opcodeTableRow, standIns := [], harness := (true, "376fe7e9d39af990ddd9f3c34c804f39457dadb9cd279975861b5ce726370a64"), looks := false }, kinds := [], alts := [], laidByText := true, laidKinds := [.data, .data], laidTests := true, laidLooks := .later }
def OpcodeTableCardSaid : Prop := Claim7.holds Tryd.pinned (.plain (OpenSpec.ofChange opcodeTableSpec)) opcodeTableCard

/-- THE TIED CARD OF 'tabardlaw01.OpcodeReads'. -/
def opcodeReadsCard : Claim7 := { stood := { row := opcodeReadsRow, standIns := [], harness := (true, "376fe7e9d39af990ddd9f3c34c804f39457dadb9cd279975861b5ce726370a64"), looks := false }, kinds := [], alts := [], laidByText := true, laidKinds := [.data, .data], laidTests := true, laidLooks := .later }
def OpcodeReadsCardSaid : Prop := Claim7.holds Tryd.pinned (.plain (OpenSpec.ofChange opcodeReadsSpec)) opcodeReadsCard

/-- THE TIED CARD OF 'tabardlaw01.OpcodeWrites'. -/
def opcodeWritesCard : Claim7 := { stood := { row := opcodeWritesRow, standIns := [], harness := (true, "376fe7e9d39af990ddd9f3c34c804f39457dadb9cd279975861b5ce726370a64"), looks := false }, kinds := [], alts := [], laidByText := true, laidKinds := [.data, .data], laidTests := true, laidLooks := .later }
def OpcodeWritesCardSaid : Prop := Claim7.holds Tryd.pinned (.plain (OpenSpec.ofChange opcodeWritesSpec)) opcodeWritesCard

/-- THE TIED CARD OF 'tabardlaw01.OpcodeBack'. -/
def opcodeBackCard : Claim7 := { stood := { row := opcodeBackRow, standIns := [], harness := (true, "376fe7e9d39af990ddd9f3c34c804f39457dadb9cd279975861b5ce726370a64"), looks := false }, kinds := [], alts := [], laidByText := true, laidKinds := [.data, .data], laidTests := true, laidLooks := .later }
def OpcodeBackCardSaid : Prop := Claim7.holds Tryd.pinned (.plain (OpenSpec.ofChange opcodeBackSpec)) opcodeBackCard

/-- THE TIED CARD OF 'tabardlaw01.OpcodeFlow'. -/
def opcodeFlowCard : Claim7 := { stood := { row := opcodeFlowRow, standIns := [], harness := (true, "376fe7e9d39af990ddd9f3c34c804f39457dadb9cd279975861b5ce726370a64"), looks := false }, kinds := [], alts := [], laidByText := true, laidKinds := [.data, .data], laidTests := true, laidLooks := .later }
def OpcodeFlowCardSaid : Prop := Claim7.holds Tryd.pinned (.plain (OpenSpec.ofChange opcodeFlowSpec)) opcodeFlowCard

/-- THE TIED CARD OF 'tabardlaw01.OpcodeCuts'. -/
def opcodeCutsCard : Claim7 := { stood := { row := opcodeCutsRow, standIns := [], harness := (true, "376fe7e9d39af990ddd9f3c34c804f39457dadb9cd279975861b5ce726370a64"), looks := false }, kinds := [], alts := [], laidByText := true, laidKinds := [.data, .data], laidTests := true, laidLooks := .later }
def OpcodeCutsCardSaid : Prop := Claim7.holds Tryd.pinned (.plain (OpenSpec.ofChange opcodeCutsSpec)) opcodeCutsCard

/-- THE TIED CARD OF 'tabardlaw01.OpcodeOwn'. -/
def opcodeOwnCard : Claim7 := { stood := { row := opcodeOwnRow, standIns := [], harness := (true, "376fe7e9d39af990ddd9f3c34c804f39457dadb9cd279975861b5ce726370a64"), looks := false }, kinds := [], alts := [], laidByText := true, laidKinds := [.data, .data], laidTests := true, laidLooks := .later }
def OpcodeOwnCardSaid : Prop := Claim7.holds Tryd.pinned (.plain (OpenSpec.ofChange opcodeOwnSpec)) opcodeOwnCard

/-- THE SECOND FORM's CARD OF 'tabardlaw01.OpcodeTable'. -/
def opcodeTableUptoCard : Claim7 := { stood := { row := opcodeTableUptoRow, standIns := [], harness := (true, "376fe7e9d39af990ddd9f3c34c804f39457dadb9cd279975861b5ce726370a64"), looks := false }, kinds := [], alts := [], laidByText := true, laidKinds := [.data, .data], laidTests := true, laidLooks := .later }
def OpcodeTableUptoCardSaid : Prop := Claim7.holds Tryd.pinned (.plain (OpenSpec.upto opcodeTableSpec)) opcodeTableUptoCard

/-- THE SECOND FORM's CARD OF 'tabardlaw01.OpcodeReads'. -/
def opcodeReadsUptoCard : Claim7 := { stood := { row := opcodeReadsUptoRow, standIns := [], harness := (true, "376fe7e9d39af990ddd9f3c34c804f39457dadb9cd279975861b5ce726370a64"), looks := false }, kinds := [], alts := [], laidByText := true, laidKinds := [.data, .data], laidTests := true, laidLooks := .later }
def OpcodeReadsUptoCardSaid : Prop := Claim7.holds Tryd.pinned (.plain (OpenSpec.upto opcodeReadsSpec)) opcodeReadsUptoCard

/-- THE SECOND FORM's CARD OF 'tabardlaw01.OpcodeWrites'. -/
def opcodeWritesUptoCard : Claim7 := { stood := { row := opcodeWritesUptoRow, standIns := [], harness := (true, "376fe7e9d39af990ddd9f3c34c804f39457dadb9cd279975861b5ce726370a64"), looks := false }, kinds := [], alts := [], laidByText := true, laidKinds := [.data, .data], laidTests := true, laidLooks := .later }
def OpcodeWritesUptoCardSaid : Prop := Claim7.holds Tryd.pinned (.plain (OpenSpec.upto opcodeWritesSpec)) opcodeWritesUptoCard

/-- THE SECOND FORM's CARD OF 'tabardlaw01.OpcodeBack'. -/
def opcodeBackUptoCard : Claim7 := { stood := { row := opcodeBackUptoRow, standIns := [], harness := (true, "376fe7e9d39af990ddd9f3c34c804f39457dadb9cd279975861b5ce726370a64"), looks := false }, kinds := [], alts := [], laidByText := true, laidKinds := [.data, .data], laidTests := true, laidLooks := .later }
def OpcodeBackUptoCardSaid : Prop := Claim7.holds Tryd.pinned (.plain (OpenSpec.upto opcodeBackSpec)) opcodeBackUptoCard

/-- THE SECOND FORM's CARD OF 'tabardlaw01.OpcodeFlow'. -/
def opcodeFlowUptoCard : Claim7 := { stood := { row := opcodeFlowUptoRow, standIns := [], harness := (true, "376fe7e9d39af990ddd9f3c34c804f39457dadb9cd279975861b5ce726370a64"), looks := false }, kinds := [], alts := [], laidByText := true, laidKinds := [.data, .data], laidTests := true, laidLooks := .later }
def OpcodeFlowUptoCardSaid : Prop := Claim7.holds Tryd.pinned (.plain (OpenSpec.upto opcodeFlowSpec)) opcodeFlowUptoCard

/-- THE SECOND FORM's CARD OF 'tabardlaw01.OpcodeCuts'. -/
def opcodeCutsUptoCard : Claim7 := { stood := { row := opcodeCutsUptoRow, standIns := [], harness := (true, "376fe7e9d39af990ddd9f3c34c804f39457dadb9cd279975861b5ce726370a64"), looks := false }, kinds := [], alts := [], laidByText := true, laidKinds := [.data, .data], laidTests := true, laidLooks := .later }
def OpcodeCutsUptoCardSaid : Prop := Claim7.holds Tryd.pinned (.plain (OpenSpec.upto opcodeCutsSpec)) opcodeCutsUptoCard

/-- THE SECOND FORM's CARD OF 'tabardlaw01.OpcodeOwn'. -/
def opcodeOwnUptoCard : Claim7 := { stood := { row := opcodeOwnUptoRow, standIns := [], harness := (true, "376fe7e9d39af990ddd9f3c34c804f39457dadb9cd279975861b5ce726370a64"), looks := false }, kinds := [], alts := [], laidByText := true, laidKinds := [.data, .data], laidTests := true, laidLooks := .later }
def OpcodeOwnUptoCardSaid : Prop := Claim7.holds Tryd.pinned (.plain (OpenSpec.upto opcodeOwnSpec)) opcodeOwnUptoCard
end Rows
end Go.Proofs.YtihklojiionanaaDoor
