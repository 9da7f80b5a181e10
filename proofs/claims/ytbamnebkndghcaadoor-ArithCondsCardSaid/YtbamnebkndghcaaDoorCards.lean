/-
  DERIVED. GIVEN WITH THE SEED: THE CARDS: each row of YtbamnebkndghcaaDoorRows.lean that lists a variable, with what it lists TIED to the program's text (the seventh form; the later family's looks); each row that meets fmt, with fmt's text TOLD by the authors' own Lean function (tested against real Go, not proved from fmt's source: count such statements apart). THE CARD IS WHAT COUNTS. Prove the row's statement (the work); the ties are given (YtbamnebkndghcaaDoorTie.lean); close each card by the builder's one call (the guide's Derived/Test/ToyasCard.lean, 'card_holds'). Laid BY PROGRAM, IN A SANDBOX (cutbox-door.mjs). By AI agents, Wed Nov 11 2026. No macro, syntax, notation, axiom, sorry.
-/
import Derived.Test.YtbamnebkndghcaaDoorRows
import GoSem.ClaimSeven
namespace Go.Proofs.YtbamnebkndghcaaDoor
namespace Rows

/-- THE TIED CARD OF 'tabardlaw05.ArithConds'. -/
def arithCondsCard : Claim7 := { stood := { row := arithCondsRow, standIns := [], harness := (true, "e03565891778fc58b47f9610ace968dbc5643b9042fee36530dd79f2b62ea34a"), looks := false }, kinds := [], alts := [], laidByText := true, laidKinds := [.data], laidTests := true, laidLooks := .later }
def ArithCondsCardSaid : Prop := Claim7.holds Tryd.pinned (.plain (OpenSpec.ofChange arithCondsSpec)) arithCondsCard

/-- THE TIED CARD OF 'tabardlaw05.ArithSense'. -/
def arithSenseCard : Claim7 := { stood := { row := arithSenseRow, standIns := [], harness := (true, "e03565891778fc58b47f9610ace968dbc5643b9042fee36530dd79f2b62ea34a"), looks := false }, kinds := [], alts := [], laidByText := true, laidKinds := [.data], laidTests := true, laidLooks := .later }
def ArithSenseCardSaid : Prop := Claim7.holds Tryd.pinned (.plain (OpenSpec.ofChange arithSenseSpec)) arithSenseCard

/-- THE SECOND FORM's CARD OF 'tabardlaw05.ArithConds'. -/
def arithCondsUptoCard : Claim7 := { stood := { row := arithCondsUptoRow, standIns := [], harness := (true, "e03565891778fc58b47f9610ace968dbc5643b9042fee36530dd79f2b62ea34a"), looks := false }, kinds := [], alts := [], laidByText := true, laidKinds := [.data], laidTests := true, laidLooks := .later }
def ArithCondsUptoCardSaid : Prop := Claim7.holds Tryd.pinned (.plain (OpenSpec.upto arithCondsSpec)) arithCondsUptoCard

/-- THE SECOND FORM's CARD OF 'tabardlaw05.ArithSense'. -/
def arithSenseUptoCard : Claim7 := { stood := { row := arithSenseUptoRow, standIns := [], harness := (true, "e03565891778fc58b47f9610ace968dbc5643b9042fee36530dd79f2b62ea34a"), looks := false }, kinds := [], alts := [], laidByText := true, laidKinds := [.data], laidTests := true, laidLooks := .later }
def ArithSenseUptoCardSaid : Prop := Claim7.holds Tryd.pinned (.plain (OpenSpec.upto arithSenseSpec)) arithSenseUptoCard
end Rows
end Go.Proofs.YtbamnebkndghcaaDoor
