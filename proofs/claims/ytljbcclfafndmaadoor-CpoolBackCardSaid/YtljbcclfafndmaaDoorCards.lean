/-
  DERIVED. GIVEN WITH THE SEED: THE CARDS: each row of YtljbcclfafndmaaDoorRows.lean that lists a variable, with what it lists TIED to the program's text (the seventh form; the later family's looks); each row that meets fmt, with fmt's text TOLD by the authors' own Lean function (tested against real Go, not proved from fmt's source: count such statements apart). THE CARD IS WHAT COUNTS. Prove the row's statement (the work); the ties are given (YtljbcclfafndmaaDoorTie.lean); close each card by the builder's one call (the guide's Derived/Test/ToyasCard.lean, 'card_holds'). Laid BY PROGRAM, IN A SANDBOX (cutbox-door.mjs). By AI agents, Wed Nov 11 2026. No macro, syntax, notation, axiom, sorry.
-/
import Derived.Test.YtljbcclfafndmaaDoorRows
import GoSem.ClaimSeven
namespace Go.Proofs.YtljbcclfafndmaaDoor
namespace Rows

/-- THE TIED CARD OF 'tabardlaw03.CpoolReads'. -/
def cpoolReadsCard : Claim7 := { stood := { row := cpoolReadsRow, standIns := [], harness := (true, "6ee12795cad6c49c5dd213fd42fe80a623a8a96c05ccb96af620885686042c92"), looks := true }, kinds := [], alts := [], laidByText := true, laidKinds := [.data], laidTests := true, laidLooks := .later }
def CpoolReadsCardSaid : Prop := Claim7.holds Tryd.pinned (.plain (OpenSpec.ofChange cpoolReadsSpec)) cpoolReadsCard

/-- THE TIED CARD OF 'tabardlaw03.CpoolWrites'. -/
def cpoolWritesCard : Claim7 := { stood := { row := cpoolWritesRow, standIns := [], harness := (true, "6ee12795cad6c49c5dd213fd42fe80a623a8a96c05ccb96af620885686042c92"), looks := true }, kinds := [], alts := [], laidByText := true, laidKinds := [.data], laidTests := true, laidLooks := .later }
def CpoolWritesCardSaid : Prop := Claim7.holds Tryd.pinned (.plain (OpenSpec.ofChange cpoolWritesSpec)) cpoolWritesCard

/-- THE TIED CARD OF 'tabardlaw03.CpoolNames'. -/
def cpoolNamesCard : Claim7 := { stood := { row := cpoolNamesRow, standIns := [], harness := (true, "6ee12795cad6c49c5dd213fd42fe80a623a8a96c05ccb96af620885686042c92"), looks := true }, kinds := [], alts := [], laidByText := true, laidKinds := [.data], laidTests := true, laidLooks := .later }
def CpoolNamesCardSaid : Prop := Claim7.holds Tryd.pinned (.plain (OpenSpec.ofChange cpoolNamesSpec)) cpoolNamesCard

/-- THE TIED CARD OF 'tabardlaw03.CpoolAdds'. -/
def cpoolAddsCard : Claim7 := { stood := { row := cpoolAddsRow, standIns := [], harness := (true, "6ee12795cad6c49c5dd213fd42fe80a623a8a96c05ccb96af620885686042c92"), looks := true }, kinds := [], alts := [], laidByText := true, laidKinds := [.data], laidTests := true, laidLooks := .later }
def CpoolAddsCardSaid : Prop := Claim7.holds Tryd.pinned (.plain (OpenSpec.ofChange cpoolAddsSpec)) cpoolAddsCard

/-- THE TIED CARD OF 'tabardlaw03.CpoolBack'. -/
def cpoolBackCard : Claim7 := { stood := { row := cpoolBackRow, standIns := [], harness := (true, "6ee12795cad6c49c5dd213fd42fe80a623a8a96c05ccb96af620885686042c92"), looks := true }, kinds := [], alts := [], laidByText := true, laidKinds := [.data], laidTests := true, laidLooks := .later }
def CpoolBackCardSaid : Prop := Claim7.holds Tryd.pinned (.plain (OpenSpec.ofChange cpoolBackSpec)) cpoolBackCard

/-- THE TIED CARD OF 'tabardlaw03.CpoolGrows'. -/
def cpoolGrowsCard : Claim7 := { stood := { row := cpoolGrowsRow, standIns := [], harness := (true, "6ee12795cad6c49c5dd213fd42fe80a623a8a96c05ccb96af620885686042c92"), looks := true }, kinds := [], alts := [], laidByText := true, laidKinds := [.data], laidTests := true, laidLooks := .later }
def CpoolGrowsCardSaid : Prop := Claim7.holds Tryd.pinned (.plain (OpenSpec.ofChange cpoolGrowsSpec)) cpoolGrowsCard

/-- THE TIED CARD OF 'tabardlaw03.CpoolOwn'. -/
def cpoolOwnCard : Claim7 := { stood := { row := cpoolOwnRow, standIns := [], harness := (true, "6ee12795cad6c49c5dd213fd42fe80a623a8a96c05ccb96af620885686042c92"), looks := true }, kinds := [], alts := [], laidByText := true, laidKinds := [.data], laidTests := true, laidLooks := .later }
def CpoolOwnCardSaid : Prop := Claim7.holds Tryd.pinned (.plain (OpenSpec.ofChange cpoolOwnSpec)) cpoolOwnCard

/-- THE SECOND FORM's CARD OF 'tabardlaw03.CpoolReads'. -/
def cpoolReadsUptoCard : Claim7 := { stood := { row := cpoolReadsUptoRow, standIns := [], harness := (true, "6ee12795cad6c49c5dd213fd42fe80a623a8a96c05ccb96af620885686042c92"), looks := true }, kinds := [], alts := [], laidByText := true, laidKinds := [.data], laidTests := true, laidLooks := .later }
def CpoolReadsUptoCardSaid : Prop := Claim7.holds Tryd.pinned (.plain (OpenSpec.upto cpoolReadsSpec)) cpoolReadsUptoCard

/-- THE SECOND FORM's CARD OF 'tabardlaw03.CpoolWrites'. -/
def cpoolWritesUptoCard : Claim7 := { stood := { row := cpoolWritesUptoRow, standIns := [], harness := (true, "6ee12795cad6c49c5dd213fd42fe80a623a8a96c05ccb96af620885686042c92"), looks := true }, kinds := [], alts := [], laidByText := true, laidKinds := [.data], laidTests := true, laidLooks := .later }
def CpoolWritesUptoCardSaid : Prop := Claim7.holds Tryd.pinned (.plain (OpenSpec.upto cpoolWritesSpec)) cpoolWritesUptoCard

/-- THE SECOND FORM's CARD OF 'tabardlaw03.CpoolNames'. -/
def cpoolNamesUptoCard : Claim7 := { stood := { row := cpoolNamesUptoRow, standIns := [], harness := (true, "6ee12795cad6c49c5dd213fd42fe80a623a8a96c05ccb96af620885686042c92"), looks := true }, kinds := [], alts := [], laidByText := true, laidKinds := [.data], laidTests := true, laidLooks := .later }
def CpoolNamesUptoCardSaid : Prop := Claim7.holds Tryd.pinned (.plain (OpenSpec.upto cpoolNamesSpec)) cpoolNamesUptoCard

/-- THE SECOND FORM's CARD OF 'tabardlaw03.CpoolAdds'. -/
def cpoolAddsUptoCard : Claim7 := { stood := { row := cpoolAddsUptoRow, standIns := [], harness := (true, "6ee12795cad6c49c5dd213fd42fe80a623a8a96c05ccb96af620885686042c92"), looks := true }, kinds := [], alts := [], laidByText := true, laidKinds := [.data], laidTests := true, laidLooks := .later }
def CpoolAddsUptoCardSaid : Prop := Claim7.holds Tryd.pinned (.plain (OpenSpec.upto cpoolAddsSpec)) cpoolAddsUptoCard

/-- THE SECOND FORM's CARD OF 'tabardlaw03.CpoolBack'. -/
def cpoolBackUptoCard : Claim7 := { stood := { row := cpoolBackUptoRow, standIns := [], harness := (true, "6ee12795cad6c49c5dd213fd42fe80a623a8a96c05ccb96af620885686042c92"), looks := true }, kinds := [], alts := [], laidByText := true, laidKinds := [.data], laidTests := true, laidLooks := .later }
def CpoolBackUptoCardSaid : Prop := Claim7.holds Tryd.pinned (.plain (OpenSpec.upto cpoolBackSpec)) cpoolBackUptoCard

/-- THE SECOND FORM's CARD OF 'tabardlaw03.CpoolGrows'. -/
def cpoolGrowsUptoCard : Claim7 := { stood := { row := cpoolGrowsUptoRow, standIns := [], harness := (true, "6ee12795cad6c49c5dd213fd42fe80a623a8a96c05ccb96af620885686042c92"), looks := true }, kinds := [], alts := [], laidByText := true, laidKinds := [.data], laidTests := true, laidLooks := .later }
def CpoolGrowsUptoCardSaid : Prop := Claim7.holds Tryd.pinned (.plain (OpenSpec.upto cpoolGrowsSpec)) cpoolGrowsUptoCard

/-- THE SECOND FORM's CARD OF 'tabardlaw03.CpoolOwn'. -/
def cpoolOwnUptoCard : Claim7 := { stood := { row := cpoolOwnUptoRow, standIns := [], harness := (true, "6ee12795cad6c49c5dd213fd42fe80a623a8a96c05ccb96af620885686042c92"), looks := true }, kinds := [], alts := [], laidByText := true, laidKinds := [.data], laidTests := true, laidLooks := .later }
def CpoolOwnUptoCardSaid : Prop := Claim7.holds Tryd.pinned (.plain (OpenSpec.upto cpoolOwnSpec)) cpoolOwnUptoCard
end Rows
end Go.Proofs.YtljbcclfafndmaaDoor
