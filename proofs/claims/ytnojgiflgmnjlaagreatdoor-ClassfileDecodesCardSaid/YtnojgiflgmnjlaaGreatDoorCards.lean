/-
  DERIVED. GIVEN WITH THE SEED: THE CARDS: each row of YtnojgiflgmnjlaaGreatDoorRows.lean that lists a variable, with what it lists TIED to the program's text (the seventh form; the later family's looks); each row that meets fmt, with fmt's text TOLD by the authors' own Lean function (tested against real Go, not proved from fmt's source: count such statements apart). THE CARD IS WHAT COUNTS. Prove the row's statement (the work); the ties are given (YtnojgiflgmnjlaaGreatDoorTie.lean); close each card by the builder's one call (the guide's Derived/Test/ToyasCard.lean, 'card_holds'). Laid BY PROGRAM, IN A SANDBOX (cutbox-door.mjs). By AI agents, Wed Nov 11 2026. No macro, syntax, notation, axiom, sorry.
-/
import Derived.Test.YtnojgiflgmnjlaaGreatDoorRows
import GoSem.ClaimSeven
namespace Go.Proofs.YtnojgiflgmnjlaaGreatDoor
namespace Rows

/-- THE TIED CARD OF 'tabardlaw04.ClassfileDecodes'. -/
def classfileDecodesCard : Claim7 := { stood := { row := classfileDecodesRow, standIns := [], harness := (true, "797f560d609ed54d9773e8b032242dbbc23ab3e750b23b5ba9c766a0baee633d"), looks := true }, kinds := [], alts := [], laidByText := true, laidKinds := [.data, .data, .data, .data, .pinned], laidTests := true, laidLooks := .later }
def ClassfileDecodesCardSaid : Prop := Claim7.holds Tryz.pinned (.plain (OpenSpec.ofChange classfileDecodesSpec)) classfileDecodesCard

/-- THE TIED CARD OF 'tabardlaw04.ClassfileChecks'. -/
def classfileChecksCard : Claim7 := { stood := { row := classfileChecksRow, standIns := [], harness := (true, "797f560d609ed54d9773e8b032242dbbc23ab3e750b23b5ba9c766a0baee633d"), looks := true }, kinds := [], alts := [], laidByText := true, laidKinds := [.data, .data, .data, .data, .pinned], laidTests := true, laidLooks := .later }
def ClassfileChecksCardSaid : Prop := Claim7.holds Tryz.pinned (.plain (OpenSpec.ofChange classfileChecksSpec)) classfileChecksCard

/-- THE TIED CARD OF 'tabardlaw04.ClassfileNames'. -/
def classfileNamesCard : Claim7 := { stood := { row := classfileNamesRow, standIns := [], harness := (true, "797f560d609ed54d9773e8b032242dbbc23ab3e750b23b5ba9c766a0baee633d"), looks := true }, kinds := [], alts := [], laidByText := true, laidKinds := [.data, .data, .data, .data, .pinned], laidTests := true, laidLooks := .later }
def ClassfileNamesCardSaid : Prop := Claim7.holds Tryz.pinned (.plain (OpenSpec.ofChange classfileNamesSpec)) classfileNamesCard

/-- THE TIED CARD OF 'tabardlaw04.ClassfileMakes'. -/
def classfileMakesCard : Claim7 := { stood := { row := classfileMakesRow, standIns := [], harness := (true, "797f560d609ed54d9773e8b032242dbbc23ab3e750b23b5ba9c766a0baee633d"), looks := true }, kinds := [], alts := [], laidByText := true, laidKinds := [.data, .data, .data, .data, .pinned], laidTests := true, laidLooks := .later }
def ClassfileMakesCardSaid : Prop := Claim7.holds Tryz.pinned (.plain (OpenSpec.ofChange classfileMakesSpec)) classfileMakesCard

/-- THE TIED CARD OF 'tabardlaw04.ClassfileSame'. -/
def classfileSameCard : Claim7 := { stood := { row := classfileSameRow, standIns := [], harness := (true, "797f560d609ed54d9773e8b032242dbbc23ab3e750b23b5ba9c766a0baee633d"), looks := true }, kinds := [], alts := [], laidByText := true, laidKinds := [.data, .data, .data, .data, .pinned], laidTests := true, laidLooks := .later }
def ClassfileSameCardSaid : Prop := Claim7.holds Tryz.pinned (.plain (OpenSpec.ofChange classfileSameSpec)) classfileSameCard

/-- THE TIED CARD OF 'tabardlaw04.ClassfileBack'. -/
def classfileBackCard : Claim7 := { stood := { row := classfileBackRow, standIns := [], harness := (true, "797f560d609ed54d9773e8b032242dbbc23ab3e750b23b5ba9c766a0baee633d"), looks := true }, kinds := [], alts := [], laidByText := true, laidKinds := [.data, .data, .data, .data, .pinned], laidTests := true, laidLooks := .later }
def ClassfileBackCardSaid : Prop := Claim7.holds Tryz.pinned (.plain (OpenSpec.ofChange classfileBackSpec)) classfileBackCard

/-- THE TIED CARD OF 'tabardlaw04.ClassfileGrows'. -/
def classfileGrowsCard : Claim7 := { stood := { row := classfileGrowsRow, standIns := [], harness := (true, "797f560d609ed54d9773e8b032242dbbc23ab3e750b23b5ba9c766a0baee633d"), looks := true }, kinds := [], alts := [], laidByText := true, laidKinds := [.data, .data, .data, .data, .pinned], laidTests := true, laidLooks := .later }
def ClassfileGrowsCardSaid : Prop := Claim7.holds Tryz.pinned (.plain (OpenSpec.ofChange classfileGrowsSpec)) classfileGrowsCard

/-- THE TIED CARD OF 'tabardlaw04.ClassfileOwn'. -/
def classfileOwnCard : Claim7 := { stood := { row := classfileOwnRow, standIns := [], harness := (true, "797f560d609ed54d9773e8b032242dbbc23ab3e750b23b5ba9c766a0baee633d"), looks := true }, kinds := [], alts := [], laidByText := true, laidKinds := [.data, .data, .data, .data, .pinned], laidTests := true, laidLooks := .later }
def ClassfileOwnCardSaid : Prop := Claim7.holds Tryz.pinned (.plain (OpenSpec.ofChange classfileOwnSpec)) classfileOwnCard

/-- THE SECOND FORM's CARD OF 'tabardlaw04.ClassfileDecodes'. -/
def classfileDecodesUptoCard : Claim7 := { stood := { row := classfileDecodesUptoRow, standIns := [], harness := (true, "797f560d609ed54d9773e8b032242dbbc23ab3e750b23b5ba9c766a0baee633d"), looks := true }, kinds := [], alts := [], laidByText := true, laidKinds := [.data, .data, .data, .data, .pinned], laidTests := true, laidLooks := .later }
def ClassfileDecodesUptoCardSaid : Prop := Claim7.holds Tryz.pinned (.plain (OpenSpec.upto classfileDecodesSpec)) classfileDecodesUptoCard

/-- THE SECOND FORM's CARD OF 'tabardlaw04.ClassfileChecks'. -/
def classfileChecksUptoCard : Claim7 := { stood := { row := classfileChecksUptoRow, standIns := [], harness := (true, "797f560d609ed54d9773e8b032242dbbc23ab3e750b23b5ba9c766a0baee633d"), looks := true }, kinds := [], alts := [], laidByText := true, laidKinds := [.data, .data, .data, .data, .pinned], laidTests := true, laidLooks := .later }
def ClassfileChecksUptoCardSaid : Prop := Claim7.holds Tryz.pinned (.plain (OpenSpec.upto classfileChecksSpec)) classfileChecksUptoCard

/-- THE SECOND FORM's CARD OF 'tabardlaw04.ClassfileNames'. -/
def classfileNamesUptoCard : Claim7 := { stood := { row := classfileNamesUptoRow, standIns := [], harness := (true, "797f560d609ed54d9773e8b032242dbbc23ab3e750b23b5ba9c766a0baee633d"), looks := true }, kinds := [], alts := [], laidByText := true, laidKinds := [.data, .data, .data, .data, .pinned], laidTests := true, laidLooks := .later }
def ClassfileNamesUptoCardSaid : Prop := Claim7.holds Tryz.pinned (.plain (OpenSpec.upto classfileNamesSpec)) classfileNamesUptoCard

/-- THE SECOND FORM's CARD OF 'tabardlaw04.ClassfileMakes'. -/
def classfileMakesUptoCard : Claim7 := { stood := { row := classfileMakesUptoRow, standIns := [], harness := (true, "797f560d609ed54d9773e8b032242dbbc23ab3e750b23b5ba9c766a0baee633d"), looks := true }, kinds := [], alts := [], laidByText := true, laidKinds := [.data, .data, .data, .data, .pinned], laidTests := true, laidLooks := .later }
def ClassfileMakesUptoCardSaid : Prop := Claim7.holds Tryz.pinned (.plain (OpenSpec.upto classfileMakesSpec)) classfileMakesUptoCard

/-- THE SECOND FORM's CARD OF 'tabardlaw04.ClassfileSame'. -/
def classfileSameUptoCard : Claim7 := { stood := { row := classfileSameUptoRow, standIns := [], harness := (true, "797f560d609ed54d9773e8b032242dbbc23ab3e750b23b5ba9c766a0baee633d"), looks := true }, kinds := [], alts := [], laidByText := true, laidKinds := [.data, .data, .data, .data, .pinned], laidTests := true, laidLooks := .later }
def ClassfileSameUptoCardSaid : Prop := Claim7.holds Tryz.pinned (.plain (OpenSpec.upto classfileSameSpec)) classfileSameUptoCard

/-- THE SECOND FORM's CARD OF 'tabardlaw04.ClassfileBack'. -/
def classfileBackUptoCard : Claim7 := { stood := { row := classfileBackUptoRow, standIns := [], harness := (true, "797f560d609ed54d9773e8b032242dbbc23ab3e750b23b5ba9c766a0baee633d"), looks := true }, kinds := [], alts := [], laidByText := true, laidKinds := [.data, .data, .data, .data, .pinned], laidTests := true, laidLooks := .later }
def ClassfileBackUptoCardSaid : Prop := Claim7.holds Tryz.pinned (.plain (OpenSpec.upto classfileBackSpec)) classfileBackUptoCard

/-- THE SECOND FORM's CARD OF 'tabardlaw04.ClassfileGrows'. -/
def classfileGrowsUptoCard : Claim7 := { stood := { row := classfileGrowsUptoRow, standIns := [], harness := (true, "797f560d609ed54d9773e8b032242dbbc23ab3e750b23b5ba9c766a0baee633d"), looks := true }, kinds := [], alts := [], laidByText := true, laidKinds := [.data, .data, .data, .data, .pinned], laidTests := true, laidLooks := .later }
def ClassfileGrowsUptoCardSaid : Prop := Claim7.holds Tryz.pinned (.plain (OpenSpec.upto classfileGrowsSpec)) classfileGrowsUptoCard

/-- THE SECOND FORM's CARD OF 'tabardlaw04.ClassfileOwn'. -/
def classfileOwnUptoCard : Claim7 := { stood := { row := classfileOwnUptoRow, standIns := [], harness := (true, "797f560d609ed54d9773e8b032242dbbc23ab3e750b23b5ba9c766a0baee633d"), looks := true }, kinds := [], alts := [], laidByText := true, laidKinds := [.data, .data, .data, .data, .pinned], laidTests := true, laidLooks := .later }
def ClassfileOwnUptoCardSaid : Prop := Claim7.holds Tryz.pinned (.plain (OpenSpec.upto classfileOwnSpec)) classfileOwnUptoCard
end Rows
end Go.Proofs.YtnojgiflgmnjlaaGreatDoor
