/-
  DERIVED. GIVEN WITH THE SEED: THE CARDS: each row of YtahjnaoabfkpcaaDoorRows.lean that lists a variable, with what it lists TIED to the program's text (the seventh form; the later family's looks); each row that meets fmt, with fmt's text TOLD by the authors' own Lean function (tested against real Go, not proved from fmt's source: count such statements apart). THE CARD IS WHAT COUNTS. Prove the row's statement (the work); the ties are given (YtahjnaoabfkpcaaDoorTie.lean); close each card by the builder's one call (the guide's Derived/Test/ToyasCard.lean, 'card_holds'). Laid BY PROGRAM, IN A SANDBOX (cutbox-door.mjs). By AI agents, Wed Nov 11 2026. No macro, syntax, notation, axiom, sorry.
-/
import Derived.Test.YtahjnaoabfkpcaaDoorRows
import GoSem.ClaimSeven
namespace Go.Proofs.YtahjnaoabfkpcaaDoor
namespace Rows

/-- THE TIED CARD OF 'tabardlaw11.VtypeParts'. -/
def vtypePartsCard : Claim7 := { stood := { row := vtypePartsRow, standIns := [], harness := (true, "a313bfe46fa5dadd47dda3bc183b7e32ab830a2b20879aa3c6ef327201b0065d"), looks := false }, kinds := [], alts := [], laidByText := true, laidKinds := [.data, .pinned], laidTests := true, laidLooks := .later }
def VtypePartsCardSaid : Prop := Claim7.holds Tryd.pinned (.plain (OpenSpec.ofChange vtypePartsSpec)) vtypePartsCard

/-- THE TIED CARD OF 'tabardlaw11.VtypeOrder'. -/
def vtypeOrderCard : Claim7 := { stood := { row := vtypeOrderRow, standIns := [], harness := (true, "a313bfe46fa5dadd47dda3bc183b7e32ab830a2b20879aa3c6ef327201b0065d"), looks := false }, kinds := [], alts := [], laidByText := true, laidKinds := [.data, .pinned], laidTests := true, laidLooks := .later }
def VtypeOrderCardSaid : Prop := Claim7.holds Tryd.pinned (.plain (OpenSpec.ofChange vtypeOrderSpec)) vtypeOrderCard

/-- THE TIED CARD OF 'tabardlaw11.VtypeArrays'. -/
def vtypeArraysCard : Claim7 := { stood := { row := vtypeArraysRow, standIns := [], harness := (true, "a313bfe46fa5dadd47dda3bc183b7e32ab830a2b20879aa3c6ef327201b0065d"), looks := false }, kinds := [], alts := [], laidByText := true, laidKinds := [.data, .pinned], laidTests := true, laidLooks := .later }
def VtypeArraysCardSaid : Prop := Claim7.holds Tryd.pinned (.plain (OpenSpec.ofChange vtypeArraysSpec)) vtypeArraysCard

/-- THE TIED CARD OF 'tabardlaw11.VtypeNone'. -/
def vtypeNoneCard : Claim7 := { stood := { row := vtypeNoneRow, standIns := [], harness := (true, "a313bfe46fa5dadd47dda3bc183b7e32ab830a2b20879aa3c6ef327201b0065d"), looks := false }, kinds := [], alts := [], laidByText := true, laidKinds := [.data, .pinned], laidTests := true, laidLooks := .later }
def VtypeNoneCardSaid : Prop := Claim7.holds Tryd.pinned (.plain (OpenSpec.ofChange vtypeNoneSpec)) vtypeNoneCard

/-- THE SECOND FORM's CARD OF 'tabardlaw11.VtypeParts'. -/
def vtypePartsUptoCard : Claim7 := { stood := { row := vtypePartsUptoRow, standIns := [], harness := (true, "a313bfe46fa5dadd47dda3bc183b7e32ab830a2b20879aa3c6ef327201b0065d"), looks := false }, kinds := [], alts := [], laidByText := true, laidKinds := [.data, .pinned], laidTests := true, laidLooks := .later }
def VtypePartsUptoCardSaid : Prop := Claim7.holds Tryd.pinned (.plain (OpenSpec.upto vtypePartsSpec)) vtypePartsUptoCard

/-- THE SECOND FORM's CARD OF 'tabardlaw11.VtypeOrder'. -/
def vtypeOrderUptoCard : Claim7 := { stood := { row := vtypeOrderUptoRow, standIns := [], harness := (true, "a313bfe46fa5dadd47dda3bc183b7e32ab830a2b20879aa3c6ef327201b0065d"), looks := false }, kinds := [], alts := [], laidByText := true, laidKinds := [.data, .pinned], laidTests := true, laidLooks := .later }
def VtypeOrderUptoCardSaid : Prop := Claim7.holds Tryd.pinned (.plain (OpenSpec.upto vtypeOrderSpec)) vtypeOrderUptoCard

/-- THE SECOND FORM's CARD OF 'tabardlaw11.VtypeArrays'. -/
def vtypeArraysUptoCard : Claim7 := { stood := { row := vtypeArraysUptoRow, standIns := [], harness := (true, "a313bfe46fa5dadd47dda3bc183b7e32ab830a2b20879aa3c6ef327201b0065d"), looks := false }, kinds := [], alts := [], laidByText := true, laidKinds := [.data, .pinned], laidTests := true, laidLooks := .later }
def VtypeArraysUptoCardSaid : Prop := Claim7.holds Tryd.pinned (.plain (OpenSpec.upto vtypeArraysSpec)) vtypeArraysUptoCard

/-- THE SECOND FORM's CARD OF 'tabardlaw11.VtypeNone'. -/
def vtypeNoneUptoCard : Claim7 := { stood := { row := vtypeNoneUptoRow, standIns := [], harness := (true, "a313bfe46fa5dadd47dda3bc183b7e32ab830a2b20879aa3c6ef327201b0065d"), looks := false }, kinds := [], alts := [], laidByText := true, laidKinds := [.data, .pinned], laidTests := true, laidLooks := .later }
def VtypeNoneUptoCardSaid : Prop := Claim7.holds Tryd.pinned (.plain (OpenSpec.upto vtypeNoneSpec)) vtypeNoneUptoCard
end Rows
end Go.Proofs.YtahjnaoabfkpcaaDoor
