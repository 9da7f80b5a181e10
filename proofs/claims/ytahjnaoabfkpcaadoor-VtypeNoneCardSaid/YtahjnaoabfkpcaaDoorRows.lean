/-
  NARROWER THAN 'FOR EVERY INPUT', by the rows' own cells (each row's printed sentence says how): VtypeParts: laid · VtypeOrder: laid · VtypeArrays: laid · VtypeNone: laid.
  DERIVED. THE GIVEN ROWS OF THIS SEAT. 4 by the template 'for every input the law returns true; each argument reads behind the call as it read before'; 0 by the template 'total and deterministic' (their statements: YtahjnaoabfkpcaaDoorTotals.lean).
  GIVEN WITH THE SEED: the statements are not yours to turn. If you find one false, say at which input.
  Laid BY PROGRAM, IN A SANDBOX (cutbox-rows.mjs): the forced cells as the released guide's own fill.sh prints them over the translation 3aff5db996f5ebc4… (all of the seat's roots in one cut). By AI agents, Wed Nov 11 2026. No macro, syntax, notation, axiom, sorry.
-/
import Derived.Test.YtahjnaoabfkpcaaDoorChecked
import GoSem.PinnedTables
import GoSem.Claim
import GoSem.ClaimJoined
import GoSem.ClaimMapViews
import Derived.JoinedTies
import Derived.KernelRfl
namespace Go.Proofs.YtahjnaoabfkpcaaDoor
/- THE CELL 'sum', in the pinned program and in every row, IS THE sha256 OF THE DUMP (.gsa) THAT YtahjnaoabfkpcaaDoorProg.lean LOADS. Nothing in Lean hashes anything: it is a label: what it is worth is what the hold of that sum in a sandbox is worth. -/
noncomputable def Tryd.pinned : Pinned := { name := "ytahjnaoabfkpcaadoor", sum := "3aff5db996f5ebc48434459412d2a23e92d1a871bbebeb5649254f4672411e46", checked := Tryd.checked }
namespace Rows
def none {H : Type} : Left H := { results := [], args := [] }

/- WHAT THE LISTED PACKAGE-LEVEL VARIABLES READ AS WHEN THE CALL BEGINS. Each datum BY PROGRAM (the guide's laid-datum.mjs) off the statement by which the dump's own 'gosem.cut.vars' lays the variable. In a bare row this is a premise. The card (YtahjnaoabfkpcaaDoorCards.lean) ties it to the program's text. -/
def laid_unicode_utf8_acceptRanges {H : Type} : DataW H := .agg [.agg [.lit (.int .u8 128), .lit (.int .u8 191)], .agg [.lit (.int .u8 160), .lit (.int .u8 191)], .agg [.lit (.int .u8 128), .lit (.int .u8 159)], .agg [.lit (.int .u8 144), .lit (.int .u8 191)], .agg [.lit (.int .u8 128), .lit (.int .u8 143)], .agg [.lit (.int .u8 0), .lit (.int .u8 0)], .agg [.lit (.int .u8 0), .lit (.int .u8 0)], .agg [.lit (.int .u8 0), .lit (.int .u8 0)], .agg [.lit (.int .u8 0), .lit (.int .u8 0)], .agg [.lit (.int .u8 0), .lit (.int .u8 0)], .agg [.lit (.int .u8 0), .lit (.int .u8 0)], .agg [.lit (.int .u8 0), .lit (.int .u8 0)], .agg [.lit (.int .u8 0), .lit (.int .u8 0)], .agg [.lit (.int .u8 0), .lit (.int .u8 0)], .agg [.lit (.int .u8 0), .lit (.int .u8 0)], .agg [.lit (.int .u8 0), .lit (.int .u8 0)]]
/-- One of Go's own tables, pinned by name: the form's constant. -/
def laid_unicode_utf8_first : DataW Unit := Go.Pinned.utf8First

/-- 'tabardlaw11.VtypeParts': WHATEVER THE INPUT: true; the input reads as it did. -/
def vtypePartsSpec : ChangeSpec := { name := "vtypeParts", fn := fun _ => fun
  | [d1, d2] => { results := [.lit (.bool true)], args := [d1, d2] }
  | _ => none }
def vtypePartsRow : OpenClaim := { program := "ytahjnaoabfkpcaadoor", sum := "3aff5db996f5ebc48434459412d2a23e92d1a871bbebeb5649254f4672411e46", func := "tabard/tabardlaw11.VtypeParts", spec := "vtypeParts", inPlace := ["internal/bytealg.IndexByteString", "internal/bytealg.IndexString"], unfollowed := true, recurses := true, named := ["unicode/utf8.first", "unicode/utf8.acceptRanges", "internal/bytealg.MaxLen"], apart := false, laid := [("unicode/utf8.acceptRanges", laid_unicode_utf8_acceptRanges), ("unicode/utf8.first", laid_unicode_utf8_first)] }
def VtypePartsSaid : Prop := vtypePartsRow.holds Tryd.pinned (OpenSpec.ofChange vtypePartsSpec)

/-- ITS FALSE NEIGHBOUR: 'it returns false'. Refute it at one input. -/
def vtypePartsWrong : ChangeSpec := { name := "vtypeParts", fn := fun _ => fun
  | [d1, d2] => { results := [.lit (.bool false)], args := [d1, d2] }
  | _ => none }
def VtypePartsWrongFalsely : Prop := vtypePartsRow.holds Tryd.pinned (OpenSpec.ofChange vtypePartsWrong)

/-- 'tabardlaw11.VtypeOrder': WHATEVER THE INPUT: true; the input reads as it did. -/
def vtypeOrderSpec : ChangeSpec := { name := "vtypeOrder", fn := fun _ => fun
  | [d] => { results := [.lit (.bool true)], args := [d] }
  | _ => none }
def vtypeOrderRow : OpenClaim := { program := "ytahjnaoabfkpcaadoor", sum := "3aff5db996f5ebc48434459412d2a23e92d1a871bbebeb5649254f4672411e46", func := "tabard/tabardlaw11.VtypeOrder", spec := "vtypeOrder", inPlace := ["internal/bytealg.IndexByteString", "internal/bytealg.IndexString"], unfollowed := true, recurses := true, named := ["unicode/utf8.first", "unicode/utf8.acceptRanges", "internal/bytealg.MaxLen"], apart := false, laid := [("unicode/utf8.acceptRanges", laid_unicode_utf8_acceptRanges), ("unicode/utf8.first", laid_unicode_utf8_first)] }
def VtypeOrderSaid : Prop := vtypeOrderRow.holds Tryd.pinned (OpenSpec.ofChange vtypeOrderSpec)

/-- ITS FALSE NEIGHBOUR: 'it returns false'. Refute it at one input. -/
def vtypeOrderWrong : ChangeSpec := { name := "vtypeOrder", fn := fun _ => fun
  | [d] => { results := [.lit (.bool false)], args := [d] }
  | _ => none }
def VtypeOrderWrongFalsely : Prop := vtypeOrderRow.holds Tryd.pinned (OpenSpec.ofChange vtypeOrderWrong)

/-- 'tabardlaw11.VtypeArrays': WHATEVER THE INPUT: true; the input reads as it did. -/
def vtypeArraysSpec : ChangeSpec := { name := "vtypeArrays", fn := fun _ => fun
  | [d] => { results := [.lit (.bool true)], args := [d] }
  | _ => none }
def vtypeArraysRow : OpenClaim := { program := "ytahjnaoabfkpcaadoor", sum := "3aff5db996f5ebc48434459412d2a23e92d1a871bbebeb5649254f4672411e46", func := "tabard/tabardlaw11.VtypeArrays", spec := "vtypeArrays", inPlace := ["internal/bytealg.IndexByteString", "internal/bytealg.IndexString"], unfollowed := true, recurses := true, named := ["unicode/utf8.first", "unicode/utf8.acceptRanges", "internal/bytealg.MaxLen"], apart := false, laid := [("unicode/utf8.acceptRanges", laid_unicode_utf8_acceptRanges), ("unicode/utf8.first", laid_unicode_utf8_first)] }
def VtypeArraysSaid : Prop := vtypeArraysRow.holds Tryd.pinned (OpenSpec.ofChange vtypeArraysSpec)

/-- ITS FALSE NEIGHBOUR: 'it returns false'. Refute it at one input. -/
def vtypeArraysWrong : ChangeSpec := { name := "vtypeArrays", fn := fun _ => fun
  | [d] => { results := [.lit (.bool false)], args := [d] }
  | _ => none }
def VtypeArraysWrongFalsely : Prop := vtypeArraysRow.holds Tryd.pinned (OpenSpec.ofChange vtypeArraysWrong)

/-- 'tabardlaw11.VtypeNone': WHATEVER THE INPUT: true; the input reads as it did. -/
def vtypeNoneSpec : ChangeSpec := { name := "vtypeNone", fn := fun _ => fun
  | [d] => { results := [.lit (.bool true)], args := [d] }
  | _ => none }
def vtypeNoneRow : OpenClaim := { program := "ytahjnaoabfkpcaadoor", sum := "3aff5db996f5ebc48434459412d2a23e92d1a871bbebeb5649254f4672411e46", func := "tabard/tabardlaw11.VtypeNone", spec := "vtypeNone", inPlace := ["internal/bytealg.IndexByteString", "internal/bytealg.IndexString"], unfollowed := true, recurses := true, named := ["unicode/utf8.first", "unicode/utf8.acceptRanges", "internal/bytealg.MaxLen"], apart := false, laid := [("unicode/utf8.acceptRanges", laid_unicode_utf8_acceptRanges), ("unicode/utf8.first", laid_unicode_utf8_first)] }
def VtypeNoneSaid : Prop := vtypeNoneRow.holds Tryd.pinned (OpenSpec.ofChange vtypeNoneSpec)

/-- ITS FALSE NEIGHBOUR: 'it returns false'. Refute it at one input. -/
def vtypeNoneWrong : ChangeSpec := { name := "vtypeNone", fn := fun _ => fun
  | [d] => { results := [.lit (.bool false)], args := [d] }
  | _ => none }
def VtypeNoneWrongFalsely : Prop := vtypeNoneRow.holds Tryd.pinned (OpenSpec.ofChange vtypeNoneWrong)

/- THE SECOND FORM. 'bulk': how many values and letters a reading holds, each counted each time it is reached (what is shared counts as often as it is met; a slice's spare places count too). A statement '..UptoSaid' is the law's where the arguments, and the package variables that the reading takes, are together of bulk at most 1048576: NARROWER than '..Said'. Prove '..Said' where nothing that the law and all that it calls make is longer than what came in: it says more and counts as full. Else prove '..UptoSaid'. A law counts once. -/
mutual
def uptoBulk {H : Type} : DataW H → Nat
  | .lit (.string bytes) => bytes.length + 1
  | .lit _ => 1
  | .nil => 1
  | .ptr d => uptoBulk d + 1
  | .slice elems spare => uptoBulkAll elems + uptoBulkAll spare + 1
  | .agg parts => uptoBulkAll parts + 1
  | .iface _ d => uptoBulk d + 1
  | .map entries => uptoBulkEntries entries + 1
  | .held _ => 1
def uptoBulkAll {H : Type} : List (DataW H) → Nat
  | [] => 0
  | d :: r => uptoBulk d + uptoBulkAll r
def uptoBulkEntries {H : Type} : List (Lit × DataW H) → Nat
  | [] => 0
  | x :: r => uptoBulkEntry x + uptoBulkEntries r
def uptoBulkEntry {H : Type} : Lit × DataW H → Nat
  | (.string bytes, d) => bytes.length + uptoBulk d + 1
  | (_, d) => uptoBulk d + 1
 end
def uptoSmall : (H : Type) → List (DataW H) → Bool := fun _ ds => decide (uptoBulkAll ds ≤ 1048576)
def OpenSpec.upto (s : _root_.Go.ChangeSpec) : _root_.Go.OpenSpec := { _root_.Go.OpenSpec.ofChange s with cond := some uptoSmall }

/-- 'tabardlaw11.VtypeParts', WHERE WHAT IT READS IS OF BULK AT MOST 1048576: true; the input reads as it did. -/
def vtypePartsUptoRow : OpenClaim := { program := "ytahjnaoabfkpcaadoor", sum := "3aff5db996f5ebc48434459412d2a23e92d1a871bbebeb5649254f4672411e46", func := "tabard/tabardlaw11.VtypeParts", spec := "vtypeParts", inPlace := ["internal/bytealg.IndexByteString", "internal/bytealg.IndexString"], unfollowed := true, recurses := true, named := ["unicode/utf8.first", "unicode/utf8.acceptRanges", "internal/bytealg.MaxLen"], apart := false, laid := [("unicode/utf8.acceptRanges", laid_unicode_utf8_acceptRanges), ("unicode/utf8.first", laid_unicode_utf8_first)], narrowed := true }
def VtypePartsUptoSaid : Prop := vtypePartsUptoRow.holds Tryd.pinned (OpenSpec.upto vtypePartsSpec)

/-- 'tabardlaw11.VtypeOrder', WHERE WHAT IT READS IS OF BULK AT MOST 1048576: true; the input reads as it did. -/
def vtypeOrderUptoRow : OpenClaim := { program := "ytahjnaoabfkpcaadoor", sum := "3aff5db996f5ebc48434459412d2a23e92d1a871bbebeb5649254f4672411e46", func := "tabard/tabardlaw11.VtypeOrder", spec := "vtypeOrder", inPlace := ["internal/bytealg.IndexByteString", "internal/bytealg.IndexString"], unfollowed := true, recurses := true, named := ["unicode/utf8.first", "unicode/utf8.acceptRanges", "internal/bytealg.MaxLen"], apart := false, laid := [("unicode/utf8.acceptRanges", laid_unicode_utf8_acceptRanges), ("unicode/utf8.first", laid_unicode_utf8_first)], narrowed := true }
def VtypeOrderUptoSaid : Prop := vtypeOrderUptoRow.holds Tryd.pinned (OpenSpec.upto vtypeOrderSpec)

/-- 'tabardlaw11.VtypeArrays', WHERE WHAT IT READS IS OF BULK AT MOST 1048576: true; the input reads as it did. -/
def vtypeArraysUptoRow : OpenClaim := { program := "ytahjnaoabfkpcaadoor", sum := "3aff5db996f5ebc48434459412d2a23e92d1a871bbebeb5649254f4672411e46", func := "tabard/tabardlaw11.VtypeArrays", spec := "vtypeArrays", inPlace := ["internal/bytealg.IndexByteString", "internal/bytealg.IndexString"], unfollowed := true, recurses := true, named := ["unicode/utf8.first", "unicode/utf8.acceptRanges", "internal/bytealg.MaxLen"], apart := false, laid := [("unicode/utf8.acceptRanges", laid_unicode_utf8_acceptRanges), ("unicode/utf8.first", laid_unicode_utf8_first)], narrowed := true }
def VtypeArraysUptoSaid : Prop := vtypeArraysUptoRow.holds Tryd.pinned (OpenSpec.upto vtypeArraysSpec)

/-- 'tabardlaw11.VtypeNone', WHERE WHAT IT READS IS OF BULK AT MOST 1048576: true; the input reads as it did. -/
def vtypeNoneUptoRow : OpenClaim := { program := "ytahjnaoabfkpcaadoor", sum := "3aff5db996f5ebc48434459412d2a23e92d1a871bbebeb5649254f4672411e46", func := "tabard/tabardlaw11.VtypeNone", spec := "vtypeNone", inPlace := ["internal/bytealg.IndexByteString", "internal/bytealg.IndexString"], unfollowed := true, recurses := true, named := ["unicode/utf8.first", "unicode/utf8.acceptRanges", "internal/bytealg.MaxLen"], apart := false, laid := [("unicode/utf8.acceptRanges", laid_unicode_utf8_acceptRanges), ("unicode/utf8.first", laid_unicode_utf8_first)], narrowed := true }
def VtypeNoneUptoSaid : Prop := vtypeNoneUptoRow.holds Tryd.pinned (OpenSpec.upto vtypeNoneSpec)

end Rows
end Go.Proofs.YtahjnaoabfkpcaaDoor
