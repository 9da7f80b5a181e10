/-
  NARROWER THAN 'FOR EVERY INPUT', by the rows' own cells (each row's printed sentence says how): ClassfileDecodes: laid · ClassfileChecks: laid · ClassfileNames: laid · ClassfileMakes: laid · ClassfileSame: laid · ClassfileBack: laid · ClassfileGrows: laid · ClassfileOwn: laid.
  DERIVED. THE GIVEN ROWS OF THIS SEAT. 8 by the template 'for every input the law returns true; each argument reads behind the call as it read before'; 0 by the template 'total and deterministic' (their statements: YtnojgiflgmnjlaaGreatDoorTotals.lean).
  GIVEN WITH THE SEED: the statements are not yours to turn. If you find one false, say at which input.
  Laid BY PROGRAM, IN A SANDBOX (cutbox-rows.mjs): the forced cells as the released guide's own fill.sh prints them over the translation ca7d7a44887fec46… (all of the seat's roots in one cut). By AI agents, Wed Nov 11 2026. No macro, syntax, notation, axiom, sorry.
-/
import Derived.Test.YtnojgiflgmnjlaaGreatDoorChecked
import GoSem.PinnedTables
import GoSem.Claim
import GoSem.ClaimJoined
import GoSem.ClaimMapViews
import Derived.JoinedTies
import Derived.KernelRfl
namespace Go.Proofs.YtnojgiflgmnjlaaGreatDoor
/- THE CELL 'sum', in the pinned program and in every row, IS THE sha256 OF THE DUMP (.gsa) THAT YtnojgiflgmnjlaaGreatDoorProg.lean LOADS. Nothing in Lean hashes anything: it is a label: what it is worth is what the hold of that sum in a sandbox is worth. -/
noncomputable def Tryz.pinned : Pinned := { name := "ytnojgiflgmnjlaagreatdoor", sum := "ca7d7a44887fec46ab9a1dfb4ca943754e4ccb6fabeb866cb6085a2e6c16ad2a", checked := Tryz.checked }
namespace Rows
def none {H : Type} : Left H := { results := [], args := [] }

/- WHAT THE LISTED PACKAGE-LEVEL VARIABLES READ AS WHEN THE CALL BEGINS. Each datum BY PROGRAM (the guide's laid-datum.mjs) off the statement by which the dump's own 'gosem.cut.vars' lays the variable. In a bare row this is a premise. The card (YtnojgiflgmnjlaaGreatDoorCards.lean) ties it to the program's text. -/
def laid_unicode_utf8_acceptRanges {H : Type} : DataW H := .agg [.agg [.lit (.int .u8 128), .lit (.int .u8 191)], .agg [.lit (.int .u8 160), .lit (.int .u8 191)], .agg [.lit (.int .u8 128), .lit (.int .u8 159)], .agg [.lit (.int .u8 144), .lit (.int .u8 191)], .agg [.lit (.int .u8 128), .lit (.int .u8 143)], .agg [.lit (.int .u8 0), .lit (.int .u8 0)], .agg [.lit (.int .u8 0), .lit (.int .u8 0)], .agg [.lit (.int .u8 0), .lit (.int .u8 0)], .agg [.lit (.int .u8 0), .lit (.int .u8 0)], .agg [.lit (.int .u8 0), .lit (.int .u8 0)], .agg [.lit (.int .u8 0), .lit (.int .u8 0)], .agg [.lit (.int .u8 0), .lit (.int .u8 0)], .agg [.lit (.int .u8 0), .lit (.int .u8 0)], .agg [.lit (.int .u8 0), .lit (.int .u8 0)], .agg [.lit (.int .u8 0), .lit (.int .u8 0)], .agg [.lit (.int .u8 0), .lit (.int .u8 0)]]
def laid_tabard_cpool_tags {H : Type} : DataW H := .agg [.agg [.lit (.int .i64 0), .lit (.int .i64 0), .lit (.int .i64 0), .lit (.int .i64 0)], .agg [.lit (.int .i64 2), .lit (.int .i64 0), .lit (.int .i64 0), .lit (.int .i64 0)], .agg [.lit (.int .i64 0), .lit (.int .i64 0), .lit (.int .i64 0), .lit (.int .i64 0)], .agg [.lit (.int .i64 0), .lit (.int .i64 4), .lit (.int .i64 0), .lit (.int .i64 0)], .agg [.lit (.int .i64 0), .lit (.int .i64 0), .lit (.int .i64 0), .lit (.int .i64 0)], .agg [.lit (.int .i64 0), .lit (.int .i64 8), .lit (.int .i64 0), .lit (.int .i64 0)], .agg [.lit (.int .i64 0), .lit (.int .i64 0), .lit (.int .i64 0), .lit (.int .i64 0)], .agg [.lit (.int .i64 0), .lit (.int .i64 0), .lit (.int .i64 2), .lit (.int .i64 0)], .agg [.lit (.int .i64 0), .lit (.int .i64 0), .lit (.int .i64 0), .lit (.int .i64 0)], .agg [.lit (.int .i64 0), .lit (.int .i64 0), .lit (.int .i64 2), .lit (.int .i64 2)], .agg [.lit (.int .i64 0), .lit (.int .i64 0), .lit (.int .i64 2), .lit (.int .i64 2)], .agg [.lit (.int .i64 0), .lit (.int .i64 0), .lit (.int .i64 0), .lit (.int .i64 0)], .agg [.lit (.int .i64 0), .lit (.int .i64 0), .lit (.int .i64 2), .lit (.int .i64 2)]]
def laid_tabard_opcode_forms {H : Type} : DataW H := .agg [.lit (.int .u8 1), .lit (.int .u8 1), .lit (.int .u8 1), .lit (.int .u8 1), .lit (.int .u8 1), .lit (.int .u8 1), .lit (.int .u8 1), .lit (.int .u8 1), .lit (.int .u8 1), .lit (.int .u8 1), .lit (.int .u8 1), .lit (.int .u8 0), .lit (.int .u8 0), .lit (.int .u8 0), .lit (.int .u8 0), .lit (.int .u8 0), .lit (.int .u8 3), .lit (.int .u8 4), .lit (.int .u8 5), .lit (.int .u8 0), .lit (.int .u8 6), .lit (.int .u8 2), .lit (.int .u8 2), .lit (.int .u8 0), .lit (.int .u8 0), .lit (.int .u8 2), .lit (.int .u8 1), .lit (.int .u8 1), .lit (.int .u8 1), .lit (.int .u8 1), .lit (.int .u8 1), .lit (.int .u8 1), .lit (.int .u8 1), .lit (.int .u8 1), .lit (.int .u8 0), .lit (.int .u8 0), .lit (.int .u8 0), .lit (.int .u8 0), .lit (.int .u8 0), .lit (.int .u8 0), .lit (.int .u8 0), .lit (.int .u8 0), .lit (.int .u8 1), .lit (.int .u8 1), .lit (.int .u8 1), .lit (.int .u8 1), .lit (.int .u8 1), .lit (.int .u8 1), .lit (.int .u8 0), .lit (.int .u8 0), .lit (.int .u8 1), .lit (.int .u8 0), .lit (.int .u8 0), .lit (.int .u8 0), .lit (.int .u8 2), .lit (.int .u8 2), .lit (.int .u8 0), .lit (.int .u8 0), .lit (.int .u8 2), .lit (.int .u8 1), .lit (.int .u8 1), .lit (.int .u8 1), .lit (.int .u8 1), .lit (.int .u8 1), .lit (.int .u8 1), .lit (.int .u8 1), .lit (.int .u8 1), .lit (.int .u8 0), .lit (.int .u8 0), .lit (.int .u8 0), .lit (.int .u8 0), .lit (.int .u8 0), .lit (.int .u8 0), .lit (.int .u8 0), .lit (.int .u8 0), .lit (.int .u8 1), .lit (.int .u8 1), .lit (.int .u8 1), .lit (.int .u8 1), .lit (.int .u8 1), .lit (.int .u8 1), .lit (.int .u8 0), .lit (.int .u8 0), .lit (.int .u8 1), .lit (.int .u8 0), .lit (.int .u8 0), .lit (.int .u8 0), .lit (.int .u8 1), .lit (.int .u8 0), .lit (.int .u8 1), .lit (.int .u8 1), .lit (.int .u8 0), .lit (.int .u8 0), .lit (.int .u8 0), .lit (.int .u8 0), .lit (.int .u8 1), .lit (.int .u8 1), .lit (.int .u8 1), .lit (.int .u8 0), .lit (.int .u8 0), .lit (.int .u8 1), .lit (.int .u8 1), .lit (.int .u8 0), .lit (.int .u8 0), .lit (.int .u8 1), .lit (.int .u8 1), .lit (.int .u8 0), .lit (.int .u8 0), .lit (.int .u8 1), .lit (.int .u8 1), .lit (.int .u8 0), .lit (.int .u8 0), .lit (.int .u8 1), .lit (.int .u8 1), .lit (.int .u8 0), .lit (.int .u8 0), .lit (.int .u8 1), .lit (.int .u8 1), .lit (.int .u8 0), .lit (.int .u8 0), .lit (.int .u8 1), .lit (.int .u8 1), .lit (.int .u8 1), .lit (.int .u8 1), .lit (.int .u8 1), .lit (.int .u8 1), .lit (.int .u8 1), .lit (.int .u8 1), .lit (.int .u8 1), .lit (.int .u8 1), .lit (.int .u8 1), .lit (.int .u8 1), .lit (.int .u8 8), .lit (.int .u8 1), .lit (.int .u8 0), .lit (.int .u8 0), .lit (.int .u8 1), .lit (.int .u8 0), .lit (.int .u8 0), .lit (.int .u8 0), .lit (.int .u8 0), .lit (.int .u8 0), .lit (.int .u8 0), .lit (.int .u8 0), .lit (.int .u8 0), .lit (.int .u8 1), .lit (.int .u8 1), .lit (.int .u8 1), .lit (.int .u8 1), .lit (.int .u8 0), .lit (.int .u8 0), .lit (.int .u8 0), .lit (.int .u8 0), .lit (.int .u8 7), .lit (.int .u8 7), .lit (.int .u8 7), .lit (.int .u8 7), .lit (.int .u8 7), .lit (.int .u8 7), .lit (.int .u8 7), .lit (.int .u8 7), .lit (.int .u8 7), .lit (.int .u8 7), .lit (.int .u8 7), .lit (.int .u8 7), .lit (.int .u8 7), .lit (.int .u8 7), .lit (.int .u8 7), .lit (.int .u8 0), .lit (.int .u8 0), .lit (.int .u8 0), .lit (.int .u8 0), .lit (.int .u8 1), .lit (.int .u8 1), .lit (.int .u8 0), .lit (.int .u8 0), .lit (.int .u8 1), .lit (.int .u8 1), .lit (.int .u8 6), .lit (.int .u8 6), .lit (.int .u8 6), .lit (.int .u8 6), .lit (.int .u8 6), .lit (.int .u8 6), .lit (.int .u8 6), .lit (.int .u8 0), .lit (.int .u8 0), .lit (.int .u8 6), .lit (.int .u8 9), .lit (.int .u8 6), .lit (.int .u8 1), .lit (.int .u8 1), .lit (.int .u8 6), .lit (.int .u8 6), .lit (.int .u8 0), .lit (.int .u8 0), .lit (.int .u8 0), .lit (.int .u8 0), .lit (.int .u8 7), .lit (.int .u8 7)]
def laid_tabard_opcode_behind {H : Type} : DataW H := .agg [.lit (.int .u8 0), .lit (.int .u8 1), .lit (.int .u8 1), .lit (.int .u8 2), .lit (.int .u8 1), .lit (.int .u8 2), .lit (.int .u8 2), .lit (.int .u8 2), .lit (.int .u8 1)]
/-- One of Go's own tables, pinned by name: the form's constant. -/
def laid_unicode_utf8_first : DataW Unit := Go.Pinned.utf8First

/-- 'tabardlaw04.ClassfileDecodes': WHATEVER THE INPUT: true; the input reads as it did. -/
def classfileDecodesSpec : ChangeSpec := { name := "classfileDecodes", fn := fun _ => fun
  | [d] => { results := [.lit (.bool true)], args := [d] }
  | _ => none }
def classfileDecodesRow : OpenClaim := { program := "ytnojgiflgmnjlaagreatdoor", sum := "ca7d7a44887fec46ab9a1dfb4ca943754e4ccb6fabeb866cb6085a2e6c16ad2a", func := "tabard/tabardlaw04.ClassfileDecodes", spec := "classfileDecodes", inPlace := ["internal/bytealg.IndexByteString", "internal/bytealg.IndexString"], unfollowed := true, recurses := true, named := ["tabard/cpool.tags", "unicode/utf8.first", "unicode/utf8.acceptRanges", "internal/bytealg.MaxLen", "tabard/opcode.behind", "tabard/opcode.forms"], plainKeys := false, apart := false, laid := [("unicode/utf8.acceptRanges", laid_unicode_utf8_acceptRanges), ("tabard/cpool.tags", laid_tabard_cpool_tags), ("tabard/opcode.forms", laid_tabard_opcode_forms), ("tabard/opcode.behind", laid_tabard_opcode_behind), ("unicode/utf8.first", laid_unicode_utf8_first)] }
def ClassfileDecodesSaid : Prop := classfileDecodesRow.holds Tryz.pinned (OpenSpec.ofChange classfileDecodesSpec)

/-- ITS FALSE NEIGHBOUR: 'it returns false'. Refute it at one input. -/
def classfileDecodesWrong : ChangeSpec := { name := "classfileDecodes", fn := fun _ => fun
  | [d] => { results := [.lit (.bool false)], args := [d] }
  | _ => none }
def ClassfileDecodesWrongFalsely : Prop := classfileDecodesRow.holds Tryz.pinned (OpenSpec.ofChange classfileDecodesWrong)

/-- 'tabardlaw04.ClassfileChecks': WHATEVER THE INPUT: true; the input reads as it did. -/
def classfileChecksSpec : ChangeSpec := { name := "classfileChecks", fn := fun _ => fun
  | [d] => { results := [.lit (.bool true)], args := [d] }
  | _ => none }
def classfileChecksRow : OpenClaim := { program := "ytnojgiflgmnjlaagreatdoor", sum := "ca7d7a44887fec46ab9a1dfb4ca943754e4ccb6fabeb866cb6085a2e6c16ad2a", func := "tabard/tabardlaw04.ClassfileChecks", spec := "classfileChecks", inPlace := ["internal/bytealg.IndexByteString", "internal/bytealg.IndexString"], unfollowed := true, recurses := true, named := ["tabard/cpool.tags", "unicode/utf8.first", "unicode/utf8.acceptRanges", "internal/bytealg.MaxLen", "tabard/opcode.behind", "tabard/opcode.forms"], plainKeys := false, apart := false, laid := [("unicode/utf8.acceptRanges", laid_unicode_utf8_acceptRanges), ("tabard/cpool.tags", laid_tabard_cpool_tags), ("tabard/opcode.forms", laid_tabard_opcode_forms), ("tabard/opcode.behind", laid_tabard_opcode_behind), ("unicode/utf8.first", laid_unicode_utf8_first)] }
def ClassfileChecksSaid : Prop := classfileChecksRow.holds Tryz.pinned (OpenSpec.ofChange classfileChecksSpec)

/-- ITS FALSE NEIGHBOUR: 'it returns false'. Refute it at one input. -/
def classfileChecksWrong : ChangeSpec := { name := "classfileChecks", fn := fun _ => fun
  | [d] => { results := [.lit (.bool false)], args := [d] }
  | _ => none }
def ClassfileChecksWrongFalsely : Prop := classfileChecksRow.holds Tryz.pinned (OpenSpec.ofChange classfileChecksWrong)

/-- 'tabardlaw04.ClassfileNames': WHATEVER THE INPUT: true; the input reads as it did. -/
def classfileNamesSpec : ChangeSpec := { name := "classfileNames", fn := fun _ => fun
  | [d] => { results := [.lit (.bool true)], args := [d] }
  | _ => none }
def classfileNamesRow : OpenClaim := { program := "ytnojgiflgmnjlaagreatdoor", sum := "ca7d7a44887fec46ab9a1dfb4ca943754e4ccb6fabeb866cb6085a2e6c16ad2a", func := "tabard/tabardlaw04.ClassfileNames", spec := "classfileNames", inPlace := ["internal/bytealg.IndexByteString", "internal/bytealg.IndexString"], unfollowed := true, recurses := true, named := ["unicode/utf8.first", "unicode/utf8.acceptRanges", "internal/bytealg.MaxLen", "tabard/cpool.tags", "tabard/opcode.behind", "tabard/opcode.forms"], plainKeys := false, apart := false, laid := [("unicode/utf8.acceptRanges", laid_unicode_utf8_acceptRanges), ("tabard/cpool.tags", laid_tabard_cpool_tags), ("tabard/opcode.forms", laid_tabard_opcode_forms), ("tabard/opcode.behind", laid_tabard_opcode_behind), ("unicode/utf8.first", laid_unicode_utf8_first)] }
def ClassfileNamesSaid : Prop := classfileNamesRow.holds Tryz.pinned (OpenSpec.ofChange classfileNamesSpec)

/-- ITS FALSE NEIGHBOUR: 'it returns false'. Refute it at one input. -/
def classfileNamesWrong : ChangeSpec := { name := "classfileNames", fn := fun _ => fun
  | [d] => { results := [.lit (.bool false)], args := [d] }
  | _ => none }
def ClassfileNamesWrongFalsely : Prop := classfileNamesRow.holds Tryz.pinned (OpenSpec.ofChange classfileNamesWrong)

/-- 'tabardlaw04.ClassfileMakes': WHATEVER THE INPUT: true; the input reads as it did. -/
def classfileMakesSpec : ChangeSpec := { name := "classfileMakes", fn := fun _ => fun
  | [d1, d2, d3, d4, d5] => { results := [.lit (.bool true)], args := [d1, d2, d3, d4, d5] }
  | _ => none }
def classfileMakesRow : OpenClaim := { program := "ytnojgiflgmnjlaagreatdoor", sum := "ca7d7a44887fec46ab9a1dfb4ca943754e4ccb6fabeb866cb6085a2e6c16ad2a", func := "tabard/tabardlaw04.ClassfileMakes", spec := "classfileMakes", inPlace := ["internal/bytealg.IndexByteString", "internal/bytealg.IndexString"], unfollowed := true, recurses := true, named := ["tabard/cpool.tags", "unicode/utf8.first", "unicode/utf8.acceptRanges", "internal/bytealg.MaxLen", "tabard/opcode.behind", "tabard/opcode.forms"], plainKeys := false, apart := false, laid := [("unicode/utf8.acceptRanges", laid_unicode_utf8_acceptRanges), ("tabard/cpool.tags", laid_tabard_cpool_tags), ("tabard/opcode.forms", laid_tabard_opcode_forms), ("tabard/opcode.behind", laid_tabard_opcode_behind), ("unicode/utf8.first", laid_unicode_utf8_first)] }
def ClassfileMakesSaid : Prop := classfileMakesRow.holds Tryz.pinned (OpenSpec.ofChange classfileMakesSpec)

/-- ITS FALSE NEIGHBOUR: 'it returns false'. Refute it at one input. -/
def classfileMakesWrong : ChangeSpec := { name := "classfileMakes", fn := fun _ => fun
  | [d1, d2, d3, d4, d5] => { results := [.lit (.bool false)], args := [d1, d2, d3, d4, d5] }
  | _ => none }
def ClassfileMakesWrongFalsely : Prop := classfileMakesRow.holds Tryz.pinned (OpenSpec.ofChange classfileMakesWrong)

/-- 'tabardlaw04.ClassfileSame': WHATEVER THE INPUT: true; the input reads as it did. -/
def classfileSameSpec : ChangeSpec := { name := "classfileSame", fn := fun _ => fun
  | [d1, d2] => { results := [.lit (.bool true)], args := [d1, d2] }
  | _ => none }
def classfileSameRow : OpenClaim := { program := "ytnojgiflgmnjlaagreatdoor", sum := "ca7d7a44887fec46ab9a1dfb4ca943754e4ccb6fabeb866cb6085a2e6c16ad2a", func := "tabard/tabardlaw04.ClassfileSame", spec := "classfileSame", inPlace := ["internal/bytealg.IndexByteString", "internal/bytealg.IndexString"], unfollowed := true, recurses := true, named := ["unicode/utf8.first", "unicode/utf8.acceptRanges", "internal/bytealg.MaxLen", "tabard/cpool.tags", "tabard/opcode.behind", "tabard/opcode.forms"], plainKeys := false, apart := false, laid := [("unicode/utf8.acceptRanges", laid_unicode_utf8_acceptRanges), ("tabard/cpool.tags", laid_tabard_cpool_tags), ("tabard/opcode.forms", laid_tabard_opcode_forms), ("tabard/opcode.behind", laid_tabard_opcode_behind), ("unicode/utf8.first", laid_unicode_utf8_first)] }
def ClassfileSameSaid : Prop := classfileSameRow.holds Tryz.pinned (OpenSpec.ofChange classfileSameSpec)

/-- ITS FALSE NEIGHBOUR: 'it returns false'. Refute it at one input. -/
def classfileSameWrong : ChangeSpec := { name := "classfileSame", fn := fun _ => fun
  | [d1, d2] => { results := [.lit (.bool false)], args := [d1, d2] }
  | _ => none }
def ClassfileSameWrongFalsely : Prop := classfileSameRow.holds Tryz.pinned (OpenSpec.ofChange classfileSameWrong)

/-- 'tabardlaw04.ClassfileBack': WHATEVER THE INPUT: true; the input reads as it did. -/
def classfileBackSpec : ChangeSpec := { name := "classfileBack", fn := fun _ => fun
  | [d1, d2] => { results := [.lit (.bool true)], args := [d1, d2] }
  | _ => none }
def classfileBackRow : OpenClaim := { program := "ytnojgiflgmnjlaagreatdoor", sum := "ca7d7a44887fec46ab9a1dfb4ca943754e4ccb6fabeb866cb6085a2e6c16ad2a", func := "tabard/tabardlaw04.ClassfileBack", spec := "classfileBack", inPlace := ["internal/bytealg.IndexByteString", "internal/bytealg.IndexString"], unfollowed := true, recurses := true, named := ["unicode/utf8.first", "unicode/utf8.acceptRanges", "internal/bytealg.MaxLen", "tabard/cpool.tags", "tabard/opcode.behind", "tabard/opcode.forms"], plainKeys := false, apart := false, laid := [("unicode/utf8.acceptRanges", laid_unicode_utf8_acceptRanges), ("tabard/cpool.tags", laid_tabard_cpool_tags), ("tabard/opcode.forms", laid_tabard_opcode_forms), ("tabard/opcode.behind", laid_tabard_opcode_behind), ("unicode/utf8.first", laid_unicode_utf8_first)] }
def ClassfileBackSaid : Prop := classfileBackRow.holds Tryz.pinned (OpenSpec.ofChange classfileBackSpec)

/-- ITS FALSE NEIGHBOUR: 'it returns false'. Refute it at one input. -/
def classfileBackWrong : ChangeSpec := { name := "classfileBack", fn := fun _ => fun
  | [d1, d2] => { results := [.lit (.bool false)], args := [d1, d2] }
  | _ => none }
def ClassfileBackWrongFalsely : Prop := classfileBackRow.holds Tryz.pinned (OpenSpec.ofChange classfileBackWrong)

/-- 'tabardlaw04.ClassfileGrows': WHATEVER THE INPUT: true; the input reads as it did. -/
def classfileGrowsSpec : ChangeSpec := { name := "classfileGrows", fn := fun _ => fun
  | [d1, d2, d3, d4] => { results := [.lit (.bool true)], args := [d1, d2, d3, d4] }
  | _ => none }
def classfileGrowsRow : OpenClaim := { program := "ytnojgiflgmnjlaagreatdoor", sum := "ca7d7a44887fec46ab9a1dfb4ca943754e4ccb6fabeb866cb6085a2e6c16ad2a", func := "tabard/tabardlaw04.ClassfileGrows", spec := "classfileGrows", inPlace := ["internal/bytealg.IndexByteString", "internal/bytealg.IndexString"], unfollowed := true, recurses := true, named := ["unicode/utf8.first", "unicode/utf8.acceptRanges", "internal/bytealg.MaxLen", "tabard/cpool.tags", "tabard/opcode.behind", "tabard/opcode.forms"], plainKeys := false, apart := false, laid := [("unicode/utf8.acceptRanges", laid_unicode_utf8_acceptRanges), ("tabard/cpool.tags", laid_tabard_cpool_tags), ("tabard/opcode.forms", laid_tabard_opcode_forms), ("tabard/opcode.behind", laid_tabard_opcode_behind), ("unicode/utf8.first", laid_unicode_utf8_first)] }
def ClassfileGrowsSaid : Prop := classfileGrowsRow.holds Tryz.pinned (OpenSpec.ofChange classfileGrowsSpec)

/-- ITS FALSE NEIGHBOUR: 'it returns false'. Refute it at one input. -/
def classfileGrowsWrong : ChangeSpec := { name := "classfileGrows", fn := fun _ => fun
  | [d1, d2, d3, d4] => { results := [.lit (.bool false)], args := [d1, d2, d3, d4] }
  | _ => none }
def ClassfileGrowsWrongFalsely : Prop := classfileGrowsRow.holds Tryz.pinned (OpenSpec.ofChange classfileGrowsWrong)

/-- 'tabardlaw04.ClassfileOwn': WHATEVER THE INPUT: true; the input reads as it did. -/
def classfileOwnSpec : ChangeSpec := { name := "classfileOwn", fn := fun _ => fun
  | [d] => { results := [.lit (.bool true)], args := [d] }
  | _ => none }
def classfileOwnRow : OpenClaim := { program := "ytnojgiflgmnjlaagreatdoor", sum := "ca7d7a44887fec46ab9a1dfb4ca943754e4ccb6fabeb866cb6085a2e6c16ad2a", func := "tabard/tabardlaw04.ClassfileOwn", spec := "classfileOwn", inPlace := ["internal/bytealg.IndexByteString", "internal/bytealg.IndexString"], unfollowed := true, recurses := true, named := ["unicode/utf8.first", "unicode/utf8.acceptRanges", "internal/bytealg.MaxLen", "tabard/cpool.tags", "tabard/opcode.behind", "tabard/opcode.forms"], plainKeys := false, apart := false, laid := [("unicode/utf8.acceptRanges", laid_unicode_utf8_acceptRanges), ("tabard/cpool.tags", laid_tabard_cpool_tags), ("tabard/opcode.forms", laid_tabard_opcode_forms), ("tabard/opcode.behind", laid_tabard_opcode_behind), ("unicode/utf8.first", laid_unicode_utf8_first)] }
def ClassfileOwnSaid : Prop := classfileOwnRow.holds Tryz.pinned (OpenSpec.ofChange classfileOwnSpec)

/-- ITS FALSE NEIGHBOUR: 'it returns false'. Refute it at one input. -/
def classfileOwnWrong : ChangeSpec := { name := "classfileOwn", fn := fun _ => fun
  | [d] => { results := [.lit (.bool false)], args := [d] }
  | _ => none }
def ClassfileOwnWrongFalsely : Prop := classfileOwnRow.holds Tryz.pinned (OpenSpec.ofChange classfileOwnWrong)

/- THE SECOND FORM. 'bulk': how many values and letters a reading holds, each counted each time it is reached (what is shared counts as often as it is met; a slice's spare places count too). A statement '..UptoSaid' is the law's where the arguments, and the package variables that the reading takes, are together of bulk at most 1048576: NARROWER than '..Said'. Prove '..Said' where nothing that the law and all that it calls make is longer than what came in: it says more and counts as full. Else prove '..UptoSaid'. A law counts once. -/
mutual
def uptoBulk {H : Type} : DataW H → Nat
  | .lit (.string bytes) => bytes.length + 1
  | .lit _ => 1
  | .nil => 1
  | .ptr d => uptoBulk d + 1
  | .slice elems spare => uptoBulkAll elems + uptoBulkAll spare + 1
  | .agg parts => uptoBulkAll parts + 1
  | .iface _ d => uptoBulk d + 1
  | .map entries => uptoBulkEntries entries + 1
  | .held _ => 1
def uptoBulkAll {H : Type} : List (DataW H) → Nat
  | [] => 0
  | d :: r => uptoBulk d + uptoBulkAll r
def uptoBulkEntries {H : Type} : List (Lit × DataW H) → Nat
  | [] => 0
  | x :: r => uptoBulkEntry x + uptoBulkEntries r
def uptoBulkEntry {H : Type} : Lit × DataW H → Nat
  | (.string bytes, d) => bytes.length + uptoBulk d + 1
  | (_, d) => uptoBulk d + 1
 end
def uptoSmall : (H : Type) → List (DataW H) → Bool := fun _ ds => decide (uptoBulkAll ds ≤ 1048576)
def OpenSpec.upto (s : _root_.Go.ChangeSpec) : _root_.Go.OpenSpec := { _root_.Go.OpenSpec.ofChange s with cond := some uptoSmall }

/-- 'tabardlaw04.ClassfileDecodes', WHERE WHAT IT READS IS OF BULK AT MOST 1048576: true; the input reads as it did. -/
def classfileDecodesUptoRow : OpenClaim := { program := "ytnojgiflgmnjlaagreatdoor", sum := "ca7d7a44887fec46ab9a1dfb4ca943754e4ccb6fabeb866cb6085a2e6c16ad2a", func := "tabard/tabardlaw04.ClassfileDecodes", spec := "classfileDecodes", inPlace := ["internal/bytealg.IndexByteString", "internal/bytealg.IndexString"], unfollowed := true, recurses := true, named := ["tabard/cpool.tags", "unicode/utf8.first", "unicode/utf8.acceptRanges", "internal/bytealg.MaxLen", "tabard/opcode.behind", "tabard/opcode.forms"], plainKeys := false, apart := false, laid := [("unicode/utf8.acceptRanges", laid_unicode_utf8_acceptRanges), ("tabard/cpool.tags", laid_tabard_cpool_tags), ("tabard/opcode.forms", laid_tabard_opcode_forms), ("tabard/opcode.behind", laid_tabard_opcode_behind), ("unicode/utf8.first", laid_unicode_utf8_first)], narrowed := true }
def ClassfileDecodesUptoSaid : Prop := classfileDecodesUptoRow.holds Tryz.pinned (OpenSpec.upto classfileDecodesSpec)

/-- 'tabardlaw04.ClassfileChecks', WHERE WHAT IT READS IS OF BULK AT MOST 1048576: true; the input reads as it did. -/
def classfileChecksUptoRow : OpenClaim := { program := "ytnojgiflgmnjlaagreatdoor", sum := "ca7d7a44887fec46ab9a1dfb4ca943754e4ccb6fabeb866cb6085a2e6c16ad2a", func := "tabard/tabardlaw04.ClassfileChecks", spec := "classfileChecks", inPlace := ["internal/bytealg.IndexByteString", "internal/bytealg.IndexString"], unfollowed := true, recurses := true, named := ["tabard/cpool.tags", "unicode/utf8.first", "unicode/utf8.acceptRanges", "internal/bytealg.MaxLen", "tabard/opcode.behind", "tabard/opcode.forms"], plainKeys := false, apart := false, laid := [("unicode/utf8.acceptRanges", laid_unicode_utf8_acceptRanges), ("tabard/cpool.tags", laid_tabard_cpool_tags), ("tabard/opcode.forms", laid_tabard_opcode_forms), ("tabard/opcode.behind", laid_tabard_opcode_behind), ("unicode/utf8.first", laid_unicode_utf8_first)], narrowed := true }
def ClassfileChecksUptoSaid : Prop := classfileChecksUptoRow.holds Tryz.pinned (OpenSpec.upto classfileChecksSpec)

/-- 'tabardlaw04.ClassfileNames', WHERE WHAT IT READS IS OF BULK AT MOST 1048576: true; the input reads as it did. -/
def classfileNamesUptoRow : OpenClaim := { program := "ytnojgiflgmnjlaagreatdoor", sum := "ca7d7a44887fec46ab9a1dfb4ca943754e4ccb6fabeb866cb6085a2e6c16ad2a", func := "tabard/tabardlaw04.ClassfileNames", spec := "classfileNames", inPlace := ["internal/bytealg.IndexByteString", "internal/bytealg.IndexString"], unfollowed := true, recurses := true, named := ["unicode/utf8.first", "unicode/utf8.acceptRanges", "internal/bytealg.MaxLen", "tabard/cpool.tags", "tabard/opcode.behind", "tabard/opcode.forms"], plainKeys := false, apart := false, laid := [("unicode/utf8.acceptRanges", laid_unicode_utf8_acceptRanges), ("tabard/cpool.tags", laid_tabard_cpool_tags), ("tabard/opcode.forms", laid_tabard_opcode_forms), ("tabard/opcode.behind", laid_tabard_opcode_behind), ("unicode/utf8.first", laid_unicode_utf8_first)], narrowed := true }
def ClassfileNamesUptoSaid : Prop := classfileNamesUptoRow.holds Tryz.pinned (OpenSpec.upto classfileNamesSpec)

/-- 'tabardlaw04.ClassfileMakes', WHERE WHAT IT READS IS OF BULK AT MOST 1048576: true; the input reads as it did. -/
def classfileMakesUptoRow : OpenClaim := { program := "ytnojgiflgmnjlaagreatdoor", sum := "ca7d7a44887fec46ab9a1dfb4ca943754e4ccb6fabeb866cb6085a2e6c16ad2a", func := "tabard/tabardlaw04.ClassfileMakes", spec := "classfileMakes", inPlace := ["internal/bytealg.IndexByteString", "internal/bytealg.IndexString"], unfollowed := true, recurses := true, named := ["tabard/cpool.tags", "unicode/utf8.first", "unicode/utf8.acceptRanges", "internal/bytealg.MaxLen", "tabard/opcode.behind", "tabard/opcode.forms"], plainKeys := false, apart := false, laid := [("unicode/utf8.acceptRanges", laid_unicode_utf8_acceptRanges), ("tabard/cpool.tags", laid_tabard_cpool_tags), ("tabard/opcode.forms", laid_tabard_opcode_forms), ("tabard/opcode.behind", laid_tabard_opcode_behind), ("unicode/utf8.first", laid_unicode_utf8_first)], narrowed := true }
def ClassfileMakesUptoSaid : Prop := classfileMakesUptoRow.holds Tryz.pinned (OpenSpec.upto classfileMakesSpec)

/-- 'tabardlaw04.ClassfileSame', WHERE WHAT IT READS IS OF BULK AT MOST 1048576: true; the input reads as it did. -/
def classfileSameUptoRow : OpenClaim := { program := "ytnojgiflgmnjlaagreatdoor", sum := "ca7d7a44887fec46ab9a1dfb4ca943754e4ccb6fabeb866cb6085a2e6c16ad2a", func := "tabard/tabardlaw04.ClassfileSame", spec := "classfileSame", inPlace := ["internal/bytealg.IndexByteString", "internal/bytealg.IndexString"], unfollowed := true, recurses := true, named := ["unicode/utf8.first", "unicode/utf8.acceptRanges", "internal/bytealg.MaxLen", "tabard/cpool.tags", "tabard/opcode.behind", "tabard/opcode.forms"], plainKeys := false, apart := false, laid := [("unicode/utf8.acceptRanges", laid_unicode_utf8_acceptRanges), ("tabard/cpool.tags", laid_tabard_cpool_tags), ("tabard/opcode.forms", laid_tabard_opcode_forms), ("tabard/opcode.behind", laid_tabard_opcode_behind), ("unicode/utf8.first", laid_unicode_utf8_first)], narrowed := true }
def ClassfileSameUptoSaid : Prop := classfileSameUptoRow.holds Tryz.pinned (OpenSpec.upto classfileSameSpec)

/-- 'tabardlaw04.ClassfileBack', WHERE WHAT IT READS IS OF BULK AT MOST 1048576: true; the input reads as it did. -/
def classfileBackUptoRow : OpenClaim := { program := "ytnojgiflgmnjlaagreatdoor", sum := "ca7d7a44887fec46ab9a1dfb4ca943754e4ccb6fabeb866cb6085a2e6c16ad2a", func := "tabard/tabardlaw04.ClassfileBack", spec := "classfileBack", inPlace := ["internal/bytealg.IndexByteString", "internal/bytealg.IndexString"], unfollowed := true, recurses := true, named := ["unicode/utf8.first", "unicode/utf8.acceptRanges", "internal/bytealg.MaxLen", "tabard/cpool.tags", "tabard/opcode.behind", "tabard/opcode.forms"], plainKeys := false, apart := false, laid := [("unicode/utf8.acceptRanges", laid_unicode_utf8_acceptRanges), ("tabard/cpool.tags", laid_tabard_cpool_tags), ("tabard/opcode.forms", laid_tabard_opcode_forms), ("tabard/opcode.behind", laid_tabard_opcode_behind), ("unicode/utf8.first", laid_unicode_utf8_first)], narrowed := true }
def ClassfileBackUptoSaid : Prop := classfileBackUptoRow.holds Tryz.pinned (OpenSpec.upto classfileBackSpec)

/-- 'tabardlaw04.ClassfileGrows', WHERE WHAT IT READS IS OF BULK AT MOST 1048576: true; the input reads as it did. -/
def classfileGrowsUptoRow : OpenClaim := { program := "ytnojgiflgmnjlaagreatdoor", sum := "ca7d7a44887fec46ab9a1dfb4ca943754e4ccb6fabeb866cb6085a2e6c16ad2a", func := "tabard/tabardlaw04.ClassfileGrows", spec := "classfileGrows", inPlace := ["internal/bytealg.IndexByteString", "internal/bytealg.IndexString"], unfollowed := true, recurses := true, named := ["unicode/utf8.first", "unicode/utf8.acceptRanges", "internal/bytealg.MaxLen", "tabard/cpool.tags", "tabard/opcode.behind", "tabard/opcode.forms"], plainKeys := false, apart := false, laid := [("unicode/utf8.acceptRanges", laid_unicode_utf8_acceptRanges), ("tabard/cpool.tags", laid_tabard_cpool_tags), ("tabard/opcode.forms", laid_tabard_opcode_forms), ("tabard/opcode.behind", laid_tabard_opcode_behind), ("unicode/utf8.first", laid_unicode_utf8_first)], narrowed := true }
def ClassfileGrowsUptoSaid : Prop := classfileGrowsUptoRow.holds Tryz.pinned (OpenSpec.upto classfileGrowsSpec)

/-- 'tabardlaw04.ClassfileOwn', WHERE WHAT IT READS IS OF BULK AT MOST 1048576: true; the input reads as it did. -/
def classfileOwnUptoRow : OpenClaim := { program := "ytnojgiflgmnjlaagreatdoor", sum := "ca7d7a44887fec46ab9a1dfb4ca943754e4ccb6fabeb866cb6085a2e6c16ad2a", func := "tabard/tabardlaw04.ClassfileOwn", spec := "classfileOwn", inPlace := ["internal/bytealg.IndexByteString", "internal/bytealg.IndexString"], unfollowed := true, recurses := true, named := ["unicode/utf8.first", "unicode/utf8.acceptRanges", "internal/bytealg.MaxLen", "tabard/cpool.tags", "tabard/opcode.behind", "tabard/opcode.forms"], plainKeys := false, apart := false, laid := [("unicode/utf8.acceptRanges", laid_unicode_utf8_acceptRanges), ("tabard/cpool.tags", laid_tabard_cpool_tags), ("tabard/opcode.forms", laid_tabard_opcode_forms), ("tabard/opcode.behind", laid_tabard_opcode_behind), ("unicode/utf8.first", laid_unicode_utf8_first)], narrowed := true }
def ClassfileOwnUptoSaid : Prop := classfileOwnUptoRow.holds Tryz.pinned (OpenSpec.upto classfileOwnSpec)

end Rows
end Go.Proofs.YtnojgiflgmnjlaaGreatDoor
