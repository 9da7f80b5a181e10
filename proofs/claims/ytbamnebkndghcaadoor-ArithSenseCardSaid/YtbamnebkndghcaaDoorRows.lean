/-
  NARROWER THAN 'FOR EVERY INPUT', by the rows' own cells (each row's printed sentence says how): ArithConds: laid · ArithSense: laid.
  DERIVED. THE GIVEN ROWS OF THIS SEAT. 2 by the template 'for every input the law returns true; each argument reads behind the call as it read before'; 0 by the template 'total and deterministic' (their statements: YtbamnebkndghcaaDoorTotals.lean).
  GIVEN WITH THE SEED: the statements are not yours to turn. If you find one false, say at which input.
  Laid BY PROGRAM, IN A SANDBOX (cutbox-rows.mjs): the forced cells as the released guide's own fill.sh prints them over the translation c675b04294632109… (all of the seat's roots in one cut). By AI agents, Wed Nov 11 2026. No macro, syntax, notation, axiom, sorry.
-/
import Derived.Test.YtbamnebkndghcaaDoorChecked
import GoSem.Claim
import GoSem.ClaimJoined
import GoSem.ClaimMapViews
import Derived.JoinedTies
import Derived.KernelRfl
namespace Go.Proofs.YtbamnebkndghcaaDoor
/- THE CELL 'sum', in the pinned program and in every row, IS THE sha256 OF THE DUMP (.gsa) THAT YtbamnebkndghcaaDoorProg.lean LOADS. Nothing in Lean hashes anything: it is a label: what it is worth is what the hold of that sum in a sandbox is worth. -/
noncomputable def Tryd.pinned : Pinned := { name := "ytbamnebkndghcaadoor", sum := "c675b042946321091d83c2f8168aca690cd9da613ceb37d43df3b9a2431c9a98", checked := Tryd.checked }
namespace Rows
def none {H : Type} : Left H := { results := [], args := [] }

/- WHAT THE LISTED PACKAGE-LEVEL VARIABLES READ AS WHEN THE CALL BEGINS. Each datum BY PROGRAM (the guide's laid-datum.mjs) off the statement by which the dump's own 'gosem.cut.vars' lays the variable. In a bare row this is a premise. The card (YtbamnebkndghcaaDoorCards.lean) ties it to the program's text. -/
def laid_tabard_arith_conditions {H : Type} : DataW H := .agg [.agg [.lit (.bool false), .lit (.bool false), .lit (.bool false), .lit (.int .i64 0), .lit (.int .i64 0)], .agg [.lit (.bool false), .lit (.bool true), .lit (.bool false), .lit (.int .i64 2), .lit (.int .i64 1)], .agg [.lit (.bool true), .lit (.bool false), .lit (.bool true), .lit (.int .i64 1), .lit (.int .i64 2)], .agg [.lit (.bool true), .lit (.bool false), .lit (.bool false), .lit (.int .i64 4), .lit (.int .i64 5)], .agg [.lit (.bool false), .lit (.bool true), .lit (.bool true), .lit (.int .i64 3), .lit (.int .i64 6)], .agg [.lit (.bool false), .lit (.bool false), .lit (.bool true), .lit (.int .i64 6), .lit (.int .i64 3)], .agg [.lit (.bool true), .lit (.bool true), .lit (.bool false), .lit (.int .i64 5), .lit (.int .i64 4)]]

/-- 'tabardlaw05.ArithConds': WHATEVER THE INPUT: true; the input reads as it did. -/
def arithCondsSpec : ChangeSpec := { name := "arithConds", fn := fun _ => fun
  | [d1, d2, d3] => { results := [.lit (.bool true)], args := [d1, d2, d3] }
  | _ => none }
def arithCondsRow : OpenClaim := { program := "ytbamnebkndghcaadoor", sum := "c675b042946321091d83c2f8168aca690cd9da613ceb37d43df3b9a2431c9a98", func := "tabard/tabardlaw05.ArithConds", spec := "arithConds", named := ["tabard/arith.conditions"], apart := false, laid := [("tabard/arith.conditions", laid_tabard_arith_conditions)] }
def ArithCondsSaid : Prop := arithCondsRow.holds Tryd.pinned (OpenSpec.ofChange arithCondsSpec)

/-- ITS FALSE NEIGHBOUR: 'it returns false'. Refute it at one input. -/
def arithCondsWrong : ChangeSpec := { name := "arithConds", fn := fun _ => fun
  | [d1, d2, d3] => { results := [.lit (.bool false)], args := [d1, d2, d3] }
  | _ => none }
def ArithCondsWrongFalsely : Prop := arithCondsRow.holds Tryd.pinned (OpenSpec.ofChange arithCondsWrong)

/-- 'tabardlaw05.ArithSense': WHATEVER THE INPUT: true; the input reads as it did. -/
def arithSenseSpec : ChangeSpec := { name := "arithSense", fn := fun _ => fun
  | [d1, d2, d3] => { results := [.lit (.bool true)], args := [d1, d2, d3] }
  | _ => none }
def arithSenseRow : OpenClaim := { program := "ytbamnebkndghcaadoor", sum := "c675b042946321091d83c2f8168aca690cd9da613ceb37d43df3b9a2431c9a98", func := "tabard/tabardlaw05.ArithSense", spec := "arithSense", named := ["tabard/arith.conditions"], apart := false, laid := [("tabard/arith.conditions", laid_tabard_arith_conditions)] }
def ArithSenseSaid : Prop := arithSenseRow.holds Tryd.pinned (OpenSpec.ofChange arithSenseSpec)

/-- ITS FALSE NEIGHBOUR: 'it returns false'. Refute it at one input. -/
def arithSenseWrong : ChangeSpec := { name := "arithSense", fn := fun _ => fun
  | [d1, d2, d3] => { results := [.lit (.bool false)], args := [d1, d2, d3] }
  | _ => none }
def ArithSenseWrongFalsely : Prop := arithSenseRow.holds Tryd.pinned (OpenSpec.ofChange arithSenseWrong)

/- THE SECOND FORM. 'bulk': how many values and letters a reading holds, each counted each time it is reached (what is shared counts as often as it is met; a slice's spare places count too). A statement '..UptoSaid' is the law's where the arguments, and the package variables that the reading takes, are together of bulk at most 1048576: NARROWER than '..Said'. Prove '..Said' where nothing that the law and all that it calls make is longer than what came in: it says more and counts as full. Else prove '..UptoSaid'. A law counts once. -/
mutual
def uptoBulk {H : Type} : DataW H → Nat
  | .lit (.string bytes) => bytes.length + 1
  | .lit _ => 1
  | .nil => 1
  | .ptr d => uptoBulk d + 1
  | .slice elems spare => uptoBulkAll elems + uptoBulkAll spare + 1
  | .agg parts => uptoBulkAll parts + 1
  | .iface _ d => uptoBulk d + 1
  | .map entries => uptoBulkEntries entries + 1
  | .held _ => 1
def uptoBulkAll {H : Type} : List (DataW H) → Nat
  | [] => 0
  | d :: r => uptoBulk d + uptoBulkAll r
def uptoBulkEntries {H : Type} : List (Lit × DataW H) → Nat
  | [] => 0
  | x :: r => uptoBulkEntry x + uptoBulkEntries r
def uptoBulkEntry {H : Type} : Lit × DataW H → Nat
  | (.string bytes, d) => bytes.length + uptoBulk d + 1
  | (_, d) => uptoBulk d + 1
 end
def uptoSmall : (H : Type) → List (DataW H) → Bool := fun _ ds => decide (uptoBulkAll ds ≤ 1048576)
def OpenSpec.upto (s : _root_.Go.ChangeSpec) : _root_.Go.OpenSpec := { _root_.Go.OpenSpec.ofChange s with cond := some uptoSmall }

/-- 'tabardlaw05.ArithConds', WHERE WHAT IT READS IS OF BULK AT MOST 1048576: true; the input reads as it did. -/
def arithCondsUptoRow : OpenClaim := { program := "ytbamnebkndghcaadoor", sum := "c675b042946321091d83c2f8168aca690cd9da613ceb37d43df3b9a2431c9a98", func := "tabard/tabardlaw05.ArithConds", spec := "arithConds", named := ["tabard/arith.conditions"], apart := false, laid := [("tabard/arith.conditions", laid_tabard_arith_conditions)], narrowed := true }
def ArithCondsUptoSaid : Prop := arithCondsUptoRow.holds Tryd.pinned (OpenSpec.upto arithCondsSpec)

/-- 'tabardlaw05.ArithSense', WHERE WHAT IT READS IS OF BULK AT MOST 1048576: true; the input reads as it did. -/
def arithSenseUptoRow : OpenClaim := { program := "ytbamnebkndghcaadoor", sum := "c675b042946321091d83c2f8168aca690cd9da613ceb37d43df3b9a2431c9a98", func := "tabard/tabardlaw05.ArithSense", spec := "arithSense", named := ["tabard/arith.conditions"], apart := false, laid := [("tabard/arith.conditions", laid_tabard_arith_conditions)], narrowed := true }
def ArithSenseUptoSaid : Prop := arithSenseUptoRow.holds Tryd.pinned (OpenSpec.upto arithSenseSpec)

end Rows
end Go.Proofs.YtbamnebkndghcaaDoor
