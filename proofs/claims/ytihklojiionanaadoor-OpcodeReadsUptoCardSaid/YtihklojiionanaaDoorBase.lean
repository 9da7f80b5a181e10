/- What the cards of layer 1 share: the two listed tables, a world that holds them. -/
import Derived.Test.YtihklojiionanaaDoorFrame
import Derived.Test.YtihklojiionanaaDoorOpS
import Derived.Test.YtihklojiionanaaDoorCards
import Derived.Test.YtihklojiionanaaDoorTie
import Derived.Deep.DeepHandedRow
import Derived.Lib.LaidTab
import Derived.Stop.LaidErr
namespace Go.Proofs.YtihklojiionanaaDoor
open Go.ChangeShapes Go.WideShapes Go.ChangeAt Go.RowKit

theorem own : ownKnob Tryd.prog.godebug = none := by kernel_rfl
theorem gForms : Tryd.prog.globalNamed "tabard/opcode.forms" = some 0 := by kernel_rfl
theorem gBehind : Tryd.prog.globalNamed "tabard/opcode.behind" = some 1 := by kernel_rfl
theorem tForms : (Tryd.prog.globals[0]?).map (·.type) = some 59 := by kernel_rfl
theorem tBehind : (Tryd.prog.globals[1]?).map (·.type) = some 64 := by kernel_rfl
theorem cellsForms : Tryd.prog.cellsOf 59 = 200 := by kernel_rfl
theorem cellsBehind : Tryd.prog.cellsOf 64 = 9 := by kernel_rfl
theorem cellsByte : Tryd.prog.cellsOf 5 = 1 := by kernel_rfl
def formInts : List Int := Op1.forms.map fun n : Nat => (n : Int)
def behindInts : List Int := Op1.behinds.map fun n : Nat => (n : Int)
def laidL : List (String × DataW Unit) := [("tabard/opcode.forms", Rows.laid_tabard_opcode_forms), ("tabard/opcode.behind", Rows.laid_tabard_opcode_behind)]
theorem laid_eq : laidL = [("tabard/opcode.forms", Lib.tabData .u8 formInts), ("tabard/opcode.behind", Lib.tabData .u8 behindInts)] := by kernel_rfl
theorem tabs_of_laid {W : World} (h : laidMet Tryd.prog laidL W) : Tabs W := by
  rw [laid_eq] at h
  have h1 : Lib.TabIs Tryd.prog W "tabard/opcode.forms" .u8 formInts := Lib.tabIs_of_head gForms tForms Tryd.underlying59 Tryd.underlying5 cellsByte cellsForms h
  have h2 : Lib.TabIs Tryd.prog W "tabard/opcode.behind" .u8 behindInts := Lib.tabIs_of_head gBehind tBehind Tryd.underlying64 Tryd.underlying5 cellsByte cellsBehind h.tail
  have l1 : formInts.length = 200 := by kernel_rfl
  have l2 : behindInts.length = 9 := by kernel_rfl
  have c1 : ∀ k, k < 200 → W.cell? ⟨0, k, none⟩ = some (.int .u8 (Op1.forms.getD k 0 : Nat)) := fun k hk => by
    rw [h1.cell gForms k (by omega)]
    have : formInts.getD k 0 = ((Op1.forms.getD k 0 : Nat) : Int) := (show ∀ k, k < 200 → formInts.getD k 0 = ((Op1.forms.getD k 0 : Nat) : Int) by decide +kernel) k hk
    rw [this]
  have c2 : ∀ k, k < 9 → W.cell? ⟨1, k, none⟩ = some (.int .u8 (Op1.behinds.getD k 0 : Nat)) := fun k hk => by
    rw [h2.cell gBehind k (by omega)]
    have : behindInts.getD k 0 = ((Op1.behinds.getD k 0 : Nat) : Int) := (show ∀ k, k < 9 → behindInts.getD k 0 = ((Op1.behinds.getD k 0 : Nat) : Int) by decide +kernel) k hk
    rw [this]
  exact ⟨World.block_lt_of_cell? W _ (c2 0 (by omega)), c1, c2⟩
/-- A block with other cells. -/
def putCells (cs : Array Value) : Obj → Obj
  | .cells _ t frozen => .cells cs t frozen
  | o => o
/-- A world that holds the tables. -/
noncomputable def laidWorld (os : Os) : World :=
  { World.holding Tryd.prog os ⟨#[], #[], []⟩ with
    heap := ((World.holding Tryd.prog os ⟨#[], #[], []⟩).heap.modify 0 (putCells (formInts.map fun z => Value.int .u8 z).toArray)).modify 1 (putCells (behindInts.map fun z => Value.int .u8 z).toArray) }
end Go.Proofs.YtihklojiionanaaDoor
