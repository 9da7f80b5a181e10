/- The two tables, made: one run each. -/
import Derived.Test.YtihklojiionanaaDoorKit
import Derived.Test.YtihklojiionanaaDoorOpM
import Derived.Test.YtihklojiionanaaDoorChecked
import Derived.Deep.WholeRow
namespace Go.Proofs.YtihklojiionanaaDoor
open Go.RowKit

def rowCells : List (Nat × List UInt8 × Nat) → List Value
  | [] => []
  | r :: l => .int .i64 (r.1 : Int) :: .string ⟨r.2.1.toArray⟩ :: .int .i64 (r.2.2 : Int) :: rowCells l
def nameVals : List (List UInt8) → List Value
  | [] => []
  | r :: l => .string ⟨r.toArray⟩ :: nameVals l
def tableObj : Obj := .cells (rowCells Op1.rows).toArray 61
def namesVal : Value := .agg (nameVals Op1.names).toArray

theorem table_run (w : World) : Kit.runF Tryd.prog 400 42 #[] w = some (.slice (some ⟨w.heap.size, 0, none⟩) 121 121, w.alloc tableObj) := by kernel_rfl
theorem table_any (w : World) : Calls Tryd.prog 42 #[] w fun e w' => e = .returned (.slice (some ⟨w.heap.size, 0, none⟩) 121 121) ∧ w' = w.alloc tableObj :=
  Kit.calls_run 400 (table_run w)

def zeroCells : Array Value := (List.replicate 200 (Value.string ⟨#[]⟩)).toArray
set_option maxRecDepth 100000 in
theorem names_any (w : World) : Calls Tryd.prog 41 #[] w fun e w' => e = .returned namesVal ∧ w' = w.alloc (.cells (nameVals Op1.names).toArray 66) := by
  refine calls_of_wp Tryd.func41 rfl ?_
  refine wp_seq (wp_region_list ?_)
  refine Kit.wpList_value (.pointer (some ⟨w.heap.size, 0, none⟩)) (w.alloc (.cells zeroCells 66)) rfl (by kernel_rfl) ?_
  refine wpList_nil ?_
  refine wp_seq (wp_region_list ?_)
  refine Kit.wpList_value namesVal (w.alloc (.cells zeroCells 66)) rfl (by kernel_rfl) ?_
  refine wpList_store_row rfl 66 (.tmp 0) (.tmp 1) rfl w.heap.size (nameVals Op1.names).toArray rfl rfl 66 zeroCells (heap_alloc_last w _) (by kernel_rfl) (by kernel_rfl) (by kernel_rfl) ?_
  rw [World.setRow_alloc_new]
  refine wpList_nil ?_
  refine wp_ret ⟨rfl, namesVal, ?_, rfl, rfl⟩
  exact results_cell_row (p := 0) (ty := 66) rfl _ _ w.heap.size 66 _ (0, 0) (.array 200 9) rfl (heap_alloc_last w _) (by kernel_rfl) rfl (by kernel_rfl)
end Go.Proofs.YtihklojiionanaaDoor
