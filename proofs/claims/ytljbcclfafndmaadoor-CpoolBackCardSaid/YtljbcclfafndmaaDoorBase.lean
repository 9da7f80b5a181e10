/- What the cards of layer 3 share: the listed table of widths, a world that holds it. -/
import Derived.Test.YtljbcclfafndmaaDoorFrame
import Derived.Test.YtljbcclfafndmaaDoorDd
import Derived.Test.YtljbcclfafndmaaDoorCards
import Derived.Test.YtljbcclfafndmaaDoorTie
import Derived.Deep.DeepHandedRow
import Derived.Lib.LaidU8
import Derived.Stop.LaidErr
namespace Go.Proofs.YtljbcclfafndmaaDoor
open Go.ChangeShapes Go.WideShapes Go.ChangeAt Go.RowKit

theorem own : ownKnob Tryd.prog.godebug = none := by kernel_rfl
theorem gTags : Tryd.prog.globalNamed "tabard/cpool.tags" = some 0 := by kernel_rfl
theorem tTags : (Tryd.prog.globals[0]?).map (·.type) = some 92 := by kernel_rfl
theorem cellsW : Tryd.prog.cellsOf 86 = 4 := by kernel_rfl
theorem cellsI : Tryd.prog.cellsOf 3 = 1 := by kernel_rfl
def wdI (k : Nat) : List Int := [((Cp.wd k).1 : Int), (Cp.wd k).2.1, (Cp.wd k).2.2.1, (Cp.wd k).2.2.2]
def tagData : DataW Unit := .agg ((List.range 13).map fun k => .agg ((wdI k).map fun z => .lit (.int .i64 z)))
def laidL : List (String × DataW Unit) := [("tabard/cpool.tags", Rows.laid_tabard_cpool_tags)]
theorem laid_eq : laidL = [("tabard/cpool.tags", tagData)] := by kernel_rfl
theorem tabs_of_laid {W : World} (h : laidMet Tryd.prog laidL W) : Tabs W := by
  rw [laid_eq] at h
  obtain ⟨g, t, cs, fuel, p, hg, hty, hvar, hd⟩ := Lib.laidMet.reads h (n := "tabard/cpool.tags") (d := tagData) (by simp)
  obtain rfl := Option.some.inj (gTags.symm.trans hg)
  obtain rfl := Option.some.inj (tTags.symm.trans hty)
  have key : ∀ k, k < 13 → ∀ j z, (wdI k)[j]? = some z → W.cell? ⟨0, k * 4 + j, none⟩ = some (.int .i64 z) := by
    intro k hk j z hz
    obtain ⟨fuel', d, q, hdi, he⟩ := Lib.array_elem Tryd.underlying92 hd k hk
    simp only [List.getElem?_map, List.getElem?_range hk, Option.map_some, Option.some.injEq] at hdi
    subst hdi
    rw [cellsW] at he
    have hcs := Lib.ints_of_struct Tryd.underlying86 (fun j f hj => by
      match j, hj with
      | 0, hj => simp at hj; subst hj; exact ⟨Tryd.underlying3, rfl, cellsI⟩
      | 1, hj => simp at hj; subst hj; exact ⟨Tryd.underlying3, rfl, cellsI⟩
      | 2, hj => simp at hj; subst hj; exact ⟨Tryd.underlying3, rfl, cellsI⟩
      | 3, hj => simp at hj; subst hj; exact ⟨Tryd.underlying3, rfl, cellsI⟩
      | j + 4, hj => simp at hj) (by rw [cellsW]; rfl) he
    have hj4 : j < 4 := by rw [List.getElem?_eq_some_iff] at hz; exact hz.1
    have e0 := congrArg (·[j]?) hcs
    simp only [List.getElem?_take_of_lt hj4, List.getElem?_drop, List.getElem?_map, hz, Option.map_some] at e0
    rw [World.var?_cell hg hvar (k * 4 + j), ← Array.getElem?_toList]
    exact e0
  refine ⟨World.block_lt_of_cell? W _ (key 0 (by omega) 0 _ rfl), fun k hk => ⟨?_, ?_, ?_, ?_⟩⟩
  · exact key k hk 0 _ rfl
  · exact key k hk 1 _ rfl
  · exact key k hk 2 _ rfl
  · exact key k hk 3 _ rfl
/-- A block with other cells. -/
def putCells (cs : Array Value) : Obj → Obj
  | .cells _ t frozen => .cells cs t frozen
  | o => o
/-- A world that holds the table. -/
noncomputable def laidWorld (os : Os) : World :=
  { World.holding Tryd.prog os ⟨#[], #[], []⟩ with
    heap := (World.holding Tryd.prog os ⟨#[], #[], []⟩).heap.modify 0 (putCells ((List.range 13).flatMap fun k => (wdI k).map fun z => Value.int .i64 z).toArray) }
end Go.Proofs.YtljbcclfafndmaaDoor
