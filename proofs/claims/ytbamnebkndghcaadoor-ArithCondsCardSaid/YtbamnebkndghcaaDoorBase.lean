/- What the cards of layer 5 share: the listed table of conditions, a world that holds it. -/
import Derived.Test.YtbamnebkndghcaaDoorFrame
import Derived.Test.YtbamnebkndghcaaDoorConds
import Derived.Test.YtbamnebkndghcaaDoorCards
import Derived.Test.YtbamnebkndghcaaDoorTie
import Derived.Deep.DeepHandedRow
import Derived.Lib.LaidU8
import Derived.Stop.LaidErr
namespace Go.Proofs.YtbamnebkndghcaaDoor
open Go.ChangeShapes Go.WideShapes Go.ChangeAt Go.RowKit

theorem own : ownKnob Tryd.prog.godebug = none := by kernel_rfl
theorem gCond : Tryd.prog.globalNamed "tabard/arith.conditions" = some 0 := by kernel_rfl
theorem tCond : (Tryd.prog.globals[0]?).map (·.type) = some 38 := by kernel_rfl
theorem cellsC : Tryd.prog.cellsOf 30 = 5 := by kernel_rfl
theorem cellsI : Tryd.prog.cellsOf 3 = 1 := by kernel_rfl
theorem cellsB : Tryd.prog.cellsOf 4 = 1 := by kernel_rfl
def cdLit (k : Nat) : List (DataW Unit) := [.lit (.bool (cd k).1), .lit (.bool (cd k).2.1), .lit (.bool (cd k).2.2.1), .lit (.int .i64 (cd k).2.2.2.1), .lit (.int .i64 (cd k).2.2.2.2)]
def condData : DataW Unit := .agg ((List.range 7).map fun k => .agg (cdLit k))
def laidL : List (String × DataW Unit) := [("tabard/arith.conditions", Rows.laid_tabard_arith_conditions)]
theorem laid_eq : laidL = [("tabard/arith.conditions", condData)] := by kernel_rfl
theorem tabs_of_laid {W : World} (h : laidMet Tryd.prog laidL W) : Tabs W := by
  rw [laid_eq] at h
  obtain ⟨g, t, cs, fuel, p, hg, hty, hvar, hd⟩ := Lib.laidMet.reads h (n := "tabard/arith.conditions") (d := condData) (by simp)
  obtain rfl := Option.some.inj (gCond.symm.trans hg)
  obtain rfl := Option.some.inj (tCond.symm.trans hty)
  have key : ∀ k, k < 7 → ∀ j, j < 5 → W.cell? ⟨0, k * 5 + j, none⟩ = some (cdCell k j) := by
    intro k hk j hj
    obtain ⟨fuel', d, q, hdi, he⟩ := Lib.array_elem Tryd.underlying38 hd k hk
    simp only [List.getElem?_map, List.getElem?_range hk, Option.map_some, Option.some.injEq] at hdi
    subst hdi
    rw [cellsC] at he
    obtain ⟨xs, n, rfl, hx, hl, hxl, hall⟩ := DataW.trod_struct Tryd.underlying30 he
    have hxs : xs.map (·.1) = cdLit k := by
      have := congrArg Prod.fst hx
      simpa using this.symm
    have hat : ∀ (v : Value), ((cs.toList.drop (k * 5)).take 5)[j]? = some v → W.cell? ⟨0, k * 5 + j, none⟩ = some v := by
      intro v hv
      rw [World.var?_cell hg hvar (k * 5 + j), ← Array.getElem?_toList]
      simpa [List.getElem?_take_of_lt hj, List.getElem?_drop] using hv
    refine hat _ ?_
    obtain ⟨b, hb⟩ : ∃ b, xs[j]? = some b := ⟨xs[j]'(by rw [hxl]; exact hj), List.getElem?_eq_getElem _⟩
    have hlit : (cdLit k)[j]? = some b.1 := by rw [← hxs]; simp [hb]
    match j, hj with
    | 0, _ =>
      have h1 := hall 0 _ rfl
      rw [hb] at h1
      obtain ⟨z, hc, rfl⟩ := DataW.trod_bool Tryd.underlying4 h1
      simp [cdLit] at hlit
      subst hlit
      have := congrArg (·[0]?) hc
      simpa [cellsB, List.getElem?_take, List.getElem?_drop, cdCell] using this
    | 1, _ =>
      have h1 := hall 1 _ rfl
      rw [hb] at h1
      obtain ⟨z, hc, rfl⟩ := DataW.trod_bool Tryd.underlying4 h1
      simp [cdLit] at hlit
      subst hlit
      have := congrArg (·[0]?) hc
      simpa [cellsB, List.getElem?_take, List.getElem?_drop, cdCell] using this
    | 2, _ =>
      have h1 := hall 2 _ rfl
      rw [hb] at h1
      obtain ⟨z, hc, rfl⟩ := DataW.trod_bool Tryd.underlying4 h1
      simp [cdLit] at hlit
      subst hlit
      have := congrArg (·[0]?) hc
      simpa [cellsB, List.getElem?_take, List.getElem?_drop, cdCell] using this
    | 3, _ =>
      have h1 := hall 3 _ rfl
      rw [hb] at h1
      obtain ⟨z, hc, rfl, _⟩ := DataW.trod_int Tryd.underlying3 h1
      simp [cdLit] at hlit
      subst hlit
      have := congrArg (·[0]?) hc
      simpa [cellsI, List.getElem?_take, List.getElem?_drop, cdCell] using this
    | 4, _ =>
      have h1 := hall 4 _ rfl
      rw [hb] at h1
      obtain ⟨z, hc, rfl, _⟩ := DataW.trod_int Tryd.underlying3 h1
      simp [cdLit] at hlit
      subst hlit
      have := congrArg (·[0]?) hc
      simpa [cellsI, List.getElem?_take, List.getElem?_drop, cdCell] using this
    | j + 5, hj => omega
  exact ⟨World.block_lt_of_cell? W _ (key 0 (by omega) 0 (by omega)), key⟩
/-- A block with other cells. -/
def putCells (cs : Array Value) : Obj → Obj
  | .cells _ t frozen => .cells cs t frozen
  | o => o
/-- A world that holds the table. -/
noncomputable def laidWorld (os : Os) : World :=
  { World.holding Tryd.prog os ⟨#[], #[], []⟩ with
    heap := (World.holding Tryd.prog os ⟨#[], #[], []⟩).heap.modify 0 (putCells ((List.range 7).flatMap fun k => (List.range 5).map fun j => cdCell k j).toArray) }
end Go.Proofs.YtbamnebkndghcaaDoor
