/- Opening of a type that is handed in. -/
import Derived.Test.YthhjenmgcbmphaaDoorSl
import Derived.ProofKit
import Derived.OpenShut
namespace Go.Proofs.YthhjenmgcbmphaaDoor
open Go.ChangeShapes Go.WideShapes Go.ChangeAt Go.RowKit Go.WideMaps Go.WideElems

section
variable {H : Type} {enc : TypeId × Value → H}
theorem weights_eachT {P : Program} : ∀ {ts : List TypeId} {ds : List (DataW H)} {j : Nat} {t : TypeId} {d : DataW H}, ts[j]? = some t → ds[j]? = some d → (DataW.weightsEach P ts ds).all (· ≤ reachBytes) = true → (d.weights P t).all (· ≤ reachBytes) = true
  | [], _, _, _, _, h, _, _ => by simp at h
  | _ :: _, [], _, _, _, _, h, _ => by simp at h
  | t :: ts, d :: ds, 0, _, _, h1, h2, h => by
    simp only [List.getElem?_cons_zero, Option.some.injEq] at h1 h2
    subst h1 h2
    simp only [DataW.weightsEach, List.all_append, Bool.and_eq_true] at h
    exact h.1
  | t :: ts, d :: ds, j + 1, _, _, h1, h2, h => by
    simp only [DataW.weightsEach, List.all_append, Bool.and_eq_true] at h
    exact weights_eachT (j := j) (by simpa using h1) (by simpa using h2) h.2
theorem A.cellsTy : Tryd.prog.cellsOf 23 = 2 := by kernel_rfl
theorem A.cellsInt : Tryd.prog.cellsOf 3 = 1 := by kernel_rfl
theorem A.cellsStr : Tryd.prog.cellsOf 9 = 1 := by kernel_rfl
theorem open_ty {W : World} {base : Nat} {sp : Nat → Bool} {v : Value} {d : DataW H} {p : List MemPlace} (hv : Value.okWide Tryd.prog W .any base 23 v) (h : DataW.Trod enc Tryd.prog W 0 sp true 23 v d p) (hw : (d.weights Tryd.prog 23).all (· ≤ reachBytes) = true) :
    ∃ (k : Int) (m : ByteArray), v = .agg #[.int .i64 k, .string m] ∧ (Lit.int .i64 k).wf = true ∧ m.size ≤ 140737488351232 := by
  obtain ⟨cs, rfl, hsz⟩ := okWide_struct Tryd.underlying23 hv
  rw [A.cellsTy] at hsz
  obtain ⟨l⟩ := cs
  match l, hsz with
  | [c0, c1], _ =>
  obtain ⟨fuel, hf⟩ := h
  obtain ⟨y0, y1, n, hx, _, hy0, hy1⟩ := trod_struct2 Tryd.underlying23 hf
  obtain ⟨a, e0, rfl, wa⟩ := DataW.trod_int Tryd.underlying3 hy0
  obtain ⟨b, e1, rfl, wb⟩ := DataW.trod_string Tryd.underlying9 hy1
  simp [Value.cells, A.cellsInt, A.cellsStr] at e0 e1
  subst e0 e1
  simp only [Prod.mk.injEq] at hx
  obtain ⟨rfl, rfl⟩ := hx
  refine ⟨a, b, rfl, wa, ?_⟩
  simp [DataW.weights, Tryd.underlying23, DataW.weightsEach, reachBytes] at hw
  exact of_decide_eq_true hw
end
end Go.Proofs.YthhjenmgcbmphaaDoor
