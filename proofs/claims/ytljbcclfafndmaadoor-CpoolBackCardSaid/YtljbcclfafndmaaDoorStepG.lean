/- Own kit: a guarded call as a step of a region that draws its order. -/
import Derived.Test.YtljbcclfafndmaaDoorStep
namespace Go.Proofs.YtljbcclfafndmaaDoor.Kit
open Go Go.RowKit

theorem step_call2g {P : Program} {ops : Array Oper} {o : Oper} {a : Act} {w : World} {K : Act → World → Prop} {Q : Exit → Act → World → Prop} {E : Prop}
    (hw : Region.wanted o (yielded ops a.tmps) = true) (f : FuncId) (x y : Operand) (t t' : TypeId) (hop : o.op = Op.call { callee := Callee.value (.func f), args := #[x, y], argTypes := #[t, t'] }) (v v' : Value) (hx : a.eval x = v) (hy : a.eval y = v') (hcf : (callFunc f #[v, v']).run P w = .ok (.enter f #[v, v']) w)
    (R : Ending → World → Prop) (hC : Calls P f #[v, v'] w R) (hR : ∀ e w', R e w' → ∃ u, e = .returned u ∧ K (a.put o.dst u) w') :
    if Region.wanted o (yielded ops a.tmps) = true then Oper.wp P o a w K Q else E := by
  rw [if_pos hw]
  have hrun : (execOp a.eval o).run P w = .ok (.enter f #[v, v']) w := by
    cases o
    simp only at hop
    subst hop hx hy
    rw [execOp_call_go]
    simpa using hcf
  unfold Oper.wp
  rw [hrun]
  show Calls P f #[v, v'] w _
  refine hC.mono ?_
  intro e w' h
  obtain ⟨u, rfl, hk⟩ := hR e w' h
  exact hk
end Go.Proofs.YtljbcclfafndmaaDoor.Kit
