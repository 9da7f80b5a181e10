/- Own kit: laws of single operations that the walk lacks. -/
import Derived.WalkKit
namespace Go.Proofs.YtihklojiionanaaDoor.Kit
open Go
section
variable {P : Program}
/-- A place of an array by value, of one cell. -/
theorem run_index_array {t e : TypeId} {n : Nat} {cs : Array Value} {k : IntKind} {i : Nat} {v : Value} {d : TypeDesc} (h : P.underlying t = some (.array n e)) (hi : i < n)
    (hd : P.underlying e = some d) (hagg : (match d with | .struct _ | .array _ _ => true | _ => false) = false) (hs : (P.info? e).map (·.size) = some 1) (hv : cs[i]? = some v) (w : World) :
    (Instr.index t (.agg cs) (.int k i)).run P w = .ok v w := by
  have ha : (isAgg e).run P w = .ok false w := by
    unfold isAgg
    rw [Sem.run_bind, run_underlying hd w]
    cases d <;> simp_all
  cases hq : P.info? e with
  | none => simp [hq] at hs
  | some inf =>
    have hsz : inf.size = 1 := by simpa [hq] using hs
    simp [Instr.index, run_underlying h, asIntOf, hi, part, Sem.run_bind, ha, sizeOf, typeInfo, hq, hsz, hv]
end
end Go.Proofs.YtihklojiionanaaDoor.Kit
