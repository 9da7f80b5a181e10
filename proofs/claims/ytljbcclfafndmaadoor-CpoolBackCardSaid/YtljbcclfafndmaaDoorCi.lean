/- Contracts of attempt: what catches the panic; Take. -/
import Derived.Test.YtljbcclfafndmaaDoorCh
import Derived.Recover
import Derived.Defers
import Derived.BigRegion
namespace Go.Proofs.YtljbcclfafndmaaDoor
open Go.RowKit

theorem A.asOk (er : Int) (w : World) : (Instr.typeAssert (.iface 24 (.int .i64 er)) 20 24 true).run Tryd.prog w = .ok (.tuple #[.int .i64 er, .bool true]) w := by kernel_rfl
theorem A.asNil (w : World) : (Instr.typeAssert .nilIface 20 24 true).run Tryd.prog w = .ok (.tuple #[.int .i64 0, .bool false]) w := by kernel_rfl
theorem A.neNone (w : World) : (binOp .neq 20 .nilIface .nilIface).run Tryd.prog w = .ok (.bool false) w := by kernel_rfl
theorem rep14 : Array.replicate 14 undef = #[undef, undef, undef, undef, undef, undef, undef, undef, undef, undef, undef, undef, undef, undef] := rfl
set_option maxRecDepth 100000 in
theorem catch_panicking (p : Addr) (x : Value) (er : Int) (older : List PanicEntry) (w : World) (hc : w.cell? p = some x) (hz : w.frozen? p = false) :
    CallsD Tryd.prog 49 #[.pointer (some p)] (.panicking ({ v := .iface 24 (.int .i64 er), recovered := false } :: older)) w fun e u' w' =>
      e = .returned (.tuple #[]) ∧ u' = .panicking ({ v := .iface 24 (.int .i64 er), recovered := true } :: older) ∧ w' = w.setCell p (.int .i64 er) := by
  refine callsD_of_wpS Tryd.func49 rfl fun c₀ cs hu => ?_
  apply wpS_seq
  apply wpS_region
  simp [wpOpsS, go_sem, recoverD, hu, Tryd.ntmps49, Exit.thenS, rep14]
  have q1 := A.asOk
  refine wpS_of_wp ?_
  go_wp2
  simp [bodyPostS, results, Tryd.results49]
set_option maxRecDepth 100000 in
theorem catch_idle (p : Addr) (w : World) :
    CallsD Tryd.prog 49 #[.pointer (some p)] .returning w fun e u' w' => e = .returned (.tuple #[]) ∧ u' = .returning ∧ w = w' := by
  refine callsD_of_wpS Tryd.func49 rfl fun c₀ cs hu => ?_
  apply wpS_seq
  apply wpS_region
  simp [wpOpsS, go_sem, recoverD, hu, Tryd.ntmps49, Exit.thenS, rep14]
  have q2 := A.asNil
  have q3 := A.neNone
  refine wpS_of_wp ?_
  go_wp2
  cases c₀
  simp_all [bodyPostS, results, Tryd.results49]
end Go.Proofs.YtljbcclfafndmaaDoor
