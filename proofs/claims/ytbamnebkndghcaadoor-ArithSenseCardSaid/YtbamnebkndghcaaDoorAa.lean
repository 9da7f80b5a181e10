/- Own words of arith, and the contracts of what divides. -/
import Derived.Test.YtbamnebkndghcaaDoorChecked
import Derived.WalkKit
import Derived.IntWalk
import Derived.Outline
import Derived.Handy
import Derived.Deep.QuietTactic
import Derived.BigQuiet
namespace Go.Proofs.YtbamnebkndghcaaDoor
open Go.RowKit
theorem belows {B : Nat} {a b c : World} (h : Below B a b) (k : Below b.heap.size b c) (hB : B ≤ b.heap.size) : Below B a c := h.trans (k.mono hB)
theorem belows_drewN {B : Nat} {a b : World} (h : Below B a b) (n : Nat) : Below B a (b.drewN n) := ⟨h.os, h.tape, h.output, h.size, h.block⟩
theorem hid {p : Prop} (h : p) : Hid p := h
/-- What an int64 holds. -/
def I64 (a : Int) : Prop := -9223372036854775808 ≤ a ∧ a ≤ 9223372036854775807
def quoV (a b : Int) : Value := .tuple #[.int .i64 (if b = 0 then 0 else wrap64 (a.tdiv b)), .bool (!(b == 0))]
def remV (a b : Int) : Value := .tuple #[.int .i64 (if b = 0 then 0 else a.tmod b), .bool (!(b == 0))]
theorem u64_left (n : Int) : IntKind.u64.wrap n = n % 18446744073709551616 := by simp [IntKind.wrap, IntKind.bits, IntKind.signed]
theorem w64_u (n : Int) : wrap64 (IntKind.u64.wrap n) = wrap64 n := by rw [u64_left]; unfold wrap64; omega
theorem w64_neg (n : Int) : wrap64 (-IntKind.u64.wrap n) = wrap64 (-n) := by rw [u64_left]; unfold wrap64; omega
set_option maxRecDepth 100000
theorem quo_any (a b : Int) (w : World) : Calls Tryd.prog 19 #[.int .i64 a, .int .i64 b] w fun e w' => e = .returned (quoV a b) ∧ w = w' := by
  by_cases h0 : b = 0
  · subst h0
    go_enter Tryd.func19, Tryd.ntmps19
    go_wp2
    all_goals go_ret2
    all_goals refine ⟨?_, rfl⟩
    all_goals simp [quoV]
  have hb : (b == 0) = false := by simpa using h0
  go_enter Tryd.func19, Tryd.ntmps19
  go_wp2
  all_goals go_ret2
  all_goals refine ⟨?_, rfl⟩
  all_goals simp [quoV, h0]
theorem rem_any (a b : Int) (w : World) : Calls Tryd.prog 20 #[.int .i64 a, .int .i64 b] w fun e w' => e = .returned (remV a b) ∧ w = w' := by
  by_cases h0 : b = 0
  · subst h0
    go_enter Tryd.func20, Tryd.ntmps20
    go_wp2
    all_goals go_ret2
    all_goals refine ⟨?_, rfl⟩
    all_goals simp [remV]
  have hb : (b == 0) = false := by simpa using h0
  go_enter Tryd.func20, Tryd.ntmps20
  go_wp2
  all_goals go_ret2
  all_goals refine ⟨?_, rfl⟩
  all_goals simp [remV, h0]
end Go.Proofs.YtbamnebkndghcaaDoor
