/- Wrap, Narrow, Int, IntNeg, LongNeg, Pure, Compare, live: both sides. -/
import Derived.Test.YtbamnebkndghcaaDoorAb
namespace Go.Proofs.YtbamnebkndghcaaDoor
open Go.RowKit
theorem w64_w32 (a : Int) : wrap64 (wrap32 a) = wrap32 a := by unfold wrap64 wrap32; omega
theorem w32_w64 (a : Int) : wrap32 (wrap64 a) = wrap32 a := by unfold wrap64 wrap32; omega
theorem w32_w32 (a : Int) : wrap32 (wrap32 a) = wrap32 a := by unfold wrap32; omega
theorem w32_lo (a : Int) : -2147483648 ≤ wrap32 a := by unfold wrap32; omega
theorem w32_hi (a : Int) : wrap32 a ≤ 2147483647 := by unfold wrap32; omega
theorem w32_u (a : Int) : wrap32 (IntKind.u64.wrap a) = wrap32 a := by rw [u64_left]; unfold wrap32; omega
theorem w32_negu (a : Int) : wrap32 (-IntKind.u64.wrap a) = wrap32 (-a) := by rw [u64_left]; unfold wrap32; omega
theorem w32_neg (a : Int) : wrap32 (-wrap32 a) = wrap32 (-a) := by unfold wrap32; omega
theorem i8_left (n : Int) : IntKind.i8.wrap n = (n + 128) % 256 - 128 := by simp only [IntKind.wrap, IntKind.bits, IntKind.signed]; simp; split <;> omega
theorem i16_left (n : Int) : IntKind.i16.wrap n = (n + 32768) % 65536 - 32768 := by simp only [IntKind.wrap, IntKind.bits, IntKind.signed]; simp; split <;> omega
theorem u16_left (n : Int) : IntKind.u16.wrap n = n % 65536 := by simp [IntKind.wrap, IntKind.bits, IntKind.signed]
def nar (k a : Int) : Int := if k = 1 then IntKind.i8.wrap a else if k = 2 then IntKind.u16.wrap a else if k = 3 then IntKind.i16.wrap a else a
def iopN (op x y n : Int) : Int :=
  if op = 9 then wrap32 (x * 2 ^ n.toNat) else if op = 10 then x / 2 ^ n.toNat else if op = 11 then wrap32 (x % 4294967296 / 2 ^ n.toNat)
  else wrap32 (lopN op x y (y % 64))
def iV (op a b : Int) : Value := .tuple #[.int .i64 (iopN op (wrap32 a) (wrap32 b) (wrap32 b % 32)), .bool (lis op (wrap32 b))]
def cmp (a b : Int) : Int := if a < b then -1 else if b < a then 1 else 0
set_option maxRecDepth 100000
theorem wrap_any (a : Int) (w : World) : Calls Tryd.prog 17 #[.int .i64 a] w fun e w' => e = .returned (.int .i64 (wrap32 a)) ∧ w = w' := by
  go_enter Tryd.func17, Tryd.ntmps17
  go_wp2
  all_goals go_ret
  exact ⟨by simp [w64_w32], rfl⟩
theorem narrow_any (op a : Int) (w : World) : Calls Tryd.prog 15 #[.int .i64 op, .int .i64 a] w fun e w' => e = .returned (.int .i64 (nar op a)) ∧ w = w' := by
  have h8 : wrap64 (IntKind.i8.wrap a) = IntKind.i8.wrap a := by rw [i8_left]; unfold wrap64; omega
  have h16 : wrap64 (IntKind.i16.wrap a) = IntKind.i16.wrap a := by rw [i16_left]; unfold wrap64; omega
  have hu16 : wrap64 (IntKind.u16.wrap a) = IntKind.u16.wrap a := by rw [u16_left]; unfold wrap64; omega
  go_enter Tryd.func15, Tryd.ntmps15
  go_wp2
  all_goals go_ret
  all_goals refine ⟨?_, rfl⟩
  all_goals simp_all [nar]
def pur (op : Int) : Bool := decide (1 ≤ op ∧ op ≤ 11 ∧ op ≠ 4 ∧ op ≠ 5)
theorem cmp_any (a b : Int) (w : World) : Calls Tryd.prog 12 #[.int .i64 a, .int .i64 b] w fun e w' => e = .returned (.int .i64 (cmp a b)) ∧ w = w' := by
  go_enter Tryd.func12, Tryd.ntmps12
  go_wp2
  all_goals go_ret
  all_goals refine ⟨?_, rfl⟩
  all_goals simp [cmp]
  all_goals omega
end Go.Proofs.YtbamnebkndghcaaDoor
