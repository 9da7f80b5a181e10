/- Long, both sides: one answer. -/
import Derived.Test.YtbamnebkndghcaaDoorAa
namespace Go.Proofs.YtbamnebkndghcaaDoor
open Go.RowKit
/-- What an op makes of two longs; n is b's lowest six bits. -/
def lopN (op a b n : Int) : Int :=
  if op = 1 then wrap64 (a + b) else if op = 2 then wrap64 (a - b) else if op = 3 then wrap64 (a * b)
  else if op = 4 then (if b = 0 then 0 else wrap64 (a.tdiv b)) else if op = 5 then (if b = 0 then 0 else a.tmod b)
  else if op = 6 then bits .and .i64 a b else if op = 7 then bits .or .i64 a b else if op = 8 then bits .xor .i64 a b
  else if op = 9 then wrap64 (a * 2 ^ n.toNat) else if op = 10 then a / 2 ^ n.toNat else if op = 11 then wrap64 (IntKind.u64.wrap a / 2 ^ n.toNat)
  else 0
def lis (op b : Int) : Bool := if 1 ≤ op ∧ op ≤ 11 then (if op = 4 ∨ op = 5 then !(b == 0) else true) else false
def lV (op a b : Int) : Value := .tuple #[.int .i64 (lopN op a b (b % 64)), .bool (lis op b)]
theorem wraps_u64 (n : Int) (h₀ : 0 ≤ n) (h₁ : n < 2 ^ 64) : IntKind.u64.wrap n = n := by rw [u64_left]; omega
theorem u64_lo (n : Int) : 0 ≤ IntKind.u64.wrap n := by rw [u64_left]; omega
theorem u64_hi (n : Int) : IntKind.u64.wrap n < 18446744073709551616 := by rw [u64_left]; omega
theorem and63 (b : Int) : bits .and .u64 (IntKind.u64.wrap b) 63 = b % 64 := by
  have := bits_mask .u64 64 (by decide) wraps_u64 6 (by decide) (IntKind.u64.wrap b) (u64_lo b) (u64_hi b)
  simp at this
  rw [this, u64_left]; omega
theorem mod64 (b : Int) : IntKind.u64.wrap b % 64 = b % 64 := by rw [u64_left]; omega
theorem w64_add (a b : Int) : wrap64 (IntKind.u64.wrap (IntKind.u64.wrap a + IntKind.u64.wrap b)) = wrap64 (a + b) := by simp only [u64_left]; unfold wrap64; omega
theorem w64_sub (a b : Int) : wrap64 (IntKind.u64.wrap (IntKind.u64.wrap a - IntKind.u64.wrap b)) = wrap64 (a - b) := by simp only [u64_left]; unfold wrap64; omega
theorem u64_far (a : Int) : ∃ k : Int, IntKind.u64.wrap a = a + 18446744073709551616 * k := ⟨-(a / 18446744073709551616), by rw [u64_left]; omega⟩
theorem w64_far (a k : Int) : wrap64 (a + 18446744073709551616 * k) = wrap64 a := by unfold wrap64; omega
theorem w64_mul (a b : Int) : wrap64 (IntKind.u64.wrap (IntKind.u64.wrap a * IntKind.u64.wrap b)) = wrap64 (a * b) := by
  rw [w64_u]
  obtain ⟨i, hi⟩ := u64_far a
  obtain ⟨j, hj⟩ := u64_far b
  rw [hi, hj, ← w64_far (a * b) (a * j + b * i + 18446744073709551616 * (i * j))]
  congr 1
  simp only [Int.add_mul, Int.mul_add]
  have e1 : 18446744073709551616 * i * b = 18446744073709551616 * (b * i) := by rw [Int.mul_assoc, Int.mul_comm i b]
  have e2 : a * (18446744073709551616 * j) = 18446744073709551616 * (a * j) := by rw [Int.mul_left_comm]
  have e3 : 18446744073709551616 * i * (18446744073709551616 * j) = 18446744073709551616 * (18446744073709551616 * (i * j)) := by rw [Int.mul_assoc, Int.mul_left_comm i]
  omega
theorem w64_shl (a : Int) (n : Nat) : wrap64 (IntKind.u64.wrap (IntKind.u64.wrap a * 2 ^ n)) = wrap64 (a * 2 ^ n) := by
  rw [w64_u]
  obtain ⟨i, hi⟩ := u64_far a
  rw [hi, Int.add_mul, Int.mul_assoc, w64_far]
set_option maxRecDepth 100000
theorem long_any (op a b : Int) (w : World) : Calls Tryd.prog 18 #[.int .i64 op, .int .i64 a, .int .i64 b] w fun e w' => e = .returned (lV op a b) ∧ w = w' := by
  have hn := and63 b
  have hn0 : 0 ≤ b % 64 := by omega
  have hn1 : b % 64 < 64 := by omega
  unfold lV
  generalize b % 64 = n at hn hn0 hn1 ⊢
  have h0 : decide (n < 0) = false := by simp; omega
  have HQ := hid (fun a b w => quo_any a b w)
  have HR := hid (fun a b w => rem_any a b w)
  go_enter Tryd.func18, Tryd.ntmps18
  go_wp2_with (first | (go_at_call 19; refine (HQ.out _ _ _).mono ?_; rintro e w' ⟨rfl, rfl⟩; unfold quoV) | (go_at_call 20; refine (HR.out _ _ _).mono ?_; rintro e w' ⟨rfl, rfl⟩; unfold remV))
  all_goals go_ret2
  all_goals refine ⟨?_, rfl⟩
  all_goals (simp_all [lopN, lis] <;> omega)
end Go.Proofs.YtbamnebkndghcaaDoor
