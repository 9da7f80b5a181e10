/- Int and live. -/
import Derived.Test.YtbamnebkndghcaaDoorAc
namespace Go.Proofs.YtbamnebkndghcaaDoor
open Go.RowKit
theorem and31 (b : Int) : bits .and .u64 (IntKind.u64.wrap b) 31 = b % 32 := by
  have := bits_mask .u64 64 (by decide) wraps_u64 5 (by decide) (IntKind.u64.wrap b) (u64_lo b) (u64_hi b)
  simp at this
  rw [this, u64_left]; omega
theorem mod32 (b : Int) : IntKind.u64.wrap b % 32 = b % 32 := by rw [u64_left]; omega
theorem mod2_32 (b : Int) : IntKind.u64.wrap b % 4294967296 = b % 4294967296 := by rw [u64_left]; omega
set_option maxRecDepth 100000
theorem int_any (op a b : Int) (w : World) : Calls Tryd.prog 14 #[.int .i64 op, .int .i64 a, .int .i64 b] w fun e w' => e = .returned (iV op a b) ∧ w = w' := by
  have HW := hid (fun a w => wrap_any a w)
  have HL := hid (fun op a b w => long_any op a b w)
  have hn := and31 (wrap32 b)
  have hn0 : 0 ≤ wrap32 b % 32 := by omega
  have hn1 : wrap32 b % 32 < 32 := by omega
  unfold iV
  generalize wrap32 b % 32 = n at hn hn0 hn1 ⊢
  have h0 : decide (n < 0) = false := by simp; omega
  go_enter Tryd.func14, Tryd.ntmps14
  go_wp2_with (first | (go_at_call 17; refine (HW.out _ _).mono ?_; rintro e w' ⟨rfl, rfl⟩) | (go_at_call 18; refine (HL.out _ _ _ _).mono ?_; rintro e w' ⟨rfl, rfl⟩; unfold lV))
  all_goals go_ret2
  all_goals refine ⟨?_, rfl⟩
  all_goals simp_all [iopN, lis, w32_w64]
theorem live_any (w : World) : Calls Tryd.prog 5 #[] w fun e w' => e = .returned (.bool true) ∧ w = w' := by
  have h1 : iV 1 2147483647 1 = .tuple #[.int .i64 (-2147483648), .bool true] := by simp [iV, iopN, lopN, lis, wrap32, wrap64]
  have h2 : iV 11 (-1) 28 = .tuple #[.int .i64 15, .bool true] := by simp [iV, iopN, lis, wrap32]
  have h3 : nar 2 (-1) = 65535 := by decide
  have h4 : cmp 1 2 = -1 := by decide
  have HI := hid (fun op a b w => int_any op a b w)
  have HN := hid (fun op a w => narrow_any op a w)
  have HC := hid (fun a b w => cmp_any a b w)
  go_enter Tryd.func5, Tryd.ntmps5
  go_wp2_with (first | (go_at_call 14; refine (HI.out _ _ _ _).mono ?_; rintro e w' ⟨rfl, rfl⟩; first | rw [h1] | rw [h2]) | (go_at_call 15; refine (HN.out _ _ _).mono ?_; rintro e w' ⟨rfl, rfl⟩; rw [h3]) | (go_at_call 12; refine (HC.out _ _ _).mono ?_; rintro e w' ⟨rfl, rfl⟩; rw [h4]))
  go_ret
  exact ⟨rfl, rfl⟩
end Go.Proofs.YtbamnebkndghcaaDoor
