/- ArithBinary, ArithUnary, ArithInts: whatever is handed in. -/
import Derived.Test.YtbamnebkndghcaaAd
namespace Go.Proofs.Ytbamnebkndghcaa
open Go.RowKit
set_option maxRecDepth 100000
theorem binary_law (op a b : Int) (w : World) : Calls Try.prog 3 #[.int .i64 op, .int .i64 a, .int .i64 b] w fun e w' => e = .returned (.bool true) ∧ Below w.heap.size w w' := by
  obtain ⟨x, i, hi⟩ : ∃ x i, iV op a b = .tuple #[.int .i64 x, .bool i] := ⟨_, _, rfl⟩
  obtain ⟨z, l, hl⟩ : ∃ x i, lV op a b = .tuple #[.int .i64 x, .bool i] := ⟨_, _, rfl⟩
  obtain ⟨p, hp⟩ : ∃ p, pur op = p := ⟨_, rfl⟩
  have HI := hid (fun w => hi ▸ int_any op a b w)
  have HJ := hid (fun w => hi ▸ rint_any op a b w)
  have HL := hid (fun w => hl ▸ long_any op a b w)
  have HM := hid (fun w => hl ▸ rlong_any op a b w)
  have HP := hid (fun w => hp ▸ pure_any op w)
  have HQ := hid (fun w => hp ▸ rpure_any op w)
  have HV := hid (fun w => live_any w)
  clear hi hl hp
  go_enter Try.func3, Try.ntmps3
  go_wp2_with (first | (go_at_call 7; refine (HI.out _).mono ?_; rintro e w' ⟨rfl, rfl⟩) | (go_at_call 8; refine (HJ.out _).mono ?_; rintro e w1 ⟨rfl, hb1⟩; have hz1 := hb1.size) | (go_at_call 9; refine (HL.out _).mono ?_; rintro e w' ⟨rfl, rfl⟩) | (go_at_call 10; refine (HM.out _).mono ?_; rintro e w2 ⟨rfl, hb2⟩; have hb3 := belows hb1 hb2 hz1) | (go_at_call 11; refine (HV.out _).mono ?_; rintro e w' ⟨rfl, rfl⟩) | (go_at_call 12; refine (HP.out _).mono ?_; rintro e w' ⟨rfl, rfl⟩) | (go_at_call 13; refine (HQ.out _).mono ?_; rintro e w' ⟨rfl, rfl⟩))
  all_goals go_ret
  all_goals exact ⟨by simp, hb3⟩
theorem unary_law (op a : Int) (w : World) : Calls Try.prog 4 #[.int .i64 op, .int .i64 a] w fun e w' => e = .returned (.bool true) ∧ Below w.heap.size w w' := by
  have H1 := hid (fun w => wrap_any a w)
  have H2 := hid (fun w => rwrap_any a w)
  have H3 := hid (fun w => narrow_any op a w)
  have H4 := hid (fun w => rnarrow_any op a w)
  have H5 := hid (fun w => ineg_any a w)
  have H6 := hid (fun w => rineg_any a w)
  have H7 := hid (fun w => lneg_any a w)
  have H8 := hid (fun w => rlneg_any a w)
  have HV := hid (fun w => live_any w)
  go_enter Try.func4, Try.ntmps4
  go_wp2_with (first | (go_at_call 14; refine (H1.out _).mono ?_; rintro e w' ⟨rfl, rfl⟩) | (go_at_call 15; refine (H2.out _).mono ?_; rintro e w' ⟨rfl, rfl⟩) | (go_at_call 16; refine (H3.out _).mono ?_; rintro e w' ⟨rfl, rfl⟩) | (go_at_call 17; refine (H4.out _).mono ?_; rintro e w' ⟨rfl, rfl⟩) | (go_at_call 18; refine (H5.out _).mono ?_; rintro e w' ⟨rfl, rfl⟩) | (go_at_call 19; refine (H6.out _).mono ?_; rintro e w' ⟨rfl, rfl⟩) | (go_at_call 20; refine (H7.out _).mono ?_; rintro e w' ⟨rfl, rfl⟩) | (go_at_call 21; refine (H8.out _).mono ?_; rintro e w' ⟨rfl, rfl⟩) | (go_at_call 11; refine (HV.out _).mono ?_; rintro e w' ⟨rfl, rfl⟩))
  all_goals go_ret
  all_goals exact ⟨by simp, (by repeat' first | with_reducible exact Below.refl _ _ | with_reducible assumption | with_reducible refine belows_drewN ?_ _ | with_reducible refine Below.drew ?_ | with_reducible refine Below.setCell ?_ ?_ _ | with_reducible refine Below.alloc ?_ ?_ _ | omega | (simp; done) | (simp; omega))⟩
end Go.Proofs.Ytbamnebkndghcaa
