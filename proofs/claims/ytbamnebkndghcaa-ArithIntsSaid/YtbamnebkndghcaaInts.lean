/- ArithInts: what comes of ints is an int. -/
import Derived.Test.YtbamnebkndghcaaAd
namespace Go.Proofs.Ytbamnebkndghcaa
open Go.RowKit
theorem div_in (x m : Int) (h0 : -2147483648 ≤ x) (h1 : x ≤ 2147483647) (hm : 1 ≤ m) : -2147483648 ≤ x / m ∧ x / m ≤ 2147483647 :=
  ⟨Int.le_ediv_of_mul_le (by omega) (by omega), Int.ediv_le_of_le_mul (by omega) (by omega)⟩
theorem w32_in (x : Int) (h : -2147483648 ≤ x ∧ x ≤ 2147483647) : wrap32 x = x := by unfold wrap32; omega
theorem pow_one (n : Nat) : (1 : Int) ≤ 2 ^ n := by
  have : (0 : Int) < 2 ^ n := Int.pow_pos (by decide)
  omega
theorem iop_int (op a y n : Int) : wrap32 (iopN op (wrap32 a) y n) = iopN op (wrap32 a) y n := by
  unfold iopN
  split
  · exact w32_w32 _
  split
  · exact w32_in _ (div_in _ _ (w32_lo a) (w32_hi a) (pow_one _))
  split
  · exact w32_w32 _
  · exact w32_w32 _
theorem iV_w (op a b : Int) : iV op (wrap32 a) (wrap32 b) = iV op a b := by unfold iV; simp only [w32_w32]
theorem w32_nn (a : Int) : wrap32 (-wrap32 (-a)) = wrap32 a := by unfold wrap32; omega
theorem w64_nn (a : Int) (h : I64 a) : wrap64 (-wrap64 (-a)) = a := by unfold wrap64; unfold I64 at h; omega
set_option maxRecDepth 100000
theorem ints_law (op a b : Int) (h : I64 a) (w : World) : Calls Try.prog 6 #[.int .i64 op, .int .i64 a, .int .i64 b] w fun e w' => e = .returned (.bool true) ∧ Below w.heap.size w w' := by
  obtain ⟨x, i, hi, hx⟩ : ∃ x i, iV op a b = .tuple #[.int .i64 x, .bool i] ∧ wrap32 x = x := ⟨_, _, rfl, iop_int _ _ _ _⟩
  have HI := hid (fun w => hi ▸ int_any op a b w)
  have HJ := hid (fun w => hi ▸ iV_w op a b ▸ int_any op (wrap32 a) (wrap32 b) w)
  have H1 := hid (fun a w => wrap_any a w)
  have H2 := hid (fun a w => ineg_any a w)
  have H3 := hid (fun a w => lneg_any a w)
  have HV := hid (fun w => live_any w)
  have h1 := w32_nn a
  have h2 := w64_nn a h
  have h3 := w32_w32 a
  have h4 := w32_w32 b
  have h5 := w32_lo a
  have h6 := w32_hi a
  have h7 : decide (-2147483648 ≤ wrap32 a) = true := by simpa using h5
  have h8 : decide (wrap32 a < 2147483648) = true := by simp; omega
  clear hi h
  go_enter Try.func6, Try.ntmps6
  go_wp2_with (first | (go_at_call 7; (first | with_reducible refine (HI.out _).mono ?_ | with_reducible refine (HJ.out _).mono ?_); rintro e w' ⟨rfl, rfl⟩) | (go_at_call 14; refine (H1.out _ _).mono ?_; rintro e w' ⟨rfl, rfl⟩) | (go_at_call 18; refine (H2.out _ _).mono ?_; rintro e w' ⟨rfl, rfl⟩) | (go_at_call 20; refine (H3.out _ _).mono ?_; rintro e w' ⟨rfl, rfl⟩) | (go_at_call 11; refine (HV.out _).mono ?_; rintro e w' ⟨rfl, rfl⟩))
  all_goals go_ret
  all_goals refine ⟨?_, (by repeat' first | with_reducible exact Below.refl _ _ | with_reducible assumption | with_reducible refine belows_drewN ?_ _ | with_reducible refine Below.drew ?_ | with_reducible refine Below.setCell ?_ ?_ _ | with_reducible refine Below.alloc ?_ ?_ _ | omega | (simp; done) | (simp; omega))⟩
  all_goals simp_all
end Go.Proofs.Ytbamnebkndghcaa
