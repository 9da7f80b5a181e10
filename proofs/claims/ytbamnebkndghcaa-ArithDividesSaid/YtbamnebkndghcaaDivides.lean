/- ArithDivides: quotient and rest. -/
import Derived.Test.YtbamnebkndghcaaAd
namespace Go.Proofs.Ytbamnebkndghcaa
open Go.RowKit
set_option maxRecDepth 100000
set_option maxHeartbeats 1600000 in
theorem divides_law (a b : Int) (ha : I64 a) (hb : I64 b) (w : World) : Calls Try.prog 5 #[.int .i64 a, .int .i64 b] w fun e w' => e = .returned (.bool true) ∧ Below w.heap.size w w' := by
  have HL := hid (fun op a b w => long_any op a b w)
  have HV := hid (fun w => live_any w)
  by_cases h0 : b = 0
  · subst h0
    have h4 : lV 4 a 0 = .tuple #[.int .i64 0, .bool false] := by simp [lV, lopN, lis]
    have h5 : lV 5 a 0 = .tuple #[.int .i64 0, .bool false] := by simp [lV, lopN, lis]
    go_enter Try.func5, Try.ntmps5
    go_wp2_with (first | (go_at_call 9; refine (HL.out _ _ _ _).mono ?_; rintro e w' ⟨rfl, rfl⟩; first | rw [h4] | rw [h5]) | (go_at_call 11; refine (HV.out _).mono ?_; rintro e w' ⟨rfl, rfl⟩))
    all_goals go_ret
    all_goals refine ⟨?_, (by repeat' first | with_reducible exact Below.refl _ _ | with_reducible assumption | with_reducible refine belows_drewN ?_ _ | with_reducible refine Below.drew ?_ | with_reducible refine Below.setCell ?_ ?_ _ | with_reducible refine Below.alloc ?_ ?_ _ | omega | (simp; done) | (simp; omega))⟩
    all_goals simp_all
  have h4 : lV 4 a b = .tuple #[.int .i64 (wrap64 (a.tdiv b)), .bool true] := by simp [lV, lopN, lis, h0]
  have h5 : lV 5 a b = .tuple #[.int .i64 (a.tmod b), .bool true] := by simp [lV, lopN, lis, h0]
  obtain ⟨r, hr⟩ : ∃ r, r = a.tmod b := ⟨_, rfl⟩
  obtain ⟨q, hq⟩ : ∃ q, q = wrap64 (a.tdiv b) := ⟨_, rfl⟩
  rw [← hq] at h4
  rw [← hr] at h5
  have h6 : lV 3 q b = .tuple #[.int .i64 (wrap64 (q * b)), .bool true] := by simp [lV, lopN, lis]
  obtain ⟨m, hm⟩ : ∃ m, m = wrap64 (q * b) := ⟨_, rfl⟩
  rw [← hm] at h6
  have h7 : lV 1 m r = .tuple #[.int .i64 a, .bool true] := by
    have hd := Int.tmod_add_mul_tdiv a b
    have e1 : wrap64 (m + r) = a := by
      obtain ⟨k, hk⟩ : ∃ k : Int, wrap64 (a.tdiv b) = a.tdiv b + 18446744073709551616 * k := ⟨-((a.tdiv b + 9223372036854775808) / 18446744073709551616), by unfold wrap64; omega⟩
      have e2 : q * b = b * a.tdiv b + 18446744073709551616 * (k * b) := by
        rw [hq, hk, Int.add_mul, Int.mul_assoc, Int.mul_comm (a.tdiv b) b]
      rw [hm, e2, w64_far, hr]
      unfold I64 at ha
      generalize b * a.tdiv b = z at hd ⊢
      unfold wrap64; omega
    simp [lV, lopN, lis, e1]
  have hb1 : (b == 0) = false := by simpa using h0
  have hs1 : 0 ≤ a → 0 ≤ r := fun h => by rw [hr]; exact Int.tmod_nonneg b h
  have hs2 : a ≤ 0 → r ≤ 0 := fun h => by
    have := Int.tmod_nonneg b (a := -a) (by omega)
    rw [Int.neg_tmod] at this
    omega
  have hab : r.natAbs < b.natAbs := by
    rw [hr, Int.natAbs_tmod]
    exact Nat.mod_lt _ (by omega)
  clear hm hr hq
  unfold I64 at ha hb
  have hsign : r = 0 ∨ (0 < r ∧ 0 < a) ∨ (r < 0 ∧ a < 0) := by omega
  clear hs1 hs2
  rcases hsign with hr | ⟨hr, ha1⟩ | ⟨hr, ha1⟩
  · subst hr
    (go_enter Try.func5, Try.ntmps5; go_wp2_with (first | (go_at_call 9; refine (HL.out _ _ _ _).mono ?_; rintro e w' ⟨rfl, rfl⟩; first | rw [h4] | rw [h5] | rw [h6] | rw [h7]) | (go_at_call 11; refine (HV.out _).mono ?_; rintro e w' ⟨rfl, rfl⟩)); all_goals go_ret; all_goals refine ⟨?_, (by repeat' first | with_reducible exact Below.refl _ _ | with_reducible assumption | with_reducible refine belows_drewN ?_ _ | with_reducible refine Below.drew ?_ | with_reducible refine Below.setCell ?_ ?_ _ | with_reducible refine Below.alloc ?_ ?_ _ | omega | (simp; done) | (simp; omega))⟩; all_goals simp; all_goals omega)
  · by_cases hm : b = -9223372036854775808
    · subst hm
      (go_enter Try.func5, Try.ntmps5; go_wp2_with (first | (go_at_call 9; refine (HL.out _ _ _ _).mono ?_; rintro e w' ⟨rfl, rfl⟩; first | rw [h4] | rw [h5] | rw [h6] | rw [h7]) | (go_at_call 11; refine (HV.out _).mono ?_; rintro e w' ⟨rfl, rfl⟩)); all_goals go_ret; all_goals refine ⟨?_, (by repeat' first | with_reducible exact Below.refl _ _ | with_reducible assumption | with_reducible refine belows_drewN ?_ _ | with_reducible refine Below.drew ?_ | with_reducible refine Below.setCell ?_ ?_ _ | with_reducible refine Below.alloc ?_ ?_ _ | omega | (simp; done) | (simp; omega))⟩; all_goals simp; all_goals omega)
    · have hr1 : (r == 0) = false := by simp; omega
      have hr2 : (r == -9223372036854775808) = false := by simp; omega
      have hm1 : (b == -9223372036854775808) = false := by simpa using hm
      by_cases hb2 : 0 < b
      · (go_enter Try.func5, Try.ntmps5; go_wp2_with (first | (go_at_call 9; refine (HL.out _ _ _ _).mono ?_; rintro e w' ⟨rfl, rfl⟩; first | rw [h4] | rw [h5] | rw [h6] | rw [h7]) | (go_at_call 11; refine (HV.out _).mono ?_; rintro e w' ⟨rfl, rfl⟩)); all_goals go_ret; all_goals refine ⟨?_, (by repeat' first | with_reducible exact Below.refl _ _ | with_reducible assumption | with_reducible refine belows_drewN ?_ _ | with_reducible refine Below.drew ?_ | with_reducible refine Below.setCell ?_ ?_ _ | with_reducible refine Below.alloc ?_ ?_ _ | omega | (simp; done) | (simp; omega))⟩; all_goals simp; all_goals omega)
      · (go_enter Try.func5, Try.ntmps5; go_wp2_with (first | (go_at_call 9; refine (HL.out _ _ _ _).mono ?_; rintro e w' ⟨rfl, rfl⟩; first | rw [h4] | rw [h5] | rw [h6] | rw [h7]) | (go_at_call 11; refine (HV.out _).mono ?_; rintro e w' ⟨rfl, rfl⟩)); all_goals go_ret; all_goals refine ⟨?_, (by repeat' first | with_reducible exact Below.refl _ _ | with_reducible assumption | with_reducible refine belows_drewN ?_ _ | with_reducible refine Below.drew ?_ | with_reducible refine Below.setCell ?_ ?_ _ | with_reducible refine Below.alloc ?_ ?_ _ | omega | (simp; done) | (simp; omega))⟩; all_goals simp; all_goals omega)
  · by_cases hm : b = -9223372036854775808
    · subst hm
      (go_enter Try.func5, Try.ntmps5; go_wp2_with (first | (go_at_call 9; refine (HL.out _ _ _ _).mono ?_; rintro e w' ⟨rfl, rfl⟩; first | rw [h4] | rw [h5] | rw [h6] | rw [h7]) | (go_at_call 11; refine (HV.out _).mono ?_; rintro e w' ⟨rfl, rfl⟩)); all_goals go_ret; all_goals refine ⟨?_, (by repeat' first | with_reducible exact Below.refl _ _ | with_reducible assumption | with_reducible refine belows_drewN ?_ _ | with_reducible refine Below.drew ?_ | with_reducible refine Below.setCell ?_ ?_ _ | with_reducible refine Below.alloc ?_ ?_ _ | omega | (simp; done) | (simp; omega))⟩; all_goals simp; all_goals omega)
    · have hr1 : (r == 0) = false := by simp; omega
      have hr2 : (r == -9223372036854775808) = false := by simp; omega
      have hm1 : (b == -9223372036854775808) = false := by simpa using hm
      by_cases hb2 : 0 < b
      · (go_enter Try.func5, Try.ntmps5; go_wp2_with (first | (go_at_call 9; refine (HL.out _ _ _ _).mono ?_; rintro e w' ⟨rfl, rfl⟩; first | rw [h4] | rw [h5] | rw [h6] | rw [h7]) | (go_at_call 11; refine (HV.out _).mono ?_; rintro e w' ⟨rfl, rfl⟩)); all_goals go_ret; all_goals refine ⟨?_, (by repeat' first | with_reducible exact Below.refl _ _ | with_reducible assumption | with_reducible refine belows_drewN ?_ _ | with_reducible refine Below.drew ?_ | with_reducible refine Below.setCell ?_ ?_ _ | with_reducible refine Below.alloc ?_ ?_ _ | omega | (simp; done) | (simp; omega))⟩; all_goals simp; all_goals omega)
      · (go_enter Try.func5, Try.ntmps5; go_wp2_with (first | (go_at_call 9; refine (HL.out _ _ _ _).mono ?_; rintro e w' ⟨rfl, rfl⟩; first | rw [h4] | rw [h5] | rw [h6] | rw [h7]) | (go_at_call 11; refine (HV.out _).mono ?_; rintro e w' ⟨rfl, rfl⟩)); all_goals go_ret; all_goals refine ⟨?_, (by repeat' first | with_reducible exact Below.refl _ _ | with_reducible assumption | with_reducible refine belows_drewN ?_ _ | with_reducible refine Below.drew ?_ | with_reducible refine Below.setCell ?_ ?_ _ | with_reducible refine Below.alloc ?_ ?_ _ | omega | (simp; done) | (simp; omega))⟩; all_goals simp; all_goals omega)
end Go.Proofs.Ytbamnebkndghcaa
