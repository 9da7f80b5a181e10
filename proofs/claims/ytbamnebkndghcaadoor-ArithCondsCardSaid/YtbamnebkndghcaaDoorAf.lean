/- Cond, Not, Swap, Compare: both sides. -/
import Derived.Test.YtbamnebkndghcaaDoorAe
namespace Go.Proofs.YtbamnebkndghcaaDoor
open Go.RowKit
def cdB (k : Nat) (a b : Int) : Bool := if a < b then (cd k).1 else if b < a then (cd k).2.2.1 else (cd k).2.1
theorem cdV_eq (k : Nat) : cdV k = .agg #[.bool (cd k).1, .bool (cd k).2.1, .bool (cd k).2.2.1, .int .i64 (cd k).2.2.2.1, .int .i64 (cd k).2.2.2.2] := rfl
set_option maxRecDepth 100000
theorem run_not (a b c d e : Value) (w : World) : Sem.run Tryd.prog (Instr.field 30 (.agg #[a, b, c, d, e]) 3) w = .ok d w := by
  simp [Instr.field, go_sem, asAgg]
theorem run_swap (a b c d e : Value) (w : World) : Sem.run Tryd.prog (Instr.field 30 (.agg #[a, b, c, d, e]) 4) w = .ok e w := by
  simp [Instr.field, go_sem, asAgg]
theorem not_any (c : Int) (w : World) (ht : Tabs w) : Calls Tryd.prog 8 #[.int .i64 c] w fun e w' => e = .returned (.int .i64 (cd (cix c)).2.2.2.1) ∧ Below w.heap.size w w' := by
  have HF := hid (find_any c w ht)
  clear ht
  rw [cdV_eq] at HF
  have hl := run_not
  go_enter Tryd.func8, Tryd.ntmps8
  go_wp2_with (go_at_call 16; refine HF.out.mono ?_; rintro e w' ⟨rfl, hb⟩)
  all_goals go_ret
  exact ⟨by simp, hb⟩
theorem swap_any (c : Int) (w : World) (ht : Tabs w) : Calls Tryd.prog 10 #[.int .i64 c] w fun e w' => e = .returned (.int .i64 (cd (cix c)).2.2.2.2) ∧ Below w.heap.size w w' := by
  have HF := hid (find_any c w ht)
  clear ht
  rw [cdV_eq] at HF
  have hl := run_swap
  go_enter Tryd.func10, Tryd.ntmps10
  go_wp2_with (go_at_call 16; refine HF.out.mono ?_; rintro e w' ⟨rfl, hb⟩)
  all_goals go_ret
  exact ⟨by simp, hb⟩
theorem cond_any (c a b : Int) (w : World) (ht : Tabs w) : Calls Tryd.prog 6 #[.int .i64 c, .int .i64 a, .int .i64 b] w fun e w' => e = .returned (.bool (cdB (cix c) a b)) ∧ Below w.heap.size w w' := by
  have HF := hid (find_any c w ht)
  clear ht
  rw [cdV_eq] at HF
  go_enter Tryd.func6, Tryd.ntmps6
  go_wp2_with (go_at_call 16; refine HF.out.mono ?_; rintro e w' ⟨rfl, hb⟩; have hz := hb.size)
  all_goals go_ret
  all_goals refine ⟨?_, (by repeat' first | with_reducible exact Below.refl _ _ | with_reducible assumption | with_reducible refine belows_drewN ?_ _ | with_reducible refine Below.drew ?_ | with_reducible refine Below.setCell ?_ ?_ _ | with_reducible refine Below.alloc ?_ ?_ _ | omega | (simp; done) | (simp; omega))⟩
  all_goals (by_cases hab : a < b <;> by_cases hba : b < a <;> simp [cdB, hab, hba] <;> omega)
theorem cix_one (c : Int) (k : Nat) (hk : k < 7) (h : c = k) : cix c = k := by subst h; unfold cix; rw [if_pos ⟨by omega, by omega⟩]; omega
theorem cix_no (c : Int) (h1 : ¬ c = 1) (h2 : ¬ c = 2) (h3 : ¬ c = 3) (h4 : ¬ c = 4) (h5 : ¬ c = 5) (h6 : ¬ c = 6) : cix c = 0 := by
  unfold cix; split <;> omega
/-- Whatever the number: one of the six conditions, or none. -/
theorem cix_all (c : Int) : (c = 1 ∨ c = 2 ∨ c = 3 ∨ c = 4 ∨ c = 5 ∨ c = 6) ∨ (¬ c = 1 ∧ ¬ c = 2 ∧ ¬ c = 3 ∧ ¬ c = 4 ∧ ¬ c = 5 ∧ ¬ c = 6) := by omega
theorem rnot_any (c : Int) (w : World) : Calls Tryd.prog 9 #[.int .i64 c] w fun e w' => e = .returned (.int .i64 (cd (cix c)).2.2.2.1) ∧ w = w' := by
  rcases cix_all c with (rfl | rfl | rfl | rfl | rfl | rfl) | ⟨h1, h2, h3, h4, h5, h6⟩
  case inr =>
    rw [cix_no c h1 h2 h3 h4 h5 h6]
    go_enter Tryd.func9, Tryd.ntmps9
    go_wp2
    all_goals go_ret
    all_goals exact ⟨rfl, rfl⟩
  all_goals
    go_enter Tryd.func9, Tryd.ntmps9
    go_wp2
    all_goals go_ret
    all_goals exact ⟨rfl, rfl⟩
theorem rswap_any (c : Int) (w : World) : Calls Tryd.prog 11 #[.int .i64 c] w fun e w' => e = .returned (.int .i64 (cd (cix c)).2.2.2.2) ∧ w = w' := by
  rcases cix_all c with (rfl | rfl | rfl | rfl | rfl | rfl) | ⟨h1, h2, h3, h4, h5, h6⟩
  case inr =>
    rw [cix_no c h1 h2 h3 h4 h5 h6]
    go_enter Tryd.func11, Tryd.ntmps11
    go_wp2
    all_goals go_ret
    all_goals exact ⟨rfl, rfl⟩
  all_goals
    go_enter Tryd.func11, Tryd.ntmps11
    go_wp2
    all_goals go_ret
    all_goals exact ⟨rfl, rfl⟩
theorem rcond_any (c a b : Int) (w : World) : Calls Tryd.prog 7 #[.int .i64 c, .int .i64 a, .int .i64 b] w fun e w' => e = .returned (.bool (cdB (cix c) a b)) ∧ w = w' := by
  rcases cix_all c with (rfl | rfl | rfl | rfl | rfl | rfl) | ⟨h1, h2, h3, h4, h5, h6⟩
  case inr =>
    rw [cix_no c h1 h2 h3 h4 h5 h6]
    go_enter Tryd.func7, Tryd.ntmps7
    go_wp2
    all_goals go_ret
    all_goals refine ⟨?_, rfl⟩
    all_goals simp [cdB, cd]
  all_goals
    go_enter Tryd.func7, Tryd.ntmps7
    go_wp2
    all_goals go_ret
    all_goals refine ⟨?_, rfl⟩
    all_goals (by_cases hab : a < b <;> by_cases hba : b < a <;> simp [cdB, cd, cix, hab, hba] <;> omega)
theorem rcmp_any (a b : Int) (w : World) : Calls Tryd.prog 13 #[.int .i64 a, .int .i64 b] w fun e w' => e = .returned (.int .i64 (cmp a b)) ∧ w = w' := by
  go_enter Tryd.func13, Tryd.ntmps13
  go_wp2
  all_goals go_ret
  all_goals refine ⟨?_, rfl⟩
  all_goals simp [cmp]
  all_goals omega
end Go.Proofs.YtbamnebkndghcaaDoor
