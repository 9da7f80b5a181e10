/- Contract of the document's fits, of jumps and of iinc. -/
import Derived.Test.YtknacnbicmafjaaDoorOpFa
namespace Go.Proofs.YtknacnbicmafjaaDoor
open Go.RowKit

set_option maxRecDepth 100000 in
set_option maxHeartbeats 1000000 in
theorem fits_f7 (xp xop xa xb : Int) (w : World) : Calls Tryd.prog 49 #[.agg #[.int .i64 xp, .int .i64 xop, .int .i64 xa, .int .i64 xb], .int .i64 7] w fun e w' => e = .returned (.bool (decide (0 ≤ xa) && decide (xa ≤ 255) && decide (-128 ≤ xb) && decide (xb ≤ 127))) ∧ Below w.heap.size w w' := by
  by_cases h1 : 0 ≤ xa
  · by_cases h2 : xa ≤ 255
    · by_cases h3 : -128 ≤ xb
      · by_cases h4 : xb ≤ 127
        · have d1 : decide (0 ≤ xa) = true := by simpa using h1
          have d2 : decide (xa ≤ 255) = true := by simpa using h2
          have d3 : decide (-128 ≤ xb) = true := by simpa using h3
          have d4 : decide (xb ≤ 127) = true := by simpa using h4
          (go_enter Tryd.func49, Tryd.ntmps49; go_wp2; go_ret; exact ⟨by simp [*], (by repeat' first | with_reducible exact Below.refl _ _ | with_reducible assumption | with_reducible refine belows_drewN ?_ _ | with_reducible refine Below.drew ?_ | with_reducible refine Below.setCell ?_ ?_ _ | with_reducible refine Below.alloc ?_ ?_ _ | omega | (simp; done) | (simp; omega))⟩)
        · have d1 : decide (0 ≤ xa) = true := by simpa using h1
          have d2 : decide (xa ≤ 255) = true := by simpa using h2
          have d3 : decide (-128 ≤ xb) = true := by simpa using h3
          have d4 : decide (xb ≤ 127) = false := by simpa using h4
          (go_enter Tryd.func49, Tryd.ntmps49; go_wp2; go_ret; exact ⟨by simp [*], (by repeat' first | with_reducible exact Below.refl _ _ | with_reducible assumption | with_reducible refine belows_drewN ?_ _ | with_reducible refine Below.drew ?_ | with_reducible refine Below.setCell ?_ ?_ _ | with_reducible refine Below.alloc ?_ ?_ _ | omega | (simp; done) | (simp; omega))⟩)
      · have d1 : decide (0 ≤ xa) = true := by simpa using h1
        have d2 : decide (xa ≤ 255) = true := by simpa using h2
        have d3 : decide (-128 ≤ xb) = false := by simpa using h3
        (go_enter Tryd.func49, Tryd.ntmps49; go_wp2; go_ret; exact ⟨by simp [*], (by repeat' first | with_reducible exact Below.refl _ _ | with_reducible assumption | with_reducible refine belows_drewN ?_ _ | with_reducible refine Below.drew ?_ | with_reducible refine Below.setCell ?_ ?_ _ | with_reducible refine Below.alloc ?_ ?_ _ | omega | (simp; done) | (simp; omega))⟩)
    · have d1 : decide (0 ≤ xa) = true := by simpa using h1
      have d2 : decide (xa ≤ 255) = false := by simpa using h2
      (go_enter Tryd.func49, Tryd.ntmps49; go_wp2; go_ret; exact ⟨by simp [*], (by repeat' first | with_reducible exact Below.refl _ _ | with_reducible assumption | with_reducible refine belows_drewN ?_ _ | with_reducible refine Below.drew ?_ | with_reducible refine Below.setCell ?_ ?_ _ | with_reducible refine Below.alloc ?_ ?_ _ | omega | (simp; done) | (simp; omega))⟩)
  · have d1 : decide (0 ≤ xa) = false := by simpa using h1
    (go_enter Tryd.func49, Tryd.ntmps49; go_wp2; go_ret; exact ⟨by simp [*], (by repeat' first | with_reducible exact Below.refl _ _ | with_reducible assumption | with_reducible refine belows_drewN ?_ _ | with_reducible refine Below.drew ?_ | with_reducible refine Below.setCell ?_ ?_ _ | with_reducible refine Below.alloc ?_ ?_ _ | omega | (simp; done) | (simp; omega))⟩)
set_option maxRecDepth 100000 in
set_option maxHeartbeats 1000000 in
theorem fits_f6 (xp : Nat) (xop xa xb : Int) (w : World) (hxp : xp ≤ 140737488355328) : Calls Tryd.prog 49 #[.agg #[.int .i64 xp, .int .i64 xop, .int .i64 xa, .int .i64 xb], .int .i64 6] w fun e w' => e = .returned (.bool (decide ((xp : Int) - 32768 ≤ xa) && decide (xa ≤ (xp : Int) + 32768 - 1) && decide (xb = 0))) ∧ Below w.heap.size w w' := by
  have hm : max (xp : Int) 0 = xp := by omega
  have p1 : 0 ≤ (xp : Int) := by omega
  have p2 : (xp : Int) ≤ 140737488355328 := by omega
  have hm : max (xp : Int) 0 = xp := by omega
  by_cases h1 : (xp : Int) - 32768 ≤ xa
  · by_cases h2 : xa ≤ (xp : Int) + 32768 - 1
    · by_cases h3 : xb = 0
      · subst h3
        have d1 : decide ((xp : Int) - 32768 ≤ xa) = true := by simpa using h1
        have d2 : decide (xa ≤ (xp : Int) + 32768 - 1) = true := by simpa using h2
        (go_enter Tryd.func49, Tryd.ntmps49; go_wp2; go_quiet (fail); go_wp2; go_ret; exact ⟨by simp [*], (by repeat' first | with_reducible exact Below.refl _ _ | with_reducible assumption | with_reducible refine belows_drewN ?_ _ | with_reducible refine Below.drew ?_ | with_reducible refine Below.setCell ?_ ?_ _ | with_reducible refine Below.alloc ?_ ?_ _ | omega | (simp; done) | (simp; omega))⟩)
      · have d1 : decide ((xp : Int) - 32768 ≤ xa) = true := by simpa using h1
        have d2 : decide (xa ≤ (xp : Int) + 32768 - 1) = true := by simpa using h2
        have d3 : (xb == 0) = false := by simpa using h3
        have d4 : decide (xb = 0) = false := by simpa using h3
        clear h3
        (go_enter Tryd.func49, Tryd.ntmps49; go_wp2; go_quiet (fail); go_wp2; go_ret; exact ⟨by simp [*], (by repeat' first | with_reducible exact Below.refl _ _ | with_reducible assumption | with_reducible refine belows_drewN ?_ _ | with_reducible refine Below.drew ?_ | with_reducible refine Below.setCell ?_ ?_ _ | with_reducible refine Below.alloc ?_ ?_ _ | omega | (simp; done) | (simp; omega))⟩)
    · have d1 : decide ((xp : Int) - 32768 ≤ xa) = true := by simpa using h1
      have d2 : decide (xa ≤ (xp : Int) + 32768 - 1) = false := by simpa using h2
      (go_enter Tryd.func49, Tryd.ntmps49; go_wp2; go_quiet (fail); go_wp2; go_ret; exact ⟨by simp [*], (by repeat' first | with_reducible exact Below.refl _ _ | with_reducible assumption | with_reducible refine belows_drewN ?_ _ | with_reducible refine Below.drew ?_ | with_reducible refine Below.setCell ?_ ?_ _ | with_reducible refine Below.alloc ?_ ?_ _ | omega | (simp; done) | (simp; omega))⟩)
  · have d1 : decide ((xp : Int) - 32768 ≤ xa) = false := by simpa using h1
    (go_enter Tryd.func49, Tryd.ntmps49; go_wp2; go_quiet (fail); go_wp2; go_ret; exact ⟨by simp [*], (by repeat' first | with_reducible exact Below.refl _ _ | with_reducible assumption | with_reducible refine belows_drewN ?_ _ | with_reducible refine Below.drew ?_ | with_reducible refine Below.setCell ?_ ?_ _ | with_reducible refine Below.alloc ?_ ?_ _ | omega | (simp; done) | (simp; omega))⟩)
end Go.Proofs.YtknacnbicmafjaaDoor
