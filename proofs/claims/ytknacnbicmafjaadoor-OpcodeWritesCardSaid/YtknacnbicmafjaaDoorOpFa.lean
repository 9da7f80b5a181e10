/- Contract of the document's fits. -/
import Derived.Test.YtknacnbicmafjaaDoorOpZ
import Derived.BigRegion
namespace Go.Proofs.YtknacnbicmafjaaDoor
open Go.RowKit

set_option maxRecDepth 100000 in
set_option maxHeartbeats 1000000 in
theorem fits_f0 (xp xop xa xb : Int) (w : World) : Calls Tryd.prog 49 #[.agg #[.int .i64 xp, .int .i64 xop, .int .i64 xa, .int .i64 xb], .int .i64 0] w fun e w' => e = .returned (.bool (decide (0 ≤ xa) && decide (xa ≤ 0) && decide (xb = 0))) ∧ Below w.heap.size w w' := by
  by_cases h1 : 0 ≤ xa
  · by_cases h2 : xa ≤ 0
    · by_cases h3 : xb = 0
      · subst h3
        have d1 : decide (0 ≤ xa) = true := by simpa using h1
        have d2 : decide (xa ≤ 0) = true := by simpa using h2
        (go_enter Tryd.func49, Tryd.ntmps49; go_wp2; go_ret; exact ⟨by simp [*], (by repeat' first | with_reducible exact Below.refl _ _ | with_reducible assumption | with_reducible refine belows_drewN ?_ _ | with_reducible refine Below.drew ?_ | with_reducible refine Below.setCell ?_ ?_ _ | with_reducible refine Below.alloc ?_ ?_ _ | omega | (simp; done) | (simp; omega))⟩)
      · have d1 : decide (0 ≤ xa) = true := by simpa using h1
        have d2 : decide (xa ≤ 0) = true := by simpa using h2
        have d3 : (xb == 0) = false := by simpa using h3
        have d4 : decide (xb = 0) = false := by simpa using h3
        clear h3
        (go_enter Tryd.func49, Tryd.ntmps49; go_wp2; go_ret; exact ⟨by simp [*], (by repeat' first | with_reducible exact Below.refl _ _ | with_reducible assumption | with_reducible refine belows_drewN ?_ _ | with_reducible refine Below.drew ?_ | with_reducible refine Below.setCell ?_ ?_ _ | with_reducible refine Below.alloc ?_ ?_ _ | omega | (simp; done) | (simp; omega))⟩)
    · have d1 : decide (0 ≤ xa) = true := by simpa using h1
      have d2 : decide (xa ≤ 0) = false := by simpa using h2
      (go_enter Tryd.func49, Tryd.ntmps49; go_wp2; go_ret; exact ⟨by simp [*], (by repeat' first | with_reducible exact Below.refl _ _ | with_reducible assumption | with_reducible refine belows_drewN ?_ _ | with_reducible refine Below.drew ?_ | with_reducible refine Below.setCell ?_ ?_ _ | with_reducible refine Below.alloc ?_ ?_ _ | omega | (simp; done) | (simp; omega))⟩)
  · have d1 : decide (0 ≤ xa) = false := by simpa using h1
    (go_enter Tryd.func49, Tryd.ntmps49; go_wp2; go_ret; exact ⟨by simp [*], (by repeat' first | with_reducible exact Below.refl _ _ | with_reducible assumption | with_reducible refine belows_drewN ?_ _ | with_reducible refine Below.drew ?_ | with_reducible refine Below.setCell ?_ ?_ _ | with_reducible refine Below.alloc ?_ ?_ _ | omega | (simp; done) | (simp; omega))⟩)
set_option maxRecDepth 100000 in
set_option maxHeartbeats 1000000 in
theorem fits_f1 (xp xop xa xb : Int) (w : World) : Calls Tryd.prog 49 #[.agg #[.int .i64 xp, .int .i64 xop, .int .i64 xa, .int .i64 xb], .int .i64 1] w fun e w' => e = .returned (.bool (decide (0 ≤ xa) && decide (xa ≤ 255) && decide (xb = 0))) ∧ Below w.heap.size w w' := by
  by_cases h1 : 0 ≤ xa
  · by_cases h2 : xa ≤ 255
    · by_cases h3 : xb = 0
      · subst h3
        have d1 : decide (0 ≤ xa) = true := by simpa using h1
        have d2 : decide (xa ≤ 255) = true := by simpa using h2
        (go_enter Tryd.func49, Tryd.ntmps49; go_wp2; go_ret; exact ⟨by simp [*], (by repeat' first | with_reducible exact Below.refl _ _ | with_reducible assumption | with_reducible refine belows_drewN ?_ _ | with_reducible refine Below.drew ?_ | with_reducible refine Below.setCell ?_ ?_ _ | with_reducible refine Below.alloc ?_ ?_ _ | omega | (simp; done) | (simp; omega))⟩)
      · have d1 : decide (0 ≤ xa) = true := by simpa using h1
        have d2 : decide (xa ≤ 255) = true := by simpa using h2
        have d3 : (xb == 0) = false := by simpa using h3
        have d4 : decide (xb = 0) = false := by simpa using h3
        clear h3
        (go_enter Tryd.func49, Tryd.ntmps49; go_wp2; go_ret; exact ⟨by simp [*], (by repeat' first | with_reducible exact Below.refl _ _ | with_reducible assumption | with_reducible refine belows_drewN ?_ _ | with_reducible refine Below.drew ?_ | with_reducible refine Below.setCell ?_ ?_ _ | with_reducible refine Below.alloc ?_ ?_ _ | omega | (simp; done) | (simp; omega))⟩)
    · have d1 : decide (0 ≤ xa) = true := by simpa using h1
      have d2 : decide (xa ≤ 255) = false := by simpa using h2
      (go_enter Tryd.func49, Tryd.ntmps49; go_wp2; go_ret; exact ⟨by simp [*], (by repeat' first | with_reducible exact Below.refl _ _ | with_reducible assumption | with_reducible refine belows_drewN ?_ _ | with_reducible refine Below.drew ?_ | with_reducible refine Below.setCell ?_ ?_ _ | with_reducible refine Below.alloc ?_ ?_ _ | omega | (simp; done) | (simp; omega))⟩)
  · have d1 : decide (0 ≤ xa) = false := by simpa using h1
    (go_enter Tryd.func49, Tryd.ntmps49; go_wp2; go_ret; exact ⟨by simp [*], (by repeat' first | with_reducible exact Below.refl _ _ | with_reducible assumption | with_reducible refine belows_drewN ?_ _ | with_reducible refine Below.drew ?_ | with_reducible refine Below.setCell ?_ ?_ _ | with_reducible refine Below.alloc ?_ ?_ _ | omega | (simp; done) | (simp; omega))⟩)
set_option maxRecDepth 100000 in
set_option maxHeartbeats 1000000 in
theorem fits_f4 (xp xop xa xb : Int) (w : World) : Calls Tryd.prog 49 #[.agg #[.int .i64 xp, .int .i64 xop, .int .i64 xa, .int .i64 xb], .int .i64 4] w fun e w' => e = .returned (.bool (decide (0 ≤ xa) && decide (xa ≤ 255) && decide (xb = 0))) ∧ Below w.heap.size w w' := by
  by_cases h1 : 0 ≤ xa
  · by_cases h2 : xa ≤ 255
    · by_cases h3 : xb = 0
      · subst h3
        have d1 : decide (0 ≤ xa) = true := by simpa using h1
        have d2 : decide (xa ≤ 255) = true := by simpa using h2
        (go_enter Tryd.func49, Tryd.ntmps49; go_wp2; go_ret; exact ⟨by simp [*], (by repeat' first | with_reducible exact Below.refl _ _ | with_reducible assumption | with_reducible refine belows_drewN ?_ _ | with_reducible refine Below.drew ?_ | with_reducible refine Below.setCell ?_ ?_ _ | with_reducible refine Below.alloc ?_ ?_ _ | omega | (simp; done) | (simp; omega))⟩)
      · have d1 : decide (0 ≤ xa) = true := by simpa using h1
        have d2 : decide (xa ≤ 255) = true := by simpa using h2
        have d3 : (xb == 0) = false := by simpa using h3
        have d4 : decide (xb = 0) = false := by simpa using h3
        clear h3
        (go_enter Tryd.func49, Tryd.ntmps49; go_wp2; go_ret; exact ⟨by simp [*], (by repeat' first | with_reducible exact Below.refl _ _ | with_reducible assumption | with_reducible refine belows_drewN ?_ _ | with_reducible refine Below.drew ?_ | with_reducible refine Below.setCell ?_ ?_ _ | with_reducible refine Below.alloc ?_ ?_ _ | omega | (simp; done) | (simp; omega))⟩)
    · have d1 : decide (0 ≤ xa) = true := by simpa using h1
      have d2 : decide (xa ≤ 255) = false := by simpa using h2
      (go_enter Tryd.func49, Tryd.ntmps49; go_wp2; go_ret; exact ⟨by simp [*], (by repeat' first | with_reducible exact Below.refl _ _ | with_reducible assumption | with_reducible refine belows_drewN ?_ _ | with_reducible refine Below.drew ?_ | with_reducible refine Below.setCell ?_ ?_ _ | with_reducible refine Below.alloc ?_ ?_ _ | omega | (simp; done) | (simp; omega))⟩)
  · have d1 : decide (0 ≤ xa) = false := by simpa using h1
    (go_enter Tryd.func49, Tryd.ntmps49; go_wp2; go_ret; exact ⟨by simp [*], (by repeat' first | with_reducible exact Below.refl _ _ | with_reducible assumption | with_reducible refine belows_drewN ?_ _ | with_reducible refine Below.drew ?_ | with_reducible refine Below.setCell ?_ ?_ _ | with_reducible refine Below.alloc ?_ ?_ _ | omega | (simp; done) | (simp; omega))⟩)
set_option maxRecDepth 100000 in
set_option maxHeartbeats 1000000 in
theorem fits_f2 (xp xop xa xb : Int) (w : World) : Calls Tryd.prog 49 #[.agg #[.int .i64 xp, .int .i64 xop, .int .i64 xa, .int .i64 xb], .int .i64 2] w fun e w' => e = .returned (.bool (decide (-128 ≤ xa) && decide (xa ≤ 127) && decide (xb = 0))) ∧ Below w.heap.size w w' := by
  by_cases h1 : -128 ≤ xa
  · by_cases h2 : xa ≤ 127
    · by_cases h3 : xb = 0
      · subst h3
        have d1 : decide (-128 ≤ xa) = true := by simpa using h1
        have d2 : decide (xa ≤ 127) = true := by simpa using h2
        (go_enter Tryd.func49, Tryd.ntmps49; go_wp2; go_ret; exact ⟨by simp [*], (by repeat' first | with_reducible exact Below.refl _ _ | with_reducible assumption | with_reducible refine belows_drewN ?_ _ | with_reducible refine Below.drew ?_ | with_reducible refine Below.setCell ?_ ?_ _ | with_reducible refine Below.alloc ?_ ?_ _ | omega | (simp; done) | (simp; omega))⟩)
      · have d1 : decide (-128 ≤ xa) = true := by simpa using h1
        have d2 : decide (xa ≤ 127) = true := by simpa using h2
        have d3 : (xb == 0) = false := by simpa using h3
        have d4 : decide (xb = 0) = false := by simpa using h3
        clear h3
        (go_enter Tryd.func49, Tryd.ntmps49; go_wp2; go_ret; exact ⟨by simp [*], (by repeat' first | with_reducible exact Below.refl _ _ | with_reducible assumption | with_reducible refine belows_drewN ?_ _ | with_reducible refine Below.drew ?_ | with_reducible refine Below.setCell ?_ ?_ _ | with_reducible refine Below.alloc ?_ ?_ _ | omega | (simp; done) | (simp; omega))⟩)
    · have d1 : decide (-128 ≤ xa) = true := by simpa using h1
      have d2 : decide (xa ≤ 127) = false := by simpa using h2
      (go_enter Tryd.func49, Tryd.ntmps49; go_wp2; go_ret; exact ⟨by simp [*], (by repeat' first | with_reducible exact Below.refl _ _ | with_reducible assumption | with_reducible refine belows_drewN ?_ _ | with_reducible refine Below.drew ?_ | with_reducible refine Below.setCell ?_ ?_ _ | with_reducible refine Below.alloc ?_ ?_ _ | omega | (simp; done) | (simp; omega))⟩)
  · have d1 : decide (-128 ≤ xa) = false := by simpa using h1
    (go_enter Tryd.func49, Tryd.ntmps49; go_wp2; go_ret; exact ⟨by simp [*], (by repeat' first | with_reducible exact Below.refl _ _ | with_reducible assumption | with_reducible refine belows_drewN ?_ _ | with_reducible refine Below.drew ?_ | with_reducible refine Below.setCell ?_ ?_ _ | with_reducible refine Below.alloc ?_ ?_ _ | omega | (simp; done) | (simp; omega))⟩)
set_option maxRecDepth 100000 in
set_option maxHeartbeats 1000000 in
theorem fits_f3 (xp xop xa xb : Int) (w : World) : Calls Tryd.prog 49 #[.agg #[.int .i64 xp, .int .i64 xop, .int .i64 xa, .int .i64 xb], .int .i64 3] w fun e w' => e = .returned (.bool (decide (-32768 ≤ xa) && decide (xa ≤ 32767) && decide (xb = 0))) ∧ Below w.heap.size w w' := by
  by_cases h1 : -32768 ≤ xa
  · by_cases h2 : xa ≤ 32767
    · by_cases h3 : xb = 0
      · subst h3
        have d1 : decide (-32768 ≤ xa) = true := by simpa using h1
        have d2 : decide (xa ≤ 32767) = true := by simpa using h2
        (go_enter Tryd.func49, Tryd.ntmps49; go_wp2; go_ret; exact ⟨by simp [*], (by repeat' first | with_reducible exact Below.refl _ _ | with_reducible assumption | with_reducible refine belows_drewN ?_ _ | with_reducible refine Below.drew ?_ | with_reducible refine Below.setCell ?_ ?_ _ | with_reducible refine Below.alloc ?_ ?_ _ | omega | (simp; done) | (simp; omega))⟩)
      · have d1 : decide (-32768 ≤ xa) = true := by simpa using h1
        have d2 : decide (xa ≤ 32767) = true := by simpa using h2
        have d3 : (xb == 0) = false := by simpa using h3
        have d4 : decide (xb = 0) = false := by simpa using h3
        clear h3
        (go_enter Tryd.func49, Tryd.ntmps49; go_wp2; go_ret; exact ⟨by simp [*], (by repeat' first | with_reducible exact Below.refl _ _ | with_reducible assumption | with_reducible refine belows_drewN ?_ _ | with_reducible refine Below.drew ?_ | with_reducible refine Below.setCell ?_ ?_ _ | with_reducible refine Below.alloc ?_ ?_ _ | omega | (simp; done) | (simp; omega))⟩)
    · have d1 : decide (-32768 ≤ xa) = true := by simpa using h1
      have d2 : decide (xa ≤ 32767) = false := by simpa using h2
      (go_enter Tryd.func49, Tryd.ntmps49; go_wp2; go_ret; exact ⟨by simp [*], (by repeat' first | with_reducible exact Below.refl _ _ | with_reducible assumption | with_reducible refine belows_drewN ?_ _ | with_reducible refine Below.drew ?_ | with_reducible refine Below.setCell ?_ ?_ _ | with_reducible refine Below.alloc ?_ ?_ _ | omega | (simp; done) | (simp; omega))⟩)
  · have d1 : decide (-32768 ≤ xa) = false := by simpa using h1
    (go_enter Tryd.func49, Tryd.ntmps49; go_wp2; go_ret; exact ⟨by simp [*], (by repeat' first | with_reducible exact Below.refl _ _ | with_reducible assumption | with_reducible refine belows_drewN ?_ _ | with_reducible refine Below.drew ?_ | with_reducible refine Below.setCell ?_ ?_ _ | with_reducible refine Below.alloc ?_ ?_ _ | omega | (simp; done) | (simp; omega))⟩)
set_option maxRecDepth 100000 in
set_option maxHeartbeats 1000000 in
theorem fits_f5 (xp xop xa xb : Int) (w : World) : Calls Tryd.prog 49 #[.agg #[.int .i64 xp, .int .i64 xop, .int .i64 xa, .int .i64 xb], .int .i64 5] w fun e w' => e = .returned (.bool (decide (0 ≤ xa) && decide (xa ≤ 65535) && decide (xb = 0))) ∧ Below w.heap.size w w' := by
  by_cases h1 : 0 ≤ xa
  · by_cases h2 : xa ≤ 65535
    · by_cases h3 : xb = 0
      · subst h3
        have d1 : decide (0 ≤ xa) = true := by simpa using h1
        have d2 : decide (xa ≤ 65535) = true := by simpa using h2
        (go_enter Tryd.func49, Tryd.ntmps49; go_wp2; go_ret; exact ⟨by simp [*], (by repeat' first | with_reducible exact Below.refl _ _ | with_reducible assumption | with_reducible refine belows_drewN ?_ _ | with_reducible refine Below.drew ?_ | with_reducible refine Below.setCell ?_ ?_ _ | with_reducible refine Below.alloc ?_ ?_ _ | omega | (simp; done) | (simp; omega))⟩)
      · have d1 : decide (0 ≤ xa) = true := by simpa using h1
        have d2 : decide (xa ≤ 65535) = true := by simpa using h2
        have d3 : (xb == 0) = false := by simpa using h3
        have d4 : decide (xb = 0) = false := by simpa using h3
        clear h3
        (go_enter Tryd.func49, Tryd.ntmps49; go_wp2; go_ret; exact ⟨by simp [*], (by repeat' first | with_reducible exact Below.refl _ _ | with_reducible assumption | with_reducible refine belows_drewN ?_ _ | with_reducible refine Below.drew ?_ | with_reducible refine Below.setCell ?_ ?_ _ | with_reducible refine Below.alloc ?_ ?_ _ | omega | (simp; done) | (simp; omega))⟩)
    · have d1 : decide (0 ≤ xa) = true := by simpa using h1
      have d2 : decide (xa ≤ 65535) = false := by simpa using h2
      (go_enter Tryd.func49, Tryd.ntmps49; go_wp2; go_ret; exact ⟨by simp [*], (by repeat' first | with_reducible exact Below.refl _ _ | with_reducible assumption | with_reducible refine belows_drewN ?_ _ | with_reducible refine Below.drew ?_ | with_reducible refine Below.setCell ?_ ?_ _ | with_reducible refine Below.alloc ?_ ?_ _ | omega | (simp; done) | (simp; omega))⟩)
  · have d1 : decide (0 ≤ xa) = false := by simpa using h1
    (go_enter Tryd.func49, Tryd.ntmps49; go_wp2; go_ret; exact ⟨by simp [*], (by repeat' first | with_reducible exact Below.refl _ _ | with_reducible assumption | with_reducible refine belows_drewN ?_ _ | with_reducible refine Below.drew ?_ | with_reducible refine Below.setCell ?_ ?_ _ | with_reducible refine Below.alloc ?_ ?_ _ | omega | (simp; done) | (simp; omega))⟩)
set_option maxRecDepth 100000 in
set_option maxHeartbeats 1000000 in
theorem fits_f8 (xp xop xa xb : Int) (w : World) : Calls Tryd.prog 49 #[.agg #[.int .i64 xp, .int .i64 xop, .int .i64 xa, .int .i64 xb], .int .i64 8] w fun e w' => e = .returned (.bool (decide (10 ≤ xa) && decide (xa ≤ 11) && decide (xb = 0))) ∧ Below w.heap.size w w' := by
  by_cases h1 : 10 ≤ xa
  · by_cases h2 : xa ≤ 11
    · by_cases h3 : xb = 0
      · subst h3
        have d1 : decide (10 ≤ xa) = true := by simpa using h1
        have d2 : decide (xa ≤ 11) = true := by simpa using h2
        (go_enter Tryd.func49, Tryd.ntmps49; go_wp2; go_ret; exact ⟨by simp [*], (by repeat' first | with_reducible exact Below.refl _ _ | with_reducible assumption | with_reducible refine belows_drewN ?_ _ | with_reducible refine Below.drew ?_ | with_reducible refine Below.setCell ?_ ?_ _ | with_reducible refine Below.alloc ?_ ?_ _ | omega | (simp; done) | (simp; omega))⟩)
      · have d1 : decide (10 ≤ xa) = true := by simpa using h1
        have d2 : decide (xa ≤ 11) = true := by simpa using h2
        have d3 : (xb == 0) = false := by simpa using h3
        have d4 : decide (xb = 0) = false := by simpa using h3
        clear h3
        (go_enter Tryd.func49, Tryd.ntmps49; go_wp2; go_ret; exact ⟨by simp [*], (by repeat' first | with_reducible exact Below.refl _ _ | with_reducible assumption | with_reducible refine belows_drewN ?_ _ | with_reducible refine Below.drew ?_ | with_reducible refine Below.setCell ?_ ?_ _ | with_reducible refine Below.alloc ?_ ?_ _ | omega | (simp; done) | (simp; omega))⟩)
    · have d1 : decide (10 ≤ xa) = true := by simpa using h1
      have d2 : decide (xa ≤ 11) = false := by simpa using h2
      (go_enter Tryd.func49, Tryd.ntmps49; go_wp2; go_ret; exact ⟨by simp [*], (by repeat' first | with_reducible exact Below.refl _ _ | with_reducible assumption | with_reducible refine belows_drewN ?_ _ | with_reducible refine Below.drew ?_ | with_reducible refine Below.setCell ?_ ?_ _ | with_reducible refine Below.alloc ?_ ?_ _ | omega | (simp; done) | (simp; omega))⟩)
  · have d1 : decide (10 ≤ xa) = false := by simpa using h1
    (go_enter Tryd.func49, Tryd.ntmps49; go_wp2; go_ret; exact ⟨by simp [*], (by repeat' first | with_reducible exact Below.refl _ _ | with_reducible assumption | with_reducible refine belows_drewN ?_ _ | with_reducible refine Below.drew ?_ | with_reducible refine Below.setCell ?_ ?_ _ | with_reducible refine Below.alloc ?_ ?_ _ | omega | (simp; done) | (simp; omega))⟩)
end Go.Proofs.YtknacnbicmafjaaDoor
