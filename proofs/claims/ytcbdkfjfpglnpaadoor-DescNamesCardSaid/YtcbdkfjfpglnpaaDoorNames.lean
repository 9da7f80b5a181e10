/- The law of names. -/
import Derived.Test.YtcbdkfjfpglnpaaDoorBg
namespace Go.Proofs.YtcbdkfjfpglnpaaDoor
open Go.RowKit

set_option maxRecDepth 100000 in
set_option maxHeartbeats 1000000 in
theorem lawNames (s : ByteArray) (w : World) : Calls Tryd.prog 3 #[.string s] w fun e w' => e = .returned (.bool true) ∧ Below w.heap.size w w' := by
  have HC := hid (fun W => className_any s W)
  have HM := hid (fun W => memberName_any s W)
  have HRC := hid (fun W => rclassName_any s W)
  have HRM := hid (fun W => rmemberName_any s W)
  obtain ⟨x, hx⟩ : ∃ x, x = nameE (Ds.bl s) := ⟨_, rfl⟩
  obtain ⟨y, hy⟩ : ∃ y, y = memE (Ds.bl s) := ⟨_, rfl⟩
  rw [← hx] at HC HRC
  rw [← hy] at HM HRM
  clear hx hy
  go_enter Tryd.func3, Tryd.ntmps3
  go_wp2_with (first
    | (go_at_call 10; refine (begun_any _).mono ?_; rintro e w1 ⟨rfl, hb1⟩)
    | (go_at_call 11; refine (HC.out _).mono ?_; rintro e w2 ⟨rfl, hb2⟩)
    | (go_at_call 12; refine (HRC.out _).mono ?_; rintro e w3 ⟨rfl, hb3⟩)
    | (go_at_call 13; refine (HM.out _).mono ?_; rintro e w4 ⟨rfl, hb4⟩)
    | (go_at_call 14; refine (HRM.out _).mono ?_; rintro e w5 ⟨rfl, hb5⟩))
  go_ret
  have h2 := belows hb1 hb2 hb1.size
  have h3 := belows h2 hb3 h2.size
  have h4 := belows h3 hb4 h3.size
  have h5 := belows h4 hb5 h4.size
  exact ⟨rfl, h5⟩
end Go.Proofs.YtcbdkfjfpglnpaaDoor
