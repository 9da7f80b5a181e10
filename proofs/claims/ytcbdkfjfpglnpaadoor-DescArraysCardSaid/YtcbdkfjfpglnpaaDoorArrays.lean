/- The law of arrays. -/
import Derived.Test.YtcbdkfjfpglnpaaDoorRa
namespace Go.Proofs.YtcbdkfjfpglnpaaDoor
open Go.RowKit

set_option maxRecDepth 100000 in
set_option maxHeartbeats 1000000 in
theorem lawArrays (k : Int) (m : ByteArray) (w : World) (hk : (Lit.int .i64 k).wf = true) (hs : m.size ≤ 140737488351232) :
    Calls Tryd.prog 6 #[.agg #[.int .i64 k, .string m]] w fun e w' => e = .returned (.bool true) ∧ Below w.heap.size w w' := by
  have HA0 := fun W => array_any k m W hk hs
  have HB0 := fun W => rarray_any k m W hs
  have HE0 := fun W => elem_any k m W hk hs
  have HG0 := fun W => relem_any k m W hs
  unfold tyV at HA0 HB0 HE0 HG0
  obtain ⟨⟨⟨a1, a2⟩, a3⟩, ha⟩ : ∃ x, x = arOut (k, Ds.bl m) := ⟨_, rfl⟩
  obtain ⟨⟨⟨c1, c2⟩, c3⟩, hc⟩ : ∃ x, x = elOut (k, Ds.bl m) := ⟨_, rfl⟩
  rw [← ha] at HA0 HB0
  rw [← hc] at HE0 HG0
  dsimp only at HA0 HB0 HE0 HG0
  obtain ⟨s2, hs2⟩ : ∃ s2 : ByteArray, s2 = ⟨a2.toArray⟩ := ⟨_, rfl⟩
  obtain ⟨t2, ht2⟩ : ∃ t2 : ByteArray, t2 = ⟨c2.toArray⟩ := ⟨_, rfl⟩
  rw [← hs2] at HA0 HB0
  rw [← ht2] at HE0 HG0
  have HA := hid HA0
  have HB := hid HB0
  have HE := hid HE0
  have HG := hid HG0
  clear HA0 HB0 HE0 HG0 ha hc hs2 ht2 hk hs
  go_enter Tryd.func6, Tryd.ntmps6
  go_wp2_with (first
    | (go_at_call 28; refine (HA.out _).mono ?_; rintro e w1 ⟨rfl, hb1⟩; have HB1 := hid (belows (B := w.heap.size) (a := w) (by repeat' first | with_reducible exact Below.refl _ _ | with_reducible assumption | with_reducible refine belows_drewN ?_ _ | with_reducible refine Below.drew ?_ | with_reducible refine Below.setCell ?_ ?_ _ | with_reducible refine Below.alloc ?_ ?_ _ | omega | (simp; done) | (simp; omega)) hb1 (by simp)); have x0 := (hb1.cell (p := ⟨w.heap.size, 0, none⟩) (by simp)); have x1 := (hb1.cell (p := ⟨w.heap.size, 1, none⟩) (by simp)); have hz1 := hb1.size; simp only [World.size_alloc] at hz1; have hy1 : w.heap.size < w1.heap.size := (by omega); simp [go_sem] at x0 x1; clear hb1)
    | (go_at_call 29; refine (HB.out _).mono ?_; rintro e w2 ⟨rfl, hb2⟩; obtain ⟨hcc2, hff2⟩ := bcell hb2; have hz2 := hb2.size; simp only [World.size_alloc] at hz2; have hy2 : w.heap.size < w2.heap.size := (by omega); have hv2 : w1.heap.size < w2.heap.size := (by omega))
    | (go_at_call 30; refine (HE.out _).mono ?_; rintro e w3 ⟨rfl, hb3⟩; obtain ⟨hcc3, hff3⟩ := bcell hb3; have hz3 := hb3.size; simp only [World.size_alloc] at hz3; have hy3 : w.heap.size < w3.heap.size := (by omega); have hv3 : w1.heap.size < w3.heap.size := (by omega); have hu3 : w2.heap.size < w3.heap.size := (by omega))
    | (go_at_call 31; refine (HG.out _).mono ?_; rintro e w4 ⟨rfl, hb4⟩; obtain ⟨hcc4, hff4⟩ := bcell hb4; have hz4 := hb4.size; simp only [World.size_alloc] at hz4; have hy4 : w.heap.size < w4.heap.size := (by omega); have hv4 : w1.heap.size < w4.heap.size := (by omega); have hu4 : w2.heap.size < w4.heap.size := (by omega); have ht4 : w3.heap.size < w4.heap.size := (by omega))
    | (go_at_call 10; refine (begun_any _).mono ?_; rintro e w5 ⟨rfl, hb5⟩; obtain ⟨hcc5, hff5⟩ := bcell hb5; have hz5 := hb5.size; simp only [World.size_alloc] at hz5; have hy5 : w.heap.size < w5.heap.size := (by omega); have hv5 : w1.heap.size < w5.heap.size := (by omega); have hu5 : w2.heap.size < w5.heap.size := (by omega); have ht5 : w3.heap.size < w5.heap.size := (by omega); have hr5 : w4.heap.size < w5.heap.size := (by omega)))
  go_ret
  have h1 := HB1.out.alloc (by omega) (.cells #[.int .i64 a1, .string s2] 27)
  have h2 := (belows h1 hb2 h1.size).alloc (by omega) (.cells #[.int .i64 a1, .string s2] 27)
  have h3 := (belows h2 hb3 h2.size).alloc (by omega) (.cells #[.int .i64 c1, .string t2] 27)
  have h4 := (belows h3 hb4 h3.size).alloc (by omega) (.cells #[.int .i64 c1, .string t2] 27)
  have h5 := belows h4 hb5 h4.size
  exact ⟨rfl, h5⟩
end Go.Proofs.YtcbdkfjfpglnpaaDoor
