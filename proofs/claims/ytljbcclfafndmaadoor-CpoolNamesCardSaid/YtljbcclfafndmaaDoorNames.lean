/- CpoolNames: what any index of any pool names. -/
import Derived.Test.YtljbcclfafndmaaDoorCz
import Derived.Test.YtljbcclfafndmaaDoorDd
namespace Go.Proofs.YtljbcclfafndmaaDoor
open Go.RowKit

set_option maxRecDepth 100000 in
set_option maxHeartbeats 2000000 in
theorem names_law (l : List Cp.C) (i tag : Int) (v : Value) (w : World) (ht : Tabs w) (hv : Kit.IsS 5 w v l.length (l.flatMap cL)) :
    Calls Tryd.prog 5 #[v, .int .i64 i, .int .i64 tag] w fun e w' => e = .returned (.bool true) ∧ Below w.heap.size w w' := by
  have hs0 := ht.size
  have HT := hid (fun W (h : Below w.heap.size w W) => ht.below h ht.size)
  have H1' := (fun W (h : Below w.heap.size w W) => text_at l i v W (hv.below h (Nat.le_refl _)))
  have H2' := (fun W (h : Below w.heap.size w W) => rtext_at l i v W (hv.below h (Nat.le_refl _)))
  have H3' := (fun W (h : Below w.heap.size w W) => class_at l i v W (hv.below h (Nat.le_refl _)))
  have H4' := (fun W (h : Below w.heap.size w W) => rclass_at l i v W (hv.below h (Nat.le_refl _)))
  have H5' := (fun W (h : Below w.heap.size w W) => ref_at l i tag v W (hv.below h (Nat.le_refl _)))
  have H6' := (fun W (h : Below w.heap.size w W) => rref_at l i tag v W (hv.below h (Nat.le_refl _)))
  have H7' := (fun W (h : Below w.heap.size w W) => number_at l i tag v W (hv.below h (Nat.le_refl _)))
  have H8' := (fun W (h : Below w.heap.size w W) => rnumber_at l i tag v W (hv.below h (Nat.le_refl _)))
  obtain ⟨⟨s1, e1⟩, g1⟩ : ∃ x, x = txO l i := ⟨_, rfl⟩
  obtain ⟨⟨s2, e2⟩, g2⟩ : ∃ x, x = clO l i := ⟨_, rfl⟩
  obtain ⟨⟨r0, r1, r2, e3⟩, g3⟩ : ∃ x, x = rfO l i tag := ⟨_, rfl⟩
  obtain ⟨⟨n4, e4⟩, g4⟩ : ∃ x, x = nuO l i tag := ⟨_, rfl⟩
  rw [← g1] at H1' H2'
  rw [← g2] at H3' H4'
  rw [← g3] at H5' H6'
  rw [← g4] at H7' H8'
  dsimp only at H1' H2' H3' H4' H5' H6' H7' H8'
  have H1 := hid H1'
  have H2 := hid H2'
  have H3 := hid H3'
  have H4 := hid H4'
  have H5 := hid H5'
  have H6 := hid H6'
  have H7 := hid H7'
  have H8 := hid H8'
  obtain ⟨a, cap, rfl⟩ := hv.len
  clear ht hv H1' H2' H3' H4' H5' H6' H7' H8' g1 g2 g3 g4
  go_enter Tryd.func5, Tryd.ntmps5
  go_wp2_with (first
    | (go_at_call 19; refine (H1.out _ (by repeat' first | with_reducible exact Below.refl _ _ | with_reducible assumption | with_reducible refine belows_drewN ?_ _ | with_reducible refine Below.drew ?_ | with_reducible refine Below.setCell ?_ ?_ _ | with_reducible refine Below.alloc ?_ ?_ _ | omega | (simp; done) | (simp; omega))).mono ?_; rintro e w1 ⟨rfl, B1⟩)
    | (go_at_call 20; refine (H2.out _ (by repeat' first | with_reducible exact Below.refl _ _ | with_reducible assumption | with_reducible refine belows_drewN ?_ _ | with_reducible refine Below.drew ?_ | with_reducible refine Below.setCell ?_ ?_ _ | with_reducible refine Below.alloc ?_ ?_ _ | omega | (simp; done) | (simp; omega))).mono ?_; rintro e w2 ⟨rfl, hb2⟩; have B2 := belows B1 hb2 B1.size)
    | (go_at_call 21; refine (H3.out _ (by repeat' first | with_reducible exact Below.refl _ _ | with_reducible assumption | with_reducible refine belows_drewN ?_ _ | with_reducible refine Below.drew ?_ | with_reducible refine Below.setCell ?_ ?_ _ | with_reducible refine Below.alloc ?_ ?_ _ | omega | (simp; done) | (simp; omega))).mono ?_; rintro e w3 ⟨rfl, hb3⟩; have B3 := belows B2 hb3 B2.size)
    | (go_at_call 22; refine (H4.out _ (by repeat' first | with_reducible exact Below.refl _ _ | with_reducible assumption | with_reducible refine belows_drewN ?_ _ | with_reducible refine Below.drew ?_ | with_reducible refine Below.setCell ?_ ?_ _ | with_reducible refine Below.alloc ?_ ?_ _ | omega | (simp; done) | (simp; omega))).mono ?_; rintro e w4 ⟨rfl, hb4⟩; have B4 := belows B3 hb4 B3.size)
    | (go_at_call 23; refine (H5.out _ (by repeat' first | with_reducible exact Below.refl _ _ | with_reducible assumption | with_reducible refine belows_drewN ?_ _ | with_reducible refine Below.drew ?_ | with_reducible refine Below.setCell ?_ ?_ _ | with_reducible refine Below.alloc ?_ ?_ _ | omega | (simp; done) | (simp; omega))).mono ?_; rintro e w5 ⟨rfl, hb5⟩; have B5 := belows B4 hb5 B4.size; have B5' := B5.alloc B5.size (.cells #[.string r0, .string r1, .string r2] 39); have X5 := BX.new w5 #[.string r0, .string r1, .string r2] 39)
    | (go_at_call 24; refine (H6.out _ B5').mono ?_; rintro e w6 ⟨rfl, hb6⟩; have B6 := belows B5' hb6 B5'.size; have X6 := X5.below hb6 (by simp); have hz6 := hb6.size; simp only [World.size_alloc] at hz6; have B6' := B6.alloc B6.size (.cells #[.string r0, .string r1, .string r2] 39); have Y6 := BX.new w6 #[.string r0, .string r1, .string r2] 39)
    | (go_at_call 25; refine (H7.out _ B6').mono ?_; rintro e w7 ⟨rfl, hb7⟩; have B7 := belows B6' hb7 B6'.size; have X7 := (X6.below ((Below.refl w6.heap.size w6).alloc (Nat.le_refl _) (.cells #[.string r0, .string r1, .string r2] 39)) X6.sz).below hb7 (by have := X6.sz; simp only [World.size_alloc]; omega); have Y7 := Y6.below hb7 (by simp))
    | (go_at_call 26; refine (H8.out _ B7).mono ?_; rintro e w8 ⟨rfl, hb8⟩; have B8 := belows B7 hb8 B7.size; have X8 := X7.below hb8 X7.sz; have Y8 := Y7.below hb8 Y7.sz)
    | (go_at_call 12; refine (live_any _ (HT.out _ B8)).mono ?_; rintro e w9 ⟨rfl, hb9⟩; have B9 := belows B8 hb9 B8.size; have X9 := X8.below hb9 X8.sz; have Y9 := Y8.below hb9 Y8.sz; have x0 := X9.cell 0; have x1 := X9.cell 1; have x2 := X9.cell 2; have y0 := Y9.cell 0; have y1 := Y9.cell 1; have y2 := Y9.cell 2; simp at x0 x1 x2 y0 y1 y2))
  go_ret
  exact ⟨rfl, B9⟩
end Go.Proofs.YtljbcclfafndmaaDoor
