/- Contracts of Walk, and of the law's loop over it. -/
import Derived.Test.YtihklojiionanaaDoorIter
import Derived.Test.YtihklojiionanaaDoorRound
namespace Go.Proofs.YtihklojiionanaaDoor
open Go.RowKit

attribute [local go_sem] Oper.semAt_some

/-- What Walk leaves: a function value over a box that holds a copy. -/
def WalkPost (bs : List UInt8) (w : World) (e : Ending) (w' : World) : Prop :=
  ∃ v, e = .returned (.func (.func 47) #[] #[.pointer (some ⟨w.heap.size, 0, none⟩)]) ∧ w'.cell? ⟨w.heap.size, 0, none⟩ = some v ∧ IsB w' v bs ∧ Below w.heap.size w w' ∧ w.heap.size < w'.heap.size
theorem isB_set {w : World} {v : Value} {bs : List UInt8} {base B : Nat} (h : w.ownsRow base 5 1 v bs.length (byteVals bs)) (hB : B < base) (u : Value) (hn : bs.length ≤ 140737488355328) : IsB (w.setCell ⟨B, 0, none⟩ u) v bs := by
  refine isB_of_own (base := base) (h.kept (grownBy_setCell' w B u) ?_) hn
  rcases h.2 with ⟨rfl, _⟩ | ⟨g, cap, cur, rfl, hg, _⟩
  · exact .inl rfl
  · exact .inr (fun e => by have : g = B := by simpa [Value.ownBlock] using e
                            omega)
set_option maxRecDepth 100000 in
theorem walk_any (bs : List UInt8) (v : Value) (w : World) (hb : IsB w v bs) : Calls Tryd.prog 28 #[v] w (WalkPost bs w) := by
  have hn := hb.1
  have HB := hid (fun X (h : Below w.heap.size w X) => hb.below h (Nat.le_refl _))
  obtain ⟨a, cap, hv⟩ := hb.len
  subst hv
  clear hb
  go_enter Tryd.func28, Tryd.ntmps28
  go_wp2_with (go_at_call 36; refine (bclone_any bs _ _ (HB.out _ (by repeat' first | with_reducible exact Below.refl _ _ | with_reducible assumption | with_reducible refine belows_drewN ?_ _ | with_reducible refine Below.drew ?_ | with_reducible refine Below.setCell ?_ ?_ _ | with_reducible refine Below.alloc ?_ ?_ _ | omega | (simp; done) | (simp; omega)))).mono ?_; rintro e w1 ⟨v1, rfl, o1, hb1⟩; obtain ⟨a1, cap1, hv1⟩ := (isB_of_own o1 hn).len; subst hv1; obtain ⟨hcc, hff⟩ := bcell hb1; have hz1 := hb1.size; simp only [World.size_alloc] at hz1)
  go_ret
  have hbox : Boxed w1 w.heap.size 29 (.slice a bs.length cap) := (hb1.block w.heap.size (by simp)).trans (Boxed.new w _ _)
  exact ⟨_, rfl, (hbox.set _).cell, isB_set o1 (by simp) _ hn, (belows (b := w.alloc (.cells #[.slice a bs.length cap] 29)) (by repeat' first | with_reducible exact Below.refl _ _ | with_reducible assumption | with_reducible refine belows_drewN ?_ _ | with_reducible refine Below.drew ?_ | with_reducible refine Below.setCell ?_ ?_ _ | with_reducible refine Below.alloc ?_ ?_ _ | omega | (simp; done) | (simp; omega)) hb1 (by simp)).setCell (p := ⟨w.heap.size, 0, none⟩) (Nat.le_refl _) _, by rw [show (w1.setCell ⟨w.heap.size, 0, none⟩ (.slice a1 bs.length cap1)).heap.size = w1.heap.size by simp]; omega⟩
end Go.Proofs.YtihklojiionanaaDoor
