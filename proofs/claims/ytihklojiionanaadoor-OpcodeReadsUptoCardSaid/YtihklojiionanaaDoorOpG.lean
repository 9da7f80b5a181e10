/- Contract of read at iinc. -/
import Derived.Test.YtihklojiionanaaDoorOpF
import Derived.BigRegion
namespace Go.Proofs.YtihklojiionanaaDoor
open Go.RowKit

set_option maxRecDepth 100000 in
theorem read_f7 (op p : Int) (b o n cap c d : Nat) (is : Bool) (w : World) (hn : 2 ≤ n)
    (H : Hid (∀ W, Below w.heap.size w W → Calls Tryd.prog 10 #[.int .i64 op] W fun e w' => e = .returned (.tuple #[.int .i64 (7 : Nat), .bool is]) ∧ W = w'))
    (hc : w.cell? ⟨b, o, none⟩ = some (.int .u8 c)) (hd : w.cell? ⟨b, o + 1, none⟩ = some (.int .u8 d)) (hlt : b < w.heap.size) (e1 : Hid (wrap64 (c : Int) = c)) (e2 : Hid (wrap64 (IntKind.i8.wrap (d : Int)) = IntKind.i8.wrap d)) :
    Calls Tryd.prog 45 #[.int .i64 op, .int .i64 p, .slice (some ⟨b, o, none⟩) n cap] w fun e w' => e = .returned (insV ⟨p, op, c, IntKind.i8.wrap d⟩) ∧ Below w.heap.size w w' := by
  unfold insV
  have hne : b ≠ w.heap.size + 1 := by omega
  have hne' : ¬ (w.heap.size + 1 = b) := by omega
  go_enter Tryd.func45, Tryd.ntmps45
  go_wp2_with (go_at_call 10; refine (H.out _ (by repeat' first | with_reducible exact Below.refl _ _ | with_reducible assumption | with_reducible refine belows_drewN ?_ _ | with_reducible refine Below.drew ?_ | with_reducible refine Below.setCell ?_ ?_ _ | with_reducible refine Below.alloc ?_ ?_ _ | omega | (simp; done) | (simp; omega))).mono ?_; rintro e w' ⟨rfl, rfl⟩)
  obtain ⟨W, hW⟩ : ∃ W, W = (w.alloc (Obj.cells #[.int .i64 0, .int .i64 0, .int .i64 0, .int .i64 0] 35)).alloc (Obj.cells #[.int .i64 p, .int .i64 op, .int .i64 0, .int .i64 0] 35) := ⟨_, rfl⟩
  have hb : Below w.heap.size w W := by rw [hW]; exact (by repeat' first | with_reducible exact Below.refl _ _ | with_reducible assumption | with_reducible refine belows_drewN ?_ _ | with_reducible refine Below.drew ?_ | with_reducible refine Below.setCell ?_ ?_ _ | with_reducible refine Below.alloc ?_ ?_ _ | omega | (simp; done) | (simp; omega))
  have c0 : W.cell? ⟨w.heap.size, 0, none⟩ = some (.int .i64 0) := by rw [hW]; simp [go_sem]
  have c1 : W.cell? ⟨w.heap.size, 1, none⟩ = some (.int .i64 0) := by rw [hW]; simp [go_sem]
  have c2 : W.cell? ⟨w.heap.size, 2, none⟩ = some (.int .i64 0) := by rw [hW]; simp [go_sem]
  have c3 : W.cell? ⟨w.heap.size, 3, none⟩ = some (.int .i64 0) := by rw [hW]; simp [go_sem]
  have d0 : W.cell? ⟨w.heap.size + 1, 0, none⟩ = some (.int .i64 p) := by rw [hW]; simp [go_sem]
  have d1 : W.cell? ⟨w.heap.size + 1, 1, none⟩ = some (.int .i64 op) := by rw [hW]; simp [go_sem]
  have d2 : W.cell? ⟨w.heap.size + 1, 2, none⟩ = some (.int .i64 0) := by rw [hW]; simp [go_sem]
  have d3 : W.cell? ⟨w.heap.size + 1, 3, none⟩ = some (.int .i64 0) := by rw [hW]; simp [go_sem]
  have z0 : ∀ o, W.frozen? ⟨w.heap.size, o, none⟩ = false := by intro o; rw [hW]; simp [go_sem]
  have z1 : ∀ o, W.frozen? ⟨w.heap.size + 1, o, none⟩ = false := by intro o; rw [hW]; simp [go_sem]
  have hc' : W.cell? ⟨b, o, none⟩ = some (.int .u8 c) := (hb.cell (p := ⟨b, o, none⟩) hlt).trans hc
  have hd' : W.cell? ⟨b, o + 1, none⟩ = some (.int .u8 d) := (hb.cell (p := ⟨b, o + 1, none⟩) hlt).trans hd
  rw [← hW]
  clear hW hc hd H
  go_region
  go_wp2
  exact bodyPost_ret (v := .agg #[.int .i64 p, .int .i64 op, .int .i64 c, .int .i64 (IntKind.i8.wrap d)]) (by simp [results, Tryd.results45, go_sem, c0, c1, c2, c3]; exact ⟨e1.out, e2.out⟩) rfl ⟨rfl, (by repeat' first | with_reducible exact Below.refl _ _ | with_reducible assumption | with_reducible refine belows_drewN ?_ _ | with_reducible refine Below.drew ?_ | with_reducible refine Below.setCell ?_ ?_ _ | with_reducible refine Below.alloc ?_ ?_ _ | omega | (simp; done) | (simp; omega))⟩
end Go.Proofs.YtihklojiionanaaDoor
