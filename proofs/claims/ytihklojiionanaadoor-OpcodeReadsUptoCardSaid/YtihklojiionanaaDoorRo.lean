/- Contract of the document's One. -/
import Derived.Test.YtihklojiionanaaDoorOpZ
namespace Go.Proofs.YtihklojiionanaaDoor
open Go.RowKit

theorem ro_cells {w w1 : World} {a b : Int} (h : Below ((w.alloc (.cells #[.int .i64 0, .int .i64 0, .int .i64 0, .int .i64 0] 35)).alloc (.cells #[.int .i64 a, .int .i64 b, .int .i64 0, .int .i64 0] 35)).heap.size ((w.alloc (.cells #[.int .i64 0, .int .i64 0, .int .i64 0, .int .i64 0] 35)).alloc (.cells #[.int .i64 a, .int .i64 b, .int .i64 0, .int .i64 0] 35)) w1) :
    w1.cell? ⟨w.heap.size, 0, none⟩ = some (.int .i64 0) ∧ w1.cell? ⟨w.heap.size, 1, none⟩ = some (.int .i64 0) ∧ w1.cell? ⟨w.heap.size, 2, none⟩ = some (.int .i64 0) ∧ w1.cell? ⟨w.heap.size, 3, none⟩ = some (.int .i64 0) ∧
    w1.cell? ⟨w.heap.size + 1, 0, none⟩ = some (.int .i64 a) ∧ w1.cell? ⟨w.heap.size + 1, 1, none⟩ = some (.int .i64 b) ∧ w1.cell? ⟨w.heap.size + 1, 2, none⟩ = some (.int .i64 0) ∧ w1.cell? ⟨w.heap.size + 1, 3, none⟩ = some (.int .i64 0) := by
  obtain ⟨hcc, -⟩ := bcell h
  have h0 : ∀ j, w1.cell? ⟨w.heap.size, j, none⟩ = (#[Value.int .i64 0, .int .i64 0, .int .i64 0, .int .i64 0])[j]? := fun j => by
    rw [hcc _ _ (by simp only [World.size_alloc]; omega), World.cell?_alloc_past _ _ _ (by simp), World.cell?_alloc_at _ _ _ _ rfl]
  have h1 : ∀ j, w1.cell? ⟨w.heap.size + 1, j, none⟩ = (#[Value.int .i64 a, .int .i64 b, .int .i64 0, .int .i64 0])[j]? := fun j => by
    rw [hcc _ _ (by simp only [World.size_alloc]; omega), World.cell?_alloc_at _ _ _ _ (by simp)]
  exact ⟨h0 0, h0 1, h0 2, h0 3, h1 0, h1 1, h1 2, h1 3⟩
theorem ro_old {w w1 : World} {x y : Obj} (h : Below ((w.alloc x).alloc y).heap.size ((w.alloc x).alloc y) w1) {b : Nat} (hb : b < w.heap.size) (j : Nat) : w1.cell? ⟨b, j, none⟩ = w.cell? ⟨b, j, none⟩ := by
  obtain ⟨hcc, -⟩ := bcell h
  rw [hcc _ _ (by simp only [World.size_alloc]; omega), World.cell?_alloc_past _ _ _ (by simp; omega), World.cell?_alloc_past _ _ _ hb]
set_option maxRecDepth 100000 in
theorem signed8 (c : Nat) (w : World) (hc : c < 256) : Calls Tryd.prog 46 #[.int .i64 c, .int .i64 8] w fun e w' => e = .returned (.int .i64 (Op1.s8 c)) ∧ w = w' := by
  unfold Op1.s8
  by_cases h : 128 ≤ c
  · rw [if_pos h]
    have hd : decide (128 ≤ (c : Int)) = true := by simp; omega
    have hc2 : (c : Int) < 256 := by omega
    have hc3 : 128 ≤ (c : Int) := by omega
    go_enter Tryd.func46, Tryd.ntmps46
    go_wp2
    go_ret
    exact ⟨rfl, rfl⟩
  · rw [if_neg h]
    have hd : decide (128 ≤ (c : Int)) = false := by simp; omega
    go_enter Tryd.func46, Tryd.ntmps46
    go_wp2
    go_ret
    exact ⟨rfl, rfl⟩
set_option maxRecDepth 100000 in
theorem signed16 (c : Nat) (w : World) (hc : c < 65536) : Calls Tryd.prog 46 #[.int .i64 c, .int .i64 16] w fun e w' => e = .returned (.int .i64 (Op1.s16 c)) ∧ w = w' := by
  unfold Op1.s16
  by_cases h : 32768 ≤ c
  · rw [if_pos h]
    have hd : decide (32768 ≤ (c : Int)) = true := by simp; omega
    have hc2 : (c : Int) < 65536 := by omega
    have hc3 : 32768 ≤ (c : Int) := by omega
    go_enter Tryd.func46, Tryd.ntmps46
    go_wp2
    go_ret
    exact ⟨rfl, rfl⟩
  · rw [if_neg h]
    have hd : decide (32768 ≤ (c : Int)) = false := by simp; omega
    go_enter Tryd.func46, Tryd.ntmps46
    go_wp2
    go_ret
    exact ⟨rfl, rfl⟩
set_option maxRecDepth 100000 in
theorem rone_out (a : Option Addr) (n cap : Nat) (p : Int) (w : World) (h : p < 0 ∨ (n : Int) ≤ p) :
    Calls Tryd.prog 24 #[.slice a n cap, .int .i64 p] w fun e w' => e = .returned (oneV (Op1.noIns, 0, 11)) ∧ Below w.heap.size w w' := by
  unfold oneV insV Op1.noIns
  rcases h with h | h
  · have hd : decide (p < 0) = true := by simpa using h
    go_enter Tryd.func24, Tryd.ntmps24
    go_wp2
    exact bodyPost_ret (v := .tuple #[.agg #[.int .i64 0, .int .i64 0, .int .i64 0, .int .i64 0], .int .i64 0, .int .i64 11]) (by simp [results, Tryd.results24, go_sem]) rfl ⟨rfl, (by repeat' first | with_reducible exact Below.refl _ _ | with_reducible assumption | with_reducible refine belows_drewN ?_ _ | with_reducible refine Below.drew ?_ | with_reducible refine Below.setCell ?_ ?_ _ | with_reducible refine Below.alloc ?_ ?_ _ | omega | (simp; done) | (simp; omega))⟩
  · have hd : decide (p < 0) = false := by simp; omega
    go_enter Tryd.func24, Tryd.ntmps24
    go_wp2
    exact bodyPost_ret (v := .tuple #[.agg #[.int .i64 0, .int .i64 0, .int .i64 0, .int .i64 0], .int .i64 0, .int .i64 11]) (by simp [results, Tryd.results24, go_sem]) rfl ⟨rfl, (by repeat' first | with_reducible exact Below.refl _ _ | with_reducible assumption | with_reducible refine belows_drewN ?_ _ | with_reducible refine Below.drew ?_ | with_reducible refine Below.setCell ?_ ?_ _ | with_reducible refine Below.alloc ?_ ?_ _ | omega | (simp; done) | (simp; omega))⟩
set_option maxRecDepth 100000 in
theorem rone_noop (b o n cap k c : Nat) (w : World) (hk : k < n) (hc8 : c < 256) (hc : w.cell? ⟨b, o + k, none⟩ = some (.int .u8 c)) (hop : Op1.isOp c = false) :
    Calls Tryd.prog 24 #[.slice (some ⟨b, o, none⟩) n cap, .int .i64 k] w fun e w' => e = .returned (oneV (Op1.noIns, 0, 10)) ∧ Below w.heap.size w w' := by
  unfold oneV insV Op1.noIns
  have hform := fun W => rform_any c W
  unfold isV at hform
  rw [hop] at hform
  have HForm := hid hform
  generalize Op1.formOf (c : Int) = f at *
  have hlt := World.block_lt_of_cell? w _ hc
  have hd : decide ((k : Int) < 0) = false := by simp
  clear hform hop
  go_enter Tryd.func24, Tryd.ntmps24
  go_wp2_with (first | (go_at_call 11; refine (HForm.out _).mono ?_; rintro e w1 ⟨rfl, hb1⟩; obtain ⟨hcc, hff⟩ := bcell hb1; have hz1 := hb1.size; simp only [World.size_alloc] at hz1; have hz2 : w.heap.size + 1 < w1.heap.size := (by omega); have hz3 : w.heap.size < w1.heap.size := (by omega); obtain ⟨q0, q1, q2, q3, r0, r1, r2, r3⟩ := ro_cells hb1; (try (have hp1 := (ro_old hb1 hlt _).trans hp)); (try (have hq1 := (ro_old hb1 hlt _).trans hq))) | (go_at_call 40; refine (HBeh.out _).mono ?_; rintro e w3 ⟨rfl, rfl⟩) | (go_at_call 46; refine (HSg.out _).mono ?_; rintro e w3 ⟨rfl, rfl⟩))
  have hb' := (belows (B := w.heap.size) (a := w) (by repeat' first | with_reducible exact Below.refl _ _ | with_reducible assumption | with_reducible refine belows_drewN ?_ _ | with_reducible refine Below.drew ?_ | with_reducible refine Below.setCell ?_ ?_ _ | with_reducible refine Below.alloc ?_ ?_ _ | omega | (simp; done) | (simp; omega)) hb1 (by simp only [World.size_alloc]; omega))
  exact bodyPost_ret (v := .tuple #[.agg #[.int .i64 0, .int .i64 0, .int .i64 0, .int .i64 0], .int .i64 0, .int .i64 10]) (by simp [results, Tryd.results24, go_sem, q0, q1, q2, q3]) rfl ⟨rfl, (by repeat' first | with_reducible exact Below.refl _ _ | with_reducible assumption | with_reducible refine belows_drewN ?_ _ | with_reducible refine Below.drew ?_ | with_reducible refine Below.setCell ?_ ?_ _ | with_reducible refine Below.alloc ?_ ?_ _ | omega | (simp; done) | (simp; omega))⟩
set_option maxRecDepth 100000 in
theorem rone_cut (b o n cap k c f y : Nat) (w : World) (hk : k < n) (hn : n ≤ 140737488355328) (hc8 : c < 256) (hc : w.cell? ⟨b, o + k, none⟩ = some (.int .u8 c)) (hop : Op1.isOp c = true) (hf : Op1.formOf c = f) (hf8 : f ≤ 8) (hy : Op1.bh f = y) (hcut : n - k - 1 < y) :
    Calls Tryd.prog 24 #[.slice (some ⟨b, o, none⟩) n cap, .int .i64 k] w fun e w' => e = .returned (oneV (Op1.noIns, 0, 11)) ∧ Below w.heap.size w w' := by
  unfold oneV insV Op1.noIns
  have hform := fun W => rform_any c W
  unfold isV at hform
  rw [hop, hf] at hform
  have HForm := hid hform
  have hbeh := fun W => rbehind_any f W hf8
  rw [hy] at hbeh
  have HBeh := hid hbeh
  have hlt := World.block_lt_of_cell? w _ hc
  have hd : decide ((k : Int) < 0) = false := by simp
  have hd2 : decide ((n : Int) - (k : Int) - 1 < (y : Int)) = true := by simp; omega
  clear hform hop hbeh hf hy hcut
  go_enter Tryd.func24, Tryd.ntmps24
  go_wp2_with (first | (go_at_call 11; refine (HForm.out _).mono ?_; rintro e w1 ⟨rfl, hb1⟩; obtain ⟨hcc, hff⟩ := bcell hb1; have hz1 := hb1.size; simp only [World.size_alloc] at hz1; have hz2 : w.heap.size + 1 < w1.heap.size := (by omega); have hz3 : w.heap.size < w1.heap.size := (by omega); obtain ⟨q0, q1, q2, q3, r0, r1, r2, r3⟩ := ro_cells hb1; (try (have hp1 := (ro_old hb1 hlt _).trans hp)); (try (have hq1 := (ro_old hb1 hlt _).trans hq))) | (go_at_call 40; refine (HBeh.out _).mono ?_; rintro e w3 ⟨rfl, rfl⟩) | (go_at_call 46; refine (HSg.out _).mono ?_; rintro e w3 ⟨rfl, rfl⟩))
  have hb' := (belows (B := w.heap.size) (a := w) (by repeat' first | with_reducible exact Below.refl _ _ | with_reducible assumption | with_reducible refine belows_drewN ?_ _ | with_reducible refine Below.drew ?_ | with_reducible refine Below.setCell ?_ ?_ _ | with_reducible refine Below.alloc ?_ ?_ _ | omega | (simp; done) | (simp; omega)) hb1 (by simp only [World.size_alloc]; omega))
  exact bodyPost_ret (v := .tuple #[.agg #[.int .i64 0, .int .i64 0, .int .i64 0, .int .i64 0], .int .i64 0, .int .i64 11]) (by simp [results, Tryd.results24, go_sem, q0, q1, q2, q3]) rfl ⟨rfl, (by repeat' first | with_reducible exact Below.refl _ _ | with_reducible assumption | with_reducible refine belows_drewN ?_ _ | with_reducible refine Below.drew ?_ | with_reducible refine Below.setCell ?_ ?_ _ | with_reducible refine Below.alloc ?_ ?_ _ | omega | (simp; done) | (simp; omega))⟩
end Go.Proofs.YtihklojiionanaaDoor
