/- Contract of the document's One, where it reads. -/
import Derived.Test.YtihklojiionanaaDoorRoA
namespace Go.Proofs.YtihklojiionanaaDoor
open Go.RowKit

set_option maxRecDepth 100000 in
set_option maxHeartbeats 1000000 in
theorem rone_f3 (b o n cap k c cp cq : Nat) (w : World) (hk : k + 1 + 2 ≤ n) (hn : n ≤ 140737488355328) (hc8 : c < 256) (hc : w.cell? ⟨b, o + k, none⟩ = some (.int .u8 c)) (hp8 : cp < 256) (hp : w.cell? ⟨b, o + (k + 1), none⟩ = some (.int .u8 cp)) (hq8 : cq < 256) (hq : w.cell? ⟨b, o + (k + 2), none⟩ = some (.int .u8 cq)) (hop : Op1.isOp c = true) (hf : Op1.formOf c = 3) :
    Calls Tryd.prog 24 #[.slice (some ⟨b, o, none⟩) n cap, .int .i64 k] w fun e w' => e = .returned (oneV (⟨k, c, Op1.s16 (256 * cp + cq), 0⟩, k + 1 + 2, 0)) ∧ Below w.heap.size w w' := by
  unfold oneV insV
  have hform := fun W => rform_any c W
  unfold isV at hform
  rw [hop, hf] at hform
  have HForm := hid hform
  have hbeh := fun W => rbehind_any 3 W (by omega)
  rw [show Op1.bh 3 = 2 by decide +kernel] at hbeh
  have HBeh := hid hbeh
  have hlt := World.block_lt_of_cell? w _ hc
  have hd : decide ((k : Int) < 0) = false := by simp
  have hd2 : decide ((n : Int) - (k : Int) - 1 < (2 : Int)) = false := by simp; omega
  have hk1 : (k : Int) < n := by omega
  have hk2 : (k : Int) + 1 < n := by omega
  have hk3 : (k : Int) + 2 < n := by omega
  have hsg := fun W => signed16 (256 * cp + cq) W (by omega)
  rw [show ((256 * cp + cq : Nat) : Int) = 256 * (cp : Int) + (cq : Int) by omega] at hsg
  have HSg := hid hsg
  obtain ⟨hlo, hhi⟩ := s16_lo (256 * cp + cq) (by omega)
  obtain ⟨z, hz⟩ : ∃ z, z = Op1.s16 (256 * cp + cq) := ⟨_, rfl⟩
  rw [← hz] at hlo hhi HSg
  rw [← hz]
  clear hsg hz
  clear hform hop hbeh hf
  go_enter Tryd.func24, Tryd.ntmps24
  go_wp2_with (first | (go_at_call 11; refine (HForm.out _).mono ?_; rintro e w1 ⟨rfl, hb1⟩; obtain ⟨hcc, hff⟩ := bcell hb1; have hz1 := hb1.size; simp only [World.size_alloc] at hz1; have hz2 : w.heap.size + 1 < w1.heap.size := (by omega); have hz3 : w.heap.size < w1.heap.size := (by omega); obtain ⟨q0, q1, q2, q3, r0, r1, r2, r3⟩ := ro_cells hb1; (try (have hp1 := (ro_old hb1 hlt _).trans hp)); (try (have hq1 := (ro_old hb1 hlt _).trans hq))) | (go_at_call 40; refine (HBeh.out _).mono ?_; rintro e w3 ⟨rfl, rfl⟩) | (go_at_call 46; refine (HSg.out _).mono ?_; rintro e w3 ⟨rfl, rfl⟩))
  have hb' := (belows (B := w.heap.size) (a := w) (by repeat' first | with_reducible exact Below.refl _ _ | with_reducible assumption | with_reducible refine belows_drewN ?_ _ | with_reducible refine Below.drew ?_ | with_reducible refine Below.setCell ?_ ?_ _ | with_reducible refine Below.alloc ?_ ?_ _ | omega | (simp; done) | (simp; omega)) hb1 (by simp only [World.size_alloc]; omega))
  exact bodyPost_ret (v := .tuple #[.agg #[.int .i64 k, .int .i64 c, .int .i64 z, .int .i64 (0)], .int .i64 (k + 1 + 2), .int .i64 0]) (by simp [results, Tryd.results24, go_sem, q0, q1, q2, q3]) rfl ⟨rfl, (by repeat' first | with_reducible exact Below.refl _ _ | with_reducible assumption | with_reducible refine belows_drewN ?_ _ | with_reducible refine Below.drew ?_ | with_reducible refine Below.setCell ?_ ?_ _ | with_reducible refine Below.alloc ?_ ?_ _ | omega | (simp; done) | (simp; omega))⟩
set_option maxRecDepth 100000 in
set_option maxHeartbeats 1000000 in
theorem rone_f5 (b o n cap k c cp cq : Nat) (w : World) (hk : k + 1 + 2 ≤ n) (hn : n ≤ 140737488355328) (hc8 : c < 256) (hc : w.cell? ⟨b, o + k, none⟩ = some (.int .u8 c)) (hp8 : cp < 256) (hp : w.cell? ⟨b, o + (k + 1), none⟩ = some (.int .u8 cp)) (hq8 : cq < 256) (hq : w.cell? ⟨b, o + (k + 2), none⟩ = some (.int .u8 cq)) (hop : Op1.isOp c = true) (hf : Op1.formOf c = 5) :
    Calls Tryd.prog 24 #[.slice (some ⟨b, o, none⟩) n cap, .int .i64 k] w fun e w' => e = .returned (oneV (⟨k, c, 256 * (cp : Int) + (cq : Int), 0⟩, k + 1 + 2, 0)) ∧ Below w.heap.size w w' := by
  unfold oneV insV
  have hform := fun W => rform_any c W
  unfold isV at hform
  rw [hop, hf] at hform
  have HForm := hid hform
  have hbeh := fun W => rbehind_any 5 W (by omega)
  rw [show Op1.bh 5 = 2 by decide +kernel] at hbeh
  have HBeh := hid hbeh
  have hlt := World.block_lt_of_cell? w _ hc
  have hd : decide ((k : Int) < 0) = false := by simp
  have hd2 : decide ((n : Int) - (k : Int) - 1 < (2 : Int)) = false := by simp; omega
  have hk1 : (k : Int) < n := by omega
  have hk2 : (k : Int) + 1 < n := by omega
  have hk3 : (k : Int) + 2 < n := by omega
  clear hform hop hbeh hf
  go_enter Tryd.func24, Tryd.ntmps24
  go_wp2_with (first | (go_at_call 11; refine (HForm.out _).mono ?_; rintro e w1 ⟨rfl, hb1⟩; obtain ⟨hcc, hff⟩ := bcell hb1; have hz1 := hb1.size; simp only [World.size_alloc] at hz1; have hz2 : w.heap.size + 1 < w1.heap.size := (by omega); have hz3 : w.heap.size < w1.heap.size := (by omega); obtain ⟨q0, q1, q2, q3, r0, r1, r2, r3⟩ := ro_cells hb1; (try (have hp1 := (ro_old hb1 hlt _).trans hp)); (try (have hq1 := (ro_old hb1 hlt _).trans hq))) | (go_at_call 40; refine (HBeh.out _).mono ?_; rintro e w3 ⟨rfl, rfl⟩) | (go_at_call 46; refine (HSg.out _).mono ?_; rintro e w3 ⟨rfl, rfl⟩))
  have hb' := (belows (B := w.heap.size) (a := w) (by repeat' first | with_reducible exact Below.refl _ _ | with_reducible assumption | with_reducible refine belows_drewN ?_ _ | with_reducible refine Below.drew ?_ | with_reducible refine Below.setCell ?_ ?_ _ | with_reducible refine Below.alloc ?_ ?_ _ | omega | (simp; done) | (simp; omega)) hb1 (by simp only [World.size_alloc]; omega))
  exact bodyPost_ret (v := .tuple #[.agg #[.int .i64 k, .int .i64 c, .int .i64 (256 * (cp : Int) + (cq : Int)), .int .i64 (0)], .int .i64 (k + 1 + 2), .int .i64 0]) (by simp [results, Tryd.results24, go_sem, q0, q1, q2, q3]) rfl ⟨rfl, (by repeat' first | with_reducible exact Below.refl _ _ | with_reducible assumption | with_reducible refine belows_drewN ?_ _ | with_reducible refine Below.drew ?_ | with_reducible refine Below.setCell ?_ ?_ _ | with_reducible refine Below.alloc ?_ ?_ _ | omega | (simp; done) | (simp; omega))⟩
set_option maxRecDepth 100000 in
set_option maxHeartbeats 1000000 in
theorem rone_f6 (b o n cap k c cp cq : Nat) (w : World) (hk : k + 1 + 2 ≤ n) (hn : n ≤ 140737488355328) (hc8 : c < 256) (hc : w.cell? ⟨b, o + k, none⟩ = some (.int .u8 c)) (hp8 : cp < 256) (hp : w.cell? ⟨b, o + (k + 1), none⟩ = some (.int .u8 cp)) (hq8 : cq < 256) (hq : w.cell? ⟨b, o + (k + 2), none⟩ = some (.int .u8 cq)) (hop : Op1.isOp c = true) (hf : Op1.formOf c = 6) :
    Calls Tryd.prog 24 #[.slice (some ⟨b, o, none⟩) n cap, .int .i64 k] w fun e w' => e = .returned (oneV (⟨k, c, (k : Int) + Op1.s16 (256 * cp + cq), 0⟩, k + 1 + 2, 0)) ∧ Below w.heap.size w w' := by
  unfold oneV insV
  have hform := fun W => rform_any c W
  unfold isV at hform
  rw [hop, hf] at hform
  have HForm := hid hform
  have hbeh := fun W => rbehind_any 6 W (by omega)
  rw [show Op1.bh 6 = 2 by decide +kernel] at hbeh
  have HBeh := hid hbeh
  have hlt := World.block_lt_of_cell? w _ hc
  have hd : decide ((k : Int) < 0) = false := by simp
  have hd2 : decide ((n : Int) - (k : Int) - 1 < (2 : Int)) = false := by simp; omega
  have hk1 : (k : Int) < n := by omega
  have hk2 : (k : Int) + 1 < n := by omega
  have hk3 : (k : Int) + 2 < n := by omega
  have hsg := fun W => signed16 (256 * cp + cq) W (by omega)
  rw [show ((256 * cp + cq : Nat) : Int) = 256 * (cp : Int) + (cq : Int) by omega] at hsg
  have HSg := hid hsg
  obtain ⟨hlo, hhi⟩ := s16_lo (256 * cp + cq) (by omega)
  obtain ⟨z, hz⟩ : ∃ z, z = Op1.s16 (256 * cp + cq) := ⟨_, rfl⟩
  rw [← hz] at hlo hhi HSg
  rw [← hz]
  clear hsg hz
  clear hform hop hbeh hf
  go_enter Tryd.func24, Tryd.ntmps24
  go_wp2_with (first | (go_at_call 11; refine (HForm.out _).mono ?_; rintro e w1 ⟨rfl, hb1⟩; obtain ⟨hcc, hff⟩ := bcell hb1; have hz1 := hb1.size; simp only [World.size_alloc] at hz1; have hz2 : w.heap.size + 1 < w1.heap.size := (by omega); have hz3 : w.heap.size < w1.heap.size := (by omega); obtain ⟨q0, q1, q2, q3, r0, r1, r2, r3⟩ := ro_cells hb1; (try (have hp1 := (ro_old hb1 hlt _).trans hp)); (try (have hq1 := (ro_old hb1 hlt _).trans hq))) | (go_at_call 40; refine (HBeh.out _).mono ?_; rintro e w3 ⟨rfl, rfl⟩) | (go_at_call 46; refine (HSg.out _).mono ?_; rintro e w3 ⟨rfl, rfl⟩))
  have hb' := (belows (B := w.heap.size) (a := w) (by repeat' first | with_reducible exact Below.refl _ _ | with_reducible assumption | with_reducible refine belows_drewN ?_ _ | with_reducible refine Below.drew ?_ | with_reducible refine Below.setCell ?_ ?_ _ | with_reducible refine Below.alloc ?_ ?_ _ | omega | (simp; done) | (simp; omega)) hb1 (by simp only [World.size_alloc]; omega))
  exact bodyPost_ret (v := .tuple #[.agg #[.int .i64 k, .int .i64 c, .int .i64 ((k : Int) + z), .int .i64 (0)], .int .i64 (k + 1 + 2), .int .i64 0]) (by simp [results, Tryd.results24, go_sem, q0, q1, q2, q3]) rfl ⟨rfl, (by repeat' first | with_reducible exact Below.refl _ _ | with_reducible assumption | with_reducible refine belows_drewN ?_ _ | with_reducible refine Below.drew ?_ | with_reducible refine Below.setCell ?_ ?_ _ | with_reducible refine Below.alloc ?_ ?_ _ | omega | (simp; done) | (simp; omega))⟩
set_option maxRecDepth 100000 in
set_option maxHeartbeats 1000000 in
theorem rone_f7 (b o n cap k c cp cq : Nat) (w : World) (hk : k + 1 + 2 ≤ n) (hn : n ≤ 140737488355328) (hc8 : c < 256) (hc : w.cell? ⟨b, o + k, none⟩ = some (.int .u8 c)) (hp8 : cp < 256) (hp : w.cell? ⟨b, o + (k + 1), none⟩ = some (.int .u8 cp)) (hq8 : cq < 256) (hq : w.cell? ⟨b, o + (k + 2), none⟩ = some (.int .u8 cq)) (hop : Op1.isOp c = true) (hf : Op1.formOf c = 7) :
    Calls Tryd.prog 24 #[.slice (some ⟨b, o, none⟩) n cap, .int .i64 k] w fun e w' => e = .returned (oneV (⟨k, c, cp, Op1.s8 cq⟩, k + 1 + 2, 0)) ∧ Below w.heap.size w w' := by
  unfold oneV insV
  have hform := fun W => rform_any c W
  unfold isV at hform
  rw [hop, hf] at hform
  have HForm := hid hform
  have hbeh := fun W => rbehind_any 7 W (by omega)
  rw [show Op1.bh 7 = 2 by decide +kernel] at hbeh
  have HBeh := hid hbeh
  have hlt := World.block_lt_of_cell? w _ hc
  have hd : decide ((k : Int) < 0) = false := by simp
  have hd2 : decide ((n : Int) - (k : Int) - 1 < (2 : Int)) = false := by simp; omega
  have hk1 : (k : Int) < n := by omega
  have hk2 : (k : Int) + 1 < n := by omega
  have hk3 : (k : Int) + 2 < n := by omega
  have HSg := hid (fun W => signed8 cq W hq8)
  clear hform hop hbeh hf
  go_enter Tryd.func24, Tryd.ntmps24
  go_wp2_with (first | (go_at_call 11; refine (HForm.out _).mono ?_; rintro e w1 ⟨rfl, hb1⟩; obtain ⟨hcc, hff⟩ := bcell hb1; have hz1 := hb1.size; simp only [World.size_alloc] at hz1; have hz2 : w.heap.size + 1 < w1.heap.size := (by omega); have hz3 : w.heap.size < w1.heap.size := (by omega); obtain ⟨q0, q1, q2, q3, r0, r1, r2, r3⟩ := ro_cells hb1; (try (have hp1 := (ro_old hb1 hlt _).trans hp)); (try (have hq1 := (ro_old hb1 hlt _).trans hq))) | (go_at_call 40; refine (HBeh.out _).mono ?_; rintro e w3 ⟨rfl, rfl⟩) | (go_at_call 46; refine (HSg.out _).mono ?_; rintro e w3 ⟨rfl, rfl⟩))
  have hb' := (belows (B := w.heap.size) (a := w) (by repeat' first | with_reducible exact Below.refl _ _ | with_reducible assumption | with_reducible refine belows_drewN ?_ _ | with_reducible refine Below.drew ?_ | with_reducible refine Below.setCell ?_ ?_ _ | with_reducible refine Below.alloc ?_ ?_ _ | omega | (simp; done) | (simp; omega)) hb1 (by simp only [World.size_alloc]; omega))
  exact bodyPost_ret (v := .tuple #[.agg #[.int .i64 k, .int .i64 c, .int .i64 (cp), .int .i64 (Op1.s8 cq)], .int .i64 (k + 1 + 2), .int .i64 0]) (by simp [results, Tryd.results24, go_sem, q0, q1, q2, q3]) rfl ⟨rfl, (by repeat' first | with_reducible exact Below.refl _ _ | with_reducible assumption | with_reducible refine belows_drewN ?_ _ | with_reducible refine Below.drew ?_ | with_reducible refine Below.setCell ?_ ?_ _ | with_reducible refine Below.alloc ?_ ?_ _ | omega | (simp; done) | (simp; omega))⟩
set_option maxRecDepth 100000 in
set_option maxHeartbeats 1000000 in
theorem rone_f8a (b o n cap k c cp : Nat) (w : World) (hk : k + 1 + 1 ≤ n) (hn : n ≤ 140737488355328) (hc8 : c < 256) (hc : w.cell? ⟨b, o + k, none⟩ = some (.int .u8 c)) (hp8 : cp < 256) (hp : w.cell? ⟨b, o + (k + 1), none⟩ = some (.int .u8 cp)) (hop : Op1.isOp c = true) (hf : Op1.formOf c = 8) (h10 : cp = 10) :
    Calls Tryd.prog 24 #[.slice (some ⟨b, o, none⟩) n cap, .int .i64 k] w fun e w' => e = .returned (oneV (⟨k, c, ((10 : Nat) : Int), 0⟩, k + 1 + 1, 0)) ∧ Below w.heap.size w w' := by
  unfold oneV insV
  have hform := fun W => rform_any c W
  unfold isV at hform
  rw [hop, hf] at hform
  have HForm := hid hform
  have hbeh := fun W => rbehind_any 8 W (by omega)
  rw [show Op1.bh 8 = 1 by decide +kernel] at hbeh
  have HBeh := hid hbeh
  have hlt := World.block_lt_of_cell? w _ hc
  have hd : decide ((k : Int) < 0) = false := by simp
  have hd2 : decide ((n : Int) - (k : Int) - 1 < (1 : Int)) = false := by simp; omega
  have hk1 : (k : Int) < n := by omega
  have hk2 : (k : Int) + 1 < n := by omega
  subst h10
  clear hform hop hbeh hf
  go_enter Tryd.func24, Tryd.ntmps24
  go_wp2_with (first | (go_at_call 11; refine (HForm.out _).mono ?_; rintro e w1 ⟨rfl, hb1⟩; obtain ⟨hcc, hff⟩ := bcell hb1; have hz1 := hb1.size; simp only [World.size_alloc] at hz1; have hz2 : w.heap.size + 1 < w1.heap.size := (by omega); have hz3 : w.heap.size < w1.heap.size := (by omega); obtain ⟨q0, q1, q2, q3, r0, r1, r2, r3⟩ := ro_cells hb1; (try (have hp1 := (ro_old hb1 hlt _).trans hp)); (try (have hq1 := (ro_old hb1 hlt _).trans hq))) | (go_at_call 40; refine (HBeh.out _).mono ?_; rintro e w3 ⟨rfl, rfl⟩) | (go_at_call 46; refine (HSg.out _).mono ?_; rintro e w3 ⟨rfl, rfl⟩))
  have hb' := (belows (B := w.heap.size) (a := w) (by repeat' first | with_reducible exact Below.refl _ _ | with_reducible assumption | with_reducible refine belows_drewN ?_ _ | with_reducible refine Below.drew ?_ | with_reducible refine Below.setCell ?_ ?_ _ | with_reducible refine Below.alloc ?_ ?_ _ | omega | (simp; done) | (simp; omega)) hb1 (by simp only [World.size_alloc]; omega))
  exact bodyPost_ret (v := .tuple #[.agg #[.int .i64 k, .int .i64 c, .int .i64 (((10 : Nat) : Int)), .int .i64 (0)], .int .i64 (k + 1 + 1), .int .i64 0]) (by simp [results, Tryd.results24, go_sem, q0, q1, q2, q3]) rfl ⟨rfl, (by repeat' first | with_reducible exact Below.refl _ _ | with_reducible assumption | with_reducible refine belows_drewN ?_ _ | with_reducible refine Below.drew ?_ | with_reducible refine Below.setCell ?_ ?_ _ | with_reducible refine Below.alloc ?_ ?_ _ | omega | (simp; done) | (simp; omega))⟩
set_option maxRecDepth 100000 in
set_option maxHeartbeats 1000000 in
theorem rone_f8b (b o n cap k c cp : Nat) (w : World) (hk : k + 1 + 1 ≤ n) (hn : n ≤ 140737488355328) (hc8 : c < 256) (hc : w.cell? ⟨b, o + k, none⟩ = some (.int .u8 c)) (hp8 : cp < 256) (hp : w.cell? ⟨b, o + (k + 1), none⟩ = some (.int .u8 cp)) (hop : Op1.isOp c = true) (hf : Op1.formOf c = 8) (h11 : cp = 11) :
    Calls Tryd.prog 24 #[.slice (some ⟨b, o, none⟩) n cap, .int .i64 k] w fun e w' => e = .returned (oneV (⟨k, c, ((11 : Nat) : Int), 0⟩, k + 1 + 1, 0)) ∧ Below w.heap.size w w' := by
  unfold oneV insV
  have hform := fun W => rform_any c W
  unfold isV at hform
  rw [hop, hf] at hform
  have HForm := hid hform
  have hbeh := fun W => rbehind_any 8 W (by omega)
  rw [show Op1.bh 8 = 1 by decide +kernel] at hbeh
  have HBeh := hid hbeh
  have hlt := World.block_lt_of_cell? w _ hc
  have hd : decide ((k : Int) < 0) = false := by simp
  have hd2 : decide ((n : Int) - (k : Int) - 1 < (1 : Int)) = false := by simp; omega
  have hk1 : (k : Int) < n := by omega
  have hk2 : (k : Int) + 1 < n := by omega
  subst h11
  clear hform hop hbeh hf
  go_enter Tryd.func24, Tryd.ntmps24
  go_wp2_with (first | (go_at_call 11; refine (HForm.out _).mono ?_; rintro e w1 ⟨rfl, hb1⟩; obtain ⟨hcc, hff⟩ := bcell hb1; have hz1 := hb1.size; simp only [World.size_alloc] at hz1; have hz2 : w.heap.size + 1 < w1.heap.size := (by omega); have hz3 : w.heap.size < w1.heap.size := (by omega); obtain ⟨q0, q1, q2, q3, r0, r1, r2, r3⟩ := ro_cells hb1; (try (have hp1 := (ro_old hb1 hlt _).trans hp)); (try (have hq1 := (ro_old hb1 hlt _).trans hq))) | (go_at_call 40; refine (HBeh.out _).mono ?_; rintro e w3 ⟨rfl, rfl⟩) | (go_at_call 46; refine (HSg.out _).mono ?_; rintro e w3 ⟨rfl, rfl⟩))
  have hb' := (belows (B := w.heap.size) (a := w) (by repeat' first | with_reducible exact Below.refl _ _ | with_reducible assumption | with_reducible refine belows_drewN ?_ _ | with_reducible refine Below.drew ?_ | with_reducible refine Below.setCell ?_ ?_ _ | with_reducible refine Below.alloc ?_ ?_ _ | omega | (simp; done) | (simp; omega)) hb1 (by simp only [World.size_alloc]; omega))
  exact bodyPost_ret (v := .tuple #[.agg #[.int .i64 k, .int .i64 c, .int .i64 (((11 : Nat) : Int)), .int .i64 (0)], .int .i64 (k + 1 + 1), .int .i64 0]) (by simp [results, Tryd.results24, go_sem, q0, q1, q2, q3]) rfl ⟨rfl, (by repeat' first | with_reducible exact Below.refl _ _ | with_reducible assumption | with_reducible refine belows_drewN ?_ _ | with_reducible refine Below.drew ?_ | with_reducible refine Below.setCell ?_ ?_ _ | with_reducible refine Below.alloc ?_ ?_ _ | omega | (simp; done) | (simp; omega))⟩
set_option maxRecDepth 100000 in
set_option maxHeartbeats 1000000 in
theorem rone_f8c (b o n cap k c cp : Nat) (w : World) (hk : k + 1 + 1 ≤ n) (hn : n ≤ 140737488355328) (hc8 : c < 256) (hc : w.cell? ⟨b, o + k, none⟩ = some (.int .u8 c)) (hp8 : cp < 256) (hp : w.cell? ⟨b, o + (k + 1), none⟩ = some (.int .u8 cp)) (hop : Op1.isOp c = true) (hf : Op1.formOf c = 8) (h10 : cp ≠ 10) (h11 : cp ≠ 11) :
    Calls Tryd.prog 24 #[.slice (some ⟨b, o, none⟩) n cap, .int .i64 k] w fun e w' => e = .returned (oneV (Op1.noIns, 0, 13)) ∧ Below w.heap.size w w' := by
  unfold oneV insV Op1.noIns
  have hform := fun W => rform_any c W
  unfold isV at hform
  rw [hop, hf] at hform
  have HForm := hid hform
  have hbeh := fun W => rbehind_any 8 W (by omega)
  rw [show Op1.bh 8 = 1 by decide +kernel] at hbeh
  have HBeh := hid hbeh
  have hlt := World.block_lt_of_cell? w _ hc
  have hd : decide ((k : Int) < 0) = false := by simp
  have hd2 : decide ((n : Int) - (k : Int) - 1 < (1 : Int)) = false := by simp; omega
  have hk1 : (k : Int) < n := by omega
  have hk2 : (k : Int) + 1 < n := by omega
  have g10 : ((cp : Int) != 10) = true := by simp; omega
  have g11 : ((cp : Int) != 11) = true := by simp; omega
  clear h10 h11
  clear hform hop hbeh hf
  go_enter Tryd.func24, Tryd.ntmps24
  go_wp2_with (first | (go_at_call 11; refine (HForm.out _).mono ?_; rintro e w1 ⟨rfl, hb1⟩; obtain ⟨hcc, hff⟩ := bcell hb1; have hz1 := hb1.size; simp only [World.size_alloc] at hz1; have hz2 : w.heap.size + 1 < w1.heap.size := (by omega); have hz3 : w.heap.size < w1.heap.size := (by omega); obtain ⟨q0, q1, q2, q3, r0, r1, r2, r3⟩ := ro_cells hb1; (try (have hp1 := (ro_old hb1 hlt _).trans hp)); (try (have hq1 := (ro_old hb1 hlt _).trans hq))) | (go_at_call 40; refine (HBeh.out _).mono ?_; rintro e w3 ⟨rfl, rfl⟩) | (go_at_call 46; refine (HSg.out _).mono ?_; rintro e w3 ⟨rfl, rfl⟩))
  have hb' := (belows (B := w.heap.size) (a := w) (by repeat' first | with_reducible exact Below.refl _ _ | with_reducible assumption | with_reducible refine belows_drewN ?_ _ | with_reducible refine Below.drew ?_ | with_reducible refine Below.setCell ?_ ?_ _ | with_reducible refine Below.alloc ?_ ?_ _ | omega | (simp; done) | (simp; omega)) hb1 (by simp only [World.size_alloc]; omega))
  exact bodyPost_ret (v := .tuple #[.agg #[.int .i64 0, .int .i64 0, .int .i64 0, .int .i64 0], .int .i64 0, .int .i64 13]) (by simp [results, Tryd.results24, go_sem, q0, q1, q2, q3]) rfl ⟨rfl, (by repeat' first | with_reducible exact Below.refl _ _ | with_reducible assumption | with_reducible refine belows_drewN ?_ _ | with_reducible refine Below.drew ?_ | with_reducible refine Below.setCell ?_ ?_ _ | with_reducible refine Below.alloc ?_ ?_ _ | omega | (simp; done) | (simp; omega))⟩
end Go.Proofs.YtihklojiionanaaDoor
