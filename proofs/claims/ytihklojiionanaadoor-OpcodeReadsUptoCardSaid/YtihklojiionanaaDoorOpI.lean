/- Contract of One, where it reads. -/
import Derived.Test.YtihklojiionanaaDoorOpH
namespace Go.Proofs.YtihklojiionanaaDoor
open Go.RowKit

theorem bcell {W w1 : World} (hb : Below W.heap.size W w1) : (∀ b o, b < W.heap.size → w1.cell? ⟨b, o, none⟩ = W.cell? ⟨b, o, none⟩) ∧ (∀ b o, b < W.heap.size → w1.frozen? ⟨b, o, none⟩ = W.frozen? ⟨b, o, none⟩) :=
  ⟨fun b o h => hb.cell (p := ⟨b, o, none⟩) h, fun b o h => hb.frozen (p := ⟨b, o, none⟩) h⟩
set_option maxRecDepth 100000 in
theorem one_zero (b o n cap k c : Nat) (w : World) (hk : k < n) (hn : n ≤ 140737488355328) (hcap : n ≤ cap) (hc8 : c < 256) (ht : Tabs w) (hc : w.cell? ⟨b, o + k, none⟩ = some (.int .u8 c)) (hop : Op1.isOp c = true) (hsz : Op1.szOf c = 1) (hf : Op1.formOf c = 0) (h188 : c ≠ 188) :
    Calls Tryd.prog 23 #[.slice (some ⟨b, o, none⟩) n cap, .int .i64 k] w fun e w' => e = .returned (oneV (⟨k, c, 0, 0⟩, k + 1, 0)) ∧ Below w.heap.size w w' := by
  unfold oneV insV
  have hsize := fun W (h : Below w.heap.size w W) => size_any c W (ht.below h ht.size)
  unfold szV at hsize
  rw [hop, hsz] at hsize
  have hread := fun sv W (h : Below w.heap.size w W) => read_zero c k sv W (ht.below h ht.size) hf
  unfold insV at hread
  have H := hid hsize
  have HR := hid hread
  have hlt := World.block_lt_of_cell? w _ hc
  have hd : decide ((k : Int) < 0) = false := by simp
  have hd2 : decide ((n : Int) - (k : Int) < 1) = false := by simp; omega
  have h1 : ((c : Int) == 188) = false := by simp; omega
  clear hsize hop ht hsz hf hread h188
  go_enter Tryd.func23, Tryd.ntmps23
  go_wp2_with (first | (go_at_call 12; refine (H.out _ (by repeat' first | with_reducible exact Below.refl _ _ | with_reducible assumption | with_reducible refine belows_drewN ?_ _ | with_reducible refine Below.drew ?_ | with_reducible refine Below.setCell ?_ ?_ _ | with_reducible refine Below.alloc ?_ ?_ _ | omega | (simp; done) | (simp; omega))).mono ?_; rintro e w' ⟨rfl, rfl⟩) | (go_at_call 45; refine (HR.out _ _ (by repeat' first | with_reducible exact Below.refl _ _ | with_reducible assumption | with_reducible refine belows_drewN ?_ _ | with_reducible refine Below.drew ?_ | with_reducible refine Below.setCell ?_ ?_ _ | with_reducible refine Below.alloc ?_ ?_ _ | omega | (simp; done) | (simp; omega))).mono ?_; rintro e w' ⟨rfl, hb⟩; obtain ⟨hcc, hff⟩ := bcell hb; have hz := hb.size; simp only [World.size_alloc] at hz; have hz1 : w.heap.size < w'.heap.size := by omega))
  all_goals have hb' := (belows (B := w.heap.size) (a := w) (by repeat' first | with_reducible exact Below.refl _ _ | with_reducible assumption | with_reducible refine belows_drewN ?_ _ | with_reducible refine Below.drew ?_ | with_reducible refine Below.setCell ?_ ?_ _ | with_reducible refine Below.alloc ?_ ?_ _ | omega | (simp; done) | (simp; omega)) hb (by simp))
  all_goals exact bodyPost_ret (v := .tuple #[.agg #[.int .i64 k, .int .i64 c, .int .i64 0, .int .i64 0], .int .i64 (k + 1), .int .i64 0]) (by simp [results, Tryd.results23, go_sem, hcc, hz1]) rfl ⟨rfl, (by repeat' first | with_reducible exact Below.refl _ _ | with_reducible assumption | with_reducible refine belows_drewN ?_ _ | with_reducible refine Below.drew ?_ | with_reducible refine Below.setCell ?_ ?_ _ | with_reducible refine Below.alloc ?_ ?_ _ | omega | (simp; done) | (simp; omega))⟩
set_option maxRecDepth 100000 in
theorem one_long (b o n cap k c sz : Nat) (xa xb : Int) (w : World) (hk : k + sz ≤ n) (hn : n ≤ 140737488355328) (hcap : n ≤ cap) (hc8 : c < 256) (ht : Tabs w) (hc : w.cell? ⟨b, o + k, none⟩ = some (.int .u8 c)) (hop : Op1.isOp c = true) (hsz : Op1.szOf c = sz) (hsz2 : 2 ≤ sz)
    (hread : ∀ W, Below w.heap.size w W → Calls Tryd.prog 45 #[.int .i64 c, .int .i64 k, .slice (some ⟨b, o + (k + 1), none⟩) (k + sz - (k + 1)) (cap - (k + 1))] W fun e w' => e = .returned (insV ⟨k, c, xa, xb⟩) ∧ Below W.heap.size W w')
    (hgood : c ≠ 188 ∨ xa = 10 ∨ xa = 11) :
    Calls Tryd.prog 23 #[.slice (some ⟨b, o, none⟩) n cap, .int .i64 k] w fun e w' => e = .returned (oneV (⟨k, c, xa, xb⟩, k + sz, 0)) ∧ Below w.heap.size w w' := by
  unfold oneV insV
  have hsize := fun W (h : Below w.heap.size w W) => size_any c W (ht.below h ht.size)
  unfold szV at hsize
  rw [hop, hsz] at hsize
  unfold insV at hread
  have H := hid hsize
  have HR := hid hread
  have hlt := World.block_lt_of_cell? w _ hc
  have hd : decide ((k : Int) < 0) = false := by simp
  have hd2 : decide ((n : Int) - (k : Int) < (sz : Int)) = false := by simp; omega
  have hne : ¬ cap = k + 1 := by omega
  clear hsize hop ht hsz hread
  rcases hgood with h188 | h188 | h188
  · have h1 : ((c : Int) == 188) = false := by simp; omega
    clear h188
    (go_enter Tryd.func23, Tryd.ntmps23; go_wp2_with (first | (go_at_call 12; refine (H.out _ (by repeat' first | with_reducible exact Below.refl _ _ | with_reducible assumption | with_reducible refine belows_drewN ?_ _ | with_reducible refine Below.drew ?_ | with_reducible refine Below.setCell ?_ ?_ _ | with_reducible refine Below.alloc ?_ ?_ _ | omega | (simp; done) | (simp; omega))).mono ?_; rintro e w' ⟨rfl, rfl⟩) | (go_at_call 45; refine (HR.out _ (by repeat' first | with_reducible exact Below.refl _ _ | with_reducible assumption | with_reducible refine belows_drewN ?_ _ | with_reducible refine Below.drew ?_ | with_reducible refine Below.setCell ?_ ?_ _ | with_reducible refine Below.alloc ?_ ?_ _ | omega | (simp; done) | (simp; omega))).mono ?_; rintro e w' ⟨rfl, hb⟩; obtain ⟨hcc, hff⟩ := bcell hb; have hz := hb.size; simp only [World.size_alloc] at hz; have hz1 : w.heap.size < w'.heap.size := by omega)); have hb' := (belows (B := w.heap.size) (a := w) (by repeat' first | with_reducible exact Below.refl _ _ | with_reducible assumption | with_reducible refine belows_drewN ?_ _ | with_reducible refine Below.drew ?_ | with_reducible refine Below.setCell ?_ ?_ _ | with_reducible refine Below.alloc ?_ ?_ _ | omega | (simp; done) | (simp; omega)) hb (by simp)); exact bodyPost_ret (v := .tuple #[.agg #[.int .i64 k, .int .i64 c, .int .i64 _, .int .i64 xb], .int .i64 (k + sz), .int .i64 0]) (by simp [results, Tryd.results23, go_sem, hcc, hz1]) rfl ⟨rfl, (by repeat' first | with_reducible exact Below.refl _ _ | with_reducible assumption | with_reducible refine belows_drewN ?_ _ | with_reducible refine Below.drew ?_ | with_reducible refine Below.setCell ?_ ?_ _ | with_reducible refine Below.alloc ?_ ?_ _ | omega | (simp; done) | (simp; omega))⟩)
  · subst h188
    by_cases h188 : c = 188
    · have h1 : ((c : Int) == 188) = true := by simp; omega
      clear h188
      (go_enter Tryd.func23, Tryd.ntmps23; go_wp2_with (first | (go_at_call 12; refine (H.out _ (by repeat' first | with_reducible exact Below.refl _ _ | with_reducible assumption | with_reducible refine belows_drewN ?_ _ | with_reducible refine Below.drew ?_ | with_reducible refine Below.setCell ?_ ?_ _ | with_reducible refine Below.alloc ?_ ?_ _ | omega | (simp; done) | (simp; omega))).mono ?_; rintro e w' ⟨rfl, rfl⟩) | (go_at_call 45; refine (HR.out _ (by repeat' first | with_reducible exact Below.refl _ _ | with_reducible assumption | with_reducible refine belows_drewN ?_ _ | with_reducible refine Below.drew ?_ | with_reducible refine Below.setCell ?_ ?_ _ | with_reducible refine Below.alloc ?_ ?_ _ | omega | (simp; done) | (simp; omega))).mono ?_; rintro e w' ⟨rfl, hb⟩; obtain ⟨hcc, hff⟩ := bcell hb; have hz := hb.size; simp only [World.size_alloc] at hz; have hz1 : w.heap.size < w'.heap.size := by omega)); have hb' := (belows (B := w.heap.size) (a := w) (by repeat' first | with_reducible exact Below.refl _ _ | with_reducible assumption | with_reducible refine belows_drewN ?_ _ | with_reducible refine Below.drew ?_ | with_reducible refine Below.setCell ?_ ?_ _ | with_reducible refine Below.alloc ?_ ?_ _ | omega | (simp; done) | (simp; omega)) hb (by simp)); exact bodyPost_ret (v := .tuple #[.agg #[.int .i64 k, .int .i64 c, .int .i64 _, .int .i64 xb], .int .i64 (k + sz), .int .i64 0]) (by simp [results, Tryd.results23, go_sem, hcc, hz1]) rfl ⟨rfl, (by repeat' first | with_reducible exact Below.refl _ _ | with_reducible assumption | with_reducible refine belows_drewN ?_ _ | with_reducible refine Below.drew ?_ | with_reducible refine Below.setCell ?_ ?_ _ | with_reducible refine Below.alloc ?_ ?_ _ | omega | (simp; done) | (simp; omega))⟩)
    · have h1 : ((c : Int) == 188) = false := by simp; omega
      clear h188
      (go_enter Tryd.func23, Tryd.ntmps23; go_wp2_with (first | (go_at_call 12; refine (H.out _ (by repeat' first | with_reducible exact Below.refl _ _ | with_reducible assumption | with_reducible refine belows_drewN ?_ _ | with_reducible refine Below.drew ?_ | with_reducible refine Below.setCell ?_ ?_ _ | with_reducible refine Below.alloc ?_ ?_ _ | omega | (simp; done) | (simp; omega))).mono ?_; rintro e w' ⟨rfl, rfl⟩) | (go_at_call 45; refine (HR.out _ (by repeat' first | with_reducible exact Below.refl _ _ | with_reducible assumption | with_reducible refine belows_drewN ?_ _ | with_reducible refine Below.drew ?_ | with_reducible refine Below.setCell ?_ ?_ _ | with_reducible refine Below.alloc ?_ ?_ _ | omega | (simp; done) | (simp; omega))).mono ?_; rintro e w' ⟨rfl, hb⟩; obtain ⟨hcc, hff⟩ := bcell hb; have hz := hb.size; simp only [World.size_alloc] at hz; have hz1 : w.heap.size < w'.heap.size := by omega)); have hb' := (belows (B := w.heap.size) (a := w) (by repeat' first | with_reducible exact Below.refl _ _ | with_reducible assumption | with_reducible refine belows_drewN ?_ _ | with_reducible refine Below.drew ?_ | with_reducible refine Below.setCell ?_ ?_ _ | with_reducible refine Below.alloc ?_ ?_ _ | omega | (simp; done) | (simp; omega)) hb (by simp)); exact bodyPost_ret (v := .tuple #[.agg #[.int .i64 k, .int .i64 c, .int .i64 _, .int .i64 xb], .int .i64 (k + sz), .int .i64 0]) (by simp [results, Tryd.results23, go_sem, hcc, hz1]) rfl ⟨rfl, (by repeat' first | with_reducible exact Below.refl _ _ | with_reducible assumption | with_reducible refine belows_drewN ?_ _ | with_reducible refine Below.drew ?_ | with_reducible refine Below.setCell ?_ ?_ _ | with_reducible refine Below.alloc ?_ ?_ _ | omega | (simp; done) | (simp; omega))⟩)
  · subst h188
    by_cases h188 : c = 188
    · have h1 : ((c : Int) == 188) = true := by simp; omega
      clear h188
      (go_enter Tryd.func23, Tryd.ntmps23; go_wp2_with (first | (go_at_call 12; refine (H.out _ (by repeat' first | with_reducible exact Below.refl _ _ | with_reducible assumption | with_reducible refine belows_drewN ?_ _ | with_reducible refine Below.drew ?_ | with_reducible refine Below.setCell ?_ ?_ _ | with_reducible refine Below.alloc ?_ ?_ _ | omega | (simp; done) | (simp; omega))).mono ?_; rintro e w' ⟨rfl, rfl⟩) | (go_at_call 45; refine (HR.out _ (by repeat' first | with_reducible exact Below.refl _ _ | with_reducible assumption | with_reducible refine belows_drewN ?_ _ | with_reducible refine Below.drew ?_ | with_reducible refine Below.setCell ?_ ?_ _ | with_reducible refine Below.alloc ?_ ?_ _ | omega | (simp; done) | (simp; omega))).mono ?_; rintro e w' ⟨rfl, hb⟩; obtain ⟨hcc, hff⟩ := bcell hb; have hz := hb.size; simp only [World.size_alloc] at hz; have hz1 : w.heap.size < w'.heap.size := by omega)); have hb' := (belows (B := w.heap.size) (a := w) (by repeat' first | with_reducible exact Below.refl _ _ | with_reducible assumption | with_reducible refine belows_drewN ?_ _ | with_reducible refine Below.drew ?_ | with_reducible refine Below.setCell ?_ ?_ _ | with_reducible refine Below.alloc ?_ ?_ _ | omega | (simp; done) | (simp; omega)) hb (by simp)); exact bodyPost_ret (v := .tuple #[.agg #[.int .i64 k, .int .i64 c, .int .i64 _, .int .i64 xb], .int .i64 (k + sz), .int .i64 0]) (by simp [results, Tryd.results23, go_sem, hcc, hz1]) rfl ⟨rfl, (by repeat' first | with_reducible exact Below.refl _ _ | with_reducible assumption | with_reducible refine belows_drewN ?_ _ | with_reducible refine Below.drew ?_ | with_reducible refine Below.setCell ?_ ?_ _ | with_reducible refine Below.alloc ?_ ?_ _ | omega | (simp; done) | (simp; omega))⟩)
    · have h1 : ((c : Int) == 188) = false := by simp; omega
      clear h188
      (go_enter Tryd.func23, Tryd.ntmps23; go_wp2_with (first | (go_at_call 12; refine (H.out _ (by repeat' first | with_reducible exact Below.refl _ _ | with_reducible assumption | with_reducible refine belows_drewN ?_ _ | with_reducible refine Below.drew ?_ | with_reducible refine Below.setCell ?_ ?_ _ | with_reducible refine Below.alloc ?_ ?_ _ | omega | (simp; done) | (simp; omega))).mono ?_; rintro e w' ⟨rfl, rfl⟩) | (go_at_call 45; refine (HR.out _ (by repeat' first | with_reducible exact Below.refl _ _ | with_reducible assumption | with_reducible refine belows_drewN ?_ _ | with_reducible refine Below.drew ?_ | with_reducible refine Below.setCell ?_ ?_ _ | with_reducible refine Below.alloc ?_ ?_ _ | omega | (simp; done) | (simp; omega))).mono ?_; rintro e w' ⟨rfl, hb⟩; obtain ⟨hcc, hff⟩ := bcell hb; have hz := hb.size; simp only [World.size_alloc] at hz; have hz1 : w.heap.size < w'.heap.size := by omega)); have hb' := (belows (B := w.heap.size) (a := w) (by repeat' first | with_reducible exact Below.refl _ _ | with_reducible assumption | with_reducible refine belows_drewN ?_ _ | with_reducible refine Below.drew ?_ | with_reducible refine Below.setCell ?_ ?_ _ | with_reducible refine Below.alloc ?_ ?_ _ | omega | (simp; done) | (simp; omega)) hb (by simp)); exact bodyPost_ret (v := .tuple #[.agg #[.int .i64 k, .int .i64 c, .int .i64 _, .int .i64 xb], .int .i64 (k + sz), .int .i64 0]) (by simp [results, Tryd.results23, go_sem, hcc, hz1]) rfl ⟨rfl, (by repeat' first | with_reducible exact Below.refl _ _ | with_reducible assumption | with_reducible refine belows_drewN ?_ _ | with_reducible refine Below.drew ?_ | with_reducible refine Below.setCell ?_ ?_ _ | with_reducible refine Below.alloc ?_ ?_ _ | omega | (simp; done) | (simp; omega))⟩)
set_option maxRecDepth 100000 in
theorem one_bad (b o n cap k sz : Nat) (xa xb : Int) (w : World) (hk : k + sz ≤ n) (hn : n ≤ 140737488355328) (hcap : n ≤ cap) (ht : Tabs w) (hc : w.cell? ⟨b, o + k, none⟩ = some (.int .u8 188)) (hop : Op1.isOp 188 = true) (hsz : Op1.szOf 188 = sz) (hsz2 : 2 ≤ sz)
    (hread : ∀ W, Below w.heap.size w W → Calls Tryd.prog 45 #[.int .i64 188, .int .i64 k, .slice (some ⟨b, o + (k + 1), none⟩) (k + sz - (k + 1)) (cap - (k + 1))] W fun e w' => e = .returned (insV ⟨k, 188, xa, xb⟩) ∧ Below W.heap.size W w')
    (h10 : (xa == 10) = false) (h11 : (xa == 11) = false) :
    Calls Tryd.prog 23 #[.slice (some ⟨b, o, none⟩) n cap, .int .i64 k] w fun e w' => e = .returned (oneV (Op1.noIns, 0, 13)) ∧ Below w.heap.size w w' := by
  unfold oneV Op1.noIns insV
  have hsize := fun W (h : Below w.heap.size w W) => size_any 188 W (ht.below h ht.size)
  unfold szV at hsize
  rw [hop, hsz] at hsize
  unfold insV at hread
  have H := hid hsize
  have HR := hid hread
  have hlt := World.block_lt_of_cell? w _ hc
  have hd : decide ((k : Int) < 0) = false := by simp
  have hd2 : decide ((n : Int) - (k : Int) < (sz : Int)) = false := by simp; omega
  have hne : ¬ cap = k + 1 := by omega
  have h10' : (xa != 10) = true := by simpa using h10
  have h11' : (xa != 11) = true := by simpa using h11
  clear hsize hop ht hsz hread
  go_enter Tryd.func23, Tryd.ntmps23
  go_wp2_with (first | (go_at_call 12; refine (H.out _ (by repeat' first | with_reducible exact Below.refl _ _ | with_reducible assumption | with_reducible refine belows_drewN ?_ _ | with_reducible refine Below.drew ?_ | with_reducible refine Below.setCell ?_ ?_ _ | with_reducible refine Below.alloc ?_ ?_ _ | omega | (simp; done) | (simp; omega))).mono ?_; rintro e w' ⟨rfl, rfl⟩) | (go_at_call 45; refine (HR.out _ (by repeat' first | with_reducible exact Below.refl _ _ | with_reducible assumption | with_reducible refine belows_drewN ?_ _ | with_reducible refine Below.drew ?_ | with_reducible refine Below.setCell ?_ ?_ _ | with_reducible refine Below.alloc ?_ ?_ _ | omega | (simp; done) | (simp; omega))).mono ?_; rintro e w' ⟨rfl, hb⟩; obtain ⟨hcc, hff⟩ := bcell hb; have hz := hb.size; simp only [World.size_alloc] at hz; have hz1 : w.heap.size < w'.heap.size := by omega))
  have hb' := (belows (B := w.heap.size) (a := w) (by repeat' first | with_reducible exact Below.refl _ _ | with_reducible assumption | with_reducible refine belows_drewN ?_ _ | with_reducible refine Below.drew ?_ | with_reducible refine Below.setCell ?_ ?_ _ | with_reducible refine Below.alloc ?_ ?_ _ | omega | (simp; done) | (simp; omega)) hb (by simp))
  exact bodyPost_ret (v := .tuple #[.agg #[.int .i64 0, .int .i64 0, .int .i64 0, .int .i64 0], .int .i64 0, .int .i64 13]) (by simp [results, Tryd.results23, go_sem, hcc, hz1]) rfl ⟨rfl, (by repeat' first | with_reducible exact Below.refl _ _ | with_reducible assumption | with_reducible refine belows_drewN ?_ _ | with_reducible refine Below.drew ?_ | with_reducible refine Below.setCell ?_ ?_ _ | with_reducible refine Below.alloc ?_ ?_ _ | omega | (simp; done) | (simp; omega))⟩
end Go.Proofs.YtihklojiionanaaDoor
