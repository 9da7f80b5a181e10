/- Contracts of Text, Class, Number, and of the document's. -/
import Derived.Test.YtljbcclfafndmaaDoorCv
namespace Go.Proofs.YtljbcclfafndmaaDoor
open Go.RowKit

def txO (l : List Cp.C) (i : Int) : ByteArray × Int := ((enV (enA l i 1)).s, erV (enA l i 1))
def clO (l : List Cp.C) (i : Int) : ByteArray × Int := match enA l i 7 with
  | none => (⟨#[]⟩, 33)
  | some c => txO l c.a
def nuO (l : List Cp.C) (i tag : Int) : Int × Int := if tag = 3 ∨ tag = 5 then ((enV (enA l i tag)).n, erV (enA l i tag)) else (0, 33)
theorem chainX {b c : World} {o : Obj} (h2 : Below (b.alloc o).heap.size (b.alloc o) c) : Below b.heap.size b c := belows ((Below.refl _ b).alloc (Nat.le_refl _) o) h2 (by rw [World.size_alloc]; omega)
set_option maxRecDepth 100000 in
set_option maxHeartbeats 400000 in
theorem text_at (l : List Cp.C) (i : Int) (v : Value) (w : World) (hv : Kit.IsS 5 w v l.length (l.flatMap cL)) :
    Calls Tryd.prog 19 #[v, .int .i64 i] w fun e w' => e = .returned (.tuple #[.string (txO l i).1, .int .i64 (txO l i).2]) ∧ Below w.heap.size w w' := by
  have HE0 := fun W (h : Below w.heap.size w W) => entryAt_any l i 1 v W (hv.below h (Nat.le_refl _))
  unfold txO
  obtain ⟨c, hc⟩ : ∃ c, c = enV (enA l i 1) := ⟨_, rfl⟩
  obtain ⟨er, her⟩ : ∃ er, er = erV (enA l i 1) := ⟨_, rfl⟩
  rw [← hc, ← her] at HE0 ⊢
  unfold cC at HE0
  have HE := hid HE0
  clear HE0 hc her hv
  go_enter Tryd.func19, Tryd.ntmps19
  go_wp2_with (go_at_call 44; refine (HE.out _ (by repeat' first | with_reducible exact Below.refl _ _ | with_reducible assumption | with_reducible refine belows_drewN ?_ _ | with_reducible refine Below.drew ?_ | with_reducible refine Below.setCell ?_ ?_ _ | with_reducible refine Below.alloc ?_ ?_ _ | omega | (simp; done) | (simp; omega))).mono ?_; rintro e w1 ⟨rfl, hb1⟩; have hz1 := hb1.size)
  go_ret2
  exact ⟨rfl, (by repeat' first | with_reducible exact Below.refl _ _ | with_reducible assumption | with_reducible refine belows_drewN ?_ _ | with_reducible refine Below.drew ?_ | with_reducible refine Below.setCell ?_ ?_ _ | with_reducible refine Below.alloc ?_ ?_ _ | omega | (simp; done) | (simp; omega))⟩
set_option maxRecDepth 100000 in
set_option maxHeartbeats 400000 in
theorem rtext_at (l : List Cp.C) (i : Int) (v : Value) (w : World) (hv : Kit.IsS 5 w v l.length (l.flatMap cL)) :
    Calls Tryd.prog 20 #[v, .int .i64 i] w fun e w' => e = .returned (.tuple #[.string (txO l i).1, .int .i64 (txO l i).2]) ∧ Below w.heap.size w w' := by
  have HE0 := fun W (h : Below w.heap.size w W) => at_any l i 1 v W (hv.below h (Nat.le_refl _))
  unfold txO
  cases hx : enA l i 1 with
  | none =>
    rw [hx] at HE0
    unfold enV Cp.C0 cC at HE0
    dsimp only [Option.getD_none, Option.isSome_none] at HE0
    have HE := hid HE0
    clear HE0 hx hv
    go_enter Tryd.func20, Tryd.ntmps20
    go_wp2_with (go_at_call 45; refine (HE.out _ (by repeat' first | with_reducible exact Below.refl _ _ | with_reducible assumption | with_reducible refine belows_drewN ?_ _ | with_reducible refine Below.drew ?_ | with_reducible refine Below.setCell ?_ ?_ _ | with_reducible refine Below.alloc ?_ ?_ _ | omega | (simp; done) | (simp; omega))).mono ?_; rintro e w1 ⟨rfl, hb1⟩; have hz1 := hb1.size)
    go_ret2
    exact ⟨rfl, (by repeat' first | with_reducible exact Below.refl _ _ | with_reducible assumption | with_reducible refine belows_drewN ?_ _ | with_reducible refine Below.drew ?_ | with_reducible refine Below.setCell ?_ ?_ _ | with_reducible refine Below.alloc ?_ ?_ _ | omega | (simp; done) | (simp; omega))⟩
  | some c =>
    rw [hx] at HE0
    unfold enV cC at HE0
    dsimp only [Option.getD_some, Option.isSome_some] at HE0
    have HE := hid HE0
    clear HE0 hx hv
    go_enter Tryd.func20, Tryd.ntmps20
    go_wp2_with (go_at_call 45; refine (HE.out _ (by repeat' first | with_reducible exact Below.refl _ _ | with_reducible assumption | with_reducible refine belows_drewN ?_ _ | with_reducible refine Below.drew ?_ | with_reducible refine Below.setCell ?_ ?_ _ | with_reducible refine Below.alloc ?_ ?_ _ | omega | (simp; done) | (simp; omega))).mono ?_; rintro e w1 ⟨rfl, hb1⟩; have hz1 := hb1.size)
    go_ret2
    exact ⟨rfl, (by repeat' first | with_reducible exact Below.refl _ _ | with_reducible assumption | with_reducible refine belows_drewN ?_ _ | with_reducible refine Below.drew ?_ | with_reducible refine Below.setCell ?_ ?_ _ | with_reducible refine Below.alloc ?_ ?_ _ | omega | (simp; done) | (simp; omega))⟩
set_option maxRecDepth 100000 in
set_option maxHeartbeats 400000 in
theorem class_at (l : List Cp.C) (i : Int) (v : Value) (w : World) (hv : Kit.IsS 5 w v l.length (l.flatMap cL)) :
    Calls Tryd.prog 21 #[v, .int .i64 i] w fun e w' => e = .returned (.tuple #[.string (clO l i).1, .int .i64 (clO l i).2]) ∧ Below w.heap.size w w' := by
  have HE0 := fun W (h : Below w.heap.size w W) => entryAt_any l i 7 v W (hv.below h (Nat.le_refl _))
  have HT0 := fun j W (h : Below w.heap.size w W) => text_at l j v W (hv.below h (Nat.le_refl _))
  unfold clO
  cases hx : enA l i 7 with
  | none =>
    rw [hx] at HE0
    unfold enV erV Cp.C0 cC at HE0
    dsimp only [Option.getD_none] at HE0
    have HE := hid HE0
    clear HE0 hx hv HT0
    go_enter Tryd.func21, Tryd.ntmps21
    go_wp2_with (go_at_call 44; refine (HE.out _ (by repeat' first | with_reducible exact Below.refl _ _ | with_reducible assumption | with_reducible refine belows_drewN ?_ _ | with_reducible refine Below.drew ?_ | with_reducible refine Below.setCell ?_ ?_ _ | with_reducible refine Below.alloc ?_ ?_ _ | omega | (simp; done) | (simp; omega))).mono ?_; rintro e w1 ⟨rfl, hb1⟩; have hz1 := hb1.size)
    go_ret2
    exact ⟨rfl, (by repeat' first | with_reducible exact Below.refl _ _ | with_reducible assumption | with_reducible refine belows_drewN ?_ _ | with_reducible refine Below.drew ?_ | with_reducible refine Below.setCell ?_ ?_ _ | with_reducible refine Below.alloc ?_ ?_ _ | omega | (simp; done) | (simp; omega))⟩
  | some c =>
    rw [hx] at HE0
    unfold enV erV cC at HE0
    dsimp only [Option.getD_some] at HE0 ⊢
    have HE := hid HE0
    have HT := hid (HT0 c.a)
    clear HE0 hx hv HT0
    go_enter Tryd.func21, Tryd.ntmps21
    go_wp2_with (first | (go_at_call 44; refine (HE.out _ (by repeat' first | with_reducible exact Below.refl _ _ | with_reducible assumption | with_reducible refine belows_drewN ?_ _ | with_reducible refine Below.drew ?_ | with_reducible refine Below.setCell ?_ ?_ _ | with_reducible refine Below.alloc ?_ ?_ _ | omega | (simp; done) | (simp; omega))).mono ?_; rintro e w1 ⟨rfl, hb1⟩; have hz1 := hb1.size) | (go_at_call 19; refine (HT.out _ (by repeat' first | with_reducible exact Below.refl _ _ | with_reducible assumption | with_reducible refine belows_drewN ?_ _ | with_reducible refine Below.drew ?_ | with_reducible refine Below.setCell ?_ ?_ _ | with_reducible refine Below.alloc ?_ ?_ _ | omega | (simp; done) | (simp; omega))).mono ?_; rintro e w2 ⟨rfl, hb2⟩))
    go_ret2
    exact ⟨rfl, belows (hb1.alloc hb1.size (.cells #[.int .i64 c.t, .string c.s, .int .i64 c.n, .int .i64 c.a, .int .i64 c.b] 46)) hb2 (by rw [World.size_alloc]; have := hb1.size; omega)⟩
set_option maxRecDepth 100000 in
set_option maxHeartbeats 400000 in
theorem rclass_at (l : List Cp.C) (i : Int) (v : Value) (w : World) (hv : Kit.IsS 5 w v l.length (l.flatMap cL)) :
    Calls Tryd.prog 22 #[v, .int .i64 i] w fun e w' => e = .returned (.tuple #[.string (clO l i).1, .int .i64 (clO l i).2]) ∧ Below w.heap.size w w' := by
  have HE0 := fun W (h : Below w.heap.size w W) => at_any l i 7 v W (hv.below h (Nat.le_refl _))
  have HT0 := fun j W (h : Below w.heap.size w W) => rtext_at l j v W (hv.below h (Nat.le_refl _))
  unfold clO
  cases hx : enA l i 7 with
  | none =>
    rw [hx] at HE0
    unfold enV Cp.C0 cC at HE0
    dsimp only [Option.getD_none, Option.isSome_none] at HE0
    have HE := hid HE0
    clear HE0 hx hv HT0
    go_enter Tryd.func22, Tryd.ntmps22
    go_wp2_with (go_at_call 45; refine (HE.out _ (by repeat' first | with_reducible exact Below.refl _ _ | with_reducible assumption | with_reducible refine belows_drewN ?_ _ | with_reducible refine Below.drew ?_ | with_reducible refine Below.setCell ?_ ?_ _ | with_reducible refine Below.alloc ?_ ?_ _ | omega | (simp; done) | (simp; omega))).mono ?_; rintro e w1 ⟨rfl, hb1⟩; have hz1 := hb1.size)
    go_ret2
    exact ⟨rfl, (by repeat' first | with_reducible exact Below.refl _ _ | with_reducible assumption | with_reducible refine belows_drewN ?_ _ | with_reducible refine Below.drew ?_ | with_reducible refine Below.setCell ?_ ?_ _ | with_reducible refine Below.alloc ?_ ?_ _ | omega | (simp; done) | (simp; omega))⟩
  | some c =>
    rw [hx] at HE0
    unfold enV cC at HE0
    dsimp only [Option.getD_some, Option.isSome_some] at HE0 ⊢
    have HE := hid HE0
    have HT := hid (HT0 c.a)
    clear HE0 hx hv HT0
    go_enter Tryd.func22, Tryd.ntmps22
    go_wp2_with (first | (go_at_call 45; refine (HE.out _ (by repeat' first | with_reducible exact Below.refl _ _ | with_reducible assumption | with_reducible refine belows_drewN ?_ _ | with_reducible refine Below.drew ?_ | with_reducible refine Below.setCell ?_ ?_ _ | with_reducible refine Below.alloc ?_ ?_ _ | omega | (simp; done) | (simp; omega))).mono ?_; rintro e w1 ⟨rfl, hb1⟩; have hz1 := hb1.size) | (go_at_call 20; refine (HT.out _ (by repeat' first | with_reducible exact Below.refl _ _ | with_reducible assumption | with_reducible refine belows_drewN ?_ _ | with_reducible refine Below.drew ?_ | with_reducible refine Below.setCell ?_ ?_ _ | with_reducible refine Below.alloc ?_ ?_ _ | omega | (simp; done) | (simp; omega))).mono ?_; rintro e w2 ⟨rfl, hb2⟩))
    go_ret2
    exact ⟨rfl, belows (hb1.alloc hb1.size (.cells #[.int .i64 c.t, .string c.s, .int .i64 c.n, .int .i64 c.a, .int .i64 c.b] 46)) hb2 (by rw [World.size_alloc]; have := hb1.size; omega)⟩
set_option maxRecDepth 100000 in
set_option maxHeartbeats 400000 in
theorem number_at (l : List Cp.C) (i tag : Int) (v : Value) (w : World) (hv : Kit.IsS 5 w v l.length (l.flatMap cL)) :
    Calls Tryd.prog 25 #[v, .int .i64 i, .int .i64 tag] w fun e w' => e = .returned (.tuple #[.int .i64 (nuO l i tag).1, .int .i64 (nuO l i tag).2]) ∧ Below w.heap.size w w' := by
  have HE0 := fun W (h : Below w.heap.size w W) => entryAt_any l i tag v W (hv.below h (Nat.le_refl _))
  unfold nuO
  by_cases ht : tag = 3 ∨ tag = 5
  · rw [if_pos ht]
    obtain ⟨c, hc⟩ : ∃ c, c = enV (enA l i tag) := ⟨_, rfl⟩
    obtain ⟨er, her⟩ : ∃ er, er = erV (enA l i tag) := ⟨_, rfl⟩
    rw [← hc, ← her] at HE0 ⊢
    unfold cC at HE0
    have HE := hid HE0
    clear HE0 hc her hv
    rcases ht with rfl | rfl
    all_goals
      go_enter Tryd.func25, Tryd.ntmps25
      go_wp2_with (go_at_call 44; refine (HE.out _ (by repeat' first | with_reducible exact Below.refl _ _ | with_reducible assumption | with_reducible refine belows_drewN ?_ _ | with_reducible refine Below.drew ?_ | with_reducible refine Below.setCell ?_ ?_ _ | with_reducible refine Below.alloc ?_ ?_ _ | omega | (simp; done) | (simp; omega))).mono ?_; rintro e w1 ⟨rfl, hb1⟩; have hz1 := hb1.size)
      go_ret2
      exact ⟨rfl, (by repeat' first | with_reducible exact Below.refl _ _ | with_reducible assumption | with_reducible refine belows_drewN ?_ _ | with_reducible refine Below.drew ?_ | with_reducible refine Below.setCell ?_ ?_ _ | with_reducible refine Below.alloc ?_ ?_ _ | omega | (simp; done) | (simp; omega))⟩
  · rw [if_neg ht]
    have h3 : (tag != 3) = true := by simp; omega
    have h5 : (tag != 5) = true := by simp; omega
    clear HE0 hv ht
    go_enter Tryd.func25, Tryd.ntmps25
    go_wp2
    go_ret2
    exact ⟨rfl, (by repeat' first | with_reducible exact Below.refl _ _ | with_reducible assumption | with_reducible refine belows_drewN ?_ _ | with_reducible refine Below.drew ?_ | with_reducible refine Below.setCell ?_ ?_ _ | with_reducible refine Below.alloc ?_ ?_ _ | omega | (simp; done) | (simp; omega))⟩
set_option maxRecDepth 100000 in
set_option maxHeartbeats 400000 in
theorem rnumber_at (l : List Cp.C) (i tag : Int) (v : Value) (w : World) (hv : Kit.IsS 5 w v l.length (l.flatMap cL)) :
    Calls Tryd.prog 26 #[v, .int .i64 i, .int .i64 tag] w fun e w' => e = .returned (.tuple #[.int .i64 (nuO l i tag).1, .int .i64 (nuO l i tag).2]) ∧ Below w.heap.size w w' := by
  have HE0 := fun W (h : Below w.heap.size w W) => at_any l i tag v W (hv.below h (Nat.le_refl _))
  unfold nuO
  by_cases ht : tag = 3 ∨ tag = 5
  · rw [if_pos ht]
    cases hx : enA l i tag with
    | none =>
      rw [hx] at HE0
      unfold enV Cp.C0 cC at HE0
      dsimp only [Option.getD_none, Option.isSome_none] at HE0
      have HE := hid HE0
      clear HE0 hx hv
      rcases ht with rfl | rfl
      all_goals
        go_enter Tryd.func26, Tryd.ntmps26
        go_wp2_with (go_at_call 45; refine (HE.out _ (by repeat' first | with_reducible exact Below.refl _ _ | with_reducible assumption | with_reducible refine belows_drewN ?_ _ | with_reducible refine Below.drew ?_ | with_reducible refine Below.setCell ?_ ?_ _ | with_reducible refine Below.alloc ?_ ?_ _ | omega | (simp; done) | (simp; omega))).mono ?_; rintro e w1 ⟨rfl, hb1⟩; have hz1 := hb1.size)
        go_ret2
        exact ⟨rfl, (by repeat' first | with_reducible exact Below.refl _ _ | with_reducible assumption | with_reducible refine belows_drewN ?_ _ | with_reducible refine Below.drew ?_ | with_reducible refine Below.setCell ?_ ?_ _ | with_reducible refine Below.alloc ?_ ?_ _ | omega | (simp; done) | (simp; omega))⟩
    | some c =>
      rw [hx] at HE0
      unfold enV cC at HE0
      dsimp only [Option.getD_some, Option.isSome_some] at HE0
      have HE := hid HE0
      clear HE0 hx hv
      rcases ht with rfl | rfl
      all_goals
        go_enter Tryd.func26, Tryd.ntmps26
        go_wp2_with (go_at_call 45; refine (HE.out _ (by repeat' first | with_reducible exact Below.refl _ _ | with_reducible assumption | with_reducible refine belows_drewN ?_ _ | with_reducible refine Below.drew ?_ | with_reducible refine Below.setCell ?_ ?_ _ | with_reducible refine Below.alloc ?_ ?_ _ | omega | (simp; done) | (simp; omega))).mono ?_; rintro e w1 ⟨rfl, hb1⟩; have hz1 := hb1.size)
        go_ret2
        exact ⟨rfl, (by repeat' first | with_reducible exact Below.refl _ _ | with_reducible assumption | with_reducible refine belows_drewN ?_ _ | with_reducible refine Below.drew ?_ | with_reducible refine Below.setCell ?_ ?_ _ | with_reducible refine Below.alloc ?_ ?_ _ | omega | (simp; done) | (simp; omega))⟩
  · rw [if_neg ht]
    have h3 : (tag != 3) = true := by simp; omega
    have h5 : (tag != 5) = true := by simp; omega
    clear HE0 hv ht
    go_enter Tryd.func26, Tryd.ntmps26
    go_wp2
    go_ret2
    exact ⟨rfl, (by repeat' first | with_reducible exact Below.refl _ _ | with_reducible assumption | with_reducible refine belows_drewN ?_ _ | with_reducible refine Below.drew ?_ | with_reducible refine Below.setCell ?_ ?_ _ | with_reducible refine Below.alloc ?_ ?_ _ | omega | (simp; done) | (simp; omega))⟩
end Go.Proofs.YtljbcclfafndmaaDoor
