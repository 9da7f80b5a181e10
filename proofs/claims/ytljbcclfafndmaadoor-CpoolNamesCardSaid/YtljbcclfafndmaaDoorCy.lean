/- Contract of Ref. -/
import Derived.Test.YtljbcclfafndmaaDoorCx
namespace Go.Proofs.YtljbcclfafndmaaDoor
open Go.RowKit

theorem sizeA (w : World) (o : Obj) : w.heap.size < (w.alloc o).heap.size := by rw [World.size_alloc]; omega
theorem chainA {a c : World} {o : Obj} (h : Below (a.alloc o).heap.size (a.alloc o) c) : Below a.heap.size a c := belows ((Below.refl _ a).alloc (Nat.le_refl _) o) h (by rw [World.size_alloc]; omega)
/-- The result's box, later. -/
theorem boxR {w c : World} (h : Below (w.alloc (.cells #[.string ⟨#[]⟩, .string ⟨#[]⟩, .string ⟨#[]⟩] 39)).heap.size (w.alloc (.cells #[.string ⟨#[]⟩, .string ⟨#[]⟩, .string ⟨#[]⟩] 39)) c) :
    (c.cell? ⟨w.heap.size, 0, none⟩ = some (.string ⟨#[]⟩) ∧ c.cell? ⟨w.heap.size, 1, none⟩ = some (.string ⟨#[]⟩) ∧ c.cell? ⟨w.heap.size, 2, none⟩ = some (.string ⟨#[]⟩)) ∧ (c.frozen? ⟨w.heap.size, 0, none⟩ = false ∧ c.frozen? ⟨w.heap.size, 1, none⟩ = false ∧ c.frozen? ⟨w.heap.size, 2, none⟩ = false) ∧ w.heap.size < c.heap.size := by
  have hz := h.size
  rw [World.size_alloc] at hz
  have hb := (BX.new w #[.string ⟨#[]⟩, .string ⟨#[]⟩, .string ⟨#[]⟩] 39).below h (sizeA _ _)
  exact ⟨⟨hb.cell 0, hb.cell 1, hb.cell 2⟩, ⟨hb.frozen 0, hb.frozen 1, hb.frozen 2⟩, by omega⟩
set_option maxRecDepth 100000 in
set_option maxHeartbeats 1000000 in
theorem ref_at (l : List Cp.C) (i tag : Int) (v : Value) (w : World) (hv : Kit.IsS 5 w v l.length (l.flatMap cL)) :
    Calls Tryd.prog 23 #[v, .int .i64 i, .int .i64 tag] w fun e w' => e = .returned (.tuple #[.agg #[.string (rfO l i tag).1, .string (rfO l i tag).2.1, .string (rfO l i tag).2.2.1], .int .i64 (rfO l i tag).2.2.2]) ∧ Below w.heap.size w w' := by
  have HE0 := fun W (h : Below w.heap.size w W) => entryAt_any l i tag v W (hv.below h (Nat.le_refl _))
  have HC0 := fun j W (h : Below w.heap.size w W) => class_at l j v W (hv.below h (Nat.le_refl _))
  have HN0 := fun j W (h : Below w.heap.size w W) => nd_at l j v W (hv.below h (Nat.le_refl _))
  unfold rfO
  by_cases ht : tag = 9 ∨ tag = 10
  · rw [if_pos ht]
    have htg : ((tag != 9) && (tag != 10)) = false := by rcases ht with rfl | rfl <;> rfl
    have htg2 : (tag != 9) = false ∨ ((tag != 9) = true ∧ (tag != 10) = false) := by rcases ht with rfl | rfl <;> simp
    clear ht htg
    cases hx : enA l i tag with
    | none =>
      rw [hx] at HE0
      unfold enV erV Cp.C0 cC at HE0
      dsimp only [Option.getD_none] at HE0 ⊢
      have HE := hid HE0
      clear HE0 hx hv HC0 HN0
      rcases htg2 with h9 | ⟨h9, h10⟩
      all_goals
        go_enter Tryd.func23, Tryd.ntmps23
        go_wp2_with (go_at_call 44; refine (HE.out _ (by repeat' first | with_reducible exact Below.refl _ _ | with_reducible assumption | with_reducible refine belows_drewN ?_ _ | with_reducible refine Below.drew ?_ | with_reducible refine Below.setCell ?_ ?_ _ | with_reducible refine Below.alloc ?_ ?_ _ | omega | (simp; done) | (simp; omega))).mono ?_; rintro e w1 ⟨rfl, hb1⟩; obtain ⟨⟨r0, r1, r2⟩, ⟨f0, f1, f2⟩, hz1⟩ := boxR hb1)
        have hB := chainA hb1
        exact bodyPost_ret (v := .tuple #[.agg #[.string ⟨#[]⟩, .string ⟨#[]⟩, .string ⟨#[]⟩], .int .i64 33]) (by simp [results, Tryd.results23, go_sem, r0, r1, r2, hz1]) rfl ⟨rfl, (by repeat' first | with_reducible exact Below.refl _ _ | with_reducible assumption | with_reducible refine belows_drewN ?_ _ | with_reducible refine Below.drew ?_ | with_reducible refine Below.setCell ?_ ?_ _ | with_reducible refine Below.alloc ?_ ?_ _ | omega | (simp; done) | (simp; omega))⟩
    | some c =>
      rw [hx] at HE0
      unfold enV erV cC at HE0
      dsimp only [Option.getD_some] at HE0 ⊢
      have HE := hid HE0
      have HA0 := HC0 c.a
      have HB0 := HN0 c.b
      obtain ⟨⟨sa, ae⟩, ha⟩ : ∃ x, x = clO l c.a := ⟨_, rfl⟩
      obtain ⟨⟨sb, sd, be⟩, hb⟩ : ∃ x, x = ndO l c.b := ⟨_, rfl⟩
      rw [← ha] at HA0 ⊢
      rw [← hb] at HB0 ⊢
      dsimp only at HA0 HB0 ⊢
      have HA := hid HA0
      have HB := hid HB0
      obtain ⟨ct, cs, cn, ca, cb⟩ := c
      dsimp only at HE HA HB
      clear HE0 hx hv HC0 HN0 HA0 HB0 ha hb
      by_cases h1 : ae = 0
      · subst h1
        rw [if_pos rfl]
        by_cases h2 : be = 0
        · subst h2
          rw [if_pos rfl]
          rcases htg2 with h9 | ⟨h9, h10⟩
          all_goals
            go_enter Tryd.func23, Tryd.ntmps23; go_wp2_with (first | (go_at_call 46; (with_reducible refine (HB.out _ ?_).mono ?_); exact (chainA (chainB hb1 hb2)); rintro e w3 ⟨rfl, hb3⟩; obtain ⟨⟨r0, r1, r2⟩, ⟨f0, f1, f2⟩, hz3⟩ := boxR (belows (chainB hb1 hb2) hb3 (chainB hb1 hb2).size)) | (go_at_call 21; (with_reducible refine (HA.out _ ?_).mono ?_); exact ((chainA hb1).alloc (chainA hb1).size _); rintro e w2 ⟨rfl, hb2⟩; obtain ⟨x3, x4, hx2⟩ := boxC hb2; obtain ⟨⟨r0, r1, r2⟩, ⟨f0, f1, f2⟩, hz2⟩ := boxR (chainB hb1 hb2)) | (go_at_call 44; refine (HE.out _ (by repeat' first | with_reducible exact Below.refl _ _ | with_reducible assumption | with_reducible refine belows_drewN ?_ _ | with_reducible refine Below.drew ?_ | with_reducible refine Below.setCell ?_ ?_ _ | with_reducible refine Below.alloc ?_ ?_ _ | omega | (simp; done) | (simp; omega))).mono ?_; rintro e w1 ⟨rfl, hb1⟩))
            have hB := chainA (belows (chainB hb1 hb2) hb3 (chainB hb1 hb2).size)
            exact bodyPost_ret (v := .tuple #[.agg #[.string sa, .string sb, .string sd], .int .i64 0]) (by simp [results, Tryd.results23, go_sem, r0, r1, r2]) rfl ⟨rfl, (by repeat' first | with_reducible exact Below.refl _ _ | with_reducible assumption | with_reducible refine belows_drewN ?_ _ | with_reducible refine Below.drew ?_ | with_reducible refine Below.setCell ?_ ?_ _ | with_reducible refine Below.alloc ?_ ?_ _ | omega | (simp; done) | (simp; omega))⟩
        · rw [if_neg h2]
          have hd : (be != 0) = true := by simpa using h2
          clear h2
          rcases htg2 with h9 | ⟨h9, h10⟩
          all_goals
            go_enter Tryd.func23, Tryd.ntmps23; go_wp2_with (first | (go_at_call 46; (with_reducible refine (HB.out _ ?_).mono ?_); exact (chainA (chainB hb1 hb2)); rintro e w3 ⟨rfl, hb3⟩; obtain ⟨⟨r0, r1, r2⟩, ⟨f0, f1, f2⟩, hz3⟩ := boxR (belows (chainB hb1 hb2) hb3 (chainB hb1 hb2).size)) | (go_at_call 21; (with_reducible refine (HA.out _ ?_).mono ?_); exact ((chainA hb1).alloc (chainA hb1).size _); rintro e w2 ⟨rfl, hb2⟩; obtain ⟨x3, x4, hx2⟩ := boxC hb2; obtain ⟨⟨r0, r1, r2⟩, ⟨f0, f1, f2⟩, hz2⟩ := boxR (chainB hb1 hb2)) | (go_at_call 44; refine (HE.out _ (by repeat' first | with_reducible exact Below.refl _ _ | with_reducible assumption | with_reducible refine belows_drewN ?_ _ | with_reducible refine Below.drew ?_ | with_reducible refine Below.setCell ?_ ?_ _ | with_reducible refine Below.alloc ?_ ?_ _ | omega | (simp; done) | (simp; omega))).mono ?_; rintro e w1 ⟨rfl, hb1⟩))
            have hB := chainA (belows (chainB hb1 hb2) hb3 (chainB hb1 hb2).size)
            exact bodyPost_ret (v := .tuple #[.agg #[.string ⟨#[]⟩, .string ⟨#[]⟩, .string ⟨#[]⟩], .int .i64 be]) (by simp [results, Tryd.results23, go_sem, r0, r1, r2]) rfl ⟨rfl, (by repeat' first | with_reducible exact Below.refl _ _ | with_reducible assumption | with_reducible refine belows_drewN ?_ _ | with_reducible refine Below.drew ?_ | with_reducible refine Below.setCell ?_ ?_ _ | with_reducible refine Below.alloc ?_ ?_ _ | omega | (simp; done) | (simp; omega))⟩
      · rw [if_neg h1]
        have hd : (ae != 0) = true := by simpa using h1
        clear h1
        rcases htg2 with h9 | ⟨h9, h10⟩
        all_goals
          go_enter Tryd.func23, Tryd.ntmps23; go_wp2_with (first | (go_at_call 46; (with_reducible refine (HB.out _ ?_).mono ?_); exact (chainA (chainB hb1 hb2)); rintro e w3 ⟨rfl, hb3⟩; obtain ⟨⟨r0, r1, r2⟩, ⟨f0, f1, f2⟩, hz3⟩ := boxR (belows (chainB hb1 hb2) hb3 (chainB hb1 hb2).size)) | (go_at_call 21; (with_reducible refine (HA.out _ ?_).mono ?_); exact ((chainA hb1).alloc (chainA hb1).size _); rintro e w2 ⟨rfl, hb2⟩; obtain ⟨x3, x4, hx2⟩ := boxC hb2; obtain ⟨⟨r0, r1, r2⟩, ⟨f0, f1, f2⟩, hz2⟩ := boxR (chainB hb1 hb2)) | (go_at_call 44; refine (HE.out _ (by repeat' first | with_reducible exact Below.refl _ _ | with_reducible assumption | with_reducible refine belows_drewN ?_ _ | with_reducible refine Below.drew ?_ | with_reducible refine Below.setCell ?_ ?_ _ | with_reducible refine Below.alloc ?_ ?_ _ | omega | (simp; done) | (simp; omega))).mono ?_; rintro e w1 ⟨rfl, hb1⟩))
          have hB := chainA (chainB hb1 hb2)
          exact bodyPost_ret (v := .tuple #[.agg #[.string ⟨#[]⟩, .string ⟨#[]⟩, .string ⟨#[]⟩], .int .i64 ae]) (by simp [results, Tryd.results23, go_sem, r0, r1, r2]) rfl ⟨rfl, (by repeat' first | with_reducible exact Below.refl _ _ | with_reducible assumption | with_reducible refine belows_drewN ?_ _ | with_reducible refine Below.drew ?_ | with_reducible refine Below.setCell ?_ ?_ _ | with_reducible refine Below.alloc ?_ ?_ _ | omega | (simp; done) | (simp; omega))⟩
  · rw [if_neg ht]
    have h9 : (tag != 9) = true := by simp; omega
    have h10 : (tag != 10) = true := by simp; omega
    obtain ⟨a, cap, rfl⟩ := hv.len
    clear HE0 hv HC0 HN0 ht
    go_enter Tryd.func23, Tryd.ntmps23
    go_wp2
    exact bodyPost_ret (v := .tuple #[.agg #[.string ⟨#[]⟩, .string ⟨#[]⟩, .string ⟨#[]⟩], .int .i64 33]) (by simp [results, Tryd.results23, go_sem]) rfl ⟨rfl, (by repeat' first | with_reducible exact Below.refl _ _ | with_reducible assumption | with_reducible refine belows_drewN ?_ _ | with_reducible refine Below.drew ?_ | with_reducible refine Below.setCell ?_ ?_ _ | with_reducible refine Below.alloc ?_ ?_ _ | omega | (simp; done) | (simp; omega))⟩
end Go.Proofs.YtljbcclfafndmaaDoor
