/- Contracts of cut, checkEntry. -/
import Derived.Test.YtljbcclfafndmaaDoorCr
import Derived.Test.YtljbcclfafndmaaDoorStepG
namespace Go.Proofs.YtljbcclfafndmaaDoor
open Go.RowKit

def uns (z : Int) (k : Nat) : Int := if k = 0 then 0 else z % 65536
theorem unsigned_any (z : Int) (k : Nat) (w : World) (hk : k = 0 ∨ k = 2) : Calls Tryd.prog 61 #[.int .i64 z, .int .i64 k] w fun e w' => e = .returned (.int .i64 (uns z k)) ∧ w = w' := by
  rcases hk with rfl | rfl
  · exact unsigned_0 z w
  · exact unsigned_2 z w
theorem wd_ab (t : Int) : ((Cp.wd t).2.2.1 = 0 ∨ (Cp.wd t).2.2.1 = 2) ∧ ((Cp.wd t).2.2.2 = 0 ∨ (Cp.wd t).2.2.2 = 2) := by
  unfold Cp.wd
  repeat' split
  all_goals simp
/-- An entry, but of each part just what its width holds. -/
def cutW (c : Cp.C) (x : Nat × Nat × Nat × Nat) : Cp.C := ⟨c.t, if x.1 = 0 then ⟨#[]⟩ else c.s, sgn c.n x.2.1, uns c.a x.2.2.1, uns c.b x.2.2.2⟩
set_option maxRecDepth 100000 in
set_option maxHeartbeats 400000 in
theorem cut_any (c : Cp.C) (x0 x1 x2 x3 : Nat) (w : World) (h1 : x1 = 0 ∨ x1 = 4 ∨ x1 = 8) (h2 : x2 = 0 ∨ x2 = 2) (h3 : x3 = 0 ∨ x3 = 2) :
    Calls Tryd.prog 56 #[.agg (cC c), .agg #[.int .i64 x0, .int .i64 x1, .int .i64 x2, .int .i64 x3]] w fun e w' => e = .returned (.agg (cC (cutW c (x0, x1, x2, x3)))) ∧ Below w.heap.size w w' := by
  have HS := hid (fun W => signed_any c.n x1 W h1)
  have HA := hid (fun W => unsigned_any c.a x2 W h2)
  have HB := hid (fun W => unsigned_any c.b x3 W h3)
  unfold cutW cC
  obtain ⟨t, s, n, a, b⟩ := c
  dsimp only at HS HA HB ⊢
  clear h1 h2 h3
  by_cases h0 : x0 = 0
  · subst h0
    rw [if_pos rfl]
    go_enter Tryd.func56, Tryd.ntmps56
    go_wp2_with (first
      | (go_at_call 60; refine (HS.out _).mono ?_; rintro e w1 ⟨rfl, rfl⟩; have _ga := HS)
      | (go_at_call 61; (with_reducible refine (HA.out _).mono ?_); rintro e w2 ⟨rfl, rfl⟩)
      | (go_at_call 61; (with_reducible refine (HB.out _).mono ?_); rintro e w3 ⟨rfl, rfl⟩))
    exact bodyPost_ret (v := .agg #[.int .i64 t, .string ⟨#[]⟩, .int .i64 (sgn n x1), .int .i64 (uns a x2), .int .i64 (uns b x3)]) (by simp [results, Tryd.results56, go_sem]) rfl ⟨rfl, (by repeat' first | with_reducible exact Below.refl _ _ | with_reducible assumption | with_reducible refine belows_drewN ?_ _ | with_reducible refine Below.drew ?_ | with_reducible refine Below.setCell ?_ ?_ _ | with_reducible refine Below.alloc ?_ ?_ _ | omega | (simp; done) | (simp; omega))⟩
  · rw [if_neg h0]
    have hd : ((x0 : Int) == 0) = false := by rw [beq_eq_false_iff_ne]; omega
    go_enter Tryd.func56, Tryd.ntmps56
    go_wp2_with (first
      | (go_at_call 60; refine (HS.out _).mono ?_; rintro e w1 ⟨rfl, rfl⟩; have _ga := HS)
      | (go_at_call 61; (with_reducible refine (HA.out _).mono ?_); rintro e w2 ⟨rfl, rfl⟩)
      | (go_at_call 61; (with_reducible refine (HB.out _).mono ?_); rintro e w3 ⟨rfl, rfl⟩))
    exact bodyPost_ret (v := .agg #[.int .i64 t, .string s, .int .i64 (sgn n x1), .int .i64 (uns a x2), .int .i64 (uns b x3)]) (by simp [results, Tryd.results56, go_sem]) rfl ⟨rfl, (by repeat' first | with_reducible exact Below.refl _ _ | with_reducible assumption | with_reducible refine belows_drewN ?_ _ | with_reducible refine Below.drew ?_ | with_reducible refine Below.setCell ?_ ?_ _ | with_reducible refine Below.alloc ?_ ?_ _ | omega | (simp; done) | (simp; omega))⟩
def ceOut (c : Cp.C) : Int := if Cp.knownB c.t = false ∨ cutW c (Cp.wd c.t) ≠ c then 31 else if 255 < c.s.size ∨ Cp.plainB (Cp.bl c.s) = false then 32 else 0
theorem cf_cut (u v : Value) (w : World) : (callFunc 56 #[u, v]).run Tryd.prog w = .ok (.enter 56 #[u, v]) w := by kernel_rfl
theorem widthsOf_z (t : Int) (w : World) (ht : Tabs w) : Calls Tryd.prog 55 #[.int .i64 t] w fun e w' => e = .returned (.tuple #[.agg #[.int .i64 (Cp.wd t).1, .int .i64 (Cp.wd t).2.1, .int .i64 (Cp.wd t).2.2.1, .int .i64 (Cp.wd t).2.2.2], .bool (Cp.knownB t)]) ∧ Below w.heap.size w w' := by
  by_cases h : 0 ≤ t
  · obtain ⟨k, rfl⟩ := Int.eq_ofNat_of_zero_le h
    exact widthsOf_any k w ht
  · have h1 : Cp.wd t = (0, 0, 0, 0) := by unfold Cp.wd; rw [if_neg (by omega), if_neg (by omega), if_neg (by omega), if_neg (by omega), if_neg (by omega)]
    have h2 : Cp.knownB t = false := by unfold Cp.knownB; rw [decide_eq_false_iff_not]; omega
    rw [h1, h2]
    exact widthsOf_out t w (.inl (by omega))
set_option maxRecDepth 100000 in
set_option maxHeartbeats 4000000 in
theorem checkEntry_any (c : Cp.C) (w : World) (ht : Tabs w) (hs : c.s.size ≤ 140737488355328) : Calls Tryd.prog 47 #[.agg (cC c)] w fun e w' => e = .returned (.int .i64 (ceOut c)) ∧ Below w.heap.size w w' := by
  have HW0 := fun W (h : Below w.heap.size w W) => widthsOf_z c.t W (ht.below h ht.size)
  have HCu0 := fun W => cut_any c (Cp.wd c.t).1 (Cp.wd c.t).2.1 (Cp.wd c.t).2.2.1 (Cp.wd c.t).2.2.2 W (wd_n c.t) (wd_ab c.t).1 (wd_ab c.t).2
  have HP0 := fun W => isPlain_any c.s W hs
  unfold ceOut
  obtain ⟨d, hd⟩ : ∃ d, d = cutW c (Cp.wd c.t) := ⟨_, rfl⟩
  have hdt : d.t = c.t := by rw [hd]; rfl
  rw [show cutW c ((Cp.wd c.t).1, (Cp.wd c.t).2.1, (Cp.wd c.t).2.2.1, (Cp.wd c.t).2.2.2) = d from hd.symm] at HCu0
  rw [← hd]
  obtain ⟨⟨x0, x1, x2, x3⟩, hx⟩ : ∃ x, x = Cp.wd c.t := ⟨_, rfl⟩
  rw [← hx] at HW0 HCu0
  dsimp only at HW0 HCu0
  cases hk : Cp.knownB c.t with
  | false =>
    rw [if_pos (.inl rfl)]
    rw [hk] at HW0
    have HW := hid HW0
    unfold cC
    clear HW0 HCu0 HP0 hd hdt hx hk ht hs
    go_enter Tryd.func47, Tryd.ntmps47
    go_wp2_with (go_at_call 55; refine (HW.out _ (by repeat' first | with_reducible exact Below.refl _ _ | with_reducible assumption | with_reducible refine belows_drewN ?_ _ | with_reducible refine Below.drew ?_ | with_reducible refine Below.setCell ?_ ?_ _ | with_reducible refine Below.alloc ?_ ?_ _ | omega | (simp; done) | (simp; omega))).mono ?_; rintro e w1 ⟨rfl, hb1⟩; have c0 := hb1.cell (p := ⟨w.heap.size, 0, none⟩) (by simp); simp [go_sem] at c0; have hz1 := hb1.size; simp only [World.size_alloc] at hz1)
    go_quiet (fail)
    go_wp2
    go_ret
    exact ⟨rfl, by (have h1 := belows (B := w.heap.size) (a := w) (by repeat' first | with_reducible exact Below.refl _ _ | with_reducible assumption | with_reducible refine belows_drewN ?_ _ | with_reducible refine Below.drew ?_ | with_reducible refine Below.setCell ?_ ?_ _ | with_reducible refine Below.alloc ?_ ?_ _ | omega | (simp; done) | (simp; omega)) hb1 (by simp)); exact (by repeat' first | with_reducible exact Below.refl _ _ | with_reducible assumption | with_reducible refine belows_drewN ?_ _ | with_reducible refine Below.drew ?_ | with_reducible refine Below.setCell ?_ ?_ _ | with_reducible refine Below.alloc ?_ ?_ _ | omega | (simp; done) | (simp; omega))⟩
  | true =>
    rw [hk] at HW0
    have HW := hid HW0
    have HCu := hid HCu0
    have hdc : d = c ∨ (d ≠ c) := Decidable.em _
    rcases hdc with hdc | hdc
    · rw [hdc] at HCu
      rw [hdc, if_neg (by rintro (h | h); cases h; exact h rfl)]
      by_cases hbig : 255 < c.s.size
      · rw [if_pos (.inl hbig)]
        have hd2 : decide (255 < (c.s.size : Int)) = true := by simp; omega
        unfold cC at HCu ⊢
        clear HW0 HCu0 HP0 hd hdt hx hk ht hs hdc hbig
        (go_enter Tryd.func47, Tryd.ntmps47; go_wp2_with (go_at_call 55; refine (HW.out _ (by repeat' first | with_reducible exact Below.refl _ _ | with_reducible assumption | with_reducible refine belows_drewN ?_ _ | with_reducible refine Below.drew ?_ | with_reducible refine Below.setCell ?_ ?_ _ | with_reducible refine Below.alloc ?_ ?_ _ | omega | (simp; done) | (simp; omega))).mono ?_; rintro e w1 ⟨rfl, hb1⟩; have c0 := hb1.cell (p := ⟨w.heap.size, 0, none⟩) (by simp); have c1 := hb1.cell (p := ⟨w.heap.size, 1, none⟩) (by simp); have c2 := hb1.cell (p := ⟨w.heap.size, 2, none⟩) (by simp); have c3 := hb1.cell (p := ⟨w.heap.size, 3, none⟩) (by simp); have c4 := hb1.cell (p := ⟨w.heap.size, 4, none⟩) (by simp); have hz1 := hb1.size; simp [go_sem] at c0 c1 c2 c3 c4 hz1; have hz2 : w.heap.size < w1.heap.size := (by omega)); go_region_law (refine Kit.step_call2g rfl 56 (.tmp 15) (.tmp 16) 46 86 rfl _ _ rfl rfl (cf_cut _ _ _) _ (HCu.out _) ?_; rintro e w2 ⟨rfl, hb2⟩; have hz3 := hb2.size; simp at hz3; have e0 := hb2.cell (p := ⟨w.heap.size, 0, none⟩) (by simp; omega); have e1 := hb2.cell (p := ⟨w.heap.size, 1, none⟩) (by simp; omega); have e2 := hb2.cell (p := ⟨w.heap.size, 2, none⟩) (by simp; omega); have e3 := hb2.cell (p := ⟨w.heap.size, 3, none⟩) (by simp; omega); have e4 := hb2.cell (p := ⟨w.heap.size, 4, none⟩) (by simp; omega); simp [go_sem, c0, c1, c2, c3, c4, hz2] at e0 e1 e2 e3 e4; refine ⟨_, rfl, ?_⟩))
        all_goals go_wp2
        all_goals go_ret
        all_goals exact ⟨rfl, (by (have h1 := belows (B := w.heap.size) (a := w) (by repeat' first | with_reducible exact Below.refl _ _ | with_reducible assumption | with_reducible refine belows_drewN ?_ _ | with_reducible refine Below.drew ?_ | with_reducible refine Below.setCell ?_ ?_ _ | with_reducible refine Below.alloc ?_ ?_ _ | omega | (simp; done) | (simp; omega)) hb1 (by simp)); (have h2 := belows (B := w.heap.size) (a := w) (by repeat' first | with_reducible exact Below.refl _ _ | with_reducible assumption | with_reducible refine belows_drewN ?_ _ | with_reducible refine Below.drew ?_ | with_reducible refine Below.setCell ?_ ?_ _ | with_reducible refine Below.alloc ?_ ?_ _ | omega | (simp; done) | (simp; omega)) hb2 (by simp; omega)); exact (by repeat' first | with_reducible exact Below.refl _ _ | with_reducible assumption | with_reducible refine belows_drewN ?_ _ | with_reducible refine Below.drew ?_ | with_reducible refine Below.setCell ?_ ?_ _ | with_reducible refine Below.alloc ?_ ?_ _ | omega | (simp; done) | (simp; omega)))⟩
      · have hd2 : decide (255 < (c.s.size : Int)) = false := by simp; omega
        cases hp : Cp.plainB (Cp.bl c.s) with
        | false =>
          rw [if_pos (.inr rfl)]
          rw [hp] at HP0
          have HP := hid HP0
          unfold cC at HCu ⊢
          clear HW0 HCu0 HP0 hd hdt hx hk ht hs hdc hbig hp
          (go_enter Tryd.func47, Tryd.ntmps47; go_wp2_with (go_at_call 55; refine (HW.out _ (by repeat' first | with_reducible exact Below.refl _ _ | with_reducible assumption | with_reducible refine belows_drewN ?_ _ | with_reducible refine Below.drew ?_ | with_reducible refine Below.setCell ?_ ?_ _ | with_reducible refine Below.alloc ?_ ?_ _ | omega | (simp; done) | (simp; omega))).mono ?_; rintro e w1 ⟨rfl, hb1⟩; have c0 := hb1.cell (p := ⟨w.heap.size, 0, none⟩) (by simp); have c1 := hb1.cell (p := ⟨w.heap.size, 1, none⟩) (by simp); have c2 := hb1.cell (p := ⟨w.heap.size, 2, none⟩) (by simp); have c3 := hb1.cell (p := ⟨w.heap.size, 3, none⟩) (by simp); have c4 := hb1.cell (p := ⟨w.heap.size, 4, none⟩) (by simp); have hz1 := hb1.size; simp [go_sem] at c0 c1 c2 c3 c4 hz1; have hz2 : w.heap.size < w1.heap.size := (by omega)); go_region_law (refine Kit.step_call2g rfl 56 (.tmp 15) (.tmp 16) 46 86 rfl _ _ rfl rfl (cf_cut _ _ _) _ (HCu.out _) ?_; rintro e w2 ⟨rfl, hb2⟩; have hz3 := hb2.size; simp at hz3; have e0 := hb2.cell (p := ⟨w.heap.size, 0, none⟩) (by simp; omega); have e1 := hb2.cell (p := ⟨w.heap.size, 1, none⟩) (by simp; omega); have e2 := hb2.cell (p := ⟨w.heap.size, 2, none⟩) (by simp; omega); have e3 := hb2.cell (p := ⟨w.heap.size, 3, none⟩) (by simp; omega); have e4 := hb2.cell (p := ⟨w.heap.size, 4, none⟩) (by simp; omega); simp [go_sem, c0, c1, c2, c3, c4, hz2] at e0 e1 e2 e3 e4; refine ⟨_, rfl, ?_⟩))
          all_goals go_wp2_with (go_at_call 57; refine (HP.out _).mono ?_; rintro e w3 ⟨rfl, rfl⟩)
          all_goals go_ret
          all_goals exact ⟨rfl, (by (have h1 := belows (B := w.heap.size) (a := w) (by repeat' first | with_reducible exact Below.refl _ _ | with_reducible assumption | with_reducible refine belows_drewN ?_ _ | with_reducible refine Below.drew ?_ | with_reducible refine Below.setCell ?_ ?_ _ | with_reducible refine Below.alloc ?_ ?_ _ | omega | (simp; done) | (simp; omega)) hb1 (by simp)); (have h2 := belows (B := w.heap.size) (a := w) (by repeat' first | with_reducible exact Below.refl _ _ | with_reducible assumption | with_reducible refine belows_drewN ?_ _ | with_reducible refine Below.drew ?_ | with_reducible refine Below.setCell ?_ ?_ _ | with_reducible refine Below.alloc ?_ ?_ _ | omega | (simp; done) | (simp; omega)) hb2 (by simp; omega)); exact (by repeat' first | with_reducible exact Below.refl _ _ | with_reducible assumption | with_reducible refine belows_drewN ?_ _ | with_reducible refine Below.drew ?_ | with_reducible refine Below.setCell ?_ ?_ _ | with_reducible refine Below.alloc ?_ ?_ _ | omega | (simp; done) | (simp; omega)))⟩
        | true =>
          rw [if_neg (by rintro (h | h); exact hbig h; cases h)]
          rw [hp] at HP0
          have HP := hid HP0
          unfold cC at HCu ⊢
          clear HW0 HCu0 HP0 hd hdt hx hk ht hs hdc hbig hp
          (go_enter Tryd.func47, Tryd.ntmps47; go_wp2_with (go_at_call 55; refine (HW.out _ (by repeat' first | with_reducible exact Below.refl _ _ | with_reducible assumption | with_reducible refine belows_drewN ?_ _ | with_reducible refine Below.drew ?_ | with_reducible refine Below.setCell ?_ ?_ _ | with_reducible refine Below.alloc ?_ ?_ _ | omega | (simp; done) | (simp; omega))).mono ?_; rintro e w1 ⟨rfl, hb1⟩; have c0 := hb1.cell (p := ⟨w.heap.size, 0, none⟩) (by simp); have c1 := hb1.cell (p := ⟨w.heap.size, 1, none⟩) (by simp); have c2 := hb1.cell (p := ⟨w.heap.size, 2, none⟩) (by simp); have c3 := hb1.cell (p := ⟨w.heap.size, 3, none⟩) (by simp); have c4 := hb1.cell (p := ⟨w.heap.size, 4, none⟩) (by simp); have hz1 := hb1.size; simp [go_sem] at c0 c1 c2 c3 c4 hz1; have hz2 : w.heap.size < w1.heap.size := (by omega)); go_region_law (refine Kit.step_call2g rfl 56 (.tmp 15) (.tmp 16) 46 86 rfl _ _ rfl rfl (cf_cut _ _ _) _ (HCu.out _) ?_; rintro e w2 ⟨rfl, hb2⟩; have hz3 := hb2.size; simp at hz3; have e0 := hb2.cell (p := ⟨w.heap.size, 0, none⟩) (by simp; omega); have e1 := hb2.cell (p := ⟨w.heap.size, 1, none⟩) (by simp; omega); have e2 := hb2.cell (p := ⟨w.heap.size, 2, none⟩) (by simp; omega); have e3 := hb2.cell (p := ⟨w.heap.size, 3, none⟩) (by simp; omega); have e4 := hb2.cell (p := ⟨w.heap.size, 4, none⟩) (by simp; omega); simp [go_sem, c0, c1, c2, c3, c4, hz2] at e0 e1 e2 e3 e4; refine ⟨_, rfl, ?_⟩))
          all_goals go_wp2_with (go_at_call 57; refine (HP.out _).mono ?_; rintro e w3 ⟨rfl, rfl⟩)
          all_goals go_ret
          all_goals exact ⟨rfl, (by (have h1 := belows (B := w.heap.size) (a := w) (by repeat' first | with_reducible exact Below.refl _ _ | with_reducible assumption | with_reducible refine belows_drewN ?_ _ | with_reducible refine Below.drew ?_ | with_reducible refine Below.setCell ?_ ?_ _ | with_reducible refine Below.alloc ?_ ?_ _ | omega | (simp; done) | (simp; omega)) hb1 (by simp)); (have h2 := belows (B := w.heap.size) (a := w) (by repeat' first | with_reducible exact Below.refl _ _ | with_reducible assumption | with_reducible refine belows_drewN ?_ _ | with_reducible refine Below.drew ?_ | with_reducible refine Below.setCell ?_ ?_ _ | with_reducible refine Below.alloc ?_ ?_ _ | omega | (simp; done) | (simp; omega)) hb2 (by simp; omega)); exact (by repeat' first | with_reducible exact Below.refl _ _ | with_reducible assumption | with_reducible refine belows_drewN ?_ _ | with_reducible refine Below.drew ?_ | with_reducible refine Below.setCell ?_ ?_ _ | with_reducible refine Below.alloc ?_ ?_ _ | omega | (simp; done) | (simp; omega)))⟩
    · rw [if_pos (.inr hdc)]
      obtain ⟨t, s, n, a, b⟩ := c
      obtain ⟨dt, ds, dn, da, db⟩ := d
      dsimp only at hdt
      subst hdt
      unfold cC at HCu ⊢
      dsimp only at HCu HW ⊢
      have hne : (¬ s = ds) ∨ (s = ds ∧ ¬ n = dn) ∨ (s = ds ∧ n = dn ∧ ¬ a = da) ∨ (s = ds ∧ n = dn ∧ a = da ∧ ¬ b = db) := by
        by_cases e1 : s = ds
        · by_cases e2 : n = dn
          · by_cases e3 : a = da
            · by_cases e4 : b = db
              · exact absurd (by rw [e1, e2, e3, e4]) hdc
              · exact .inr (.inr (.inr ⟨e1, e2, e3, e4⟩))
            · exact .inr (.inr (.inl ⟨e1, e2, e3⟩))
          · exact .inr (.inl ⟨e1, e2⟩)
        · exact .inl e1
      clear HW0 HCu0 HP0 hd hx hk ht hs hdc
      rcases hne with hne | ⟨rfl, hne⟩ | ⟨rfl, rfl, hne⟩ | ⟨rfl, rfl, rfl, hne⟩
      · have hne3 : (s.toList == ds.toList) = false := by rw [beq_eq_false_iff_ne, ne_eq, ByteArray.toList_eq, ByteArray.toList_eq]; intro e; exact hne (ba_ext e)
        (go_enter Tryd.func47, Tryd.ntmps47; go_wp2_with (go_at_call 55; refine (HW.out _ (by repeat' first | with_reducible exact Below.refl _ _ | with_reducible assumption | with_reducible refine belows_drewN ?_ _ | with_reducible refine Below.drew ?_ | with_reducible refine Below.setCell ?_ ?_ _ | with_reducible refine Below.alloc ?_ ?_ _ | omega | (simp; done) | (simp; omega))).mono ?_; rintro e w1 ⟨rfl, hb1⟩; have c0 := hb1.cell (p := ⟨w.heap.size, 0, none⟩) (by simp); have c1 := hb1.cell (p := ⟨w.heap.size, 1, none⟩) (by simp); have c2 := hb1.cell (p := ⟨w.heap.size, 2, none⟩) (by simp); have c3 := hb1.cell (p := ⟨w.heap.size, 3, none⟩) (by simp); have c4 := hb1.cell (p := ⟨w.heap.size, 4, none⟩) (by simp); have hz1 := hb1.size; simp [go_sem] at c0 c1 c2 c3 c4 hz1; have hz2 : w.heap.size < w1.heap.size := (by omega)); go_region_law (refine Kit.step_call2g rfl 56 (.tmp 15) (.tmp 16) 46 86 rfl _ _ rfl rfl (cf_cut _ _ _) _ (HCu.out _) ?_; rintro e w2 ⟨rfl, hb2⟩; have hz3 := hb2.size; simp at hz3; have e0 := hb2.cell (p := ⟨w.heap.size, 0, none⟩) (by simp; omega); have e1 := hb2.cell (p := ⟨w.heap.size, 1, none⟩) (by simp; omega); have e2 := hb2.cell (p := ⟨w.heap.size, 2, none⟩) (by simp; omega); have e3 := hb2.cell (p := ⟨w.heap.size, 3, none⟩) (by simp; omega); have e4 := hb2.cell (p := ⟨w.heap.size, 4, none⟩) (by simp; omega); simp [go_sem, c0, c1, c2, c3, c4, hz2] at e0 e1 e2 e3 e4; refine ⟨_, rfl, ?_⟩))
        all_goals go_wp2
        all_goals go_ret
        all_goals exact ⟨rfl, (by (have h1 := belows (B := w.heap.size) (a := w) (by repeat' first | with_reducible exact Below.refl _ _ | with_reducible assumption | with_reducible refine belows_drewN ?_ _ | with_reducible refine Below.drew ?_ | with_reducible refine Below.setCell ?_ ?_ _ | with_reducible refine Below.alloc ?_ ?_ _ | omega | (simp; done) | (simp; omega)) hb1 (by simp)); (have h2 := belows (B := w.heap.size) (a := w) (by repeat' first | with_reducible exact Below.refl _ _ | with_reducible assumption | with_reducible refine belows_drewN ?_ _ | with_reducible refine Below.drew ?_ | with_reducible refine Below.setCell ?_ ?_ _ | with_reducible refine Below.alloc ?_ ?_ _ | omega | (simp; done) | (simp; omega)) hb2 (by simp; omega)); exact (by repeat' first | with_reducible exact Below.refl _ _ | with_reducible assumption | with_reducible refine belows_drewN ?_ _ | with_reducible refine Below.drew ?_ | with_reducible refine Below.setCell ?_ ?_ _ | with_reducible refine Below.alloc ?_ ?_ _ | omega | (simp; done) | (simp; omega)))⟩
      · (go_enter Tryd.func47, Tryd.ntmps47; go_wp2_with (go_at_call 55; refine (HW.out _ (by repeat' first | with_reducible exact Below.refl _ _ | with_reducible assumption | with_reducible refine belows_drewN ?_ _ | with_reducible refine Below.drew ?_ | with_reducible refine Below.setCell ?_ ?_ _ | with_reducible refine Below.alloc ?_ ?_ _ | omega | (simp; done) | (simp; omega))).mono ?_; rintro e w1 ⟨rfl, hb1⟩; have c0 := hb1.cell (p := ⟨w.heap.size, 0, none⟩) (by simp); have c1 := hb1.cell (p := ⟨w.heap.size, 1, none⟩) (by simp); have c2 := hb1.cell (p := ⟨w.heap.size, 2, none⟩) (by simp); have c3 := hb1.cell (p := ⟨w.heap.size, 3, none⟩) (by simp); have c4 := hb1.cell (p := ⟨w.heap.size, 4, none⟩) (by simp); have hz1 := hb1.size; simp [go_sem] at c0 c1 c2 c3 c4 hz1; have hz2 : w.heap.size < w1.heap.size := (by omega)); go_region_law (refine Kit.step_call2g rfl 56 (.tmp 15) (.tmp 16) 46 86 rfl _ _ rfl rfl (cf_cut _ _ _) _ (HCu.out _) ?_; rintro e w2 ⟨rfl, hb2⟩; have hz3 := hb2.size; simp at hz3; have e0 := hb2.cell (p := ⟨w.heap.size, 0, none⟩) (by simp; omega); have e1 := hb2.cell (p := ⟨w.heap.size, 1, none⟩) (by simp; omega); have e2 := hb2.cell (p := ⟨w.heap.size, 2, none⟩) (by simp; omega); have e3 := hb2.cell (p := ⟨w.heap.size, 3, none⟩) (by simp; omega); have e4 := hb2.cell (p := ⟨w.heap.size, 4, none⟩) (by simp; omega); simp [go_sem, c0, c1, c2, c3, c4, hz2] at e0 e1 e2 e3 e4; refine ⟨_, rfl, ?_⟩))
        all_goals go_wp2
        all_goals go_ret
        all_goals exact ⟨rfl, (by (have h1 := belows (B := w.heap.size) (a := w) (by repeat' first | with_reducible exact Below.refl _ _ | with_reducible assumption | with_reducible refine belows_drewN ?_ _ | with_reducible refine Below.drew ?_ | with_reducible refine Below.setCell ?_ ?_ _ | with_reducible refine Below.alloc ?_ ?_ _ | omega | (simp; done) | (simp; omega)) hb1 (by simp)); (have h2 := belows (B := w.heap.size) (a := w) (by repeat' first | with_reducible exact Below.refl _ _ | with_reducible assumption | with_reducible refine belows_drewN ?_ _ | with_reducible refine Below.drew ?_ | with_reducible refine Below.setCell ?_ ?_ _ | with_reducible refine Below.alloc ?_ ?_ _ | omega | (simp; done) | (simp; omega)) hb2 (by simp; omega)); exact (by repeat' first | with_reducible exact Below.refl _ _ | with_reducible assumption | with_reducible refine belows_drewN ?_ _ | with_reducible refine Below.drew ?_ | with_reducible refine Below.setCell ?_ ?_ _ | with_reducible refine Below.alloc ?_ ?_ _ | omega | (simp; done) | (simp; omega)))⟩
      · (go_enter Tryd.func47, Tryd.ntmps47; go_wp2_with (go_at_call 55; refine (HW.out _ (by repeat' first | with_reducible exact Below.refl _ _ | with_reducible assumption | with_reducible refine belows_drewN ?_ _ | with_reducible refine Below.drew ?_ | with_reducible refine Below.setCell ?_ ?_ _ | with_reducible refine Below.alloc ?_ ?_ _ | omega | (simp; done) | (simp; omega))).mono ?_; rintro e w1 ⟨rfl, hb1⟩; have c0 := hb1.cell (p := ⟨w.heap.size, 0, none⟩) (by simp); have c1 := hb1.cell (p := ⟨w.heap.size, 1, none⟩) (by simp); have c2 := hb1.cell (p := ⟨w.heap.size, 2, none⟩) (by simp); have c3 := hb1.cell (p := ⟨w.heap.size, 3, none⟩) (by simp); have c4 := hb1.cell (p := ⟨w.heap.size, 4, none⟩) (by simp); have hz1 := hb1.size; simp [go_sem] at c0 c1 c2 c3 c4 hz1; have hz2 : w.heap.size < w1.heap.size := (by omega)); go_region_law (refine Kit.step_call2g rfl 56 (.tmp 15) (.tmp 16) 46 86 rfl _ _ rfl rfl (cf_cut _ _ _) _ (HCu.out _) ?_; rintro e w2 ⟨rfl, hb2⟩; have hz3 := hb2.size; simp at hz3; have e0 := hb2.cell (p := ⟨w.heap.size, 0, none⟩) (by simp; omega); have e1 := hb2.cell (p := ⟨w.heap.size, 1, none⟩) (by simp; omega); have e2 := hb2.cell (p := ⟨w.heap.size, 2, none⟩) (by simp; omega); have e3 := hb2.cell (p := ⟨w.heap.size, 3, none⟩) (by simp; omega); have e4 := hb2.cell (p := ⟨w.heap.size, 4, none⟩) (by simp; omega); simp [go_sem, c0, c1, c2, c3, c4, hz2] at e0 e1 e2 e3 e4; refine ⟨_, rfl, ?_⟩))
        all_goals go_wp2
        all_goals go_ret
        all_goals exact ⟨rfl, (by (have h1 := belows (B := w.heap.size) (a := w) (by repeat' first | with_reducible exact Below.refl _ _ | with_reducible assumption | with_reducible refine belows_drewN ?_ _ | with_reducible refine Below.drew ?_ | with_reducible refine Below.setCell ?_ ?_ _ | with_reducible refine Below.alloc ?_ ?_ _ | omega | (simp; done) | (simp; omega)) hb1 (by simp)); (have h2 := belows (B := w.heap.size) (a := w) (by repeat' first | with_reducible exact Below.refl _ _ | with_reducible assumption | with_reducible refine belows_drewN ?_ _ | with_reducible refine Below.drew ?_ | with_reducible refine Below.setCell ?_ ?_ _ | with_reducible refine Below.alloc ?_ ?_ _ | omega | (simp; done) | (simp; omega)) hb2 (by simp; omega)); exact (by repeat' first | with_reducible exact Below.refl _ _ | with_reducible assumption | with_reducible refine belows_drewN ?_ _ | with_reducible refine Below.drew ?_ | with_reducible refine Below.setCell ?_ ?_ _ | with_reducible refine Below.alloc ?_ ?_ _ | omega | (simp; done) | (simp; omega)))⟩
      · (go_enter Tryd.func47, Tryd.ntmps47; go_wp2_with (go_at_call 55; refine (HW.out _ (by repeat' first | with_reducible exact Below.refl _ _ | with_reducible assumption | with_reducible refine belows_drewN ?_ _ | with_reducible refine Below.drew ?_ | with_reducible refine Below.setCell ?_ ?_ _ | with_reducible refine Below.alloc ?_ ?_ _ | omega | (simp; done) | (simp; omega))).mono ?_; rintro e w1 ⟨rfl, hb1⟩; have c0 := hb1.cell (p := ⟨w.heap.size, 0, none⟩) (by simp); have c1 := hb1.cell (p := ⟨w.heap.size, 1, none⟩) (by simp); have c2 := hb1.cell (p := ⟨w.heap.size, 2, none⟩) (by simp); have c3 := hb1.cell (p := ⟨w.heap.size, 3, none⟩) (by simp); have c4 := hb1.cell (p := ⟨w.heap.size, 4, none⟩) (by simp); have hz1 := hb1.size; simp [go_sem] at c0 c1 c2 c3 c4 hz1; have hz2 : w.heap.size < w1.heap.size := (by omega)); go_region_law (refine Kit.step_call2g rfl 56 (.tmp 15) (.tmp 16) 46 86 rfl _ _ rfl rfl (cf_cut _ _ _) _ (HCu.out _) ?_; rintro e w2 ⟨rfl, hb2⟩; have hz3 := hb2.size; simp at hz3; have e0 := hb2.cell (p := ⟨w.heap.size, 0, none⟩) (by simp; omega); have e1 := hb2.cell (p := ⟨w.heap.size, 1, none⟩) (by simp; omega); have e2 := hb2.cell (p := ⟨w.heap.size, 2, none⟩) (by simp; omega); have e3 := hb2.cell (p := ⟨w.heap.size, 3, none⟩) (by simp; omega); have e4 := hb2.cell (p := ⟨w.heap.size, 4, none⟩) (by simp; omega); simp [go_sem, c0, c1, c2, c3, c4, hz2] at e0 e1 e2 e3 e4; refine ⟨_, rfl, ?_⟩))
        all_goals go_wp2
        all_goals go_ret
        all_goals exact ⟨rfl, (by (have h1 := belows (B := w.heap.size) (a := w) (by repeat' first | with_reducible exact Below.refl _ _ | with_reducible assumption | with_reducible refine belows_drewN ?_ _ | with_reducible refine Below.drew ?_ | with_reducible refine Below.setCell ?_ ?_ _ | with_reducible refine Below.alloc ?_ ?_ _ | omega | (simp; done) | (simp; omega)) hb1 (by simp)); (have h2 := belows (B := w.heap.size) (a := w) (by repeat' first | with_reducible exact Below.refl _ _ | with_reducible assumption | with_reducible refine belows_drewN ?_ _ | with_reducible refine Below.drew ?_ | with_reducible refine Below.setCell ?_ ?_ _ | with_reducible refine Below.alloc ?_ ?_ _ | omega | (simp; done) | (simp; omega)) hb2 (by simp; omega)); exact (by repeat' first | with_reducible exact Below.refl _ _ | with_reducible assumption | with_reducible refine belows_drewN ?_ _ | with_reducible refine Below.drew ?_ | with_reducible refine Below.setCell ?_ ?_ _ | with_reducible refine Below.alloc ?_ ?_ _ | omega | (simp; done) | (simp; omega)))⟩
end Go.Proofs.YtljbcclfafndmaaDoor
