/- Contract of the document's Ref. -/
import Derived.Test.YtljbcclfafndmaaDoorCy
namespace Go.Proofs.YtljbcclfafndmaaDoor
open Go.RowKit

theorem txO_er (l : List Cp.C) (i : Int) : (txO l i).2 = 0 ∨ (txO l i).2 = 33 := by
  unfold txO erV
  dsimp only
  split
  · exact .inl rfl
  · exact .inr rfl
theorem clO_er (l : List Cp.C) (i : Int) : (clO l i).2 = 0 ∨ (clO l i).2 = 33 := by
  unfold clO
  split
  · exact .inr rfl
  · exact txO_er _ _
theorem ndO_er (l : List Cp.C) (i : Int) : (ndO l i).2.2 = 0 ∨ (ndO l i).2.2 = 33 := by
  unfold ndO
  split
  · exact .inr rfl
  · rename_i c _
    have h1 := txO_er l c.a
    have h2 := txO_er l c.b
    split
    · split
      · exact .inl rfl
      · exact h2
    · exact h1
/-- What Ref answers where something is wrong. -/
def rfBad : ByteArray × ByteArray × ByteArray × Int := (⟨#[]⟩, ⟨#[]⟩, ⟨#[]⟩, 33)
theorem rf_some {l : List Cp.C} {i tag : Int} {c : Cp.C} (ht : tag = 9 ∨ tag = 10) (hx : enA l i tag = some c) : rfO l i tag = match enA l c.b 12 with
    | none => rfBad
    | some d => if (clO l c.a).2 = 0 ∧ (txO l d.a).2 = 0 ∧ (txO l d.b).2 = 0 then ((clO l c.a).1, (txO l d.a).1, (txO l d.b).1, 0) else rfBad := by
  unfold rfO
  rw [if_pos ht, hx]
  dsimp only
  have h1 := clO_er l c.a
  cases hd : enA l c.b 12 with
  | none =>
    have hn : ndO l c.b = (⟨#[]⟩, ⟨#[]⟩, 33) := by unfold ndO; rw [hd]
    rw [hn]
    dsimp only
    rcases h1 with h | h
    · rw [if_pos h, if_neg (by decide)]; rfl
    · rw [if_neg (by omega), h]; rfl
  | some d =>
    have hn : ndO l c.b = if (txO l d.a).2 = 0 then (if (txO l d.b).2 = 0 then ((txO l d.a).1, (txO l d.b).1, 0) else (⟨#[]⟩, ⟨#[]⟩, (txO l d.b).2)) else (⟨#[]⟩, ⟨#[]⟩, (txO l d.a).2) := by unfold ndO; rw [hd]
    rw [hn]
    have h2 := txO_er l d.a
    have h3 := txO_er l d.b
    dsimp only
    rcases h1 with h1 | h1
    · rw [if_pos h1]
      rcases h2 with h2 | h2
      · rw [if_pos h2]
        rcases h3 with h3 | h3
        · rw [if_pos h3, if_pos rfl, if_pos ⟨h1, h2, h3⟩]
        · have n3 : ¬ (txO l d.b).2 = 0 := by omega
          have n4 : ¬ (((⟨#[]⟩, ⟨#[]⟩, (txO l d.b).2) : ByteArray × ByteArray × Int).2.2 = 0) := n3
          have n5 : ¬ ((clO l c.a).2 = 0 ∧ (txO l d.a).2 = 0 ∧ (txO l d.b).2 = 0) := fun e => n3 e.2.2
          rw [if_neg n3, if_neg n4, if_neg n5, h3]; rfl
      · have n3 : ¬ (txO l d.a).2 = 0 := by omega
        have n4 : ¬ (((⟨#[]⟩, ⟨#[]⟩, (txO l d.a).2) : ByteArray × ByteArray × Int).2.2 = 0) := n3
        have n5 : ¬ ((clO l c.a).2 = 0 ∧ (txO l d.a).2 = 0 ∧ (txO l d.b).2 = 0) := fun e => n3 e.2.1
        rw [if_neg n3, if_neg n4, if_neg n5, h2]; rfl
    · have n3 : ¬ (clO l c.a).2 = 0 := by omega
      have n5 : ¬ ((clO l c.a).2 = 0 ∧ (txO l d.a).2 = 0 ∧ (txO l d.b).2 = 0) := fun e => n3 e.1
      rw [if_neg n3, if_neg n5, h1]; rfl
set_option maxRecDepth 100000 in
set_option maxHeartbeats 2000000 in
theorem rref_at (l : List Cp.C) (i tag : Int) (v : Value) (w : World) (hv : Kit.IsS 5 w v l.length (l.flatMap cL)) :
    Calls Tryd.prog 24 #[v, .int .i64 i, .int .i64 tag] w fun e w' => e = .returned (.tuple #[.agg #[.string (rfO l i tag).1, .string (rfO l i tag).2.1, .string (rfO l i tag).2.2.1], .int .i64 (rfO l i tag).2.2.2]) ∧ Below w.heap.size w w' := by
  have HE0 := fun W (h : Below w.heap.size w W) => at_any l i tag v W (hv.below h (Nat.le_refl _))
  have HC0 := fun j W (h : Below w.heap.size w W) => rclass_at l j v W (hv.below h (Nat.le_refl _))
  have HD0 := fun j W (h : Below w.heap.size w W) => at_any l j 12 v W (hv.below h (Nat.le_refl _))
  have HT0 := fun j W (h : Below w.heap.size w W) => rtext_at l j v W (hv.below h (Nat.le_refl _))
  by_cases ht : tag = 9 ∨ tag = 10
  · have htg2 : (tag != 9) = false ∨ ((tag != 9) = true ∧ (tag != 10) = false) := by rcases ht with rfl | rfl <;> simp
    cases hx : enA l i tag with
    | none =>
      rw [show rfO l i tag = rfBad by unfold rfO; rw [if_pos ht, hx]; rfl]
      rw [hx] at HE0
      unfold enV Cp.C0 cC at HE0
      unfold rfBad
      dsimp only [Option.getD_none, Option.isSome_none] at HE0 ⊢
      have HE := hid HE0
      clear HE0 hx hv HC0 HD0 HT0 ht
      rcases htg2 with h9 | ⟨h9, h10⟩
      all_goals
        go_enter Tryd.func24, Tryd.ntmps24
        go_wp2_with (go_at_call 45; refine (HE.out _ (by repeat' first | with_reducible exact Below.refl _ _ | with_reducible assumption | with_reducible refine belows_drewN ?_ _ | with_reducible refine Below.drew ?_ | with_reducible refine Below.setCell ?_ ?_ _ | with_reducible refine Below.alloc ?_ ?_ _ | omega | (simp; done) | (simp; omega))).mono ?_; rintro e w1 ⟨rfl, hb1⟩; obtain ⟨⟨r0, r1, r2⟩, ⟨f0, f1, f2⟩, hz1⟩ := boxR hb1)
        have hB := chainA hb1
        exact bodyPost_ret (v := .tuple #[.agg #[.string ⟨#[]⟩, .string ⟨#[]⟩, .string ⟨#[]⟩], .int .i64 33]) (by simp [results, Tryd.results24, go_sem, r0, r1, r2, hz1]) rfl ⟨rfl, (by repeat' first | with_reducible exact Below.refl _ _ | with_reducible assumption | with_reducible refine belows_drewN ?_ _ | with_reducible refine Below.drew ?_ | with_reducible refine Below.setCell ?_ ?_ _ | with_reducible refine Below.alloc ?_ ?_ _ | omega | (simp; done) | (simp; omega))⟩
    | some c =>
      rw [rf_some ht hx]
      rw [hx] at HE0
      unfold enV cC at HE0
      dsimp only [Option.getD_some, Option.isSome_some] at HE0
      have HE := hid HE0
      have HA0 := HC0 c.a
      obtain ⟨⟨sa, ae⟩, ha⟩ : ∃ x, x = clO l c.a := ⟨_, rfl⟩
      rw [← ha] at HA0 ⊢
      dsimp only at HA0 ⊢
      have HA := hid HA0
      have HD1 := HD0 c.b
      obtain ⟨d, hd⟩ : ∃ d, d = enV (enA l c.b 12) := ⟨_, rfl⟩
      obtain ⟨ok, hok⟩ : ∃ b, b = (enA l c.b 12).isSome := ⟨_, rfl⟩
      rw [← hd, ← hok] at HD1
      have HP0 := HT0 d.a
      have HQ0 := HT0 d.b
      obtain ⟨⟨sp, pe⟩, hp⟩ : ∃ x, x = txO l d.a := ⟨_, rfl⟩
      obtain ⟨⟨sq, qe⟩, hq⟩ : ∃ x, x = txO l d.b := ⟨_, rfl⟩
      rw [← hp] at HP0
      rw [← hq] at HQ0
      dsimp only at HP0 HQ0
      have HP := hid HP0
      have HQ := hid HQ0
      obtain ⟨o, ho⟩ : ∃ o : ByteArray × ByteArray × ByteArray × Int, o = (if ok = true ∧ ae = 0 ∧ pe = 0 ∧ qe = 0 then (sa, sp, sq, 0) else rfBad) := ⟨_, rfl⟩
      have hgoal : (match enA l c.b 12 with | none => rfBad | some d => if ae = 0 ∧ (txO l d.a).2 = 0 ∧ (txO l d.b).2 = 0 then (sa, (txO l d.a).1, (txO l d.b).1, 0) else rfBad) = o := by
        rw [ho]
        cases hy : enA l c.b 12 with
        | none => rw [hok, hy, if_neg (by simp)]
        | some d' =>
          rw [hy] at hd hok
          obtain rfl : d = d' := hd
          dsimp only
          rw [← hp, ← hq, hok]
          simp
      rw [hgoal]
      unfold cC at HD1
      obtain ⟨ct, cs, cn, ca, cb⟩ := c
      obtain ⟨dt, ds, dn, da, db⟩ := d
      dsimp only at HE HA HD1 HP HQ
      have HD := hid HD1
      have HO := hid ho
      clear HE0 hx hv HC0 HD0 HT0 HA0 HD1 HP0 HQ0 ha hp hq hd hok ho hgoal ht
      have hcase : (ok = false) ∨ (ok = true ∧ ae ≠ 0) ∨ (ok = true ∧ ae = 0 ∧ pe ≠ 0) ∨ (ok = true ∧ ae = 0 ∧ pe = 0 ∧ qe ≠ 0) ∨ (ok = true ∧ ae = 0 ∧ pe = 0 ∧ qe = 0) := by
        cases ok
        · exact .inl rfl
        · by_cases h1 : ae = 0
          · by_cases h2 : pe = 0
            · by_cases h3 : qe = 0
              · exact .inr (.inr (.inr (.inr ⟨rfl, h1, h2, h3⟩)))
              · exact .inr (.inr (.inr (.inl ⟨rfl, h1, h2, h3⟩)))
            · exact .inr (.inr (.inl ⟨rfl, h1, h2⟩))
          · exact .inr (.inl ⟨rfl, h1⟩)
      rcases htg2 with h9 | ⟨h9, h10⟩
      all_goals
        rcases hcase with rfl | ⟨rfl, h⟩ | ⟨rfl, rfl, h⟩ | ⟨rfl, rfl, rfl, h⟩ | ⟨rfl, rfl, rfl, rfl⟩
        · have HO2 := hid (show o = rfBad by rw [HO.out]; simp)
          go_enter Tryd.func24, Tryd.ntmps24; go_wp2_with (first | (go_at_call 20; have _g := hb4; (with_reducible refine (HQ.out _ ?_).mono ?_); exact (chainA (belows B3 hb4 B3.size)); rintro e w5 ⟨rfl, hb5⟩; have B4 := belows (belows B3 hb4 B3.size) hb5 (belows B3 hb4 B3.size).size; obtain ⟨⟨r0, r1, r2⟩, ⟨f0, f1, f2⟩, hz5⟩ := boxR B4) | (go_at_call 20; have _g := hb3; (with_reducible refine (HP.out _ ?_).mono ?_); exact ((chainA B3a).alloc (chainA B3a).size _); rintro e w4 ⟨rfl, hb4⟩; obtain ⟨y3, y4, hy4⟩ := boxC hb4; have B3 := B3a.alloc B3a.size (.cells #[.int .i64 dt, .string ds, .int .i64 dn, .int .i64 da, .int .i64 db] 46)) | (go_at_call 45; have _g := hb2; (with_reducible refine (HD.out _ ?_).mono ?_); exact (chainA (chainB hb1 hb2)); rintro e w3 ⟨rfl, hb3⟩; have B3a := belows (chainB hb1 hb2) hb3 (chainB hb1 hb2).size) | (go_at_call 22; (with_reducible refine (HA.out _ ?_).mono ?_); exact ((chainA hb1).alloc (chainA hb1).size _); rintro e w2 ⟨rfl, hb2⟩; obtain ⟨x3, x4, hx2⟩ := boxC hb2) | (go_at_call 45; refine (HE.out _ (by repeat' first | with_reducible exact Below.refl _ _ | with_reducible assumption | with_reducible refine belows_drewN ?_ _ | with_reducible refine Below.drew ?_ | with_reducible refine Below.setCell ?_ ?_ _ | with_reducible refine Below.alloc ?_ ?_ _ | omega | (simp; done) | (simp; omega))).mono ?_; rintro e w1 ⟨rfl, hb1⟩))
          have hB := chainA B4; exact bodyPost_ret (v := .tuple #[.agg #[.string ⟨#[]⟩, .string ⟨#[]⟩, .string ⟨#[]⟩], .int .i64 33]) (by simp [results, Tryd.results24, go_sem, r0, r1, r2]) rfl ⟨by rw [HO2.out]; rfl, (by repeat' first | with_reducible exact Below.refl _ _ | with_reducible assumption | with_reducible refine belows_drewN ?_ _ | with_reducible refine Below.drew ?_ | with_reducible refine Below.setCell ?_ ?_ _ | with_reducible refine Below.alloc ?_ ?_ _ | omega | (simp; done) | (simp; omega))⟩
        · have HO2 := hid (show o = rfBad by rw [HO.out]; simp [h])
          have hd5 : (ae != 0) = true := by simpa using h
          clear h
          go_enter Tryd.func24, Tryd.ntmps24; go_wp2_with (first | (go_at_call 20; have _g := hb4; (with_reducible refine (HQ.out _ ?_).mono ?_); exact (chainA (belows B3 hb4 B3.size)); rintro e w5 ⟨rfl, hb5⟩; have B4 := belows (belows B3 hb4 B3.size) hb5 (belows B3 hb4 B3.size).size; obtain ⟨⟨r0, r1, r2⟩, ⟨f0, f1, f2⟩, hz5⟩ := boxR B4) | (go_at_call 20; have _g := hb3; (with_reducible refine (HP.out _ ?_).mono ?_); exact ((chainA B3a).alloc (chainA B3a).size _); rintro e w4 ⟨rfl, hb4⟩; obtain ⟨y3, y4, hy4⟩ := boxC hb4; have B3 := B3a.alloc B3a.size (.cells #[.int .i64 dt, .string ds, .int .i64 dn, .int .i64 da, .int .i64 db] 46)) | (go_at_call 45; have _g := hb2; (with_reducible refine (HD.out _ ?_).mono ?_); exact (chainA (chainB hb1 hb2)); rintro e w3 ⟨rfl, hb3⟩; have B3a := belows (chainB hb1 hb2) hb3 (chainB hb1 hb2).size) | (go_at_call 22; (with_reducible refine (HA.out _ ?_).mono ?_); exact ((chainA hb1).alloc (chainA hb1).size _); rintro e w2 ⟨rfl, hb2⟩; obtain ⟨x3, x4, hx2⟩ := boxC hb2) | (go_at_call 45; refine (HE.out _ (by repeat' first | with_reducible exact Below.refl _ _ | with_reducible assumption | with_reducible refine belows_drewN ?_ _ | with_reducible refine Below.drew ?_ | with_reducible refine Below.setCell ?_ ?_ _ | with_reducible refine Below.alloc ?_ ?_ _ | omega | (simp; done) | (simp; omega))).mono ?_; rintro e w1 ⟨rfl, hb1⟩))
          have hB := chainA B4; exact bodyPost_ret (v := .tuple #[.agg #[.string ⟨#[]⟩, .string ⟨#[]⟩, .string ⟨#[]⟩], .int .i64 33]) (by simp [results, Tryd.results24, go_sem, r0, r1, r2]) rfl ⟨by rw [HO2.out]; rfl, (by repeat' first | with_reducible exact Below.refl _ _ | with_reducible assumption | with_reducible refine belows_drewN ?_ _ | with_reducible refine Below.drew ?_ | with_reducible refine Below.setCell ?_ ?_ _ | with_reducible refine Below.alloc ?_ ?_ _ | omega | (simp; done) | (simp; omega))⟩
        · have HO2 := hid (show o = rfBad by rw [HO.out]; simp [h])
          have hd5 : (pe != 0) = true := by simpa using h
          clear h
          go_enter Tryd.func24, Tryd.ntmps24; go_wp2_with (first | (go_at_call 20; have _g := hb4; (with_reducible refine (HQ.out _ ?_).mono ?_); exact (chainA (belows B3 hb4 B3.size)); rintro e w5 ⟨rfl, hb5⟩; have B4 := belows (belows B3 hb4 B3.size) hb5 (belows B3 hb4 B3.size).size; obtain ⟨⟨r0, r1, r2⟩, ⟨f0, f1, f2⟩, hz5⟩ := boxR B4) | (go_at_call 20; have _g := hb3; (with_reducible refine (HP.out _ ?_).mono ?_); exact ((chainA B3a).alloc (chainA B3a).size _); rintro e w4 ⟨rfl, hb4⟩; obtain ⟨y3, y4, hy4⟩ := boxC hb4; have B3 := B3a.alloc B3a.size (.cells #[.int .i64 dt, .string ds, .int .i64 dn, .int .i64 da, .int .i64 db] 46)) | (go_at_call 45; have _g := hb2; (with_reducible refine (HD.out _ ?_).mono ?_); exact (chainA (chainB hb1 hb2)); rintro e w3 ⟨rfl, hb3⟩; have B3a := belows (chainB hb1 hb2) hb3 (chainB hb1 hb2).size) | (go_at_call 22; (with_reducible refine (HA.out _ ?_).mono ?_); exact ((chainA hb1).alloc (chainA hb1).size _); rintro e w2 ⟨rfl, hb2⟩; obtain ⟨x3, x4, hx2⟩ := boxC hb2) | (go_at_call 45; refine (HE.out _ (by repeat' first | with_reducible exact Below.refl _ _ | with_reducible assumption | with_reducible refine belows_drewN ?_ _ | with_reducible refine Below.drew ?_ | with_reducible refine Below.setCell ?_ ?_ _ | with_reducible refine Below.alloc ?_ ?_ _ | omega | (simp; done) | (simp; omega))).mono ?_; rintro e w1 ⟨rfl, hb1⟩))
          have hB := chainA B4; exact bodyPost_ret (v := .tuple #[.agg #[.string ⟨#[]⟩, .string ⟨#[]⟩, .string ⟨#[]⟩], .int .i64 33]) (by simp [results, Tryd.results24, go_sem, r0, r1, r2]) rfl ⟨by rw [HO2.out]; rfl, (by repeat' first | with_reducible exact Below.refl _ _ | with_reducible assumption | with_reducible refine belows_drewN ?_ _ | with_reducible refine Below.drew ?_ | with_reducible refine Below.setCell ?_ ?_ _ | with_reducible refine Below.alloc ?_ ?_ _ | omega | (simp; done) | (simp; omega))⟩
        · have HO2 := hid (show o = rfBad by rw [HO.out]; simp [h])
          have hd5 : (qe != 0) = true := by simpa using h
          clear h
          go_enter Tryd.func24, Tryd.ntmps24; go_wp2_with (first | (go_at_call 20; have _g := hb4; (with_reducible refine (HQ.out _ ?_).mono ?_); exact (chainA (belows B3 hb4 B3.size)); rintro e w5 ⟨rfl, hb5⟩; have B4 := belows (belows B3 hb4 B3.size) hb5 (belows B3 hb4 B3.size).size; obtain ⟨⟨r0, r1, r2⟩, ⟨f0, f1, f2⟩, hz5⟩ := boxR B4) | (go_at_call 20; have _g := hb3; (with_reducible refine (HP.out _ ?_).mono ?_); exact ((chainA B3a).alloc (chainA B3a).size _); rintro e w4 ⟨rfl, hb4⟩; obtain ⟨y3, y4, hy4⟩ := boxC hb4; have B3 := B3a.alloc B3a.size (.cells #[.int .i64 dt, .string ds, .int .i64 dn, .int .i64 da, .int .i64 db] 46)) | (go_at_call 45; have _g := hb2; (with_reducible refine (HD.out _ ?_).mono ?_); exact (chainA (chainB hb1 hb2)); rintro e w3 ⟨rfl, hb3⟩; have B3a := belows (chainB hb1 hb2) hb3 (chainB hb1 hb2).size) | (go_at_call 22; (with_reducible refine (HA.out _ ?_).mono ?_); exact ((chainA hb1).alloc (chainA hb1).size _); rintro e w2 ⟨rfl, hb2⟩; obtain ⟨x3, x4, hx2⟩ := boxC hb2) | (go_at_call 45; refine (HE.out _ (by repeat' first | with_reducible exact Below.refl _ _ | with_reducible assumption | with_reducible refine belows_drewN ?_ _ | with_reducible refine Below.drew ?_ | with_reducible refine Below.setCell ?_ ?_ _ | with_reducible refine Below.alloc ?_ ?_ _ | omega | (simp; done) | (simp; omega))).mono ?_; rintro e w1 ⟨rfl, hb1⟩))
          have hB := chainA B4; exact bodyPost_ret (v := .tuple #[.agg #[.string ⟨#[]⟩, .string ⟨#[]⟩, .string ⟨#[]⟩], .int .i64 33]) (by simp [results, Tryd.results24, go_sem, r0, r1, r2]) rfl ⟨by rw [HO2.out]; rfl, (by repeat' first | with_reducible exact Below.refl _ _ | with_reducible assumption | with_reducible refine belows_drewN ?_ _ | with_reducible refine Below.drew ?_ | with_reducible refine Below.setCell ?_ ?_ _ | with_reducible refine Below.alloc ?_ ?_ _ | omega | (simp; done) | (simp; omega))⟩
        · have HO2 := hid (show o = (sa, sp, sq, 0) by rw [HO.out]; simp)
          go_enter Tryd.func24, Tryd.ntmps24; go_wp2_with (first | (go_at_call 20; have _g := hb4; (with_reducible refine (HQ.out _ ?_).mono ?_); exact (chainA (belows B3 hb4 B3.size)); rintro e w5 ⟨rfl, hb5⟩; have B4 := belows (belows B3 hb4 B3.size) hb5 (belows B3 hb4 B3.size).size; obtain ⟨⟨r0, r1, r2⟩, ⟨f0, f1, f2⟩, hz5⟩ := boxR B4) | (go_at_call 20; have _g := hb3; (with_reducible refine (HP.out _ ?_).mono ?_); exact ((chainA B3a).alloc (chainA B3a).size _); rintro e w4 ⟨rfl, hb4⟩; obtain ⟨y3, y4, hy4⟩ := boxC hb4; have B3 := B3a.alloc B3a.size (.cells #[.int .i64 dt, .string ds, .int .i64 dn, .int .i64 da, .int .i64 db] 46)) | (go_at_call 45; have _g := hb2; (with_reducible refine (HD.out _ ?_).mono ?_); exact (chainA (chainB hb1 hb2)); rintro e w3 ⟨rfl, hb3⟩; have B3a := belows (chainB hb1 hb2) hb3 (chainB hb1 hb2).size) | (go_at_call 22; (with_reducible refine (HA.out _ ?_).mono ?_); exact ((chainA hb1).alloc (chainA hb1).size _); rintro e w2 ⟨rfl, hb2⟩; obtain ⟨x3, x4, hx2⟩ := boxC hb2) | (go_at_call 45; refine (HE.out _ (by repeat' first | with_reducible exact Below.refl _ _ | with_reducible assumption | with_reducible refine belows_drewN ?_ _ | with_reducible refine Below.drew ?_ | with_reducible refine Below.setCell ?_ ?_ _ | with_reducible refine Below.alloc ?_ ?_ _ | omega | (simp; done) | (simp; omega))).mono ?_; rintro e w1 ⟨rfl, hb1⟩))
          have hB := chainA B4
          exact bodyPost_ret (v := .tuple #[.agg #[.string sa, .string sp, .string sq], .int .i64 0]) (by simp [results, Tryd.results24, go_sem, r0, r1, r2]) rfl ⟨by rw [HO2.out], (by repeat' first | with_reducible exact Below.refl _ _ | with_reducible assumption | with_reducible refine belows_drewN ?_ _ | with_reducible refine Below.drew ?_ | with_reducible refine Below.setCell ?_ ?_ _ | with_reducible refine Below.alloc ?_ ?_ _ | omega | (simp; done) | (simp; omega))⟩
  · rw [show rfO l i tag = rfBad by unfold rfO; rw [if_neg ht]; rfl]
    unfold rfBad
    have h9 : (tag != 9) = true := by simp; omega
    have h10 : (tag != 10) = true := by simp; omega
    obtain ⟨a, cap, rfl⟩ := hv.len
    clear HE0 hv HC0 HD0 HT0 ht
    go_enter Tryd.func24, Tryd.ntmps24
    go_wp2
    exact bodyPost_ret (v := .tuple #[.agg #[.string ⟨#[]⟩, .string ⟨#[]⟩, .string ⟨#[]⟩], .int .i64 33]) (by simp [results, Tryd.results24, go_sem]) rfl ⟨rfl, (by repeat' first | with_reducible exact Below.refl _ _ | with_reducible assumption | with_reducible refine belows_drewN ?_ _ | with_reducible refine Below.drew ?_ | with_reducible refine Below.setCell ?_ ?_ _ | with_reducible refine Below.alloc ?_ ?_ _ | omega | (simp; done) | (simp; omega))⟩
end Go.Proofs.YtljbcclfafndmaaDoor
