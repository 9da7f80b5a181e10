/- The law of elements. -/
import Derived.Test.YtcbdkfjfpglnpaaDoorAr
import Derived.Test.YtcbdkfjfpglnpaaDoorBg
namespace Go.Proofs.YtcbdkfjfpglnpaaDoor
open Go.RowKit

theorem arOut_bad {y : Ds.Ty} (h : (arOut y).2 ≠ 0) : (arOut y).1 = (0, []) := by
  unfold arOut at h ⊢
  by_cases h0 : (prOut y).2 = 0
  · rw [if_pos h0] at h ⊢
    by_cases h1 : (prOut y).1.length = 255
    · rw [if_pos h1]
    · rw [if_neg h1] at h; exact absurd rfl h
  · rw [if_neg h0]
theorem prOut_ok {y : Ds.Ty} (h : (prOut y).2 = 0) : fdOut (prOut y).1 = (y, 0) := by
  unfold prOut at h ⊢
  split at h
  · rename_i h1; rw [if_pos h1]; exact h1
  · simp at h
theorem fdOut_ok {l : List UInt8} {y : Ds.Ty} (h : fdOut l = (y, 0)) : Ds.rd l = some (y.1, y.2, l.length) := by
  unfold fdOut at h
  split at h
  · simp at h
  · cases hr : Ds.rd l with
    | none => rw [hr] at h; simp at h
    | some x =>
      obtain ⟨k, m, n⟩ := x
      rw [hr] at h
      dsimp only at h
      split at h
      · rename_i hn
        simp only [Prod.mk.injEq] at h
        obtain ⟨h, -⟩ := h
        subst h; subst hn; rfl
      · simp at h
theorem arOut_ok {y : Ds.Ty} (h : (arOut y).2 = 0) : ∃ p : List UInt8, (arOut y).1 = (4, 91 :: p) ∧ 1 ≤ p.length ∧ p.length < 255 ∧ elOut (4, 91 :: p) = (y, 0) := by
  have hl := prOut_len y
  unfold arOut at h ⊢
  by_cases h0 : (prOut y).2 = 0
  · rw [if_pos h0] at h ⊢
    by_cases h1 : (prOut y).1.length = 255
    · rw [if_pos h1] at h; simp at h
    · rw [if_neg h1]
      have hf := prOut_ok h0
      obtain ⟨p, hp⟩ : ∃ p, p = (prOut y).1 := ⟨_, rfl⟩
      rw [← hp] at hf h1 hl ⊢
      have hr := fdOut_ok hf
      have hlr := Ds.rd_len hr
      have hd : draftOf (4, 91 :: p) = 91 :: p := rfl
      have hr2 : Ds.rd (91 :: p) = some (4, 91 :: p, p.length + 1) := by
        unfold Ds.rd
        rw [if_neg (by decide), if_neg (by decide), if_pos rfl, hr]
        simp
      have hf2 : fdOut (91 :: p) = ((4, 91 :: p), 0) := by
        unfold fdOut
        rw [if_neg (by rw [List.length_cons]; omega), hr2]
        simp
      have hpo : prOut (4, 91 :: p) = (91 :: p, 0) := by
        unfold prOut
        rw [hd, hf2, if_pos rfl]
      refine ⟨p, rfl, hlr.1, by omega, ?_⟩
      unfold elOut
      rw [hpo]
      dsimp only
      rw [if_pos rfl, if_pos (show arrB (91 :: p) = true from rfl)]
      exact hf
  · rw [if_neg h0] at h; exact absurd h h0
set_option maxRecDepth 100000 in
set_option maxHeartbeats 1000000 in
theorem lawElems (k : Int) (m : ByteArray) (w : World) (hk : (Lit.int .i64 k).wf = true) (hs : m.size ≤ 140737488351232) :
    Calls Tryd.prog 8 #[.agg #[.int .i64 k, .string m]] w fun e w' => e = .returned (.bool true) ∧ Below w.heap.size w w' := by
  have HA0 := fun W => array_any k m W hk hs
  unfold tyV at HA0
  by_cases he : (arOut (k, Ds.bl m)).2 = 0
  · obtain ⟨p, hp, hp1, hp2, hel⟩ := arOut_ok he
    rw [he, hp] at HA0
    dsimp only at HA0
    obtain ⟨d, hd⟩ : ∃ d : ByteArray, d = ⟨(91 :: p).toArray⟩ := ⟨_, rfl⟩
    have hbd : Ds.bl d = 91 :: p := by rw [hd]
    rw [← hd] at HA0
    have hds : d.size = p.length + 1 := by rw [← bl_len, hbd]; rfl
    have HE0 := fun W => elem_any 4 d W (by decide) (by omega)
    rw [hbd, hel] at HE0
    unfold tyV at HE0
    have hmm : (⟨(Ds.bl m).toArray⟩ : ByteArray) = m := ba_ext rfl
    dsimp only at HE0
    rw [hmm] at HE0
    have HA := hid HA0
    have HE := hid HE0
    have hc0 : (1 : Int) < d.size := by omega
    have hpos := size_pos hbd
    have hpi : (0 : Int) < d.size := by omega
    have hfst : d[0]'hpos = 91 := first_at hbd
    clear HA0 HE0 he hp hel hd hbd hk hs
    go_enter Tryd.func8, Tryd.ntmps8
    go_wp2_with (first
      | (go_at_call 28; refine (HA.out _).mono ?_; rintro e w1 ⟨rfl, hb1⟩; have HB1 := hid (belows (B := w.heap.size) (a := w) (by repeat' first | with_reducible exact Below.refl _ _ | with_reducible assumption | with_reducible refine belows_drewN ?_ _ | with_reducible refine Below.drew ?_ | with_reducible refine Below.setCell ?_ ?_ _ | with_reducible refine Below.alloc ?_ ?_ _ | omega | (simp; done) | (simp; omega)) hb1 (by simp)); have x0 := (hb1.cell (p := ⟨w.heap.size, 0, none⟩) (by simp)); have x1 := (hb1.cell (p := ⟨w.heap.size, 1, none⟩) (by simp)); have hz1 := hb1.size; simp only [World.size_alloc] at hz1; have hz2 : w.heap.size < w1.heap.size := (by omega); simp [go_sem] at x0 x1; clear hb1)
      | (go_at_call 10; refine (begun_any _).mono ?_; rintro e w2 ⟨rfl, hb2⟩; obtain ⟨hcc2, hff2⟩ := bcell hb2; have hz3 := hb2.size; simp only [World.size_alloc] at hz3; have hz4 : w.heap.size < w2.heap.size := (by omega); have hz5 : w1.heap.size < w2.heap.size := (by omega))
      | (go_at_call 30; refine (HE.out _).mono ?_; rintro e w3 ⟨rfl, hb3⟩; obtain ⟨hcc3, hff3⟩ := bcell hb3; have hz6 := hb3.size; have hz7 : w.heap.size < w3.heap.size := (by omega); have hz8 : w1.heap.size < w3.heap.size := (by omega)))
    go_ret
    have hA := HB1.out.alloc (by omega) (.cells #[.int .i64 4, .string d] 27)
    have hB := belows hA hb2 hA.size
    have hC := belows hB hb3 hB.size
    exact ⟨rfl, (by repeat' first | with_reducible exact Below.refl _ _ | with_reducible assumption | with_reducible refine belows_drewN ?_ _ | with_reducible refine Below.drew ?_ | with_reducible refine Below.setCell ?_ ?_ _ | with_reducible refine Below.alloc ?_ ?_ _ | omega | (simp; done) | (simp; omega))⟩
  · have hz := arOut_bad he
    obtain ⟨er, hee⟩ : ∃ er, er = (arOut (k, Ds.bl m)).2 := ⟨_, rfl⟩
    rw [hz, ← hee] at HA0
    rw [← hee] at he
    have HA := hid HA0
    have hne : (er != 0) = true := by simpa using he
    clear HA0 hz hee hk hs he
    go_enter Tryd.func8, Tryd.ntmps8
    go_wp2_with (first
      | (go_at_call 10; have hcheck := hb2; refine (begun_any _).mono ?_; rintro e w3 ⟨rfl, hb3⟩; obtain ⟨hcc3, hff3⟩ := bcell hb3; have hz6 := hb3.size; have hz8 : w1.heap.size < w3.heap.size := (by omega))
      | (go_at_call 28; refine (HA.out _).mono ?_; rintro e w1 ⟨rfl, hb1⟩; have HB1 := hid (belows (B := w.heap.size) (a := w) (by repeat' first | with_reducible exact Below.refl _ _ | with_reducible assumption | with_reducible refine belows_drewN ?_ _ | with_reducible refine Below.drew ?_ | with_reducible refine Below.setCell ?_ ?_ _ | with_reducible refine Below.alloc ?_ ?_ _ | omega | (simp; done) | (simp; omega)) hb1 (by simp)); have hz1 := hb1.size; simp only [World.size_alloc] at hz1; have hz2 : w.heap.size < w1.heap.size := (by omega); clear hb1)
      | (go_at_call 10; refine (begun_any _).mono ?_; rintro e w2 ⟨rfl, hb2⟩; obtain ⟨hcc2, hff2⟩ := bcell hb2; have hz3 := hb2.size; simp only [World.size_alloc] at hz3; have hz5 : w1.heap.size < w2.heap.size := (by omega)))
    go_ret
    have hA := HB1.out.alloc (by omega) (.cells #[.int .i64 0, .string ⟨#[]⟩] 27)
    have hB := belows hA hb2 hA.size
    have hC := belows hB hb3 hB.size
    exact ⟨rfl, hC⟩
end Go.Proofs.YtcbdkfjfpglnpaaDoor
