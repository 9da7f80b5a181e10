/- What Array and Elem answer; facts of fdOut and prOut. -/
import Derived.Test.YthhjenmgcbmphaaDoorPr
namespace Go.Proofs.YthhjenmgcbmphaaDoor
open Go.RowKit

/-- What Array, Elem answer. -/
def arOut (y : Ds.Ty) : Ds.Ty × Int := if (prOut y).2 = 0 then (if (prOut y).1.length = 255 then ((0, []), 3) else ((4, 91 :: (prOut y).1), 0)) else ((0, []), (prOut y).2)
def elOut (y : Ds.Ty) : Ds.Ty × Int := if (prOut y).2 = 0 then (if arrB (prOut y).1 = true then fdOut ((prOut y).1.drop 1) else ((0, []), 20)) else ((0, []), (prOut y).2)
theorem fdOut_len {l : List UInt8} {y : Ds.Ty} (h : fdOut l = (y, 0)) : l.length ≤ 255 := by
  unfold fdOut at h
  split at h
  · simp at h
  · omega
theorem prOut_len (y : Ds.Ty) : (prOut y).1.length ≤ 255 := by
  unfold prOut
  split
  · rename_i h; exact fdOut_len h
  · simp
theorem arOut_bad {y : Ds.Ty} (h : (arOut y).2 ≠ 0) : (arOut y).1 = (0, []) := by
  unfold arOut at h ⊢
  by_cases h0 : (prOut y).2 = 0
  · rw [if_pos h0] at h ⊢
    by_cases h1 : (prOut y).1.length = 255
    · rw [if_pos h1]
    · rw [if_neg h1] at h; exact absurd rfl h
  · rw [if_neg h0]
theorem prOut_ok {y : Ds.Ty} (h : (prOut y).2 = 0) : fdOut (prOut y).1 = (y, 0) := by
  unfold prOut at h ⊢
  split at h
  · rename_i h1; rw [if_pos h1]; exact h1
  · simp at h
theorem fdOut_ok {l : List UInt8} {y : Ds.Ty} (h : fdOut l = (y, 0)) : Ds.rd l = some (y.1, y.2, l.length) := by
  unfold fdOut at h
  split at h
  · simp at h
  · cases hr : Ds.rd l with
    | none => rw [hr] at h; simp at h
    | some x =>
      obtain ⟨k, m, n⟩ := x
      rw [hr] at h
      dsimp only at h
      split at h
      · rename_i hn
        simp only [Prod.mk.injEq] at h
        obtain ⟨h, -⟩ := h
        subst h; subst hn; rfl
      · simp at h
theorem arOut_ok {y : Ds.Ty} (h : (arOut y).2 = 0) : ∃ p : List UInt8, (arOut y).1 = (4, 91 :: p) ∧ 1 ≤ p.length ∧ p.length < 255 ∧ elOut (4, 91 :: p) = (y, 0) := by
  have hl := prOut_len y
  unfold arOut at h ⊢
  by_cases h0 : (prOut y).2 = 0
  · rw [if_pos h0] at h ⊢
    by_cases h1 : (prOut y).1.length = 255
    · rw [if_pos h1] at h; simp at h
    · rw [if_neg h1]
      have hf := prOut_ok h0
      obtain ⟨p, hp⟩ : ∃ p, p = (prOut y).1 := ⟨_, rfl⟩
      rw [← hp] at hf h1 hl ⊢
      have hr := fdOut_ok hf
      have hlr := Ds.rd_len hr
      have hd : draftOf (4, 91 :: p) = 91 :: p := rfl
      have hr2 : Ds.rd (91 :: p) = some (4, 91 :: p, p.length + 1) := by
        unfold Ds.rd
        rw [if_neg (by decide), if_neg (by decide), if_pos rfl, hr]
        simp
      have hf2 : fdOut (91 :: p) = ((4, 91 :: p), 0) := by
        unfold fdOut
        rw [if_neg (by rw [List.length_cons]; omega), hr2]
        simp
      have hpo : prOut (4, 91 :: p) = (91 :: p, 0) := by
        unfold prOut
        rw [hd, hf2, if_pos rfl]
      refine ⟨p, rfl, hlr.1, by omega, ?_⟩
      unfold elOut
      rw [hpo]
      dsimp only
      rw [if_pos rfl, if_pos (show arrB (91 :: p) = true from rfl)]
      exact hf
  · rw [if_neg h0] at h; exact absurd h h0
end Go.Proofs.YthhjenmgcbmphaaDoor
