/- Plain mathematics: what is read may be handed in. -/
import Derived.Test.YthhjenmgcbmphaaDoorPm
import Derived.Test.YthhjenmgcbmphaaDoorRmt
namespace Go.Proofs.YthhjenmgcbmphaaDoor
open Go.RowKit

theorem rd_parts {l : List UInt8} {k : Int} {m : List UInt8} {n : Nat} (h : Ds.rd l = some (k, m, n)) : (k = 1 ∧ m = []) ∨ (k = 2 ∧ m = []) ∨ k = 4 := by
  cases l with
  | nil => cases h
  | cons c l =>
    unfold Ds.rd at h
    split at h
    · simp only [Option.some.injEq, Prod.mk.injEq] at h
      exact .inl ⟨h.1.symm, h.2.1.symm⟩
    · split at h
      · simp only [Option.some.injEq, Prod.mk.injEq] at h
        exact .inr (.inl ⟨h.1.symm, h.2.1.symm⟩)
      · split at h
        · cases hr : Ds.rd l with
          | none => rw [hr] at h; cases h
          | some x =>
            rw [hr] at h
            simp only [Option.some.injEq, Prod.mk.injEq] at h
            exact .inr (.inr h.1.symm)
        · split at h
          · cases hr : Ds.cutC 59 l with
            | none => rw [hr] at h; cases h
            | some x =>
              obtain ⟨a, b⟩ := x
              rw [hr] at h
              dsimp only at h
              split at h
              · simp only [Option.some.injEq, Prod.mk.injEq] at h
                exact .inr (.inr h.1.symm)
              · cases h
          · cases h
theorem isTy_good {y : Ds.Ty} (h : IsTy y) : (Lit.int .i64 y.1).wf = true ∧ y.2.length ≤ 255 := by
  have hl := isTy_len h
  obtain ⟨k, m⟩ := y
  rcases rd_parts (fdOut_ok h) with ⟨h1, h2⟩ | ⟨h1, h2⟩ | h1
  · dsimp only at h1 h2; subst h1 h2; exact ⟨(by decide : (Lit.int .i64 _).wf = true), by simp⟩
  · dsimp only at h1 h2; subst h1 h2; exact ⟨(by decide : (Lit.int .i64 _).wf = true), by simp⟩
  · dsimp only at h1; subst h1
    refine ⟨show (Lit.int .i64 4).wf = true by decide, ?_⟩
    unfold draftOf at hl
    rw [if_pos rfl] at hl
    dsimp only at hl ⊢
    split at hl
    · exact hl
    · simp only [List.length_cons, List.length_append, List.length_nil] at hl; omega
theorem fd_isTy {s : List UInt8} {y : Ds.Ty} (h : fdOut s = (y, 0)) : IsTy y := by
  unfold IsTy
  rw [← fd_draft h]
  exact h
theorem draft_pos {y : Ds.Ty} (h : IsTy y) : 1 ≤ (draftOf y).length := by
  obtain ⟨c, t, hd, -⟩ := isTy_head h
  rw [hd, List.length_cons]; omega
theorem text_ge : ∀ {l : List Ds.Ty}, (∀ y ∈ l, IsTy y) → l.length ≤ (l.flatMap draftOf).length
  | [], _ => by simp
  | y :: l, h => by
    have h1 := draft_pos (h y (by simp))
    have h2 := text_ge (l := l) fun z hz => h z (by simp [hz])
    rw [List.flatMap_cons, List.length_append, List.length_cons]
    omega
theorem md_good {s : List UInt8} {r : Ds.Ty} {a : List Ds.Ty} (h : mdOut s = (a, r, 0)) : (∀ y ∈ a, GoodT y) ∧ a.length ≤ 255 ∧ (Lit.int .i64 r.1).wf = true ∧ r.2.length ≤ 255 := by
  obtain ⟨⟨h1, h2⟩, h3, h4⟩ := md_back h
  refine ⟨fun y hy => ?_, ?_, ?_⟩
  · have := isTy_good (h1 y hy)
    exact ⟨this.1, by omega⟩
  · have := text_ge h1
    rw [h3] at h4
    unfold txt at h4
    simp only [List.length_cons, List.length_append] at h4
    omega
  · rcases h2 with rfl | h2
    · exact ⟨(by decide : (Lit.int .i64 _).wf = true), by simp⟩
    · exact isTy_good h2
end Go.Proofs.YthhjenmgcbmphaaDoor
