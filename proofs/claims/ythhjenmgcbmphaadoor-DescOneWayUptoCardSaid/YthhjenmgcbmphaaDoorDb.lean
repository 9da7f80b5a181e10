/- Plain mathematics: what is read is written as it stood, and what is written is read as it was. -/
import Derived.Test.YthhjenmgcbmphaaDoorRr
import Derived.Test.YthhjenmgcbmphaaDoorWs
namespace Go.Proofs.YthhjenmgcbmphaaDoor
open Go.RowKit

theorem cut_ext {c : UInt8} {z : List UInt8} : ∀ {l a b : List UInt8}, Ds.cutC c l = some (a, b) → Ds.cutC c (l ++ z) = some (a, b ++ z)
  | [], _, _, h => by cases h
  | x :: l, a, b, h => by
    unfold Ds.cutC at h
    rw [List.cons_append]
    unfold Ds.cutC
    split at h
    · rename_i hx
      simp only [Option.some.injEq, Prod.mk.injEq] at h
      obtain ⟨rfl, rfl⟩ := h
      rw [if_pos hx]
    · rename_i hx
      cases h3 : Ds.cutC c l with
      | none => rw [h3] at h; cases h
      | some ab =>
        obtain ⟨a', b'⟩ := ab
        rw [h3] at h
        simp only [Option.some.injEq, Prod.mk.injEq] at h
        obtain ⟨rfl, rfl⟩ := h
        rw [if_neg hx, cut_ext h3]
theorem cut_short {c : UInt8} : ∀ {l a b : List UInt8}, Ds.cutC c l = some (a, b) → Ds.cutC c (a ++ [c]) = some (a, [])
  | [], _, _, h => by cases h
  | x :: l, a, b, h => by
    unfold Ds.cutC at h
    split at h
    · rename_i hx
      simp only [Option.some.injEq, Prod.mk.injEq] at h
      obtain ⟨rfl, rfl⟩ := h
      rw [List.nil_append]
      unfold Ds.cutC
      rw [if_pos rfl]
    · rename_i hx
      cases h3 : Ds.cutC c l with
      | none => rw [h3] at h; cases h
      | some ab =>
        obtain ⟨a', b'⟩ := ab
        rw [h3] at h
        simp only [Option.some.injEq, Prod.mk.injEq] at h
        obtain ⟨rfl, rfl⟩ := h
        rw [List.cons_append]
        unfold Ds.cutC
        rw [if_neg hx, cut_short h3]
theorem part_arr (t : List UInt8) : Ds.partB (91 :: t) = false := by
  unfold Ds.partB
  rw [List.all_cons, show Ds.goodC 91 = false by decide]
  simp
theorem class_arr {a : List UInt8} (h : Ds.classB a = true) : arrB a = false := by
  cases a with
  | nil => rfl
  | cons c t =>
    by_cases hc : c = 91
    · subst hc
      exfalso
      unfold Ds.classB Ds.splitC at h
      rw [if_neg (by decide)] at h
      cases hs : Ds.splitC 47 t with
      | nil => rw [hs] at h; simp only [List.all_cons, part_arr, Bool.false_and] at h; cases h
      | cons x y => rw [hs] at h; simp only [List.all_cons, part_arr, Bool.false_and] at h; cases h
    · unfold arrB; simpa using hc
theorem rd_draft {l : List UInt8} {k : Int} {m : List UInt8} {n : Nat} (h : Ds.rd l = some (k, m, n)) : l.take n = draftOf (k, m) := by
  cases l with
  | nil => cases h
  | cons c l =>
    unfold Ds.rd at h
    split at h
    · rename_i hc
      simp only [Option.some.injEq, Prod.mk.injEq] at h
      obtain ⟨rfl, rfl, rfl⟩ := h
      subst hc; rfl
    · split at h
      · rename_i hc
        simp only [Option.some.injEq, Prod.mk.injEq] at h
        obtain ⟨rfl, rfl, rfl⟩ := h
        subst hc; rfl
      · split at h
        · rename_i hc
          subst hc
          cases hr : Ds.rd l with
          | none => rw [hr] at h; cases h
          | some x =>
            obtain ⟨k', m', n'⟩ := x
            rw [hr] at h
            simp only [Option.some.injEq, Prod.mk.injEq] at h
            obtain ⟨rfl, rfl, rfl⟩ := h
            rfl
        · split at h
          · rename_i hc
            subst hc
            cases hr : Ds.cutC 59 l with
            | none => rw [hr] at h; cases h
            | some x =>
              obtain ⟨a, b⟩ := x
              rw [hr] at h
              dsimp only at h
              split at h
              · rename_i hcl
                simp only [Option.some.injEq, Prod.mk.injEq] at h
                obtain ⟨rfl, rfl, rfl⟩ := h
                unfold draftOf
                rw [if_pos rfl, class_arr hcl, Ds.cut_eq hr]
                simp [List.take_append, List.take_of_length_le (Nat.le_succ a.length)]
              · cases h
          · cases h
theorem rd_kind {l : List UInt8} {k : Int} {m : List UInt8} {n : Nat} (h : Ds.rd l = some (k, m, n)) : k ≠ 0 := by
  cases l with
  | nil => cases h
  | cons c l =>
    intro hk
    subst hk
    unfold Ds.rd at h
    split at h
    · simp at h
    · split at h
      · simp at h
      · split at h
        · cases hr : Ds.rd l with
          | none => rw [hr] at h; cases h
          | some x =>
            rw [hr] at h
            simp at h
        · split at h
          · cases hr : Ds.cutC 59 l with
            | none => rw [hr] at h; cases h
            | some x =>
              obtain ⟨a, b⟩ := x
              rw [hr] at h
              dsimp only at h
              split at h
              · simp at h
              · cases h
          · cases h
theorem rd_ext {z : List UInt8} : ∀ {l : List UInt8} {k : Int} {m : List UInt8} {n : Nat}, Ds.rd l = some (k, m, n) → Ds.rd (l ++ z) = some (k, m, n)
  | [], _, _, _, h => by cases h
  | c :: l, k, m, n, h => by
    unfold Ds.rd at h
    rw [List.cons_append]
    unfold Ds.rd
    split at h
    · rename_i hc; rw [if_pos hc]; exact h
    · rename_i hc; rw [if_neg hc]
      split at h
      · rename_i hc; rw [if_pos hc]; exact h
      · rename_i hc; rw [if_neg hc]
        split at h
        · rename_i hc; rw [if_pos hc]
          cases hr : Ds.rd l with
          | none => rw [hr] at h; cases h
          | some x =>
            obtain ⟨k', m', n'⟩ := x
            have hl := Ds.rd_len hr
            rw [hr] at h
            rw [rd_ext hr]
            simp only [Option.some.injEq, Prod.mk.injEq] at h ⊢
            obtain ⟨rfl, rfl, rfl⟩ := h
            refine ⟨rfl, ?_, rfl⟩
            rw [List.take_succ_cons, List.take_succ_cons, List.take_append_of_le_length hl.2]
        · rename_i hc; rw [if_neg hc]
          split at h
          · rename_i hc; rw [if_pos hc]
            cases hr : Ds.cutC 59 l with
            | none => rw [hr] at h; cases h
            | some x =>
              obtain ⟨a, b⟩ := x
              rw [hr] at h
              rw [cut_ext hr]
              exact h
          · cases h
theorem rd_take : ∀ {l : List UInt8} {k : Int} {m : List UInt8} {n : Nat}, Ds.rd l = some (k, m, n) → Ds.rd (l.take n) = some (k, m, n)
  | [], _, _, _, h => by cases h
  | c :: l, k, m, n, h => by
    unfold Ds.rd at h
    split at h
    · rename_i hc
      simp only [Option.some.injEq, Prod.mk.injEq] at h
      obtain ⟨rfl, rfl, rfl⟩ := h
      subst hc; rfl
    · split at h
      · rename_i hc
        simp only [Option.some.injEq, Prod.mk.injEq] at h
        obtain ⟨rfl, rfl, rfl⟩ := h
        subst hc; rfl
      · split at h
        · rename_i hc
          subst hc
          cases hr : Ds.rd l with
          | none => rw [hr] at h; cases h
          | some x =>
            obtain ⟨k', m', n'⟩ := x
            have ih := rd_take hr
            rw [hr] at h
            simp only [Option.some.injEq, Prod.mk.injEq] at h
            obtain ⟨rfl, rfl, rfl⟩ := h
            rw [List.take_succ_cons]
            unfold Ds.rd
            rw [if_neg (by decide), if_neg (by decide), if_pos rfl, ih]
            simp [List.take_take]
        · split at h
          · rename_i hc
            subst hc
            cases hr : Ds.cutC 59 l with
            | none => rw [hr] at h; cases h
            | some x =>
              obtain ⟨a, b⟩ := x
              rw [hr] at h
              dsimp only at h
              split at h
              · rename_i hcl
                simp only [Option.some.injEq, Prod.mk.injEq] at h
                obtain ⟨rfl, rfl, rfl⟩ := h
                have e : (76 :: l).take (a.length + 2) = 76 :: (a ++ [59]) := by
                  rw [Ds.cut_eq hr]
                  simp [List.take_append, List.take_of_length_le (Nat.le_succ a.length)]
                rw [e]
                unfold Ds.rd
                rw [if_neg (by decide), if_neg (by decide), if_neg (by decide), if_pos rfl, cut_short hr]
                dsimp only
                rw [if_pos hcl]
              · cases h
          · cases h
/-- A type that has a descriptor. -/
def IsTy (y : Ds.Ty) : Prop := fdOut (draftOf y) = (y, 0)
theorem fd_draft {s : List UInt8} {y : Ds.Ty} (h : fdOut s = (y, 0)) : s = draftOf y := by
  have h2 := rd_draft (fdOut_ok h)
  rwa [List.take_length] at h2
theorem fd_print {s : List UInt8} {y : Ds.Ty} (h : fdOut s = (y, 0)) : prOut y = (s, 0) := by
  have e := fd_draft h
  unfold prOut
  rw [← e, h, if_pos rfl]
theorem rd_isTy {l : List UInt8} {k : Int} {m : List UInt8} {n : Nat} (h : Ds.rd l = some (k, m, n)) (hn : n ≤ 255) : IsTy (k, m) := by
  have hl := Ds.rd_len h
  have e := rd_draft h
  have hlen : (l.take n).length = n := by rw [List.length_take]; omega
  unfold IsTy fdOut
  rw [← e, rd_take h, if_neg (by omega)]
  dsimp only
  rw [if_pos hlen.symm]
theorem isTy_rd {y : Ds.Ty} (h : IsTy y) (z : List UInt8) : Ds.rd (draftOf y ++ z) = some (y.1, y.2, (draftOf y).length) := rd_ext (fdOut_ok h)
theorem isTy_head {y : Ds.Ty} (h : IsTy y) : ∃ c t, draftOf y = c :: t ∧ c ≠ 41 ∧ c ≠ 86 := by
  have hr := isTy_rd h []
  rw [List.append_nil] at hr
  cases hd : draftOf y with
  | nil => rw [hd] at hr; cases hr
  | cons c t =>
    rw [hd] at hr
    exact ⟨c, t, rfl, fun e => by subst e; simp [Ds.rd] at hr, fun e => by subst e; simp [Ds.rd] at hr⟩
/-- What stands for what is returned. -/
def retT (r : Ds.Ty) : List UInt8 := if r = (0, []) then [86] else draftOf r
def OkT (r : Ds.Ty) (a : List Ds.Ty) : Prop := (∀ y ∈ a, IsTy y) ∧ (r = (0, []) ∨ IsTy r)
def txt (r : Ds.Ty) (a : List Ds.Ty) : List UInt8 := 40 :: (a.flatMap draftOf ++ 41 :: retT r)
theorem args_text {r : List UInt8} : ∀ (a : List Ds.Ty) (f : Nat), (∀ y ∈ a, IsTy y) → (a.flatMap draftOf ++ 41 :: r).length < f → Ds.argsF f (a.flatMap draftOf ++ 41 :: r) = some (a, r)
  | [], f, _, hf => by
    obtain ⟨f, rfl⟩ : ∃ f', f = f' + 1 := ⟨f - 1, by omega⟩
    rw [List.flatMap_nil, List.nil_append]
    unfold Ds.argsF
    rw [if_pos rfl]
  | y :: a, f, h, hf => by
    obtain ⟨f, rfl⟩ : ∃ f', f = f' + 1 := ⟨f - 1, by omega⟩
    have hy := h y (by simp)
    obtain ⟨c, t, hd, hc, -⟩ := isTy_head hy
    have hr := isTy_rd hy (a.flatMap draftOf ++ 41 :: r)
    have ih := args_text (r := r) a f (fun y hy => h y (by simp [hy])) (by
      rw [List.flatMap_cons, hd] at hf
      simp only [List.length_append, List.length_cons] at hf ⊢
      omega)
    have e : (y :: a).flatMap draftOf ++ 41 :: r = c :: (t ++ (a.flatMap draftOf ++ 41 :: r)) := by rw [List.flatMap_cons, hd]; simp
    have e2 : c :: (t ++ (a.flatMap draftOf ++ 41 :: r)) = draftOf y ++ (a.flatMap draftOf ++ 41 :: r) := by rw [hd]; rfl
    rw [e]
    unfold Ds.argsF
    rw [if_neg hc, e2, hr]
    dsimp only
    rw [List.drop_left, ih]
theorem args_back : ∀ (f : Nat) (l : List UInt8) (a : List Ds.Ty) (r : List UInt8), Ds.argsF f l = some (a, r) → l = a.flatMap draftOf ++ 41 :: r ∧ (l.length ≤ 255 → ∀ y ∈ a, IsTy y)
  | 0, _, _, _, h => by cases h
  | _ + 1, [], _, _, h => by cases h
  | f + 1, c :: l, a, r, h => by
    unfold Ds.argsF at h
    split at h
    · rename_i hc
      simp only [Option.some.injEq, Prod.mk.injEq] at h
      obtain ⟨rfl, rfl⟩ := h
      subst hc
      exact ⟨rfl, fun _ y hy => by cases hy⟩
    · cases hr : Ds.rd (c :: l) with
      | none => rw [hr] at h; cases h
      | some x =>
        obtain ⟨k, m, n⟩ := x
        rw [hr] at h
        dsimp only at h
        have hl := Ds.rd_len hr
        cases hg : Ds.argsF f ((c :: l).drop n) with
        | none => rw [hg] at h; cases h
        | some x =>
          obtain ⟨a', r'⟩ := x
          rw [hg] at h
          simp only [Option.some.injEq, Prod.mk.injEq] at h
          obtain ⟨rfl, rfl⟩ := h
          obtain ⟨h1, h2⟩ := args_back f _ _ _ hg
          refine ⟨?_, fun hs y hy => ?_⟩
          · rw [List.flatMap_cons, ← rd_draft hr, List.append_assoc, ← h1, List.take_append_drop]
          · rcases List.mem_cons.1 hy with rfl | hy
            · exact rd_isTy hr (by omega)
            · exact h2 (by rw [List.length_drop]; omega) y hy
theorem ret_text {r : Ds.Ty} (h : r = (0, []) ∨ IsTy r) : Ds.retF (retT r) = some (r, []) := by
  unfold retT
  by_cases h0 : r = (0, [])
  · rw [if_pos h0, h0]; rfl
  · rw [if_neg h0]
    have hy : IsTy r := h.resolve_left h0
    obtain ⟨c, t, hd, -, hc⟩ := isTy_head hy
    have hr := isTy_rd hy []
    rw [List.append_nil] at hr
    have hlen : (draftOf r).length = (c :: t).length := by rw [hd]
    rw [hlen] at hr
    rw [hd] at hr ⊢
    unfold Ds.retF
    dsimp only
    rw [if_neg hc, hr]
    dsimp only
    rw [List.drop_length]
theorem ret_back {l : List UInt8} {y : Ds.Ty} (h : Ds.retF l = some (y, [])) (hs : l.length ≤ 255) : l = retT y ∧ (y = (0, []) ∨ IsTy y) := by
  cases l with
  | nil => cases h
  | cons c l =>
    unfold Ds.retF at h
    dsimp only at h
    split at h
    · rename_i hc
      simp only [Option.some.injEq, Prod.mk.injEq] at h
      obtain ⟨rfl, rfl⟩ := h
      subst hc
      exact ⟨rfl, .inl rfl⟩
    · cases hr : Ds.rd (c :: l) with
      | none => rw [hr] at h; cases h
      | some x =>
        obtain ⟨k, m, n⟩ := x
        rw [hr] at h
        simp only [Option.some.injEq, Prod.mk.injEq] at h
        obtain ⟨rfl, h2⟩ := h
        have hl := Ds.rd_len hr
        have hn : (c :: l).length ≤ n := List.drop_eq_nil_iff.1 h2
        have e := rd_draft hr
        rw [List.take_of_length_le hn] at e
        refine ⟨?_, .inr (rd_isTy hr (by omega))⟩
        unfold retT
        rw [if_neg (by intro e; exact rd_kind hr (Prod.mk.inj e).1), e]
theorem md_text {r : Ds.Ty} {a : List Ds.Ty} (h : OkT r a) (hl : (txt r a).length ≤ 255) : mdOut (txt r a) = (a, r, 0) := by
  have hm : Ds.md (txt r a) = some (a, r, []) := by
    unfold txt Ds.md
    dsimp only
    rw [if_pos rfl]
    unfold Ds.mdA
    rw [args_text a _ h.1 (Nat.lt_succ_self _)]
    dsimp only
    unfold Ds.retM
    rw [ret_text h.2]
    rfl
  unfold mdOut
  rw [if_neg (by omega), hm]
theorem md_back {s : List UInt8} {r : Ds.Ty} {a : List Ds.Ty} (h : mdOut s = (a, r, 0)) : OkT r a ∧ s = txt r a ∧ s.length ≤ 255 := by
  unfold mdOut at h
  split at h
  · simp at h
  · rename_i hs
    have hs' : s.length ≤ 255 := by omega
    split at h
    · rename_i x xs y hm
      simp only [Prod.mk.injEq] at h
      obtain ⟨rfl, rfl, -⟩ := h
      cases s with
      | nil => cases hm
      | cons c l =>
        unfold Ds.md at hm
        dsimp only at hm
        split at hm
        · rename_i hc
          subst hc
          unfold Ds.mdA at hm
          cases hg : Ds.argsF (l.length + 1) l with
          | none => rw [hg] at hm; cases hm
          | some x =>
            obtain ⟨a', r'⟩ := x
            rw [hg] at hm
            dsimp only at hm
            unfold Ds.retM at hm
            cases hr : Ds.retF r' with
            | none => rw [hr] at hm; cases hm
            | some x =>
              obtain ⟨y', s'⟩ := x
              rw [hr] at hm
              simp only [Option.some.injEq, Prod.mk.injEq, List.nil_append] at hm
              obtain ⟨rfl, rfl, rfl⟩ := hm
              obtain ⟨h1, h2⟩ := args_back _ _ _ _ hg
              have hll : l.length ≤ 255 := by rw [List.length_cons] at hs'; omega
              have hrl : r'.length ≤ 255 := by rw [h1] at hll; simp only [List.length_append, List.length_cons] at hll; omega
              obtain ⟨h3, h4⟩ := ret_back hr hrl
              refine ⟨⟨h2 hll, h4⟩, ?_, hs'⟩
              unfold txt
              rw [← h3, ← h1]
        · cases hm
    · simp at h
/-- What PrintMethod answers. -/
noncomputable def pmOut (r : Ds.Ty) (a : List Ds.Ty) : List UInt8 × Int :=
  open Classical in if OkT r a then if 255 < (txt r a).length then ([], 3) else (txt r a, 0) else ([], 20)
theorem pm_ok {r : Ds.Ty} {a : List Ds.Ty} (h : (pmOut r a).2 = 0) : OkT r a ∧ (txt r a).length ≤ 255 ∧ (pmOut r a).1 = txt r a := by
  unfold pmOut at h ⊢
  split at h
  · rename_i ho
    split at h
    · simp at h
    · rename_i hl
      refine ⟨ho, by omega, ?_⟩
      rw [if_pos ho, if_neg hl]
  · simp at h
theorem pm_of {r : Ds.Ty} {a : List Ds.Ty} (h : OkT r a) (hl : (txt r a).length ≤ 255) : pmOut r a = (txt r a, 0) := by
  unfold pmOut
  rw [if_pos h, if_neg (by omega)]
theorem pm_md {s : List UInt8} {r : Ds.Ty} {a : List Ds.Ty} (h : mdOut s = (a, r, 0)) : pmOut r a = (s, 0) := by
  obtain ⟨h1, h2, h3⟩ := md_back h
  rw [h2] at h3 ⊢
  exact pm_of h1 h3
theorem md_pm {r : Ds.Ty} {a : List Ds.Ty} (h : (pmOut r a).2 = 0) : mdOut (pmOut r a).1 = (a, r, 0) := by
  obtain ⟨h1, h2, h3⟩ := pm_ok h
  rw [h3]
  exact md_text h1 h2
theorem pm_one {r : Ds.Ty} {a b : List Ds.Ty} (ha : (pmOut r a).2 = 0) (hb : (pmOut r b).2 = 0) : (pmOut r a).1 = (pmOut r b).1 ↔ a = b := by
  constructor
  · intro h
    have h1 := md_pm ha
    rw [h, md_pm hb] at h1
    exact (Prod.mk.inj h1).1.symm
  · rintro rfl; rfl
end Go.Proofs.YthhjenmgcbmphaaDoor
