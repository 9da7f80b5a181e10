/- Plain mathematics: the descriptor that a text begins with. -/
import Derived.Test.YthhjenmgcbmphaaDoorDm
namespace Go.Proofs.YthhjenmgcbmphaaDoor.Ds

/-- Its kind, its name, how many bytes it has. -/
def rd : List UInt8 → Option (Int × List UInt8 × Nat)
  | [] => none
  | c :: l =>
    if c = 73 then some (1, [], 1)
    else if c = 74 then some (2, [], 1)
    else if c = 91 then match rd l with | none => none | some (_, _, n) => some (4, (c :: l).take (n + 1), n + 1)
    else if c = 76 then match cutC 59 l with | none => none | some (a, _) => if classB a = true then some (4, a, a.length + 2) else none
    else none
theorem rd_len : ∀ {l : List UInt8} {k : Int} {m : List UInt8} {n : Nat}, rd l = some (k, m, n) → 1 ≤ n ∧ n ≤ l.length
  | [], _, _, _, h => by cases h
  | c :: l, k, m, n, h => by
    unfold rd at h
    split at h
    · simp only [Option.some.injEq, Prod.mk.injEq] at h
      rw [List.length_cons]; omega
    · split at h
      · simp only [Option.some.injEq, Prod.mk.injEq] at h
        rw [List.length_cons]; omega
      · split at h
        · cases hr : rd l with
          | none => rw [hr] at h; cases h
          | some x =>
            obtain ⟨k', m', n'⟩ := x
            rw [hr] at h
            simp only [Option.some.injEq, Prod.mk.injEq] at h
            have := rd_len hr
            rw [List.length_cons]; omega
        · split at h
          · cases hr : cutC 59 l with
            | none => rw [hr] at h; cases h
            | some x =>
              obtain ⟨a, b⟩ := x
              rw [hr] at h
              dsimp only at h
              split at h
              · simp only [Option.some.injEq, Prod.mk.injEq] at h
                have := congrArg List.length (cut_eq hr)
                rw [List.length_append, List.length_cons] at this
                rw [List.length_cons]; omega
              · cases h
          · cases h
end Go.Proofs.YthhjenmgcbmphaaDoor.Ds
