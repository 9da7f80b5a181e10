/- Plain mathematics: the descriptor of a method that a text begins with. -/
import Derived.Test.YthhjenmgcbmphaaDoorRm
namespace Go.Proofs.YthhjenmgcbmphaaDoor.Ds

abbrev Ty := Int × List UInt8
def argsF : Nat → List UInt8 → Option (List Ty × List UInt8)
  | 0, _ => none
  | _ + 1, [] => none
  | f + 1, c :: l => if c = 41 then some ([], l) else match rd (c :: l) with
    | none => none
    | some (k, m, n) => match argsF f ((c :: l).drop n) with
      | none => none
      | some (a, r) => some ((k, m) :: a, r)
def retF : List UInt8 → Option (Ty × List UInt8)
  | [] => none
  | c :: l => if c = 86 then some ((0, []), l) else match rd (c :: l) with
    | none => none
    | some (k, m, n) => some ((k, m), (c :: l).drop n)
def retM (a : List Ty) (l : List UInt8) : Option (List Ty × Ty × List UInt8) := match retF l with | none => none | some (y, s) => some (a, y, s)
def mdA (xs : List Ty) (f : Nat) (l : List UInt8) : Option (List Ty × Ty × List UInt8) := match argsF f l with
  | none => none
  | some (a, r) => retM (xs ++ a) r
def md : List UInt8 → Option (List Ty × Ty × List UInt8)
  | [] => none
  | c :: l => if c = 40 then mdA [] (l.length + 1) l else none
theorem mdA_nil {xs : List Ty} {f : Nat} : mdA xs (f + 1) [] = none := rfl
theorem mdA_shut {xs : List Ty} {f : Nat} {l : List UInt8} : mdA xs (f + 1) (41 :: l) = retM xs l := by
  unfold mdA argsF
  rw [if_pos rfl]
  dsimp only
  rw [List.append_nil]
theorem mdA_bad {xs : List Ty} {f : Nat} {c : UInt8} {l : List UInt8} (hc : ¬ c = 41) (h : rd (c :: l) = none) : mdA xs (f + 1) (c :: l) = none := by
  unfold mdA argsF
  rw [if_neg hc, h]
theorem mdA_step {xs : List Ty} {f : Nat} {c : UInt8} {l : List UInt8} {k : Int} {m : List UInt8} {n : Nat} (hc : ¬ c = 41) (h : rd (c :: l) = some (k, m, n)) : mdA xs (f + 1) (c :: l) = mdA (xs ++ [(k, m)]) f ((c :: l).drop n) := by
  unfold mdA
  conv => lhs; unfold argsF
  rw [if_neg hc, h]
  dsimp only
  cases argsF f ((c :: l).drop n) with
  | none => rfl
  | some y => obtain ⟨a, r⟩ := y; dsimp only; rw [List.append_assoc]; rfl
end Go.Proofs.YthhjenmgcbmphaaDoor.Ds
