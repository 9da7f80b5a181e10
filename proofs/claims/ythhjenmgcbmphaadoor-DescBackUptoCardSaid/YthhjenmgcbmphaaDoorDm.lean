/- Plain mathematics of layer 2: names, and what a text begins with. -/
import Derived.Lib.Bytealg
import Derived.Lib.IndexLaws
import Derived.Lib.IndexBytes
import Derived.Lib.IndexAny
import Derived.Lib.Strings
namespace Go.Proofs.YthhjenmgcbmphaaDoor.Ds

abbrev bl (s : ByteArray) : List UInt8 := s.data.toList
def badC : List UInt8 := [46, 59, 91, 47, 60, 62]
def goodC (c : UInt8) : Bool := decide (33 ≤ c.toNat) && decide (c.toNat ≤ 126) && !badC.contains c
def partB (l : List UInt8) : Bool := !l.isEmpty && l.all goodC
/-- The text ahead of a byte, and the one behind it. -/
def cutC (c : UInt8) : List UInt8 → Option (List UInt8 × List UInt8)
  | [] => none
  | x :: l => if x = c then some ([], l) else match cutC c l with | none => none | some (a, b) => some (x :: a, b)
def splitC (c : UInt8) : List UInt8 → List (List UInt8)
  | [] => [[]]
  | x :: l => if x = c then [] :: splitC c l else match splitC c l with | [] => [[x]] | h :: t => (x :: h) :: t
def classB (l : List UInt8) : Bool := (splitC 47 l).all partB
theorem splitC_ne (c : UInt8) (l : List UInt8) : splitC c l ≠ [] := by
  cases l with
  | nil => simp [splitC]
  | cons x l =>
    unfold splitC
    split
    · simp
    · split <;> simp
theorem split_none {c : UInt8} : ∀ {l : List UInt8}, cutC c l = none → splitC c l = [l]
  | [], _ => rfl
  | x :: l, h => by
    unfold cutC at h
    split at h
    · cases h
    · rename_i hx
      have h2 : cutC c l = none := by
        cases h3 : cutC c l with
        | none => rfl
        | some ab => rw [h3] at h; cases h
      unfold splitC
      rw [if_neg hx, split_none h2]
theorem split_some {c : UInt8} : ∀ {l a b : List UInt8}, cutC c l = some (a, b) → splitC c l = a :: splitC c b
  | [], _, _, h => by cases h
  | x :: l, a, b, h => by
    unfold cutC at h
    split at h
    · rename_i hx
      simp only [Option.some.injEq, Prod.mk.injEq] at h
      obtain ⟨rfl, rfl⟩ := h
      conv => lhs; unfold splitC
      rw [if_pos hx]
    · rename_i hx
      cases h3 : cutC c l with
      | none => rw [h3] at h; cases h
      | some ab =>
        obtain ⟨a', b'⟩ := ab
        rw [h3] at h
        simp only [Option.some.injEq, Prod.mk.injEq] at h
        obtain ⟨rfl, rfl⟩ := h
        conv => lhs; unfold splitC
        rw [if_neg hx, split_some h3]
theorem cut_eq {c : UInt8} : ∀ {l a b : List UInt8}, cutC c l = some (a, b) → l = a ++ c :: b
  | [], _, _, h => by cases h
  | x :: l, a, b, h => by
    unfold cutC at h
    split at h
    · rename_i hx
      simp only [Option.some.injEq, Prod.mk.injEq] at h
      obtain ⟨rfl, rfl⟩ := h
      rw [hx]; rfl
    · cases h3 : cutC c l with
      | none => rw [h3] at h; cases h
      | some ab =>
        obtain ⟨a', b'⟩ := ab
        rw [h3] at h
        simp only [Option.some.injEq, Prod.mk.injEq] at h
        obtain ⟨rfl, rfl⟩ := h
        rw [cut_eq h3]; rfl
theorem idx_none {c : UInt8} : ∀ {l : List UInt8}, cutC c l = none → Lib.indexByte l c = -1
  | [], _ => rfl
  | x :: l, h => by
    unfold cutC at h
    split at h
    · cases h
    · rename_i hx
      have h2 : cutC c l = none := by
        cases h3 : cutC c l with
        | none => rfl
        | some ab => rw [h3] at h; cases h
      unfold Lib.indexByte
      rw [if_neg (by simpa using hx), idx_none h2]
      rfl
theorem idx_some {c : UInt8} : ∀ {l a b : List UInt8}, cutC c l = some (a, b) → Lib.indexByte l c = (a.length : Nat)
  | [], _, _, h => by cases h
  | x :: l, a, b, h => by
    unfold cutC at h
    split at h
    · rename_i hx
      simp only [Option.some.injEq, Prod.mk.injEq] at h
      obtain ⟨rfl, rfl⟩ := h
      unfold Lib.indexByte
      rw [if_pos (by simpa using hx)]
      rfl
    · rename_i hx
      cases h3 : cutC c l with
      | none => rw [h3] at h; cases h
      | some ab =>
        obtain ⟨a', b'⟩ := ab
        rw [h3] at h
        simp only [Option.some.injEq, Prod.mk.injEq] at h
        obtain ⟨rfl, rfl⟩ := h
        have ih := idx_some h3
        unfold Lib.indexByte
        rw [if_neg (by simpa using hx), ih, if_neg (by rw [beq_iff_eq]; omega)]
        simp
theorem idx_bad (c : UInt8) : (decide (0 ≤ Lib.indexByte badC c)) = badC.contains c := (Lib.contains_iff_indexByte badC c).symm
end Go.Proofs.YthhjenmgcbmphaaDoor.Ds
