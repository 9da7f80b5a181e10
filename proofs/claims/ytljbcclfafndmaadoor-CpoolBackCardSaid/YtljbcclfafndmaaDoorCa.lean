/- Plain mathematics of layer 3: numbers of bytes, entries, pools. -/
import Derived.WalkKit
import Derived.IntWalk
import Derived.Laws.BitsAllLaws
namespace Go.Proofs.YtljbcclfafndmaaDoor.Cp
open Go Go.RowKit

theorem rev_ind {α : Type} {P : List α → Prop} (h0 : P []) (h1 : ∀ l a, P l → P (l ++ [a])) (l : List α) : P l := by
  have h : ∀ m : List α, P m.reverse := by
    intro m
    induction m with
    | nil => exact h0
    | cons a m ih => rw [List.reverse_cons]; exact h1 _ _ ih
  have := h l.reverse
  rwa [List.reverse_reverse] at this
abbrev bl (s : ByteArray) : List UInt8 := s.data.toList
abbrev W64 (z : Int) : Int := wrap64 z
/-- A number's bytes, the highest first; without and with the wrap of 64 bits. -/
def numU (l : List UInt8) : Int := l.foldl (fun z c => z * 256 + (c.toNat : Int)) 0
def numI (l : List UInt8) : Int := l.foldl (fun z c => W64 (z * 256 + (c.toNat : Int))) 0
theorem numU_snoc (l : List UInt8) (c : UInt8) : numU (l ++ [c]) = numU l * 256 + (c.toNat : Int) := by unfold numU; rw [List.foldl_append]; rfl
theorem numI_snoc (l : List UInt8) (c : UInt8) : numI (l ++ [c]) = W64 (numI l * 256 + (c.toNat : Int)) := by unfold numI; rw [List.foldl_append]; rfl
theorem w64 (z : Int) : W64 z = (z + 9223372036854775808) % 18446744073709551616 - 9223372036854775808 := by
  unfold W64 wrap64
  rfl
theorem numI_U (l : List UInt8) : numI l = W64 (numU l) := by
  refine rev_ind (P := fun l => numI l = W64 (numU l)) (by decide +kernel) (fun l c ih => ?_) l
  rw [numI_snoc, numU_snoc, ih]; simp only [w64]; omega
theorem u8_lt (c : UInt8) : c.toNat < 256 := c.toNat_lt
theorem numU_range (l : List UInt8) : 0 ≤ numU l ∧ numU l < 256 ^ l.length := by
  refine rev_ind (P := fun l => 0 ≤ numU l ∧ numU l < 256 ^ l.length) (by simp [numU]) (fun l c ih => ?_) l
  rw [numU_snoc, List.length_append, List.length_singleton, Int.pow_succ]
  have := u8_lt c
  omega
theorem or_step (z : Int) (x : Nat) (hx : x < 256) : bits .or .i64 (W64 (z * 256)) (x : Int) = W64 (z * 256 + x) := by
  have hm : (z * 256) % 18446744073709551616 = (z % 72057594037927936) * 256 := by omega
  obtain ⟨m, hm2⟩ := Int.eq_ofNat_of_zero_le (show 0 ≤ z % 72057594037927936 by omega)
  have hml : m < 72057594037927936 := by omega
  have e1 : (BitVec.ofInt 64 (W64 (z * 256))).toNat = 256 * m := by
    rw [BitVec.toNat_ofInt]
    have : (W64 (z * 256)) % ((2 ^ 64 : Nat) : Int) = ((256 * m : Nat) : Int) := by rw [w64]; omega
    rw [this]; omega
  have e2 : (BitVec.ofInt 64 (x : Int)).toNat = x := by
    rw [BitVec.toNat_ofInt]
    have : (x : Int) % ((2 ^ 64 : Nat) : Int) = (x : Int) := by omega
    rw [this]; omega
  have e3 : 256 * m ||| x = 256 * m + x := by
    have := Nat.shiftLeft_add_eq_or_of_lt (i := 8) (b := x) (by omega) m
    rw [Nat.shiftLeft_eq] at this
    simp only [Nat.reducePow] at this
    rw [Nat.mul_comm 256 m, ← this]
  show IntKind.i64.wrap ((BitVec.ofInt 64 (W64 (z * 256)) ||| BitVec.ofInt 64 (x : Int)).toNat : Int) = _
  rw [BitVec.toNat_or, e1, e2, e3]
  rw [IntWalk.i64_left]
  show W64 _ = _
  rw [w64, w64]
  omega
/-- An entry. -/
structure C where
  t : Int
  s : ByteArray
  n : Int
  a : Int
  b : Int
deriving DecidableEq
def C0 : C := ⟨0, ⟨#[]⟩, 0, 0, 0⟩
/-- How many bytes its parts have: the text's length, the number, a, b. -/
def wd (t : Int) : Nat × Nat × Nat × Nat :=
  if t = 1 then (2, 0, 0, 0) else if t = 3 then (0, 4, 0, 0) else if t = 5 then (0, 8, 0, 0) else if t = 7 then (0, 0, 2, 0)
  else if t = 9 ∨ t = 10 ∨ t = 12 then (0, 0, 2, 2) else (0, 0, 0, 0)
def knownB (t : Int) : Bool := decide (t = 1 ∨ t = 3 ∨ t = 5 ∨ t = 7 ∨ t = 9 ∨ t = 10 ∨ t = 12)
def plainB (l : List UInt8) : Bool := l.all fun c => decide (1 ≤ c.toNat) && decide (c.toNat ≤ 127)
/-- The number that the lowest bytes say, with its sign. -/
def sgn (z : Int) (k : Nat) : Int := W64 (z * 2 ^ (64 - 8 * k)) / 2 ^ (64 - 8 * k)
end Go.Proofs.YtljbcclfafndmaaDoor.Cp
