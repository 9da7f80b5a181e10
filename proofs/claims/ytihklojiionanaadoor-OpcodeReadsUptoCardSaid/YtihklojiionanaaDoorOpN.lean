/- Plain mathematics of layer 1: instructions out of bytes. -/
import Derived.Test.YtihklojiionanaaDoorOpM
namespace Go.Proofs.YtihklojiionanaaDoor.Op1
structure Ins where
  p : Int
  op : Int
  a : Int
  b : Int
instance : DecidableEq Ins := fun x y => decidable_of_iff (x.p = y.p ∧ x.op = y.op ∧ x.a = y.a ∧ x.b = y.b)
  ⟨fun h => by cases x; cases y; simp_all, fun h => by subst h; exact ⟨rfl, rfl, rfl, rfl⟩⟩
def s8 (c : Nat) : Int := if 128 ≤ c then (c : Int) - 256 else c
def s16 (c : Nat) : Int := if 32768 ≤ c then (c : Int) - 65536 else c
/-- What stands behind an opcode of a form. -/
def abOf (f : Nat) (p : Int) (c d : Nat) : Int × Int :=
  if f = 1 ∨ f = 4 ∨ f = 8 then ((c : Int), 0) else if f = 2 then (s8 c, 0) else if f = 3 then (s16 (256 * c + d), 0) else if f = 5 then (((256 * c + d : Nat) : Int), 0)
  else if f = 6 then (p + s16 (256 * c + d), 0) else if f = 7 then ((c : Int), s8 d) else (0, 0)
def at8 (bs : List UInt8) (i : Nat) : Nat := (bs.getD i 0).toNat
theorem at8_lt (bs : List UInt8) (i : Nat) : at8 bs i < 256 := UInt8.toNat_lt _
def insAt (bs : List UInt8) (p : Nat) : Ins :=
  let ab := abOf (formOf (at8 bs p)) p (at8 bs (p + 1)) (at8 bs (p + 2))
  ⟨p, at8 bs p, ab.1, ab.2⟩
def noIns : Ins := ⟨0, 0, 0, 0⟩
/-- The instruction at an address, the address behind it, the error. -/
def one (bs : List UInt8) (p : Int) : Ins × Int × Int :=
  if p < 0 ∨ (bs.length : Int) ≤ p then (noIns, 0, 11)
  else if isOp (at8 bs p.toNat) = false then (noIns, 0, 10)
  else if (bs.length : Int) - p < szOf (at8 bs p.toNat) then (noIns, 0, 11)
  else if at8 bs p.toNat = 188 ∧ at8 bs (p.toNat + 1) ≠ 10 ∧ at8 bs (p.toNat + 1) ≠ 11 then (noIns, 0, 13)
  else (insAt bs p.toNat, p + szOf (at8 bs p.toNat), 0)
end Go.Proofs.YtihklojiionanaaDoor.Op1
