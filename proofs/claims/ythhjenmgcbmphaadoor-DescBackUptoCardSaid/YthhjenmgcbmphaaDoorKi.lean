/- Contract of kinds, and what is found in it. -/
import Derived.Test.YthhjenmgcbmphaaDoorBasic
import Derived.Maps.Own
import Derived.Maps.OwnOps
import Derived.Maps.OwnSet
namespace Go.Proofs.YthhjenmgcbmphaaDoor
open Go.RowKit

/-- What kinds answers, as read. -/
def kD : DataW Unit := ((DataW.map []).put (.int .u8 73) (.lit (.int .i64 1))).put (.int .u8 74) (.lit (.int .i64 2))
def KMap (w : World) (mb : Nat) : Prop := w.ownsMap Tryd.prog 5 (plainElem (H := Unit) Tryd.prog 3) mb 2 kD
theorem KMap.below {w w' : World} {mb n₀ : Nat} (h : KMap w mb) (hb : Below n₀ w w') (hm : mb < n₀) : KMap w' mb := by
  obtain ⟨es, clock, h1, h2, h3, h4⟩ := h
  exact ⟨es, clock, (hb.block mb hm).trans h1, h2, h3, h4⟩
def kindOf (c : UInt8) : Int := if c = 73 then 1 else if c = 74 then 2 else 0
def isK (c : UInt8) : Bool := c == 73 || c == 74
theorem A.zeroInt (w : World) : (zeroValue 3).run Tryd.prog w = .ok (.int .i64 0) w := by kernel_rfl
set_option maxRecDepth 100000 in
theorem kinds_any (w : World) : Calls Tryd.prog 33 #[] w fun e w' => e = .returned (.map (some w.heap.size)) ∧ KMap w' w.heap.size ∧ Below w.heap.size w w' ∧ w.heap.size < w'.heap.size := by
  have hmm := @run_makeMap Tryd.prog
  have h0 := World.ownsMap_made w Tryd.prog 5 (plainElem (H := Unit) Tryd.prog 3)
  obtain ⟨w1, hr1, ho1, hg1⟩ := h0.update (Maps.int_keyed Tryd.underlying5) Tryd.underlying58 (by decide) (Maps.keyOf_int_mk Tryd.underlying5 (a := 73) (by decide)) (plainElem_int Tryd.underlying3 (a := 1) (by decide))
  obtain ⟨w2, hr2, ho2, hg2⟩ := ho1.update (Maps.int_keyed Tryd.underlying5) Tryd.underlying58 (by decide) (Maps.keyOf_int_mk Tryd.underlying5 (a := 74) (by decide)) (plainElem_int Tryd.underlying3 (a := 2) (by decide))
  have HO := hid ho2
  have hb : Below w.heap.size w w2 := ((((Below.refl _ w).alloc (Nat.le_refl _) _).grown hg1 (by simp) (fun k e => by cases e; exact Nat.le_refl _)).grown hg2 (by have := hg1.size; simp at this; omega) (fun k e => by cases e; exact Nat.le_refl _))
  have hz := hg1.size
  have hz2 := hg2.size
  simp only [World.size_alloc] at hz
  clear h0 ho1 ho2 hg1 hg2
  go_enter Tryd.func33, Tryd.ntmps33
  go_wp2
  go_ret
  exact ⟨rfl, HO.out, hb, by omega⟩
theorem kD_eq : kD = .map [(.int .u8 73, .lit (.int .i64 1)), (.int .u8 74, .lit (.int .i64 2))] := rfl
theorem kmap_look {w : World} {mb : Nat} (h : KMap w mb) (c : UInt8) :
    (Instr.lookup 58 (.map (some mb)) (.int .u8 (c.toNat : Nat)) true).run Tryd.prog w = .ok (.tuple #[.int .i64 (kindOf c), .bool (isK c)]) w := by
  have hc := UInt8.toNat_lt c
  have hwf : (Lit.int .u8 ((c.toNat : Nat) : Int)).wf = true := by
    simp [Lit.wf, IntKind.min, IntKind.max, IntKind.signed, IntKind.bits]; omega
  obtain ⟨v, ps, hrun, hv⟩ := World.ownsMap.look_ok h (Maps.int_keyed Tryd.underlying5) Tryd.underlying58 (A.zeroInt w) (plainElem_int Tryd.underlying3 (a := 0) (by decide)) (Maps.keyOf_int_mk Tryd.underlying5 hwf)
  obtain ⟨a, rfl, ha, -⟩ := plainElem_int_inv Tryd.underlying3 hv
  rw [hrun]
  have e1 : (73 : UInt8).toNat = 73 := rfl
  have e2 : (74 : UInt8).toNat = 74 := rfl
  have hh : a = kindOf c ∧ Maps.has kD (.int .u8 ((c.toNat : Nat) : Int)) = isK c := by
    rw [kD_eq] at ha ⊢
    unfold kindOf isK
    by_cases h1 : c = 73
    · subst h1
      rw [e1] at ha ⊢
      simp [DataW.atKey, Lit.sameKey] at ha
      simp [Maps.has, Lit.sameKey, ha.1]
    · by_cases h2 : c = 74
      · subst h2
        rw [e2] at ha ⊢
        simp [DataW.atKey, Lit.sameKey] at ha
        simp [Maps.has, Lit.sameKey, ha.1]
      · have n1 : ¬ c.toNat = 73 := fun e => h1 (UInt8.toNat_inj.1 (by omega))
        have n2 : ¬ c.toNat = 74 := fun e => h2 (UInt8.toNat_inj.1 (by omega))
        have m1 : ¬ (73 : Int) = (c.toNat : Int) := by omega
        have m2 : ¬ (74 : Int) = (c.toNat : Int) := by omega
        simp [DataW.atKey, Lit.sameKey, m1, m2] at ha
        simp [Maps.has, Lit.sameKey, m1, m2, ha.1, h1, h2]
  rw [hh.1, hh.2]
end Go.Proofs.YthhjenmgcbmphaaDoor
