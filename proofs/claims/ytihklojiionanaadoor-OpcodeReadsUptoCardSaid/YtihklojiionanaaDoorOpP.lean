/- Plain mathematics of layer 1: reading all. -/
import Derived.Test.YtihklojiionanaaDoorOpK
namespace Go.Proofs.YtihklojiionanaaDoor.Op1
open Go.Proofs.YtihklojiionanaaDoor

def errAt (bs : List UInt8) (p : Nat) : Int := (one bs p).2.2
def nxt (bs : List UInt8) (p : Nat) : Nat := p + szOf (at8 bs p)
/-- The instructions up to an address. -/
inductive Pre (bs : List UInt8) : List Ins → Nat → Prop
  | nil : Pre bs [] 0
  | snoc {l : List Ins} {p : Nat} : Pre bs l p → errAt bs p = 0 → Pre bs (l ++ [insAt bs p]) (nxt bs p)
theorem one_ok {bs : List UInt8} {p : Nat} (h : errAt bs p = 0) : one bs p = (insAt bs p, ((nxt bs p : Nat) : Int), 0) ∧ p < nxt bs p ∧ nxt bs p ≤ bs.length := by
  unfold errAt one at h
  unfold one nxt
  split at h
  · cases h
  · rename_i h0
    rw [if_neg h0]
    simp only [Int.toNat_natCast] at h ⊢
    split at h
    · cases h
    · rename_i h1
      rw [if_neg h1]
      split at h
      · cases h
      · rename_i h2
        rw [if_neg h2]
        split at h
        · cases h
        · rename_i h3
          rw [if_neg h3]
          have hs : 1 ≤ szOf (at8 bs p) := by
            unfold szOf
            cases h4 : isOp (at8 bs p) with
            | false => exact absurd h4 h1
            | true => simp
          refine ⟨?_, by omega, by omega⟩
          rw [Int.natCast_add]
theorem one_err {bs : List UInt8} {p : Nat} (h : errAt bs p ≠ 0) : one bs p = (noIns, 0, errAt bs p) := by
  unfold errAt at h ⊢
  unfold one at h ⊢
  split at h
  · rename_i h0; rw [if_pos h0]
  · rename_i h0
    rw [if_neg h0]
    simp only [Int.toNat_natCast] at h ⊢
    split at h
    · rename_i h1; rw [if_pos h1]
    · rename_i h1
      rw [if_neg h1]
      split at h
      · rename_i h2; rw [if_pos h2]
      · rename_i h2
        rw [if_neg h2]
        split at h
        · rename_i h3; rw [if_pos h3]
        · exact absurd rfl h
theorem errAt_end {bs : List UInt8} {p : Nat} (h : bs.length ≤ p) : errAt bs p = 11 := by
  unfold errAt one; rw [if_pos (by omega)]
theorem Pre.le {bs : List UInt8} {l : List Ins} {p : Nat} (h : Pre bs l p) : p ≤ bs.length ∧ l.length ≤ p ∧ ∀ x ∈ l, 0 ≤ x.p ∧ x.p < p := by
  induction h with
  | nil => exact ⟨by omega, by simp, fun x hx => by cases hx⟩
  | @snoc l p _ he ih =>
    obtain ⟨-, h1, h2⟩ := one_ok he
    refine ⟨h2, by simp; omega, fun x hx => ?_⟩
    rcases List.mem_append.1 hx with hx | hx
    · have := ih.2.2 x hx; omega
    · simp only [List.mem_singleton] at hx
      subst hx
      simp [insAt]; omega
/-- What Decode answers. -/
inductive DecOut (bs : List UInt8) : List Ins → Int → Prop
  | long : 4096 < bs.length → DecOut bs [] 3
  | none : bs.length = 0 → DecOut bs [] 11
  | bad {l : List Ins} {p : Nat} : bs.length ≤ 4096 → Pre bs l p → p < bs.length → errAt bs p ≠ 0 → DecOut bs [] (errAt bs p)
  | jump {l : List Ins} : bs.length ≤ 4096 → 0 < bs.length → Pre bs l bs.length → landB l bs.length = false → DecOut bs [] 12
  | ok {l : List Ins} : bs.length ≤ 4096 → 0 < bs.length → Pre bs l bs.length → landB l bs.length = true → DecOut bs l 0
/-- Two ways through the same bytes are one the beginning of the other. -/
theorem Pre.cmp {bs : List UInt8} {l l' : List Ins} {p p' : Nat} (h : Pre bs l p) (h' : Pre bs l' p') (hlt : l.length ≤ l'.length) : l'.take l.length = l ∧ (l.length < l'.length → errAt bs p = 0) ∧ (l.length = l'.length → l = l' ∧ p = p') := by
  induction h' generalizing l p with
  | nil =>
    cases h with
    | nil => exact ⟨rfl, fun h => by simp at h, fun _ => ⟨rfl, rfl⟩⟩
    | snoc h he => simp at hlt
  | @snoc l1 p1 h1 he1 ih =>
    by_cases hl : l.length ≤ l1.length
    · obtain ⟨a, b, c⟩ := ih h hl
      refine ⟨by rw [List.take_append_of_le_length hl]; exact a, fun _ => ?_, fun e => by simp at e; omega⟩
      by_cases hq : l.length = l1.length
      · rw [(c hq).2]; exact he1
      · exact b (by omega)
    · have hq : l.length = l1.length + 1 := by simp at hlt; omega
      cases h with
      | nil => simp at hq
      | @snoc l2 p2 h2 he2 =>
        obtain ⟨a, b, c⟩ := ih h2 (by simp at hq; omega)
        obtain ⟨rfl, rfl⟩ := c (by simpa using hq)
        exact ⟨List.take_length, fun h => by simp at h, fun _ => ⟨rfl, rfl⟩⟩
/-- Where two ways both end, they are one. -/
theorem Pre.same {bs : List UInt8} {l l' : List Ins} {p p' : Nat} (h : Pre bs l p) (h' : Pre bs l' p') (e : errAt bs p ≠ 0) (e' : errAt bs p' ≠ 0) : l = l' ∧ p = p' := by
  rcases Nat.lt_trichotomy l.length l'.length with hl | hl | hl
  · exact absurd ((h.cmp h' (by omega)).2.1 hl) e
  · exact (h.cmp h' (by omega)).2.2 hl
  · exact absurd ((h'.cmp h (by omega)).2.1 hl) e'
theorem DecOut.det {bs : List UInt8} {l l' : List Ins} {e e' : Int} (h : DecOut bs l e) (h' : DecOut bs l' e') : l = l' ∧ e = e' := by
  have hend : errAt bs bs.length ≠ 0 := by rw [errAt_end (Nat.le_refl _)]; decide
  cases h with
  | long h1 => cases h' <;> first | exact ⟨rfl, rfl⟩ | omega
  | none h1 => cases h' <;> first | exact ⟨rfl, rfl⟩ | omega
  | bad h1 h2 h3 h4 =>
    cases h' with
    | long => omega
    | none => omega
    | bad k1 k2 k3 k4 =>
      obtain ⟨-, rfl⟩ := h2.same k2 h4 k4
      exact ⟨rfl, rfl⟩
    | jump k1 k2 k3 k4 => have := (h2.same k3 h4 hend).2; omega
    | ok k1 k2 k3 k4 => have := (h2.same k3 h4 hend).2; omega
  | jump h1 h2 h3 h4 =>
    cases h' with
    | long => omega
    | none => omega
    | bad k1 k2 k3 k4 => have := (h3.same k2 hend k4).2; omega
    | jump k1 k2 k3 k4 => exact ⟨rfl, rfl⟩
    | ok k1 k2 k3 k4 =>
      obtain ⟨rfl, -⟩ := h3.same k3 hend hend
      rw [h4] at k4; cases k4
  | ok h1 h2 h3 h4 =>
    cases h' with
    | long => omega
    | none => omega
    | bad k1 k2 k3 k4 => have := (h3.same k2 hend k4).2; omega
    | jump k1 k2 k3 k4 =>
      obtain ⟨rfl, -⟩ := h3.same k3 hend hend
      rw [h4] at k4; cases k4
    | ok k1 k2 k3 k4 => exact ⟨(h3.same k3 hend hend).1, rfl⟩
end Go.Proofs.YtihklojiionanaaDoor.Op1
