/- Plain mathematics: what may come behind what, in code that is read. -/
import Derived.Test.YtknacnbicmafjaaDoorOpU
namespace Go.Proofs.YtknacnbicmafjaaDoor
open Go.RowKit

theorem pre_ops {bs : List UInt8} {l : List Op1.Ins} {p : Nat} (h : Op1.Pre bs l p) : ∀ x ∈ l, Op1.isOp x.op = true := by
  induction h with
  | nil => intro x hx; cases hx
  | @snoc l p h1 he ih =>
    intro x hx
    rcases List.mem_append.1 hx with hx | hx
    · exact ih x hx
    · simp only [List.mem_singleton] at hx
      subst hx
      unfold Op1.errAt Op1.one at he
      split at he
      · cases he
      · split at he
        · cases he
        · rename_i h2
          simpa [Op1.insAt] using h2
theorem pre_rise {bs : List UInt8} {l : List Op1.Ins} {p : Nat} (h : Op1.Pre bs l p) : ∀ (i j : Nat) (x y : Op1.Ins), i < j → l[i]? = some x → l[j]? = some y → x.p < y.p := by
  induction h with
  | nil => intro i j x y _ hx; simp at hx
  | @snoc l p h1 he ih =>
    intro i j x y hij hx hy
    have hj : j < l.length + 1 := by rw [List.getElem?_eq_some_iff] at hy; simpa using hy.1
    by_cases hjl : j < l.length
    · rw [List.getElem?_append_left (by omega)] at hx
      rw [List.getElem?_append_left hjl] at hy
      exact ih i j x y hij hx hy
    · obtain rfl : j = l.length := by omega
      rw [List.getElem?_append_left (by omega)] at hx
      rw [List.getElem?_append_right (by omega)] at hy
      simp only [Nat.sub_self, List.getElem?_cons_zero, Option.some.injEq] at hy
      subst hy
      have := (h1.le.2.2 x (List.mem_of_getElem? hx)).2
      simpa [Op1.insAt] using this
/-- How many of two places are met. -/
theorem two_count (b1 b2 : Bool) (c d : Nat) : ∀ n, ((List.range n).filter fun k => (b1 && k == c) || (b2 && k == d)).length =
    (if b1 = true ∧ c < n then 1 else 0) + (if b2 = true ∧ d < n ∧ ¬ (b1 = true ∧ c = d) then 1 else 0)
  | 0 => by simp
  | n + 1 => by
    rw [List.range_succ, List.filter_append, List.length_append, two_count b1 b2 c d n]
    cases b1 <;> cases b2 <;> simp [List.filter_cons] <;> (try split) <;> (try split) <;> (try split) <;> (try split) <;> (try split) <;> simp_all <;> omega
/-- What Next tells rises. -/
theorem next_rise (l : List Op1.Ins) (i : Int) : ∀ k a b, (nextL l i)[k]? = some a → (nextL l i)[k + 1]? = some b → a ≤ b := by
  have hp : (nextL l i).Pairwise (· < ·) := by
    unfold nextL
    split
    · split
      · exact List.Pairwise.filter _ List.pairwise_lt_range
      · exact .nil
    · exact .nil
  intro k a b ha hb
  rw [List.getElem?_eq_some_iff] at ha hb
  obtain ⟨h1, rfl⟩ := ha
  obtain ⟨h2, rfl⟩ := hb
  exact Nat.le_of_lt (List.pairwise_iff_getElem.1 hp k (k + 1) h1 h2 (by omega))
/-- How many Next tells of an instruction of code that is read. -/
theorem next_count {bs : List UInt8} {l : List Op1.Ins} (h : Op1.Pre bs l bs.length) (hland : landB l bs.length = true) {i : Nat} {x : Op1.Ins} (hx : l[i]? = some x) :
    (nextL l i).length = (if Op1.endsB x.op = false ∧ i + 1 < l.length then 1 else 0) +
      (if jB x.op = true ∧ ¬ (Op1.endsB x.op = false ∧ ∃ y, l[i + 1]? = some y ∧ y.p = x.a) then 1 else 0) := by
  have hn : nextL l i = (List.range l.length).filter (nxB l x i) := by
    unfold nextL
    rw [if_pos (by omega), Int.toNat_natCast, hx]
  obtain ⟨d, hd⟩ : ∃ d, (jB x.op = true → d < l.length) ∧ ∀ k, k < l.length → (jB x.op = true → ((∃ y, l[k]? = some y ∧ y.p = x.a) ↔ k = d)) := by
    by_cases hj : jB x.op = true
    · have hg := List.all_eq_true.1 hland x (List.mem_of_getElem? hx)
      unfold goodB hitB at hg
      rw [hj, List.take_of_length_le (Nat.le_refl _)] at hg
      simp only [Bool.not_true, Bool.false_or, Bool.and_eq_true, List.any_eq_true, beq_iff_eq] at hg
      obtain ⟨-, y, hy, hp⟩ := hg
      obtain ⟨d, hd, rfl⟩ := List.mem_iff_getElem.1 hy
      refine ⟨d, fun _ => hd, fun k hk _ => ⟨fun ⟨z, hz, hzp⟩ => ?_, fun e => ?_⟩⟩
      · rcases Nat.lt_trichotomy k d with h1 | h1 | h1
        · have := pre_rise h k d _ _ h1 hz (List.getElem?_eq_getElem hd); omega
        · exact h1
        · have := pre_rise h d k _ _ h1 (List.getElem?_eq_getElem hd) hz; omega
      · subst e; exact ⟨_, List.getElem?_eq_getElem hd, hp⟩
    · exact ⟨0, fun h => absurd h hj, fun k _ h => absurd h hj⟩
  have hf : (List.range l.length).filter (nxB l x i) = (List.range l.length).filter fun k => ((!Op1.endsB x.op) && k == i + 1) || (jB x.op && k == d) := by
    apply List.filter_congr
    intro k hk
    have hk' : k < l.length := by simpa using hk
    unfold nxB
    obtain ⟨y, hy⟩ : ∃ y, l[k]? = some y := ⟨l[k], List.getElem?_eq_getElem hk'⟩
    rw [hy]
    have h2 := hd.2 k hk'
    rw [hy] at h2
    cases hj : jB x.op with
    | false => simp [Bool.and_comm]
    | true =>
      have h3 := h2 hj
      have : (y.p == x.a) = (k == d) := by
        rw [Bool.eq_iff_iff, beq_iff_eq, beq_iff_eq]
        constructor
        · intro e; exact h3.1 ⟨y, rfl, e⟩
        · intro e
          obtain ⟨z, hz, hzp⟩ := h3.2 e
          cases hz; exact hzp
      simp [this, Bool.and_comm]
  rw [hn, hf, two_count]
  have e1 : (if (!Op1.endsB x.op) = true ∧ i + 1 < l.length then 1 else 0) = (if Op1.endsB x.op = false ∧ i + 1 < l.length then 1 else 0) := by cases Op1.endsB x.op <;> simp
  rw [e1]
  congr 1
  by_cases hj : jB x.op = true
  · have hdl := hd.1 hj
    have : ((!Op1.endsB x.op) = true ∧ i + 1 = d) ↔ (Op1.endsB x.op = false ∧ ∃ y, l[i + 1]? = some y ∧ y.p = x.a) := by
      constructor
      · rintro ⟨a, b⟩
        exact ⟨by simpa using a, (hd.2 (i + 1) (by omega) hj).2 b⟩
      · rintro ⟨a, b⟩
        have hlt : i + 1 < l.length := by
          obtain ⟨y, hy, -⟩ := b
          rw [List.getElem?_eq_some_iff] at hy; exact hy.1
        exact ⟨by simpa using a, (hd.2 (i + 1) hlt hj).1 b⟩
    by_cases hc : (Op1.endsB x.op = false ∧ ∃ y, l[i + 1]? = some y ∧ y.p = x.a)
    · rw [if_neg (fun h => h.2.2 (this.2 hc)), if_neg (fun h => h.2 hc)]
    · rw [if_pos ⟨hj, hdl, fun h => hc (this.1 h)⟩, if_pos ⟨hj, hc⟩]
  · rw [if_neg (fun h => hj h.1), if_neg (fun h => hj h.1)]
end Go.Proofs.YtknacnbicmafjaaDoor
