/- How long a pool that is read can be. -/
import Derived.Test.YtljbcclfafndmaaDoorCk
namespace Go.Proofs.YtljbcclfafndmaaDoor
open Go.RowKit

theorem plGo_len : ∀ {f n : Nat} {l l' : List Cp.C} {r r' : List UInt8}, plGo f n l r = .ok (l', r') → l.length ≤ n + 1 → l'.length ≤ n + 1
  | 0, n, l, l', r, r', h, hl => by
    unfold plGo at h
    obtain ⟨rfl, -⟩ := Prod.mk.inj (Except.ok.inj h)
    exact hl
  | f + 1, n, l, l', r, r', h, hl => by
    unfold plGo at h
    by_cases h1 : l.length < n
    · rw [if_pos h1] at h
      cases hx : enP ((n : Int) - (l.length : Int)) r with
      | error e => rw [hx] at h; cases h
      | ok y =>
        obtain ⟨c, r1⟩ := y
        rw [hx] at h
        have h2 := (appE_len l c).2
        exact plGo_len h (by omega)
    · rw [if_neg h1] at h
      obtain ⟨rfl, -⟩ := Prod.mk.inj (Except.ok.inj h)
      exact hl
theorem plP_len {bs r : List UInt8} {l : List Cp.C} (h : plP bs = .ok (l, r)) : l.length ≤ 4097 := by
  unfold plP at h
  by_cases h1 : bs.length < 2
  · rw [if_pos h1] at h; cases h
  · rw [if_neg h1] at h
    by_cases h2 : 4096 < Cp.numI (bs.take 2)
    · rw [if_pos h2] at h; cases h
    · rw [if_neg h2] at h
      by_cases h3 : Cp.numI (bs.take 2) = 0
      · rw [if_pos h3] at h
        obtain ⟨rfl, -⟩ := Prod.mk.inj (Except.ok.inj h)
        simp
      · rw [if_neg h3] at h
        have h4 := plGo_len h (by simp)
        omega
theorem tkOut_len (bs : List UInt8) : (tkOut bs).1.length ≤ 4097 := by
  unfold tkOut
  cases h : plP bs with
  | error e => simp
  | ok y =>
    obtain ⟨l, r⟩ := y
    exact plP_len h
end Go.Proofs.YtljbcclfafndmaaDoor
