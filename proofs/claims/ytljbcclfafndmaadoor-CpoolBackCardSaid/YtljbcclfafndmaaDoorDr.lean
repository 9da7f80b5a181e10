/- Pure facts of Add: what it adds can be added again, and leaves the pool good. -/
import Derived.Test.YtljbcclfafndmaaDoorDm
namespace Go.Proofs.YtljbcclfafndmaaDoor
open Go.RowKit

theorem ck_all {l : List Cp.C} : CkIs l 0 ↔ (l.length ≤ 4096 ∧ ∀ i, i < l.length → errAt l i = 0) := by
  constructor
  · rintro (⟨-, h⟩ | ⟨h1, ⟨-, h⟩ | ⟨-, -, -, h, -⟩⟩)
    · omega
    · exact ⟨h1, h⟩
    · exact absurd rfl h
  · rintro ⟨h1, h2⟩
    exact .inr ⟨h1, .inl ⟨rfl, h2⟩⟩
theorem prev_app {l m : List Cp.C} {j : Nat} (hj : j ≤ l.length) : prevB (l ++ m) j = prevB l j := by
  cases j with
  | zero => rfl
  | succ k =>
    unfold prevB
    dsimp only
    rw [List.getElem?_append_left (by omega)]
/-- What is good stays so where something good stands behind. -/
theorem err_app {l m : List Cp.C} {j : Nat} (hj : j < l.length) (h : errAt l j = 0) : errAt (l ++ m) j = 0 := by
  obtain ⟨c, hc⟩ : ∃ c, l[j]? = some c := ⟨l[j], List.getElem?_eq_getElem hj⟩
  have hc2 : (l ++ m)[j]? = some c := by rw [List.getElem?_append_left hj]; exact hc
  unfold errAt at h ⊢
  rw [hc] at h
  rw [hc2, prev_app (by omega)]
  dsimp only at h ⊢
  cases hp : prevB l j with
  | true => rw [hp] at h; exact h
  | false =>
    rw [hp] at h
    rw [if_neg (by simp)] at h ⊢
    by_cases h5 : c.t = 5 ∧ j = l.length - 1
    · rw [if_pos h5] at h; omega
    · rw [if_neg h5] at h
      by_cases h6 : c.t = 5 ∧ j = (l ++ m).length - 1
      · rw [List.length_append] at h6
        exact absurd ⟨h6.1, by omega⟩ h5
      · rw [if_neg h6]; exact h
/-- A good pool's last entry asks for nothing behind it. -/
theorem last_ok {l : List Cp.C} (h : CkIs l 0) (h0 : l.length ≠ 0) : prevB l l.length = false := by
  obtain ⟨k, hk⟩ : ∃ k, l.length = k + 1 := ⟨l.length - 1, by omega⟩
  have h1 := (ck_all.1 h).2 k (by omega)
  obtain ⟨c, hc⟩ : ∃ c, l[k]? = some c := ⟨l[k]'(by omega), List.getElem?_eq_getElem _⟩
  rw [hk]
  unfold prevB
  dsimp only
  rw [hc]
  dsimp only
  unfold errAt at h1
  rw [hc] at h1
  dsimp only at h1
  cases hp : prevB l k with
  | true =>
    rw [hp, if_pos rfl] at h1
    by_cases hc0 : c = Cp.C0
    · rw [hc0]; rfl
    · rw [if_neg hc0] at h1; omega
  | false =>
    rw [hp, if_neg (by simp)] at h1
    by_cases h5 : c.t = 5
    · rw [if_pos ⟨h5, by omega⟩] at h1; omega
    · simpa using h5
theorem hd_ok {l : List Cp.C} (h : CkIs l 0) : (hdP l).length ≠ 0 ∧ (∀ j, j < (hdP l).length → ∀ m, errAt (hdP l ++ m) j = 0) ∧ ∀ m, prevB (hdP l ++ m) (hdP l).length = false := by
  unfold hdP
  by_cases h0 : l.length = 0
  · rw [if_pos h0]
    obtain rfl := List.length_eq_zero_iff.1 h0
    refine ⟨by simp, fun j hj m => ?_, fun m => by simp [prevB, Cp.C0]⟩
    have : j = 0 := by simpa using hj
    subst this
    simp [errAt, prevB]
  · rw [if_neg h0]
    refine ⟨h0, fun j hj m => err_app hj ((ck_all.1 h).2 j hj), fun m => ?_⟩
    rw [prev_app (Nat.le_refl _)]
    exact last_ok h h0
/-- A good pool with a good entry more. -/
theorem app_ok {l : List Cp.C} {c : Cp.C} (h : CkIs l 0) (hc : ceOut c = 0) (hn : (appE (hdP l) c).length ≤ 4096) : CkIs (appE (hdP l) c) 0 := by
  refine ck_all.2 ⟨hn, ?_⟩
  obtain ⟨h1, h2, h3⟩ := hd_ok h
  unfold appE
  by_cases h5 : c.t = 5
  · rw [if_pos h5]
    intro j hj
    rw [List.append_assoc] at hj ⊢
    rw [List.length_append] at hj
    simp only [List.cons_append, List.nil_append, List.length_cons, List.length_nil] at hj
    rcases Nat.lt_trichotomy j (hdP l).length with hlt | rfl | hgt
    · exact h2 j hlt _
    · unfold errAt
      rw [show (hdP l ++ ([c] ++ [Cp.C0]))[(hdP l).length]? = some c by simp]
      dsimp only
      rw [h3, if_neg (by simp), if_neg (by rintro ⟨-, e⟩; simp at e), hc]
    · obtain rfl : j = (hdP l).length + 1 := by omega
      unfold errAt
      rw [show (hdP l ++ ([c] ++ [Cp.C0]))[(hdP l).length + 1]? = some Cp.C0 by rw [List.getElem?_append_right (by omega)]; simp]
      dsimp only
      rw [show prevB (hdP l ++ ([c] ++ [Cp.C0])) ((hdP l).length + 1) = true by unfold prevB; dsimp only; rw [show (hdP l ++ ([c] ++ [Cp.C0]))[(hdP l).length]? = some c by simp]; simpa using h5]
      rfl
  · rw [if_neg h5]
    intro j hj
    rw [List.length_append] at hj
    simp only [List.length_cons, List.length_nil] at hj
    rcases Nat.lt_or_ge j (hdP l).length with hlt | hge
    · exact h2 j hlt _
    · obtain rfl : j = (hdP l).length := by omega
      unfold errAt
      rw [show (hdP l ++ [c])[(hdP l).length]? = some c by simp]
      dsimp only
      rw [h3, if_neg (by simp), if_neg (fun e => h5 e.1), hc]
theorem app_pre (l : List Cp.C) (c : Cp.C) : ∃ t, appE l c = l ++ (c :: t) := by
  unfold appE
  by_cases h5 : c.t = 5
  · rw [if_pos h5]; exact ⟨[Cp.C0], by simp⟩
  · rw [if_neg h5]; exact ⟨[], rfl⟩
theorem hd_pre (l : List Cp.C) : ∃ t, hdP l = l ++ t := by
  unfold hdP
  by_cases h0 : l.length = 0
  · rw [if_pos h0]; exact ⟨_, rfl⟩
  · rw [if_neg h0]; exact ⟨[], by simp⟩
/-- What an Add that goes through leaves. -/
theorem ad_good {l : List Cp.C} {c : Cp.C} {m : List Cp.C} {i : Nat} (h : AdIs l c m i 0) : 1 ≤ i ∧ m[i]? = some c ∧ (∃ t, m = l ++ t) ∧ CkIs m 0 ∧ AdIs m c m i 0 ∧ ∀ x ∈ m, x ∈ l ∨ x = c ∨ x = Cp.C0 := by
  rcases h with ⟨-, h, -⟩ | ⟨h1, ⟨-, h, -⟩ | ⟨h2, ⟨h3, -, rfl⟩ | ⟨h3, ⟨-, h, -⟩ | ⟨h4, -, rfl, rfl⟩⟩⟩⟩
  · exact absurd rfl h
  · exact absurd rfl h
  · rcases h3 with ⟨h, -⟩ | ⟨-, k1, k2, k3, k4⟩
    · cases h
    · exact ⟨k1, k3, ⟨[], by simp⟩, h1, .inr ⟨h1, .inr ⟨h2, .inl ⟨.inr ⟨rfl, k1, k2, k3, k4⟩, rfl, rfl⟩⟩⟩, fun x hx => .inl hx⟩
  · omega
  · have hck := app_ok h1 h2 h4
    obtain ⟨t, ht⟩ := app_pre (hdP l) c
    obtain ⟨t2, ht2⟩ := hd_pre l
    have hi : (appE (hdP l) c)[(hdP l).length]? = some c := by rw [ht, List.getElem?_append_right (Nat.le_refl _)]; simp
    have h0 := (hd_ok h1).1
    have hct : c.t ≠ 0 := by
      have := (ce_size h2).1
      intro e
      rw [e] at this
      cases this
    refine ⟨by omega, hi, ⟨t2 ++ (c :: t), by rw [ht]; conv => lhs; rw [ht2]
                                              rw [List.append_assoc]⟩, hck, .inr ⟨hck, .inr ⟨h2, .inl ⟨.inr ⟨rfl, by omega, hct, hi, fun j hj hlt hc => ?_⟩, rfl, rfl⟩⟩⟩, fun x hx => ?_⟩
    · rcases h3 with ⟨-, -, k⟩ | ⟨k, -⟩
      · rw [ht, List.getElem?_append_left hlt] at hc
        refine k j hj hct ?_
        unfold hdP at hc hlt
        by_cases hl : l.length = 0
        · rw [if_pos hl, List.length_append, hl] at hlt
          simp only [List.length_cons, List.length_nil] at hlt
          omega
        · rw [if_neg hl] at hc
          exact hc
      · cases k
    · unfold appE at hx
      have hh : ∀ y ∈ hdP l, y ∈ l ∨ y = Cp.C0 := by
        intro y hy
        unfold hdP at hy
        by_cases hl : l.length = 0
        · rw [if_pos hl] at hy
          rcases List.mem_append.1 hy with hy | hy
          · exact .inl hy
          · exact .inr (by simpa using hy)
        · rw [if_neg hl] at hy
          exact .inl hy
      have h7 : x ∈ hdP l ∨ x = c ∨ x = Cp.C0 := by
        by_cases h5 : c.t = 5
        · rw [if_pos h5] at hx
          rcases List.mem_append.1 hx with hx | hx
          · rcases List.mem_append.1 hx with hx | hx
            · exact .inl hx
            · exact .inr (.inl (by simpa using hx))
          · exact .inr (.inr (by simpa using hx))
        · rw [if_neg h5] at hx
          rcases List.mem_append.1 hx with hx | hx
          · exact .inl hx
          · exact .inr (.inl (by simpa using hx))
      rcases h7 with h7 | h7 | h7
      · rcases hh x h7 with h8 | h8
        · exact .inl h8
        · exact .inr (.inr h8)
      · exact .inr (.inl h7)
      · exact .inr (.inr h7)
end Go.Proofs.YtljbcclfafndmaaDoor
