/- Contracts of checkAt and Check. -/
import Derived.Test.YtljbcclfafndmaaDoorCs
namespace Go.Proofs.YtljbcclfafndmaaDoor
open Go.RowKit

theorem c0_ne {c : Cp.C} (h : c ≠ Cp.C0) : (¬ c.t = 0) ∨ (c.t = 0 ∧ (c.s.toList.isEmpty) = false) ∨ (c.t = 0 ∧ c.s = ⟨#[]⟩ ∧ ¬ c.n = 0) ∨ (c.t = 0 ∧ c.s = ⟨#[]⟩ ∧ c.n = 0 ∧ ¬ c.a = 0) ∨ (c.t = 0 ∧ c.s = ⟨#[]⟩ ∧ c.n = 0 ∧ c.a = 0 ∧ ¬ c.b = 0) := by
  obtain ⟨t, s, n, a, b⟩ := c
  dsimp only
  by_cases e1 : t = 0
  · by_cases e2 : s = ⟨#[]⟩
    · by_cases e3 : n = 0
      · by_cases e4 : a = 0
        · by_cases e5 : b = 0
          · exact absurd (by rw [e1, e2, e3, e4, e5]; rfl) h
          · exact .inr (.inr (.inr (.inr ⟨e1, e2, e3, e4, e5⟩)))
        · exact .inr (.inr (.inr (.inl ⟨e1, e2, e3, e4⟩)))
      · exact .inr (.inr (.inl ⟨e1, e2, e3⟩))
    · refine .inr (.inl ⟨e1, ?_⟩)
      rw [ByteArray.toList_eq]
      cases hb : s.data.toList with
      | nil => exact absurd (ba_ext hb) e2
      | cons => rfl
  · exact .inl e1
/-- What is wrong with an entry at its place: whether none must stand there, whether it is the last. -/
def caOut (none last : Bool) (c : Cp.C) : Int := if none = true then (if c = Cp.C0 then 0 else 31) else if c.t = 5 ∧ last = true then 31 else ceOut c
def prevB (l : List Cp.C) (i : Nat) : Bool := match i with
  | 0 => true
  | j + 1 => match l[j]? with
    | some p => p.t == 5
    | none => false
set_option maxRecDepth 100000 in
set_option maxHeartbeats 4000000 in
theorem checkAt_none (l : List Cp.C) (i : Nat) (c : Cp.C) (v : Value) (w : World) (hv : Kit.IsS 5 w v l.length (l.flatMap cL)) (hc : l[i]? = some c) (hp : prevB l i = true) :
    Calls Tryd.prog 42 #[v, .int .i64 i] w fun e w' => e = .returned (.int .i64 (if c = Cp.C0 then 0 else 31)) ∧ Below w.heap.size w w' := by
  have hi : i < l.length := (List.getElem?_eq_some_iff.1 hc).1
  have hlen := hv.2.1
  obtain ⟨b, o, cap, rfl, hb, c0, c1, c2, c3, c4⟩ := c_at hv hc
  have hi1 : (i : Int) < (l.length : Int) := by omega
  cases i with
  | zero =>
    rw [Nat.zero_mul, Nat.add_zero] at c0 c1 c2 c3 c4
    clear hv hp
    by_cases he : c = Cp.C0
    · subst he
      rw [if_pos rfl]
      unfold Cp.C0 at c0 c1 c2 c3 c4
      dsimp only at c0 c1 c2 c3 c4
      clear hc
      (go_enter Tryd.func42, Tryd.ntmps42; go_wp2; go_ret; exact ⟨rfl, (by repeat' first | with_reducible exact Below.refl _ _ | with_reducible assumption | with_reducible refine belows_drewN ?_ _ | with_reducible refine Below.drew ?_ | with_reducible refine Below.setCell ?_ ?_ _ | with_reducible refine Below.alloc ?_ ?_ _ | omega | (simp; done) | (simp; omega))⟩)
    · rw [if_neg he]
      have hne := c0_ne he
      obtain ⟨t, s, n, a, bb⟩ := c
      dsimp only at c0 c1 c2 c3 c4 hne
      clear hc he
      rcases hne with h | ⟨rfl, h⟩ | ⟨rfl, rfl, h⟩ | ⟨rfl, rfl, rfl, h⟩ | ⟨rfl, rfl, rfl, rfl, h⟩
      all_goals (go_enter Tryd.func42, Tryd.ntmps42; go_wp2; go_ret; exact ⟨rfl, (by repeat' first | with_reducible exact Below.refl _ _ | with_reducible assumption | with_reducible refine belows_drewN ?_ _ | with_reducible refine Below.drew ?_ | with_reducible refine Below.setCell ?_ ?_ _ | with_reducible refine Below.alloc ?_ ?_ _ | omega | (simp; done) | (simp; omega))⟩)
  | succ j =>
    obtain ⟨p, hpj⟩ : ∃ p, l[j]? = some p := ⟨l[j]'(by omega), List.getElem?_eq_getElem _⟩
    obtain ⟨b', o', cap', hv', hb', d0, -, -, -, -⟩ := c_at hv hpj
    obtain ⟨e1, -, -⟩ := Value.slice.inj hv'
    obtain ⟨rfl, rfl⟩ : b = b' ∧ o = o' := by simpa using e1
    have hpt : (p.t == 5) = true := by unfold prevB at hp; dsimp only at hp; rw [hpj] at hp; exact hp
    have hj1 : (j : Int) < (l.length : Int) := by omega
    have hi0 : (((j + 1 : Nat) : Int) == 0) = false := by rw [beq_eq_false_iff_ne]; omega
    obtain ⟨pt, ps, pn, pa, pb⟩ := p
    dsimp only at d0 hpt
    obtain rfl : pt = 5 := by simpa using hpt
    clear hv hp hv' e1 hpj
    by_cases he : c = Cp.C0
    · subst he
      rw [if_pos rfl]
      unfold Cp.C0 at c0 c1 c2 c3 c4
      dsimp only at c0 c1 c2 c3 c4
      clear hc
      (go_enter Tryd.func42, Tryd.ntmps42; go_wp2; go_ret; exact ⟨rfl, (by repeat' first | with_reducible exact Below.refl _ _ | with_reducible assumption | with_reducible refine belows_drewN ?_ _ | with_reducible refine Below.drew ?_ | with_reducible refine Below.setCell ?_ ?_ _ | with_reducible refine Below.alloc ?_ ?_ _ | omega | (simp; done) | (simp; omega))⟩)
    · rw [if_neg he]
      have hne := c0_ne he
      obtain ⟨t, s, n, a, bb⟩ := c
      dsimp only at c0 c1 c2 c3 c4 hne
      clear hc he
      rcases hne with h | ⟨rfl, h⟩ | ⟨rfl, rfl, h⟩ | ⟨rfl, rfl, rfl, h⟩ | ⟨rfl, rfl, rfl, rfl, h⟩
      all_goals (go_enter Tryd.func42, Tryd.ntmps42; go_wp2; go_ret; exact ⟨rfl, (by repeat' first | with_reducible exact Below.refl _ _ | with_reducible assumption | with_reducible refine belows_drewN ?_ _ | with_reducible refine Below.drew ?_ | with_reducible refine Below.setCell ?_ ?_ _ | with_reducible refine Below.alloc ?_ ?_ _ | omega | (simp; done) | (simp; omega))⟩)
set_option maxRecDepth 100000 in
set_option maxHeartbeats 4000000 in
theorem checkAt_some (l : List Cp.C) (i : Nat) (c : Cp.C) (v : Value) (w : World) (ht : Tabs w) (hv : Kit.IsS 5 w v l.length (l.flatMap cL)) (hc : l[i]? = some c) (hp : prevB l i = false) (hs : c.s.size ≤ 140737488355328) :
    Calls Tryd.prog 42 #[v, .int .i64 i] w fun e w' => e = .returned (.int .i64 (if c.t = 5 ∧ i = l.length - 1 then 31 else ceOut c)) ∧ Below w.heap.size w w' := by
  have hi : i < l.length := (List.getElem?_eq_some_iff.1 hc).1
  have hlen := hv.2.1
  have HE0 := fun W (h : Below w.heap.size w W) => checkEntry_any c W (ht.below h ht.size) hs
  obtain ⟨b, o, cap, rfl, hb, c0, c1, c2, c3, c4⟩ := c_at hv hc
  have hi1 : (i : Int) < (l.length : Int) := by omega
  cases i with
  | zero => unfold prevB at hp; cases hp
  | succ j =>
    obtain ⟨p, hpj⟩ : ∃ p, l[j]? = some p := ⟨l[j]'(by omega), List.getElem?_eq_getElem _⟩
    obtain ⟨b', o', cap', hv', hb', d0, -, -, -, -⟩ := c_at hv hpj
    obtain ⟨e1, -, -⟩ := Value.slice.inj hv'
    obtain ⟨rfl, rfl⟩ : b = b' ∧ o = o' := by simpa using e1
    have hpt : (p.t == 5) = false := by unfold prevB at hp; dsimp only at hp; rw [hpj] at hp; exact hp
    have hj1 : (j : Int) < (l.length : Int) := by omega
    have hi0 : (((j + 1 : Nat) : Int) == 0) = false := by rw [beq_eq_false_iff_ne]; omega
    have hw1 : IntKind.i64.wrap ((l.length : Int) - 1) = (l.length : Int) - 1 := IntWalk.i64_in _ (by omega)
    unfold cC at HE0
    obtain ⟨pt, ps, pn, pa, pb⟩ := p
    dsimp only at d0 hpt
    clear hv hp hv' e1 hpj
    by_cases h5 : c.t = 5
    · have hd5 : (c.t == 5) = true := by simpa using h5
      by_cases hla : j + 1 = l.length - 1
      · rw [if_pos ⟨h5, hla⟩]
        have hd6 : (((j + 1 : Nat) : Int) == (l.length : Int) - 1) = true := by rw [beq_iff_eq]; omega
        have hd6' : ((j : Int) + 1 == (l.length : Int) - 1) = true := by rw [beq_iff_eq]; omega
        clear hc h5 hla HE0
        (go_enter Tryd.func42, Tryd.ntmps42; go_wp2; go_ret; exact ⟨rfl, (by repeat' first | with_reducible exact Below.refl _ _ | with_reducible assumption | with_reducible refine belows_drewN ?_ _ | with_reducible refine Below.drew ?_ | with_reducible refine Below.setCell ?_ ?_ _ | with_reducible refine Below.alloc ?_ ?_ _ | omega | (simp; done) | (simp; omega))⟩)
      · rw [if_neg (fun e => hla e.2)]
        have hd6 : (((j + 1 : Nat) : Int) == (l.length : Int) - 1) = false := by rw [beq_eq_false_iff_ne]; omega
        have hd6' : ((j : Int) + 1 == (l.length : Int) - 1) = false := by rw [beq_eq_false_iff_ne]; omega
        have HE := hid HE0
        clear hc h5 hla HE0
        (go_enter Tryd.func42, Tryd.ntmps42; go_wp2_with (go_at_call 47; refine (HE.out _ (by repeat' first | with_reducible exact Below.refl _ _ | with_reducible assumption | with_reducible refine belows_drewN ?_ _ | with_reducible refine Below.drew ?_ | with_reducible refine Below.setCell ?_ ?_ _ | with_reducible refine Below.alloc ?_ ?_ _ | omega | (simp; done) | (simp; omega))).mono ?_; rintro e w1 ⟨rfl, hb1⟩); go_ret; exact ⟨rfl, belows (B := w.heap.size) (a := w) (by repeat' first | with_reducible exact Below.refl _ _ | with_reducible assumption | with_reducible refine belows_drewN ?_ _ | with_reducible refine Below.drew ?_ | with_reducible refine Below.setCell ?_ ?_ _ | with_reducible refine Below.alloc ?_ ?_ _ | omega | (simp; done) | (simp; omega)) hb1 (by simp)⟩)
    · rw [if_neg (fun e => h5 e.1)]
      have hd5 : (c.t == 5) = false := by simpa using h5
      have HE := hid HE0
      clear hc h5 HE0
      (go_enter Tryd.func42, Tryd.ntmps42; go_wp2_with (go_at_call 47; refine (HE.out _ (by repeat' first | with_reducible exact Below.refl _ _ | with_reducible assumption | with_reducible refine belows_drewN ?_ _ | with_reducible refine Below.drew ?_ | with_reducible refine Below.setCell ?_ ?_ _ | with_reducible refine Below.alloc ?_ ?_ _ | omega | (simp; done) | (simp; omega))).mono ?_; rintro e w1 ⟨rfl, hb1⟩); go_ret; exact ⟨rfl, belows (B := w.heap.size) (a := w) (by repeat' first | with_reducible exact Below.refl _ _ | with_reducible assumption | with_reducible refine belows_drewN ?_ _ | with_reducible refine Below.drew ?_ | with_reducible refine Below.setCell ?_ ?_ _ | with_reducible refine Below.alloc ?_ ?_ _ | omega | (simp; done) | (simp; omega)) hb1 (by simp)⟩)
end Go.Proofs.YtljbcclfafndmaaDoor
