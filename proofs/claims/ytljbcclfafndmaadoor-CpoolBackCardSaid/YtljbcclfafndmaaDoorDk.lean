/- Pure facts of what All tells, of Find; contracts of Find, both sides. -/
import Derived.Test.YtljbcclfafndmaaDoorDc
namespace Go.Proofs.YtljbcclfafndmaaDoor
open Go.RowKit

attribute [local go_sem] Oper.semAt_some

/-- What Find answers. -/
def FiIs (l : List Cp.C) (c : Cp.C) (r : Nat) (b : Bool) : Prop := (b = false ∧ r = 0 ∧ ∀ j, 1 ≤ j → c.t ≠ 0 → l[j]? ≠ some c) ∨ (b = true ∧ 1 ≤ r ∧ c.t ≠ 0 ∧ l[r]? = some c ∧ ∀ j, 1 ≤ j → j < r → l[j]? ≠ some c)
theorem FiIs.det {l : List Cp.C} {c : Cp.C} {r r' : Nat} {b b' : Bool} (h : FiIs l c r b) (k : FiIs l c r' b') : r = r' ∧ b = b' := by
  rcases h with ⟨rfl, rfl, h⟩ | ⟨rfl, h1, h2, h3, h⟩
  · rcases k with ⟨rfl, rfl, k⟩ | ⟨rfl, k1, k2, k3, k⟩
    · exact ⟨rfl, rfl⟩
    · exact absurd k3 (h _ k1 k2)
  · rcases k with ⟨rfl, rfl, k⟩ | ⟨rfl, k1, k2, k3, k⟩
    · exact absurd h3 (k _ h1 h2)
    · refine ⟨?_, rfl⟩
      rcases Nat.lt_trichotomy r r' with hlt | e | hlt
      · exact absurd h3 (k r h1 hlt)
      · exact e
      · exact absurd k3 (h r' k1 hlt)
theorem told_cases (l : List Cp.C) (k : Nat) : told l (k + 1) = told l k ∨ ∃ x : Tx l, x.1.1 = k ∧ told l (k + 1) = told l k ++ [x] := by
  cases h : l[k]? with
  | none =>
    refine .inl ?_
    show told l k ++ _ = _
    split
    · rename_i d hd
      rw [h] at hd
      cases hd
    · rw [List.append_nil]
  | some c =>
    by_cases hc : c.t = 0
    · exact .inl (told_no h hc)
    · exact .inr ⟨⟨(k, c), h, hc⟩, rfl, told_yes h hc⟩
/-- What is told ahead of an entry is all that lies ahead of it. -/
theorem told_last {l : List Cp.C} : ∀ {k : Nat} {pre : List (Tx l)} {x : Tx l}, told l k = pre ++ [x] → pre = told l x.1.1 ∧ x.1.1 < k
  | 0, pre, x, h => by
    have := congrArg List.length h
    simp [told] at this
  | k + 1, pre, x, h => by
    rcases told_cases l k with e | ⟨y, hy, e⟩
    · rw [e] at h
      have := told_last h
      exact ⟨this.1, by omega⟩
    · rw [e] at h
      obtain ⟨h1, h2⟩ := List.append_inj' h rfl
      obtain rfl : y = x := by simpa using h2
      rw [hy]
      exact ⟨h1.symm, by omega⟩
theorem told_mem {l : List Cp.C} {j : Nat} {c : Cp.C} (h : l[j]? = some c) (hc : c.t ≠ 0) : ∀ {k : Nat}, j < k → (⟨(j, c), h, hc⟩ : Tx l) ∈ told l k
  | 0, hk => absurd hk (by omega)
  | k + 1, hk => by
    by_cases hj : j = k
    · subst hj
      rw [told_yes h hc]
      simp
    · rcases told_cases l k with e | ⟨y, hy, e⟩
      · rw [e]; exact told_mem h hc (by omega)
      · rw [e]; exact List.mem_append_left _ (told_mem h hc (by omega))
theorem told_lt {l : List Cp.C} {x : Tx l} : ∀ {k : Nat}, x ∈ told l k → x.1.1 < k
  | 0, h => by simp [told] at h
  | k + 1, h => by
    rcases told_cases l k with e | ⟨y, hy, e⟩
    · rw [e] at h
      have := told_lt h
      omega
    · rw [e] at h
      rcases List.mem_append.1 h with h | h
      · have := told_lt h
        omega
      · obtain rfl : x = y := by simpa using h
        omega
/-- Two entries that differ. -/
theorem c_ne {x c : Cp.C} (h : x ≠ c) : (¬ x.t = c.t) ∨ (x.t = c.t ∧ (x.s.toList == c.s.toList) = false) ∨ (x.t = c.t ∧ x.s = c.s ∧ ¬ x.n = c.n) ∨ (x.t = c.t ∧ x.s = c.s ∧ x.n = c.n ∧ ¬ x.a = c.a) ∨ (x.t = c.t ∧ x.s = c.s ∧ x.n = c.n ∧ x.a = c.a ∧ ¬ x.b = c.b) := by
  obtain ⟨t, s, n, a, b⟩ := x
  obtain ⟨t', s', n', a', b'⟩ := c
  dsimp only
  by_cases e1 : t = t'
  · by_cases e2 : s = s'
    · by_cases e3 : n = n'
      · by_cases e4 : a = a'
        · by_cases e5 : b = b'
          · exact absurd (by rw [e1, e2, e3, e4, e5]) h
          · exact .inr (.inr (.inr (.inr ⟨e1, e2, e3, e4, e5⟩)))
        · exact .inr (.inr (.inr (.inl ⟨e1, e2, e3, e4⟩)))
      · exact .inr (.inr (.inl ⟨e1, e2, e3⟩))
    · refine .inr (.inl ⟨e1, ?_⟩)
      rw [beq_eq_false_iff_ne, ne_eq, ByteArray.toList_eq, ByteArray.toList_eq]
      intro e
      exact e2 (ba_ext e)
  · exact .inl e1
def FiPost (l : List Cp.C) (c : Cp.C) (w : World) (e : Ending) (w' : World) : Prop := ∃ (r : Nat) (b : Bool), FiIs l c r b ∧ e = .returned (.tuple #[.int .i64 (r : Nat), .bool b]) ∧ Below w.heap.size w w'
set_option maxRecDepth 100000 in
set_option maxHeartbeats 4000000 in
theorem rfind_any (l : List Cp.C) (c : Cp.C) (v : Value) (w : World) (hv : Kit.IsS 5 w v l.length (l.flatMap cL)) :
    Calls Tryd.prog 28 #[v, .agg (cC c)] w (FiPost l c w) := by
  have HV := hid (fun W (h : Below w.heap.size w W) => hv.below h (Nat.le_refl _))
  obtain ⟨a, cap, hv2⟩ := hv.len
  subst hv2
  have hlen := hv.2.1
  clear hv
  by_cases hct : c.t = 0
  · have HF := hid (show FiIs l c 0 false from .inl ⟨rfl, rfl, fun _ _ h => absurd hct h⟩)
    obtain ⟨t, s, n, ca, cb⟩ := c
    dsimp only at hct
    subst hct
    unfold cC
    dsimp only
    go_enter Tryd.func28, Tryd.ntmps28
    go_wp2
    go_loopw [6] (fun i wr => i = .int .i64 1 ∧ wr = w.alloc (.cells #[.int .i64 0, .string s, .int .i64 n, .int .i64 ca, .int .i64 cb] 46)) (fun i _ => 0)
    case atStart => exact ⟨rfl, rfl⟩
    case round =>
      obtain ⟨rfl, rfl⟩ := hrel
      by_cases h1 : (1 : Int) < l.length
      all_goals go_wp2
      all_goals go_ret2
      all_goals exact ⟨0, false, HF.out, rfl, (by repeat' first | with_reducible exact Below.refl _ _ | with_reducible assumption | with_reducible refine belows_drewN ?_ _ | with_reducible refine Below.drew ?_ | with_reducible refine Below.setCell ?_ ?_ _ | with_reducible refine Below.alloc ?_ ?_ _ | omega | (simp; done) | (simp; omega))⟩
  · have hzd : (c.t == 0) = false := by simpa using hct
    have hzd2 : (c.t != 0) = true := by simpa using hct
    have HC := hid hct
    have HY := hid (fun (k : Nat) (h1 : 1 ≤ k) (hk : l[k]? = some c) (hn : ∀ j, 1 ≤ j → j < k → l[j]? ≠ some c) => show FiIs l c k true from .inr ⟨rfl, h1, hct, hk, hn⟩)
    have HN := hid (fun (hn : ∀ j, 1 ≤ j → j < l.length → l[j]? ≠ some c) => show FiIs l c 0 false from .inl ⟨rfl, rfl, fun j h1 _ h => by
      rcases Nat.lt_or_ge j l.length with h2 | h2
      · exact hn j h1 h2 h
      · rw [List.getElem?_eq_none h2] at h; cases h⟩)
    obtain ⟨cx, hcx⟩ : ∃ x, x = c := ⟨_, rfl⟩
    obtain ⟨t, s, n, ca, cb⟩ := c
    dsimp only at hzd hzd2
    unfold cC
    dsimp only
    clear hct
    go_enter Tryd.func28, Tryd.ntmps28
    go_wp2
    go_loopw [6] (fun i wr => ∃ k : Nat, 1 ≤ k ∧ i = .int .i64 k ∧ Hid (∀ j, 1 ≤ j → j < k → l[j]? ≠ some ⟨t, s, n, ca, cb⟩) ∧ BX wr w.heap.size #[.int .i64 t, .string s, .int .i64 n, .int .i64 ca, .int .i64 cb] 46 ∧ Below w.heap.size w wr) (fun i _ => l.length - (intOf i).toNat)
    case atStart => exact ⟨1, by omega, rfl, fun j h1 h2 => by omega, BX.new w _ _, (by repeat' first | with_reducible exact Below.refl _ _ | with_reducible assumption | with_reducible refine belows_drewN ?_ _ | with_reducible refine Below.drew ?_ | with_reducible refine Below.setCell ?_ ?_ _ | with_reducible refine Below.alloc ?_ ?_ _ | omega | (simp; done) | (simp; omega))⟩
    case round =>
      obtain ⟨k, hk, rfl, hn, hbx, hbl⟩ := hrel
      have hbz := hbl.size
      have x0 := hbx.cell 0
      have x1 := hbx.cell 1
      have x2 := hbx.cell 2
      have x3 := hbx.cell 3
      have x4 := hbx.cell 4
      simp at x0 x1 x2 x3 x4
      by_cases hlt : k < l.length
      · obtain ⟨y, hy⟩ : ∃ y, l[k]? = some y := ⟨l[k], List.getElem?_eq_getElem hlt⟩
        obtain ⟨b, o, cap', hv', hb, c0, c1, c2, c3, c4⟩ := c_at (HV.out wr hbl) hy
        obtain ⟨rfl, -, rfl⟩ := Value.slice.inj hv'
        have hki : (k : Int) < l.length := by omega
        by_cases he : y = ⟨t, s, n, ca, cb⟩
        · have HF := hid (HY.out k hk (by rw [← he]; exact hy) hn.out)
          subst he
          dsimp only at c0 c1 c2 c3 c4
          clear hy hv'
          go_wp2
          go_quiet (fail)
          go_wp2
          go_ret2
          exact ⟨k, true, HF.out, rfl, (by repeat' first | with_reducible exact Below.refl _ _ | with_reducible assumption | with_reducible refine belows_drewN ?_ _ | with_reducible refine Below.drew ?_ | with_reducible refine Below.setCell ?_ ?_ _ | with_reducible refine Below.alloc ?_ ?_ _ | omega | (simp; done) | (simp; omega))⟩
        · have HNx := hid (fun j (h1 : 1 ≤ j) (hj : j < k + 1) => show l[j]? ≠ some (⟨t, s, n, ca, cb⟩ : Cp.C) by
            rcases Nat.lt_or_ge j k with h2 | h2
            · exact hn.out j h1 h2
            · rw [show j = k by omega, hy]; intro e; exact he (Option.some.inj e))
          have hne := c_ne he
          obtain ⟨t', s', n', a', b'⟩ := y
          dsimp only at c0 c1 c2 c3 c4 hne
          clear hy he hv' hcx
          rcases hne with h | ⟨rfl, h⟩ | ⟨rfl, rfl, h⟩ | ⟨rfl, rfl, rfl, h⟩ | ⟨rfl, rfl, rfl, rfl, h⟩
          all_goals go_wp2
          all_goals go_quiet (fail)
          all_goals go_wp2
          all_goals go_roundw
          all_goals first
            | (case rel => exact ⟨k + 1, by omega, by go_num, HNx, hbx, (by repeat' first | with_reducible exact Below.refl _ _ | with_reducible assumption | with_reducible refine belows_drewN ?_ _ | with_reducible refine Below.drew ?_ | with_reducible refine Below.setCell ?_ ?_ _ | with_reducible refine Below.alloc ?_ ?_ _ | omega | (simp; done) | (simp; omega))⟩)
            | (case measure => simp [intOf] <;> omega)
      · have HF := hid (HN.out fun j h1 h2 => hn.out j h1 (by omega))
        have hki : decide ((k : Int) < l.length) = false := by simp; omega
        go_wp2
        go_ret2
        exact ⟨0, false, HF.out, rfl, (by repeat' first | with_reducible exact Below.refl _ _ | with_reducible assumption | with_reducible refine belows_drewN ?_ _ | with_reducible refine Below.drew ?_ | with_reducible refine Below.setCell ?_ ?_ _ | with_reducible refine Below.alloc ?_ ?_ _ | omega | (simp; done) | (simp; omega))⟩
end Go.Proofs.YtljbcclfafndmaaDoor
