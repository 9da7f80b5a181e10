/- Contracts of the reader's entry (altogether), appendEntry. -/
import Derived.Test.YtljbcclfafndmaaDoorCf
import Derived.Test.YtljbcclfafndmaaDoorGrow
import Derived.OwnWalk
namespace Go.Proofs.YtljbcclfafndmaaDoor
open Go.RowKit

theorem entry_any (pb : Nat) (room : Int) (bs : List UInt8) (w : World) (hp : 1 ≤ pb) (ht : Tabs w) (hr : Rdr w pb bs) :
    Calls Tryd.prog 59 #[.pointer (some ⟨pb, 0, none⟩), .int .i64 room] w (EnPost pb (enP room bs) w) := by
  cases bs with
  | nil => exact entry_nil pb room w hr
  | cons c r =>
    unfold enP
    dsimp only
    obtain ⟨⟨x0, x1, x2, x3⟩, hw⟩ : ∃ x, x = Cp.wd (c.toNat : Nat) := ⟨_, rfl⟩
    by_cases hbad : Cp.knownB (c.toNat : Int) = false ∨ ((c.toNat : Int) = 5 ∧ room < 2)
    · rw [if_pos hbad]
      exact entry_tag pb room c r x0 x1 x2 x3 w hp ht hr hw.symm hbad
    · rw [if_neg hbad]
      have hk : Cp.knownB (c.toNat : Nat) = true := by
        cases h : Cp.knownB (c.toNat : Int) with
        | true => rfl
        | false => exact absurd (.inl h) hbad
      have hlast : ¬ ((c.toNat : Int) = 5 ∧ room < 2) := fun e => hbad (.inr e)
      rw [← hw]
      dsimp only
      cases hx : txP x0 r with
      | error er => exact entry_text pb room c r er x0 x1 x2 x3 w hp ht hr hw.symm hk hlast hx
      | ok y =>
        obtain ⟨s, r1⟩ := y
        dsimp only
        by_cases h1 : r1.length < x1
        · rw [if_pos h1]
          exact entry_n pb room c r r1 s x0 x1 x2 x3 w hp ht hr hw.symm hk hlast hx h1
        · rw [if_neg h1]
          by_cases h2 : (r1.drop x1).length < x2
          · rw [if_pos h2]
            exact entry_a pb room c r r1 s x0 x1 x2 x3 w hp ht hr hw.symm hk hlast hx (by omega) h2
          · rw [if_neg h2]
            by_cases h3 : ((r1.drop x1).drop x2).length < x3
            · rw [if_pos h3]
              exact entry_b pb room c r r1 s x0 x1 x2 x3 w hp ht hr hw.symm hk hlast hx (by omega) (by omega) h3
            · rw [if_neg h3]
              exact entry_ok pb room c r r1 s x0 x1 x2 x3 w hp ht hr hw.symm hk hlast hx (by omega) (by omega) (by omega)
/-- A pool in memory of its own. -/
def cL (c : Cp.C) : List Value := [.int .i64 c.t, .string c.s, .int .i64 c.n, .int .i64 c.a, .int .i64 c.b]
theorem cL_len (c : Cp.C) : (cL c).length = 5 := rfl
def OwnC (w : World) (base : Nat) (v : Value) (l : List Cp.C) : Prop := w.ownsRow base 46 5 v l.length (l.flatMap cL)
theorem nilC (w : World) (base : Nat) : OwnC w base (.slice none 0 0) [] := ⟨rfl, .inl ⟨rfl, rfl⟩⟩
theorem OwnC.snoc {w : World} {base : Nat} {v : Value} {l : List Cp.C} {c : Cp.C} (h : w.ownsRow base 46 5 v (l.length + 1) (l.flatMap cL ++ cL c)) : OwnC w base v (l ++ [c]) := by
  unfold OwnC
  rw [List.length_append, List.flatMap_append]
  simpa using h
theorem infoC : (Tryd.prog.info? 46).map (fun i => (i.zero, i.size, i.bytes)) = some (some (.agg #[.int .i64 0, .string ⟨#[]⟩, .int .i64 0, .int .i64 0, .int .i64 0]), 5, 48) := by kernel_rfl
theorem news_c (w : World) (c : Cp.C) : ∀ j u, (cL c)[j]? = some u → (w.alloc (.cells #[.int .i64 c.t, .string c.s, .int .i64 c.n, .int .i64 c.a, .int .i64 c.b] 46)).cell? ((⟨w.heap.size, 0, none⟩ : Addr).add j) = some u := by
  intro j u hj
  match j, hj with
  | 0, hj => simp [cL] at hj; subst hj; simp [Addr.add, go_sem]
  | 1, hj => simp [cL] at hj; subst hj; simp [Addr.add, go_sem]
  | 2, hj => simp [cL] at hj; subst hj; simp [Addr.add, go_sem]
  | 3, hj => simp [cL] at hj; subst hj; simp [Addr.add, go_sem]
  | 4, hj => simp [cL] at hj; subst hj; simp [Addr.add, go_sem]
theorem ones_c (c : Cp.C) : ∀ u ∈ cL c, u.oneCell' = true := by
  intro u hu; simp [cL] at hu; rcases hu with rfl | rfl | rfl | rfl | rfl <;> rfl
/-- A pool with an entry behind it, and what must stand behind that. -/
def appE (l : List Cp.C) (c : Cp.C) : List Cp.C := if c.t = 5 then l ++ [c] ++ [Cp.C0] else l ++ [c]
set_option maxRecDepth 100000 in
set_option maxHeartbeats 400000 in
theorem appendEntry_any (base : Nat) (l : List Cp.C) (v : Value) (c : Cp.C) (w : World) (ho : OwnC w base v l) (hb : base ≤ w.heap.size) (hl : l.length ≤ 10000) :
    Calls Tryd.prog 48 #[v, .agg (cC c)] w fun e w' => ∃ v', e = .returned v' ∧ OwnC w' base v' (appE l c) ∧ Kit.Grows w w' v v' := by
  have HO := hid ho
  obtain ⟨i0, hi, hz0, hz1, hz2⟩ := info_parts infoC
  have hlt := hid (Kit.own_lt ho)
  unfold cC appE
  clear ho
  by_cases h5 : c.t = 5
  · rw [if_pos h5]
    have hd : (c.t == 5) = true := by simpa using h5
    clear h5
    go_enter Tryd.func48, Tryd.ntmps48
    go_wp2_with (first | (at_builtin; have _g := ho1; refine wpList_append_own_at _ rfl (.tmp 12) (.tmp 14) 23 rfl base 46 i0 _ 5 48 Tryd.underlying23 hi hz0 hz1 hz2 rfl (by decide) v1 _ _ rfl (World.ownsRow.alloc ho1 _) ⟨w1.heap.size, 0, none⟩ 1 1 (cL Cp.C0) rfl rfl (news_c w1 Cp.C0) (ones_c _) (by unfold maxLen; rw [List.length_append]; simp only [List.length_cons, List.length_nil]; omega) (by rw [List.length_append]; simp only [List.length_cons, List.length_nil]; omega) (by simp only [World.size_alloc]; omega) ?_; intro v2 w2 ho2' hg2 _ hk2; have ho2 := OwnC.snoc ho2'; have G2 := Kit.grows_append ((Below.refl w1.heap.size w1).alloc (Nat.le_refl _) (.cells #[.int .i64 0, .string ⟨#[]⟩, .int .i64 0, .int .i64 0, .int .i64 0] 46)) hg2 hk2) | (at_builtin; refine wpList_append_own_at _ rfl (.tmp 5) (.tmp 7) 23 rfl base 46 i0 _ 5 48 Tryd.underlying23 hi hz0 hz1 hz2 rfl (by decide) _ _ _ rfl (World.ownsRow.alloc (World.ownsRow.alloc HO.out _) _) ⟨w.heap.size + 1, 0, none⟩ 1 1 (cL c) rfl rfl (by (have hn := news_c (w.alloc (.cells #[.int .i64 c.t, .string c.s, .int .i64 c.n, .int .i64 c.a, .int .i64 c.b] 46)) c); rw [World.size_alloc] at hn; exact hn) (ones_c _) (by unfold maxLen; omega) (by omega) (by simp only [World.size_alloc]; omega) ?_; intro v1 w1 ho1' hg1 _ hk1; have ho1 := OwnC.snoc ho1'; have G1 := Kit.grows_append (((Below.refl w.heap.size w).alloc (Nat.le_refl _) (.cells #[.int .i64 c.t, .string c.s, .int .i64 c.n, .int .i64 c.a, .int .i64 c.b] 46)).alloc (by simp only [World.size_alloc]; omega) (.cells #[.int .i64 c.t, .string c.s, .int .i64 c.n, .int .i64 c.a, .int .i64 c.b] 46)) hg1 hk1; have hbx := ((BX.new w #[.int .i64 c.t, .string c.s, .int .i64 c.n, .int .i64 c.a, .int .i64 c.b] 46).below ((Below.refl _ _).alloc (Nat.le_refl _) (.cells #[.int .i64 c.t, .string c.s, .int .i64 c.n, .int .i64 c.a, .int .i64 c.b] 46)) (by simp only [World.size_alloc]; omega)).grown hg1 (fun e => by (have := hlt.out _ e); omega); have c0 := hbx.cell 0; simp at c0; have hz3 := G1.size; clear ho1'))
    go_ret
    exact ⟨_, rfl, ho2, G1.trans G2⟩
  · rw [if_neg h5]
    have hd : (c.t == 5) = false := by simpa using h5
    clear h5
    go_enter Tryd.func48, Tryd.ntmps48
    go_wp2_with (first | (at_builtin; have _g := ho1; refine wpList_append_own_at _ rfl (.tmp 12) (.tmp 14) 23 rfl base 46 i0 _ 5 48 Tryd.underlying23 hi hz0 hz1 hz2 rfl (by decide) v1 _ _ rfl (World.ownsRow.alloc ho1 _) ⟨w1.heap.size, 0, none⟩ 1 1 (cL Cp.C0) rfl rfl (news_c w1 Cp.C0) (ones_c _) (by unfold maxLen; rw [List.length_append]; simp only [List.length_cons, List.length_nil]; omega) (by rw [List.length_append]; simp only [List.length_cons, List.length_nil]; omega) (by simp only [World.size_alloc]; omega) ?_; intro v2 w2 ho2' hg2 _ hk2; have ho2 := OwnC.snoc ho2'; have G2 := Kit.grows_append ((Below.refl w1.heap.size w1).alloc (Nat.le_refl _) (.cells #[.int .i64 0, .string ⟨#[]⟩, .int .i64 0, .int .i64 0, .int .i64 0] 46)) hg2 hk2) | (at_builtin; refine wpList_append_own_at _ rfl (.tmp 5) (.tmp 7) 23 rfl base 46 i0 _ 5 48 Tryd.underlying23 hi hz0 hz1 hz2 rfl (by decide) _ _ _ rfl (World.ownsRow.alloc (World.ownsRow.alloc HO.out _) _) ⟨w.heap.size + 1, 0, none⟩ 1 1 (cL c) rfl rfl (by (have hn := news_c (w.alloc (.cells #[.int .i64 c.t, .string c.s, .int .i64 c.n, .int .i64 c.a, .int .i64 c.b] 46)) c); rw [World.size_alloc] at hn; exact hn) (ones_c _) (by unfold maxLen; omega) (by omega) (by simp only [World.size_alloc]; omega) ?_; intro v1 w1 ho1' hg1 _ hk1; have ho1 := OwnC.snoc ho1'; have G1 := Kit.grows_append (((Below.refl w.heap.size w).alloc (Nat.le_refl _) (.cells #[.int .i64 c.t, .string c.s, .int .i64 c.n, .int .i64 c.a, .int .i64 c.b] 46)).alloc (by simp only [World.size_alloc]; omega) (.cells #[.int .i64 c.t, .string c.s, .int .i64 c.n, .int .i64 c.a, .int .i64 c.b] 46)) hg1 hk1; have hbx := ((BX.new w #[.int .i64 c.t, .string c.s, .int .i64 c.n, .int .i64 c.a, .int .i64 c.b] 46).below ((Below.refl _ _).alloc (Nat.le_refl _) (.cells #[.int .i64 c.t, .string c.s, .int .i64 c.n, .int .i64 c.a, .int .i64 c.b] 46)) (by simp only [World.size_alloc]; omega)).grown hg1 (fun e => by (have := hlt.out _ e); omega); have c0 := hbx.cell 0; simp at c0; have hz3 := G1.size; clear ho1'))
    go_ret
    exact ⟨_, rfl, ho1, G1⟩
end Go.Proofs.YtljbcclfafndmaaDoor
