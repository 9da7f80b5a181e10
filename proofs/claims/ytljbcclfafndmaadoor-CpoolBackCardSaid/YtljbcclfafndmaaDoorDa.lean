/- Contract of writeEntry. -/
import Derived.Test.YtljbcclfafndmaaDoorCu
import Derived.Test.YtljbcclfafndmaaDoorStepS
namespace Go.Proofs.YtljbcclfafndmaaDoor
open Go.RowKit

/-- An entry's bytes. -/
def encE (c : Cp.C) : List Int := (c.t % 256) :: (bytesN c.s.size (Cp.wd c.t).1 ++ ((Cp.bl c.s).map fun b => (b.toNat : Int)) ++ bytesN c.n (Cp.wd c.t).2.1 ++ bytesN c.a (Cp.wd c.t).2.2.1 ++ bytesN c.b (Cp.wd c.t).2.2.2)
theorem cf_write (u v x : Value) (w : World) : (callFunc 38 #[u, v, x]).run Tryd.prog w = .ok (.enter 38 #[u, v, x]) w := by kernel_rfl
theorem strI (s : ByteArray) : Lib.strCells s = ((Cp.bl s).map fun b => (b.toNat : Int)).map (Value.int .u8) := by
  unfold Lib.strCells Cp.bl
  rw [List.map_map]
  rfl
theorem OwnI.app {w : World} {base : Nat} {v : Value} {a : List Int} {s : ByteArray} (h : w.ownsRow base 5 1 v (a.length + s.size) (a.map (Value.int .u8) ++ Lib.strCells s)) : OwnI w base v (a ++ ((Cp.bl s).map fun b => (b.toNat : Int))) := by
  unfold OwnI
  rw [List.length_append, List.map_append, List.length_map, bl_len, ← strI]
  exact h
theorem OwnI.at_len {w : World} {base : Nat} {v : Value} {l : List Int} (h : OwnI w base v l) (n : Nat) (hn : l.length = n) : w.ownsRow base 5 1 v n (l.map (Value.int .u8)) := by
  subst hn
  exact h
theorem OwnI.app_len {w : World} {base : Nat} {v : Value} {a : List Int} {s : ByteArray} {n : Nat} (h : w.ownsRow base 5 1 v (n + s.size) (a.map (Value.int .u8) ++ Lib.strCells s)) (hn : a.length = n) : OwnI w base v (a ++ ((Cp.bl s).map fun b => (b.toNat : Int))) := by
  subst hn
  exact OwnI.app h
theorem own_ne {w : World} {base : Nat} {v : Value} {l : List Int} (h : OwnI w base v l) : ∀ k, v.ownBlock = some k → k < w.heap.size := Kit.own_lt h
theorem own_formI {w : World} {base : Nat} {v : Value} {l : List Int} (h : OwnI w base v l) (n : Nat) (hn : l.length = n) (hl : 0 < n) : ∃ g cap, v = .slice (some ⟨g, 0, none⟩) n cap := by
  subst hn
  rcases h.2 with ⟨-, h2⟩ | ⟨g, cap, cur, rfl, -⟩
  · rw [h2] at hl
    exact absurd hl (by decide)
  · exact ⟨g, cap, rfl⟩
/-- Where writing an entry stands: the bytes so far, and the two boxes. -/
structure WSt (w : World) (base : Nat) (v0 : Value) (C X : Array Value) (B1 : Nat) (W : World) (v : Value) (l : List Int) : Prop where
  own : OwnI W base v l
  gr : Kit.Grows w W v0 v
  bc : BX W w.heap.size C 46
  bx : BX W B1 X 86
  ne : ∀ k, v.ownBlock = some k → k ≠ w.heap.size ∧ k ≠ B1
  le : base ≤ W.heap.size
theorem WSt.step {w : World} {base : Nat} {v0 : Value} {C X : Array Value} {B1 : Nat} {W W' : World} {v v' : Value} {l l' : List Int} (h : WSt w base v0 C X B1 W v l) (ho : OwnI W' base v' l') (g : Kit.Grows W W' v v') : WSt w base v0 C X B1 W' v' l' := by
  refine ⟨ho, h.gr.trans g, h.bc.grown g.grown ?_, h.bx.grown g.grown ?_, ?_, Nat.le_trans h.le g.size⟩
  · intro e
    exact (h.ne _ e).1 rfl
  · intro e
    exact (h.ne _ e).2 rfl
  · intro k e
    have h1 := h.bc.sz
    have h2 := h.bx.sz
    rcases g.blk with e2 | ⟨j, hj, e2⟩
    · rw [e2] at e
      exact h.ne k e
    · rw [e2] at e
      have := Option.some.inj e
      omega
theorem WSt.first {w w1 w2 : World} {base : Nat} {v v1 : Value} {l : List Int} {z : Int} {C X : Array Value} (hb : base ≤ w.heap.size) (hlt : ∀ k, v.ownBlock = some k → k < w.heap.size) (hbw : Below w.heap.size w w1) (hbx : BX w1 w.heap.size C 46) (ho : w2.ownsRow base 5 1 v1 (l.length + 1) (l.map (Value.int .u8) ++ [.int .u8 z])) (hg : ((w1.alloc (.cells X 86)).alloc (.cells #[.int .u8 z] 5)).grownBy w2 v.ownBlock) (hk : v1.ownBlock = v.ownBlock ∨ v1.ownBlock = some (w1.heap.size + 1 + 1)) : WSt w base v C X w1.heap.size w2 v1 (l ++ [z]) := by
  have hz := hbw.size
  have h1 := hbx.sz
  have B1 : Below w.heap.size w ((w1.alloc (.cells X 86)).alloc (.cells #[.int .u8 z] 5)) := (hbw.alloc hz _).alloc (by simp; omega) _
  have hzg := hg.size
  simp only [World.size_alloc] at hzg
  have bc1 : BX ((w1.alloc (.cells X 86)).alloc (.cells #[.int .u8 z] 5)) w.heap.size C 46 := hbx.below (((Below.refl w1.heap.size w1).alloc (Nat.le_refl _) _).alloc (by simp) _) h1
  have bx1 : BX ((w1.alloc (.cells X 86)).alloc (.cells #[.int .u8 z] 5)) w1.heap.size X 86 := (BX.new w1 X 86).below ((Below.refl (w1.heap.size + 1) _).alloc (by simp) _) (by omega)
  refine ⟨OwnI.snoc ho, Kit.grows_append B1 hg (by simpa using hk), bc1.grown hg ?_, bx1.grown hg ?_, ?_, by omega⟩
  · intro e
    have := hlt _ e
    omega
  · intro e
    have := hlt _ e
    omega
  · intro k e
    rcases hk with h | h
    · rw [h] at e
      have := hlt _ e
      omega
    · rw [h] at e
      have := Option.some.inj e
      omega
theorem WSt.drew {w : World} {base : Nat} {v0 : Value} {C X : Array Value} {B1 : Nat} {W : World} {v : Value} {l : List Int} (h : WSt w base v0 C X B1 W v l) : WSt w base v0 C X B1 W.drew v l :=
  ⟨World.ownsRow.drew h.own, ⟨⟨h.gr.grown.os, h.gr.grown.tape, h.gr.grown.output, h.gr.grown.size, h.gr.grown.block⟩, h.gr.blk⟩, h.bc, h.bx, h.ne, h.le⟩
theorem WSt.cells {w : World} {base : Nat} {v0 : Value} {c0 c1 c2 c3 c4 x0 x1 x2 x3 : Value} {B1 : Nat} {W : World} {v : Value} {l : List Int} (h : WSt w base v0 #[c0, c1, c2, c3, c4] #[x0, x1, x2, x3] B1 W v l) :
    W.cell? ⟨w.heap.size, 1, none⟩ = some c1 ∧ W.cell? ⟨w.heap.size, 2, none⟩ = some c2 ∧ W.cell? ⟨w.heap.size, 3, none⟩ = some c3 ∧ W.cell? ⟨w.heap.size, 4, none⟩ = some c4 ∧ W.cell? ⟨B1, 0, none⟩ = some x0 ∧ W.cell? ⟨B1, 1, none⟩ = some x1 ∧ W.cell? ⟨B1, 2, none⟩ = some x2 ∧ W.cell? ⟨B1, 3, none⟩ = some x3 :=
  ⟨h.bc.cell 1, h.bc.cell 2, h.bc.cell 3, h.bc.cell 4, h.bx.cell 0, h.bx.cell 1, h.bx.cell 2, h.bx.cell 3⟩
set_option maxRecDepth 100000 in
set_option maxHeartbeats 2000000 in
theorem writeEntry_any (base : Nat) (l : List Int) (v : Value) (c : Cp.C) (w : World) (ht : Tabs w) (ho : OwnI w base v l) (hb : base ≤ w.heap.size) (hl : l.length ≤ 1000000000000) (hs : c.s.size ≤ 255) :
    Calls Tryd.prog 40 #[v, .agg (cC c)] w fun e w' => ∃ v', e = .returned v' ∧ OwnI w' base v' (l ++ encE c) ∧ Kit.Grows w w' v v' := by
  have HW0 := fun W (h : Below w.heap.size w W) => widthsOf_z c.t W (ht.below h ht.size)
  obtain ⟨⟨x0, x1, x2, x3⟩, hx⟩ : ∃ x, x = Cp.wd c.t := ⟨_, rfl⟩
  have hwl := wd_le c.t
  unfold encE
  rw [← hx] at HW0 hwl ⊢
  dsimp only at HW0 hwl ⊢
  have HW := hid HW0
  have HO := hid ho
  have HI := info_parts infoB
  obtain ⟨i0, hi, hz0, hz1, hz2⟩ := HI
  have hlt := hid (own_ne ho)
  unfold cC
  clear HW0 hx ho ht
  go_enter Tryd.func40, Tryd.ntmps40
  go_wp2_with (first | (go_at_call 55; refine (HW.out _ (by repeat' first | with_reducible exact Below.refl _ _ | with_reducible assumption | with_reducible refine belows_drewN ?_ _ | with_reducible refine Below.drew ?_ | with_reducible refine Below.setCell ?_ ?_ _ | with_reducible refine Below.alloc ?_ ?_ _ | omega | (simp; done) | (simp; omega))).mono ?_; rintro e w1 ⟨rfl, hb1⟩; have hbx := (BX.new w #[.int .i64 c.t, .string c.s, .int .i64 c.n, .int .i64 c.a, .int .i64 c.b] 46).below hb1 (by simp); have c0 := hbx.cell 0; simp at c0; have hz3 := hb1.size; simp only [World.size_alloc] at hz3; have hzw : w.heap.size < w1.heap.size := (by omega); have hbw := belows (B := w.heap.size) (a := w) ((Below.refl _ w).alloc (Nat.le_refl _) _) hb1 (by simp)) | (at_builtin; refine wpList_append_own_at _ rfl (.tmp 13) (.tmp 17) 22 rfl base 5 i0 _ 1 1 Tryd.underlying22 hi hz0 hz1 hz2 rfl (by decide) _ _ _ rfl (World.ownsRow.alloc (World.ownsRow.alloc (Kit.owns_below (World.ownsRow.alloc HO.out _) hb1 (Nat.le_refl _)) _) _) ⟨w1.heap.size + 1, 0, none⟩ 1 1 [.int .u8 (c.t % 256)] rfl rfl ?_ (Kit.ones_one rfl) (by unfold maxLen; omega) (by omega) (by simp only [World.size_alloc]; omega) ?_))
  · have hn := Kit.news_one (w1.alloc (.cells #[.int .i64 x0, .int .i64 x1, .int .i64 x2, .int .i64 x3] 86)) (.int .u8 (c.t % 256)) 5; rw [World.size_alloc] at hn; exact hn
  · intro v1 w2 ho1' hg1 _ hk1
    have hs1 := WSt.first hb hlt.out hbw hbx ho1' hg1 hk1
    obtain ⟨g1, cap1, rfl⟩ := own_formI hs1.own (l.length + 1) (by simp) (by omega)
    obtain ⟨d1, d2, d3, d4, y0, y1, y2, y3⟩ := hs1.cells
    clear ho1' hg1 hk1
    have hs1' := hs1.drew
    go_wp2
    go_region_law (first
      | (refine Kit.step_call3 rfl 38 (.tmp 19) (.tmp 22) (.tmp 24) 22 2 3 rfl _ (.int .i64 c.s.size) (.int .i64 x0) rfl rfl rfl (cf_write _ _ _ _) _ (write_any base _ _ c.s.size x0 _ hs1'.own hs1'.le (by simp; omega) (by omega)) ?_; rintro e w3 ⟨v3, rfl, ho3, G3⟩; have hs3 := hs1'.step ho3 G3; obtain ⟨g3, cap3, rfl⟩ := own_formI hs3.own (l.length + 1 + x0) (by simp [bytesN_len]; omega) (by omega); obtain ⟨e1, e2, e3, e4, z0, z1, z2, z3⟩ := hs3.cells; refine ⟨_, rfl, ?_⟩)
      | (have _g := hs3; refine Kit.step_append_str rfl (.tmp 25) (.tmp 27) 22 9 rfl base 5 i0 Tryd.underlying22 Tryd.underlying9 hi hz0 hz1 hz2 g3 (l.length + 1 + x0) cap3 _ rfl (hs3.own.at_len (l.length + 1 + x0) (by simp [bytesN_len]; omega)) c.s rfl (by unfold maxLen; omega) (by omega) hs3.le ?_; intro v4 w4 ho4' hg4 hk4; have hs4 := hs3.step (OwnI.app_len ho4' (by simp [bytesN_len]; omega)) (Kit.grows_append (Below.refl _ _) hg4 hk4); obtain ⟨g4, cap4, rfl⟩ := own_formI hs4.own (l.length + 1 + x0 + c.s.size) (by simp [bytesN_len]; omega) (by omega); obtain ⟨f1, f2, f3, f4, m0, m1, m2, m3⟩ := hs4.cells))
    all_goals go_wp2_with (first
      | (go_at_call 38; have _g := hs6; (with_reducible refine (write_any base _ _ c.b x3 _ hs6.own hs6.le (by simp [bytesN_len]; omega) (by omega)).mono ?_); rintro e w7 ⟨v7, rfl, ho7, G7⟩; have hs7 := hs6.step ho7 G7)
      | (go_at_call 38; have _g := hs5; (with_reducible refine (write_any base _ _ c.a x2 _ hs5.own hs5.le (by simp [bytesN_len]; omega) (by omega)).mono ?_); rintro e w6 ⟨v6, rfl, ho6, G6⟩; have hs6 := hs5.step ho6 G6; obtain ⟨i1, i2, i3, i4, o0, o1, o2, o3⟩ := hs6.cells)
      | (go_at_call 38; (with_reducible refine (write_any base _ _ c.n x1 _ hs4.own hs4.le (by simp [bytesN_len]; omega) (by omega)).mono ?_); rintro e w5 ⟨v5, rfl, ho5, G5⟩; have hs5 := hs4.step ho5 G5; obtain ⟨h1, h2, h3, h4, n0, n1, n2, n3⟩ := hs5.cells))
    all_goals go_ret
    all_goals exact ⟨v7, rfl, by have := hs7.own; simpa only [List.append_assoc, List.cons_append, List.nil_append, List.singleton_append] using this, hs7.gr⟩
end Go.Proofs.YtljbcclfafndmaaDoor
