/- Own texts for the claim, part 5. -/
import Derived.Test.YtlbkhmfgbonelaaDoorZN4
namespace Go.Proofs.YtlbkhmfgbonelaaDoor
open Go Go.RowKit
open Ty (bl mk br T)
/-- A row of types of a call's own, whatever it holds. -/
def Rw (w : World) (base : Nat) (v : Value) (n : Nat) : Prop := ∃ xs, w.ownsRow base 23 2 v n xs
theorem Rw.below {w w' : World} {base : Nat} {v : Value} {n : Nat} (h : Rw w base v n) (hb : Below w.heap.size w w') : Rw w' base v n := by
  obtain ⟨xs, h⟩ := h
  exact ⟨xs, Kit.owns_below h hb (Nat.le_refl _)⟩
theorem Rw.mono {w : World} {base base' : Nat} {v : Value} {n : Nat} (h : Rw w base v n) (hb : base' ≤ base) : Rw w base' v n := by
  obtain ⟨xs, h⟩ := h
  rcases h.2 with h0 | ⟨g, cap, cur, e, hg, r⟩
  · exact ⟨xs, h.1, .inl h0⟩
  · exact ⟨xs, h.1, .inr ⟨g, cap, cur, e, Nat.le_trans hb hg, r⟩⟩
theorem Rw.form {w : World} {base : Nat} {v : Value} {n : Nat} (h : Rw w base v n) : ∃ a c, v = .slice a n c := by
  obtain ⟨xs, h⟩ := h
  exact own_form h
/-- A cell of a row is written: rows stay rows. -/
theorem Rw.set {w : World} {base : Nat} {v : Value} {n : Nat} (h : Rw w base v n) (b i : Nat) (u : Value) : Rw (w.setCell ⟨b, i, none⟩ u) base v n := by
  obtain ⟨xs, h⟩ := h
  rcases h.2 with ⟨rfl, h0⟩ | ⟨g, cap, cur, rfl, hg, hh, h1, h2, h3, h4⟩
  · exact ⟨xs, h.1, .inl ⟨rfl, h0⟩⟩
  · by_cases e : b = g
    · subst e
      refine ⟨(cur.setIfInBounds i u).toList.take (n * 2), ?_, .inr ⟨b, cap, cur.setIfInBounds i u, rfl, hg, box_set hh i u, h1, h2, by simpa using h3, rfl⟩⟩
      have := h.1
      have h5 : (cur.toList.take (n * 2)).length = n * 2 := by rw [h4]; exact h.1
      rw [List.length_take] at h5 ⊢
      simp only [Array.toList_setIfInBounds, List.length_set]
      exact h5
    · exact ⟨xs, h.1, .inr ⟨g, cap, cur, rfl, hg, (Below.heap_setCell _ _ _ g (fun e2 => e (by have : g = b := e2; exact this.symm))).trans hh, h1, h2, h3, h4⟩⟩
/-- Its cells. -/
theorem Rw.at {w : World} {base : Nat} {v : Value} {n i : Nat} (h : Rw w base v n) (hi : i < n) : ∃ g c u, v = .slice (some ⟨g, 0, none⟩) n c ∧ base ≤ g ∧ w.cell? ⟨g, i * 2, none⟩ = some u ∧ w.frozen? ⟨g, i * 2, none⟩ = false ∧ g < w.heap.size := by
  obtain ⟨xs, h⟩ := h
  rcases h.2 with ⟨-, h0⟩ | ⟨g, cap, cur, rfl, hg, hh, h1, h2, h3, h4⟩
  · omega
  · have hlt : i * 2 < cur.size := by
      have : i * 2 < cap * 2 := by omega
      omega
    exact ⟨g, cap, cur[i * 2], rfl, hg, by simp [World.cell?, hh, hlt], by simp [World.frozen?, hh], (Array.getElem?_eq_some_iff.1 hh).1⟩
/-- One type more, as an operation. -/
theorem op_type1 {o : Oper} {a : Act} {w : World} {K : Act → World → Prop} {Q : Exit → Act → World → Prop} (s x : Operand)
    (hop : o.op = Op.call { callee := Callee.builtin Builtin.append, args := #[s, x], argTypes := #[24, 24] })
    (B : Nat) (v : Value) (n : Nat) (hs : a.eval s = v) (h : Rw w B v n) (hB : B ≤ w.heap.size) (ad : Nat) (hx : a.eval x = .slice (some ⟨ad, 0, none⟩) 1 1) (k : Int) (z : ByteArray)
    (hc : BX w ad #[.int .i64 k, .string z] 23) (hn : (n + 1) * 24 ≤ 140737488355328)
    (hK : ∀ v' w', Rw w' B v' (n + 1) → w.grownBy w' v.ownBlock → (∀ j, v.ownBlock = some j → B ≤ j) → K (a.put o.dst v') w') :
    Oper.wp Tryd.prog o a w K Q := by
  obtain ⟨i0, hi, hz0, hz1, hz2⟩ := info_parts infoT
  obtain ⟨xs, h⟩ := h
  obtain ⟨v', w', hr, h2, h3, -, -⟩ := run_append_own_at (P := Tryd.prog) w B 24 o.type 23 i0 _ 2 24 Tryd.underlying24 hi hz0 hz1 hz2 rfl (by decide) v n xs h ⟨ad, 0, none⟩ 1 1 [.int .i64 k, .string z] rfl (fun j u hj => by
    rw [Go.WideShapes.add_plain, Nat.zero_add, hc.cell j]
    simpa using hj) (fun u hu => by simp only [List.mem_cons, List.not_mem_nil, or_false] at hu; rcases hu with rfl | rfl <;> rfl) (by unfold maxLen; omega) (by omega) hB
  unfold Oper.wp execOp
  simp only [hop, resolve, invoke, builtin, Sem.run_bind, Sem.run_pure, Result.andThen_ok, List.map_toArray, List.map_cons, List.map_nil, hs, hx, hr]
  exact hK _ _ ⟨_, h2⟩ h3 (fun j e => Kit.own_base h j e)
end Go.Proofs.YtlbkhmfgbonelaaDoor
namespace Go.Proofs.YtlbkhmfgbonelaaDoor
open Go Go.RowKit
open Ty (bl mk br T)
theorem Rw.apart {w : World} {base : Nat} {v : Value} {n : Nat} (h : Rw w base v n) {b : Nat} {cs : Array Value} {t : TypeId} (hb : BX w b cs t) (ht : t ≠ 23) : ∀ j, v.ownBlock = some j → j ≠ b := by
  rintro j hj rfl
  obtain ⟨xs, h⟩ := h
  rcases h.2 with ⟨rfl, -⟩ | ⟨g, cap, cur, rfl, hg, hh, -⟩
  · simp [Value.ownBlock] at hj
  · have : g = j := by simpa [Value.ownBlock] using hj
    subst this
    have := hh.symm.trans hb
    exact ht (Obj.cells.inj (Option.some.inj this)).2.1.symm
theorem bx_apart {w : World} {b c : Nat} {cs ds : Array Value} {t u : TypeId} (h : BX w b cs t) (k : BX w c ds u) (ht : t ≠ u) : b ≠ c := by
  rintro rfl
  have := h.symm.trans k
  exact ht (Obj.cells.inj (Option.some.inj this)).2.1
theorem bx_grown {w w' : World} {b : Nat} {cs : Array Value} {t : TypeId} {row : Option Nat} (h : BX w b cs t) (hg : w.grownBy w' row) (hr : ∀ j, row = some j → j ≠ b) : BX w' b cs t :=
  (hg.block b h.sz (fun e => hr b e.symm rfl)).trans h
theorem bx_setCell {w : World} {b c i : Nat} {cs : Array Value} {t : TypeId} (h : BX w b cs t) (hne : b ≠ c) (u : Value) : BX (w.setCell ⟨c, i, none⟩ u) b cs t :=
  (Below.heap_setCell _ _ _ b hne).trans h
set_option maxRecDepth 100000
set_option maxHeartbeats 1000000
theorem Clone_any {w : World} {v1 v2 : Value} {l1 l2 : List T} (h1 : TyS w v1 l1) (h2 : TyS w v2 l2) (b1 : l1.length * 24 ≤ 140737488355328) (b2 : l2.length * 24 ≤ 140737488355328) : Calls Tryd.prog 21 #[.agg #[v1, v2]] w fun e w' => ∃ c1 c2, e = .returned (.agg #[c1, c2]) ∧ TyO w' w.heap.size c1 l1 ∧ TyO w' w.heap.size c2 l2 ∧ Below w.heap.size w w' := by
  obtain ⟨W, hW⟩ : ∃ W, W = (w.alloc (.cells #[v1, v2] 43)).alloc (.cells #[.slice none 0 0, .slice none 0 0] 43) := ⟨_, rfl⟩
  have hb : Below w.heap.size w W := by rw [hW]; exact (by repeat' first | with_reducible exact Below.refl _ _ | with_reducible assumption | with_reducible refine belows_drewN ?_ _ | with_reducible refine Below.drew ?_ | with_reducible refine Below.setCell ?_ ?_ _ | with_reducible refine Below.alloc ?_ ?_ _ | omega | (simp; done) | (simp; omega))
  have HX0 : Hid (BX W w.heap.size #[v1, v2] 43) := by
    show BX _ _ _ _
    rw [hW]
    exact (BX.new w _ _).below ((Below.refl _ _).alloc (Nat.le_refl _) _)
  have HX1 : Hid (BX W (w.heap.size + 1) #[.slice none 0 0, .slice none 0 0] 43) := by
    have := BX.new (w.alloc (.cells #[v1, v2] 43)) #[.slice none 0 0, .slice none 0 0] 43
    rw [World.size_alloc, ← hW] at this
    exact this
  have HT1 := hid (fun X (hX : Below W.heap.size W X) => tclone_any l1 v1 X (h1.below (belows hb hX hb.size)) b1)
  have HT2 := hid (fun X (hX : Below W.heap.size W X) => tclone_any l2 v2 X (h2.below (belows hb hX hb.size)) b2)
  have HB := hid hb
  have HW := hid hW
  obtain ⟨a1, p1, e1⟩ := Kit.IsS.len h1
  obtain ⟨a2, p2, e2⟩ := Kit.IsS.len h2
  obtain ⟨n1, hn1⟩ : ∃ n, l1.length = n := ⟨_, rfl⟩
  obtain ⟨n2, hn2⟩ : ∃ n, l2.length = n := ⟨_, rfl⟩
  rw [hn1] at e1
  rw [hn2] at e2
  subst e1 e2
  have HN1 := hid hn1
  have HN2 := hid hn2
  have HSx := hid (fun X (hX : Below W.heap.size W X) => (⟨(HX0.out.below hX).cell 0, (HX0.out.below hX).cell 1⟩ : X.cell? ⟨w.heap.size, 0, none⟩ = some (.slice a1 n1 p1) ∧ X.cell? ⟨w.heap.size, 1, none⟩ = some (.slice a2 n2 p2)))
  have HBc : Hid (Below W.heap.size W W.drew) := Below.drew (Below.refl W.heap.size W)
  have x0 := HSx.out _ (Below.refl W.heap.size W)
  have hz : w.heap.size + 1 < W.heap.size := HX1.out.sz
  clear h1 h2 hb hW hn1 hn2 b1 b2
  go_enter Tryd.func21, Tryd.ntmps21
  go_upto_region 1 with fail
  rw [← HW.out]
  obtain ⟨s0, hs0⟩ : ∃ s, w.heap.size = s := ⟨_, rfl⟩
  have HS0 := hid hs0
  rw [hs0] at HSx HX1 HX0 x0 hz ⊢
  clear hs0
  go_region_held3 (fun X => X.cell? ⟨s0, 0, none⟩ = some (.slice a1 n1 p1) ∧ X.cell? ⟨s0, 1, none⟩ = some (.slice a2 n2 p2))
    (first | exact x0 | go_keep)
    (first
      | (go_at_call 20; (with_reducible refine (HT1.out _ HBc.out).mono ?_); rintro e V ⟨va, rfl, ho, hb⟩; obtain ⟨ra, rc, rfl⟩ := own_form ho; (try (have HOq := hid (HO2.out.below hb); clear HO2; have HO2 := HOq; clear HOq)); have HO1 := hid (ho.mono HBc.out.size); have HBn := hid (belows HBc.out hb HBc.out.size); clear HBc; have HBc := HBn; clear HBn ho hb x0; have x0 := HSx.out _ HBc.out; (try clear g0 g1 r0 r1); have r0 : V.cell? ⟨s0 + 1, 0, none⟩ = some (.slice none 0 0) := (HX1.out.below HBc.out).cell 0; have r1 : V.cell? ⟨s0 + 1, 1, none⟩ = some (.slice none 0 0) := (HX1.out.below HBc.out).cell 1; have g0 := (HX1.out.below HBc.out).frozen 0; have g1 := (HX1.out.below HBc.out).frozen 1)
      | (go_at_call 20; (with_reducible refine (HT2.out _ HBc.out).mono ?_); rintro e V ⟨vb, rfl, ho, hb⟩; obtain ⟨ta, tc, rfl⟩ := own_form ho; (try (have HOq := hid (HO1.out.below hb); clear HO1; have HO1 := HOq; clear HOq)); have HO2 := hid (ho.mono HBc.out.size); have HBn := hid (belows HBc.out hb HBc.out.size); clear HBc; have HBc := HBn; clear HBn ho hb x0; have x0 := HSx.out _ HBc.out; (try clear g0 g1 r0 r1); have r0 : V.cell? ⟨s0 + 1, 0, none⟩ = some (.slice none 0 0) := (HX1.out.below HBc.out).cell 0; have r1 : V.cell? ⟨s0 + 1, 1, none⟩ = some (.slice none 0 0) := (HX1.out.below HBc.out).cell 1; have g0 := (HX1.out.below HBc.out).frozen 0; have g1 := (HX1.out.below HBc.out).frozen 1))
  clear g0 g1 x0
  go_wp2
  have hc : Chg (fun i => i = s0 + 1) V ((V.setCell ⟨s0 + 1, 0, none⟩ (.slice ra l1.length rc)).setCell ⟨s0 + 1, 1, none⟩ (.slice ta l2.length tc)) := ((Chg.refl (fun i => i = s0 + 1) V).set (p := ⟨s0 + 1, 0, none⟩) (.inl rfl) _).set (p := ⟨s0 + 1, 1, none⟩) (.inl rfl) _
  have hx := HX1.out.below HBc.out
  have hw : w.heap.size ≤ W.heap.size := HB.out.size
  have o1 : TyO _ w.heap.size (.slice ra l1.length rc) l1 := TyO.mono (owns_chg HO1.out hc (fun j e e2 => own_unlike_box HO1.out hx (by decide) (e2 ▸ e))) hw
  have o2 : TyO _ w.heap.size (.slice ta l2.length tc) l2 := TyO.mono (owns_chg HO2.out hc (fun j e e2 => own_unlike_box HO2.out hx (by decide) (e2 ▸ e))) hw
  have hbl : Below w.heap.size w V := belows HB.out HBc.out HB.out.size
  have hs := HS0.out
  exact bodyPost_ret (v := .agg #[.slice ra l1.length rc, .slice ta l2.length tc]) (by simp [results, Tryd.results21, go_sem, r0, r1]) rfl ⟨_, _, rfl, o1, o2, hbl.trans (hc.to_below (fun i e => by omega) (by have := hbl.size; omega))⟩
/-- JoinAll's closure for the locals. -/
theorem j1_any {w : World} {x : T} {B sB hB n : Nat} {lv sv : Value} (hx : x.n.size ≤ maxLen) (h : BX w hB #[.pointer none] 35) (s : BX w sB #[lv, sv] 43) (r : Rw w B lv n) (hBw : B ≤ w.heap.size) (hn : (n + 1) * 24 ≤ 140737488355328) :
    Calls Tryd.prog 37 #[tyA x, tyA x, .pointer (some ⟨sB, 0, none⟩), .pointer (some ⟨hB, 0, none⟩)] w fun e w' => e = .returned (.bool true) ∧ ∃ lv', BX w' sB #[lv', sv] 43 ∧ Rw w' B lv' (n + 1) ∧ Chg (fun i => i = sB ∨ B ≤ i) w w' := by
  have HJ := hid (fun X => Join_self x hx X)
  obtain ⟨la, lc, rfl⟩ := r.form
  obtain ⟨k, z⟩ := x
  obtain ⟨⟨k', z'⟩, hj⟩ : ∃ y, jself ⟨k, z⟩ = y := ⟨_, rfl⟩
  rw [hj] at HJ
  obtain ⟨W, hW⟩ : ∃ W, W = (w.alloc (.cells #[.int .i64 k, .string z] 23)).alloc (.cells #[.int .i64 k, .string z] 23) := ⟨_, rfl⟩
  have hb : Below w.heap.size w W := by rw [hW]; exact (by repeat' first | with_reducible exact Below.refl _ _ | with_reducible assumption | with_reducible refine belows_drewN ?_ _ | with_reducible refine Below.drew ?_ | with_reducible refine Below.setCell ?_ ?_ _ | with_reducible refine Below.alloc ?_ ?_ _ | omega | (simp; done) | (simp; omega))
  have hx0 : BX W w.heap.size #[.int .i64 k, .string z] 23 := by
    rw [hW]
    exact (BX.new w _ _).below ((Below.refl _ _).alloc (Nat.le_refl _) _)
  have hx1 : BX W (w.heap.size + 1) #[.int .i64 k, .string z] 23 := by
    have := BX.new (w.alloc (.cells #[.int .i64 k, .string z] 23)) #[.int .i64 k, .string z] 23
    rw [World.size_alloc, ← hW] at this
    exact this
  have HB := hid hb
  have HW := hid hW
  have HS := hid (s.below hb)
  have HH := hid (h.below hb)
  have HR := hid (r.below hb)
  have HX0 := hid hx0
  have HX1 := hid hx1
  have cS : W.cell? ⟨sB, 0, none⟩ = some (.slice la n lc) := HS.out.cell 0
  have HBb : Hid (B ≤ W.heap.size) := Nat.le_trans hBw hb.size
  have HSx := hid (fun X (hX : Below W.heap.size W X) => (⟨(HH.out.below hX).cell 0, (HX0.out.below hX).cell 0, (HX0.out.below hX).cell 1, (HX1.out.below hX).cell 0, (HX1.out.below hX).cell 1⟩ : X.cell? ⟨hB, 0, none⟩ = some (.pointer none) ∧ X.cell? ⟨w.heap.size, 0, none⟩ = some (.int .i64 k) ∧ X.cell? ⟨w.heap.size, 1, none⟩ = some (.string z) ∧ X.cell? ⟨w.heap.size + 1, 0, none⟩ = some (.int .i64 k) ∧ X.cell? ⟨w.heap.size + 1, 1, none⟩ = some (.string z)))
  have HLt : Hid (∀ j, (Value.slice la n lc).ownBlock = some j → j < w.heap.size) := fun j e => by
    obtain ⟨xs, r⟩ := r
    exact Kit.own_lt r j e
  have x0 := HSx.out _ (Below.refl W.heap.size W)
  have hz : w.heap.size + 1 < W.heap.size := hx1.sz
  unfold tyA at HJ ⊢
  dsimp only at HJ ⊢
  clear h s r hb hW hx0 hx1 hx hj
  go_enter Tryd.func37, Tryd.ntmps37
  go_upto_region 1 with fail
  rw [← HW.out]
  obtain ⟨s0, hs0⟩ : ∃ s, w.heap.size = s := ⟨_, rfl⟩
  rw [hs0] at HSx HX1 HX0 x0 hz HLt ⊢
  have HS0 := hid hs0
  clear hs0
  refine wp_region_held_drew (S := fun X => X.cell? ⟨hB, 0, none⟩ = some (.pointer none) ∧ X.cell? ⟨s0, 0, none⟩ = some (.int .i64 k) ∧ X.cell? ⟨s0, 1, none⟩ = some (.string z) ∧ X.cell? ⟨s0 + 1, 0, none⟩ = some (.int .i64 k) ∧ X.cell? ⟨s0 + 1, 1, none⟩ = some (.string z)) (by kernel_rfl) (HSx.out _ (Below.drew (Below.refl W.heap.size W))) (fun hS => ?_)
  refine wpAnyH_take (i := 0) (v := ?_) rfl (by kernel_rfl) (by kernel_rfl) (by kernel_rfl) (fun _ _ _ h => h) (Or.inl ⟨by rfl, ?_⟩) hS ?_
  rotate_left
  · (intro wq hSw; (try dsimp only at hSw); go_simp; try with_reducible rfl)
  try simp only [Act.put, List.getElem_toArray, List.getElem_cons_zero, List.getElem_cons_succ, List.setIfInBounds_toArray, List.set_cons_zero, List.set_cons_succ]
  refine wpAnyH_take (i := 2) (v := ?_) rfl (by kernel_rfl) (by kernel_rfl) (by kernel_rfl) (fun _ _ _ h => h) (Or.inl ⟨by rfl, ?_⟩) hS ?_
  rotate_left
  · (intro wq hSw; (try dsimp only at hSw); go_simp; try with_reducible rfl)
  try simp only [Act.put, List.getElem_toArray, List.getElem_cons_zero, List.getElem_cons_succ, List.setIfInBounds_toArray, List.set_cons_zero, List.set_cons_succ]
  refine wpAnyH_take (i := 3) (v := ?_) rfl (by kernel_rfl) (by kernel_rfl) (by kernel_rfl) (fun _ _ _ h => h) (Or.inl ⟨by rfl, ?_⟩) hS ?_
  rotate_left
  · (intro wq hSw; (try dsimp only at hSw); go_simp; try with_reducible rfl)
  try simp only [Act.put, List.getElem_toArray, List.getElem_cons_zero, List.getElem_cons_succ, List.setIfInBounds_toArray, List.set_cons_zero, List.set_cons_succ]
  refine wpAnyH_take (i := 4) (v := ?_) rfl (by kernel_rfl) (by kernel_rfl) (by kernel_rfl) (fun _ _ _ h => h) (Or.inl ⟨by rfl, ?_⟩) hS ?_
  rotate_left
  · (intro wq hSw; (try dsimp only at hSw); go_simp; try with_reducible rfl)
  try simp only [Act.put, List.getElem_toArray, List.getElem_cons_zero, List.getElem_cons_succ, List.setIfInBounds_toArray, List.set_cons_zero, List.set_cons_succ]
  refine wpAnyH_ready (rs := [1, 5]) (by kernel_rfl) (by simp) ?_
  refine AllReadyH.cons rfl (fun K hK => ?_) (AllReadyH.cons rfl (fun K hK => ?_) AllReadyH.nil)
  focus (
    go_simp
    refine hK.out _ _ (HSx.out _ (Below.drew (Below.refl W.heap.size W))) (fun hS => ?_)
    clear hK K
    try simp only [Act.put, List.getElem_toArray, List.getElem_cons_zero, List.getElem_cons_succ, List.setIfInBounds_toArray, List.set_cons_zero, List.set_cons_succ]
    refine wpAnyH_ready (rs := [5]) (by kernel_rfl) (by simp) (AllReadyH.cons rfl (fun K hK => ?_) AllReadyH.nil)
    go_simp
    go_at_call 19
    refine (HJ.out _).mono ?_
    rintro e V ⟨rfl, hv⟩
    have HV : Hid (Below W.heap.size W V) := (Below.drew (Below.refl W.heap.size W)).trans hv
    have x1 := HSx.out _ HV.out
    have cV : V.cell? ⟨sB, 0, none⟩ = some (.slice la n lc) := (HS.out.below HV.out).cell 0
    have zV : sB < V.heap.size := (HS.out.below HV.out).sz
    have x2 := HSx.out (V.alloc (.cells #[.int .i64 k', .string z'] 23)) (belows HV.out ((Below.refl _ _).alloc (Nat.le_refl _) _) HV.out.size)
    have cU : (V.alloc (.cells #[.int .i64 k', .string z'] 23)).cell? ⟨sB, 0, none⟩ = some (.slice la n lc) := ((HS.out.below HV.out).below ((Below.refl _ _).alloc (Nat.le_refl _) _)).cell 0
    clear hv
    try dsimp only
    refine hK.out _ _ x1 (fun hS => ?_)
    clear hK K
    try simp only [Act.put, List.getElem_toArray, List.getElem_cons_zero, List.getElem_cons_succ, List.setIfInBounds_toArray, List.set_cons_zero, List.set_cons_succ]
    refine wpAnyH_ready (rs := [6]) (by kernel_rfl) (by simp) (AllReadyH.cons rfl (fun K hK => ?_) AllReadyH.nil)
    go_simp
    refine hK.out _ _ x2 (fun hS => ?_)
    clear hK K
    try simp only [Act.put, List.getElem_toArray, List.getElem_cons_zero, List.getElem_cons_succ, List.setIfInBounds_toArray, List.set_cons_zero, List.set_cons_succ])
  rotate_left
  focus (
    go_simp
    go_at_call 19
    refine (HJ.out _).mono ?_
    rintro e V ⟨rfl, hv⟩
    have HV : Hid (Below W.heap.size W V) := (Below.drew (Below.refl W.heap.size W)).trans hv
    have x1 := HSx.out _ HV.out
    have cV : V.cell? ⟨sB, 0, none⟩ = some (.slice la n lc) := (HS.out.below HV.out).cell 0
    have zV : sB < V.heap.size := (HS.out.below HV.out).sz
    have x2 := HSx.out (V.alloc (.cells #[.int .i64 k', .string z'] 23)) (belows HV.out ((Below.refl _ _).alloc (Nat.le_refl _) _) HV.out.size)
    have cU : (V.alloc (.cells #[.int .i64 k', .string z'] 23)).cell? ⟨sB, 0, none⟩ = some (.slice la n lc) := ((HS.out.below HV.out).below ((Below.refl _ _).alloc (Nat.le_refl _) _)).cell 0
    clear hv
    try dsimp only
    refine hK.out _ _ x1 (fun hS => ?_)
    clear hK K
    try simp only [Act.put, List.getElem_toArray, List.getElem_cons_zero, List.getElem_cons_succ, List.setIfInBounds_toArray, List.set_cons_zero, List.set_cons_succ]
    refine wpAnyH_ready (rs := [1, 6]) (by kernel_rfl) (by simp) ?_
    refine AllReadyH.cons rfl (fun K hK => ?_) (AllReadyH.cons rfl (fun K hK => ?_) AllReadyH.nil)
    focus (
      go_simp
      refine hK.out _ _ x1 (fun hS => ?_)
      clear hK K
      try simp only [Act.put, List.getElem_toArray, List.getElem_cons_zero, List.getElem_cons_succ, List.setIfInBounds_toArray, List.set_cons_zero, List.set_cons_succ]
      refine wpAnyH_ready (rs := [6]) (by kernel_rfl) (by simp) (AllReadyH.cons rfl (fun K hK => ?_) AllReadyH.nil)
      go_simp
      refine hK.out _ _ x2 (fun hS => ?_)
      clear hK K
      try simp only [Act.put, List.getElem_toArray, List.getElem_cons_zero, List.getElem_cons_succ, List.setIfInBounds_toArray, List.set_cons_zero, List.set_cons_succ])
    rotate_left
    focus (
      go_simp
      refine hK.out _ _ x2 (fun hS => ?_)
      clear hK K
      try simp only [Act.put, List.getElem_toArray, List.getElem_cons_zero, List.getElem_cons_succ, List.setIfInBounds_toArray, List.set_cons_zero, List.set_cons_succ]
      refine wpAnyH_ready (rs := [1]) (by kernel_rfl) (by simp) (AllReadyH.cons rfl (fun K hK => ?_) AllReadyH.nil)
      go_simp
      refine hK.out _ _ x2 (fun hS => ?_)
      clear hK K
      try simp only [Act.put, List.getElem_toArray, List.getElem_cons_zero, List.getElem_cons_succ, List.setIfInBounds_toArray, List.set_cons_zero, List.set_cons_succ]))
  all_goals
    refine wpAnyH_ready (rs := [7]) (by kernel_rfl) (by simp) (AllReadyH.cons rfl (fun K hK => ?_) AllReadyH.nil)
    rw [if_pos (by rfl)]
    refine op_type1 (.tmp 8) (.tmp 13) rfl B (.slice la n lc) n rfl ((HR.out.below HV.out).below ((Below.refl _ _).alloc (Nat.le_refl _) _)) (Nat.le_trans HBb.out (Nat.le_trans HV.out.size (by simp))) V.heap.size rfl k' z' (BX.new V _ _) hn ?_
    intro v7 w7 hr7 hg7 hbs7
    have hba : Below V.heap.size V (V.alloc (.cells #[.int .i64 k', .string z'] 23)) := (Below.refl _ _).alloc (Nat.le_refl _) _
    have s6 := (HS.out.below HV.out).below hba
    have h6 := (HH.out.below HV.out).below hba
    have r6 := (HR.out.below HV.out).below hba
    have b7 := bx_grown s6 hg7 (r6.apart s6 (by decide))
    have h7 := bx_grown h6 hg7 (r6.apart h6 (by decide))
    have y7 := bx_grown ((HX0.out.below HV.out).below hba) hg7 (fun j e => by have := HLt.out j e; omega)
    have y8 := bx_grown ((HX1.out.below HV.out).below hba) hg7 (fun j e => by have := HLt.out j e; omega)
    have n1 := bx_apart h7 b7 (by decide)
    have n2 := bx_apart y7 b7 (by decide)
    have n3 := bx_apart y8 b7 (by decide)
    obtain ⟨ra, rc, rfl⟩ := hr7.form
    refine hK.out _ _ ⟨h7.cell 0, y7.cell 0, y7.cell 1, y8.cell 0, y8.cell 1⟩ (fun hS => ?_)
    clear hK K
    try simp only [Act.put, List.getElem_toArray, List.getElem_cons_zero, List.getElem_cons_succ, List.setIfInBounds_toArray, List.set_cons_zero, List.set_cons_succ]
    refine wpAnyH_take (i := 8) (v := ?_) rfl (by kernel_rfl) (by kernel_rfl) (by kernel_rfl) (fun _ _ _ h => h) (Or.inl ⟨by rfl, ?_⟩) hS ?_
    rotate_left
    · (intro wq hSw; (try dsimp only at hSw); go_simp; try with_reducible rfl)
    try simp only [Act.put, List.getElem_toArray, List.getElem_cons_zero, List.getElem_cons_succ, List.setIfInBounds_toArray, List.set_cons_zero, List.set_cons_succ]
    have c7 : w7.cell? ⟨sB, 0, none⟩ = some (.slice la n lc) := b7.cell 0
    have f7 := b7.frozen 0
    refine wpAnyH_ready (rs := [9]) (by kernel_rfl) (by simp) (AllReadyH.cons rfl (fun K hK => ?_) AllReadyH.nil)
    go_simp
    have h8 := bx_setCell (i := 0) h7 n1 (.slice ra (n + 1) rc)
    have y78 := bx_setCell (i := 0) y7 n2 (.slice ra (n + 1) rc)
    have y88 := bx_setCell (i := 0) y8 n3 (.slice ra (n + 1) rc)
    have b8 : BX (w7.setCell ⟨sB, 0, none⟩ (.slice ra (n + 1) rc)) sB #[.slice ra (n + 1) rc, sv] 43 := box_set b7 0 (.slice ra (n + 1) rc)
    have r8 := hr7.set sB 0 (.slice ra (n + 1) rc)
    have hbw : Below w.heap.size w V := belows HB.out HV.out HB.out.size
    have hBV : B ≤ V.heap.size := Nat.le_trans hBw hbw.size
    have hb8 : Chg (fun i => i = sB ∨ B ≤ i) w (w7.setCell ⟨sB, 0, none⟩ (.slice ra (n + 1) rc)) := (((Chg.of_below (belows hbw hba hbw.size)).grown hg7 (fun j e => .inl (.inr (hbs7 j e)))).set (p := ⟨sB, 0, none⟩) (.inl (.inl rfl)) _)
    have B8 := hid b8
    have R8 := hid r8
    have BL8 := hid hb8
    refine hK.out _ _ ⟨h8.cell 0, y78.cell 0, y78.cell 1, y88.cell 0, y88.cell 1⟩ (fun hS => ?_)
    clear hK K
    try simp only [Act.put, List.getElem_toArray, List.getElem_cons_zero, List.getElem_cons_succ, List.setIfInBounds_toArray, List.set_cons_zero, List.set_cons_succ]
    refine wpAnyH_done (by kernel_rfl) ?_ _
    clear h8 b8 r8 hb8 y78 y88 h7 b7 y7 y8 c7 f7 s6 h6 r6 hr7 hg7 hbs7 x1 x2 cV cU
    go_wp2
    go_ret
    exact ⟨rfl, _, B8.out, R8.out, BL8.out⟩
theorem wpList_type1 {ops : Array Oper} {rest : List Oper} {o : Oper} {a : Act} {w : World} {Q : Exit → Act → World → Prop} (hgd : o.guard = none) (s x : Operand)
    (hop : o.op = Op.call { callee := Callee.builtin Builtin.append, args := #[s, x], argTypes := #[24, 24] })
    (B : Nat) (v : Value) (n : Nat) (hs : a.eval s = v) (h : Rw w B v n) (hB : B ≤ w.heap.size) (ad : Nat) (hx : a.eval x = .slice (some ⟨ad, 0, none⟩) 1 1) (k : Int) (z : ByteArray)
    (hc : BX w ad #[.int .i64 k, .string z] 23) (hn : (n + 1) * 24 ≤ 140737488355328)
    (hK : ∀ v' w', Rw w' B v' (n + 1) → w.grownBy w' v.ownBlock → (∀ j, v.ownBlock = some j → B ≤ j) → wpList Tryd.prog ops Q rest (a.put o.dst v') w') :
    wpList Tryd.prog ops Q (o :: rest) a w :=
  wpList_plain hgd fun K hK2 => op_type1 s x hop B v n hs h hB ad hx k z hc hn (fun v' w' a1 a2 a3 => hK2 _ _ (hK v' w' a1 a2 a3))
/-- JoinAll's closure for the stack. -/
theorem j2_any {w : World} {x : T} {B sB hB n : Nat} {lv sv : Value} (hx : x.n.size ≤ maxLen) (h : BX w hB #[.pointer none] 35) (s : BX w sB #[lv, sv] 43) (r : Rw w B sv n) (hBw : B ≤ w.heap.size) (hn : (n + 1) * 24 ≤ 140737488355328) :
    Calls Tryd.prog 38 #[tyA x, tyA x, .pointer (some ⟨hB, 0, none⟩), .pointer (some ⟨sB, 0, none⟩)] w fun e w' => ∃ b, e = .returned (.bool b) ∧ ∃ sv', BX w' sB #[lv, sv'] 43 ∧ Rw w' B sv' (n + 1) ∧ Chg (fun i => i = sB ∨ B ≤ i) w w' := by
  have HJ := hid (fun X => Join_self x hx X)
  obtain ⟨la, lc, rfl⟩ := r.form
  obtain ⟨k, z⟩ := x
  obtain ⟨⟨k', z'⟩, hj⟩ : ∃ y, jself ⟨k, z⟩ = y := ⟨_, rfl⟩
  rw [hj] at HJ
  obtain ⟨W, hW⟩ : ∃ W, W = (w.alloc (.cells #[.int .i64 k, .string z] 23)).alloc (.cells #[.int .i64 k, .string z] 23) := ⟨_, rfl⟩
  have hb : Below w.heap.size w W := by rw [hW]; exact (by repeat' first | with_reducible exact Below.refl _ _ | with_reducible assumption | with_reducible refine belows_drewN ?_ _ | with_reducible refine Below.drew ?_ | with_reducible refine Below.setCell ?_ ?_ _ | with_reducible refine Below.alloc ?_ ?_ _ | omega | (simp; done) | (simp; omega))
  have hx0 : BX W w.heap.size #[.int .i64 k, .string z] 23 := by
    rw [hW]
    exact (BX.new w _ _).below ((Below.refl _ _).alloc (Nat.le_refl _) _)
  have hx1 : BX W (w.heap.size + 1) #[.int .i64 k, .string z] 23 := by
    have := BX.new (w.alloc (.cells #[.int .i64 k, .string z] 23)) #[.int .i64 k, .string z] 23
    rw [World.size_alloc, ← hW] at this
    exact this
  have HB := hid hb
  have HW := hid hW
  have HS := hid (s.below hb)
  have HR := hid (r.below hb)
  have HX0 := hid hx0
  have HX1 := hid hx1
  have c0 : W.cell? ⟨hB, 0, none⟩ = some (.pointer none) := (h.below hb).cell 0
  have c1 : W.cell? ⟨w.heap.size, 0, none⟩ = some (.int .i64 k) := hx0.cell 0
  have c2 : W.cell? ⟨w.heap.size, 1, none⟩ = some (.string z) := hx0.cell 1
  have c3 : W.cell? ⟨w.heap.size + 1, 0, none⟩ = some (.int .i64 k) := hx1.cell 0
  have c4 : W.cell? ⟨w.heap.size + 1, 1, none⟩ = some (.string z) := hx1.cell 1
  have HBb : Hid (B ≤ W.heap.size) := Nat.le_trans hBw hb.size
  have HLt : Hid (∀ j, (Value.slice la n lc).ownBlock = some j → j < w.heap.size) := fun j e => by
    obtain ⟨xs, r⟩ := r
    exact Kit.own_lt r j e
  have hz : w.heap.size + 1 < W.heap.size := hx1.sz
  unfold tyA at HJ ⊢
  dsimp only at HJ ⊢
  clear h s r hb hW hx0 hx1 hx hj
  go_enter Tryd.func38, Tryd.ntmps38
  go_upto_region 1 with fail
  rw [← HW.out]
  go_upto_region 2 with (go_at_call 19; (with_reducible refine (HJ.out _).mono ?_); rintro e V ⟨rfl, hv⟩; have HV := hid hv; clear hv c0 c1 c2 c3 c4)
  refine region_named fun U hU => ?_
  have hu : Below V.heap.size V U := by rw [hU]; exact (Below.refl _ _).alloc (Nat.le_refl _) _
  have tU : BX U V.heap.size #[.int .i64 k', .string z'] 23 := by rw [hU]; exact BX.new V _ _
  have hs : U.heap.size = V.heap.size + 1 := by rw [hU]; simp
  clear hU
  have hwu : Below W.heap.size W U := belows HV.out hu HV.out.size
  have sU : BX U sB #[lv, .slice la n lc] 43 := HS.out.below hwu
  have d1 : U.cell? ⟨sB, 1, none⟩ = some (.slice la n lc) := sU.cell 1
  have d2 : U.cell? ⟨V.heap.size, 0, none⟩ = some (.int .i64 k') := tU.cell 0
  have d3 : U.cell? ⟨V.heap.size, 1, none⟩ = some (.string z') := tU.cell 1
  have HSU := hid sU
  have HTU := hid tU
  have HRU := hid (HR.out.below hwu)
  have HWU := hid hwu
  have HSZ := hid hs
  have hzz : sB < U.heap.size := sU.sz
  have hzv : V.heap.size < U.heap.size := tU.sz
  have HVZ : Hid (W.heap.size ≤ V.heap.size) := HV.out.size
  clear sU tU hwu hs hu
  go_upto_region 3 with (at_builtin; go_loud (refine wpList_type1 rfl (.tmp 13) (.tmp 15) rfl B (.slice la n lc) n rfl (HRU.out.below ((Below.refl _ _).alloc (Nat.le_refl _) _)) (Nat.le_trans HBb.out (Nat.le_trans HWU.out.size (by simp))) U.heap.size rfl k' z' (BX.new U _ _) hn ?_; intro v7 w7 hr7 hg7 hbs7; obtain ⟨ra, rc, rfl⟩ := hr7.form; have hba : Below U.heap.size U (U.alloc (.cells #[.int .i64 k', .string z'] 23)) := (Below.refl _ _).alloc (Nat.le_refl _) _; have r6 := HRU.out.below hba; have b7 := bx_grown (HSU.out.below hba) hg7 (r6.apart (HSU.out.below hba) (by decide)); have HB7 := hid b7; have HG7 := hid hg7; have HR7 := hid hr7; have HBS := hid hbs7; have e1 : w7.cell? ⟨sB, 1, none⟩ = some (.slice la n lc) := b7.cell 1; have f1 := b7.frozen 1; clear hba r6 b7 hr7 hg7 hbs7 d1 d2 d3))
  have hba : Below U.heap.size U (U.alloc (.cells #[.int .i64 k', .string z'] 23)) := (Below.refl _ _).alloc (Nat.le_refl _) _
  have hlt := HLt.out
  have hvz := HVZ.out
  have t7 := bx_grown (HTU.out.below hba) HG7.out (fun j e => by have := hlt j e; omega)
  have y7 := bx_grown ((HX0.out.below HWU.out).below hba) HG7.out (fun j e => by have := hlt j e; omega)
  have y8 := bx_grown ((HX1.out.below HWU.out).below hba) HG7.out (fun j e => by have := hlt j e; omega)
  have t8 := bx_setCell (i := 1) t7 (bx_apart t7 HB7.out (by decide)) (.slice ra (n + 1) rc)
  have y78 := bx_setCell (i := 1) y7 (bx_apart y7 HB7.out (by decide)) (.slice ra (n + 1) rc)
  have y88 := bx_setCell (i := 1) y8 (bx_apart y8 HB7.out (by decide)) (.slice ra (n + 1) rc)
  have b8 : BX (w7.setCell ⟨sB, 1, none⟩ (.slice ra (n + 1) rc)) sB #[lv, .slice ra (n + 1) rc] 43 := box_set HB7.out 1 (.slice ra (n + 1) rc)
  have r8 := HR7.out.set sB 1 (.slice ra (n + 1) rc)
  have hbw : Below w.heap.size w U := belows HB.out HWU.out HB.out.size
  have hc8 : Chg (fun i => i = sB ∨ B ≤ i) w (w7.setCell ⟨sB, 1, none⟩ (.slice ra (n + 1) rc)) := (((Chg.of_below (belows hbw hba hbw.size)).grown HG7.out (fun j e => .inl (.inr (HBS.out j e)))).set (p := ⟨sB, 1, none⟩) (.inl (.inl rfl)) _)
  have B8 := hid b8
  have R8 := hid r8
  have C8 := hid hc8
  obtain ⟨Wf, hWf⟩ : ∃ X, w7.setCell ⟨sB, 1, none⟩ (.slice ra (n + 1) rc) = X := ⟨_, rfl⟩
  rw [hWf] at B8 R8 C8 t8 y78 y88 ⊢
  have g0 : Wf.cell? ⟨V.heap.size, 0, none⟩ = some (.int .i64 k') := t8.cell 0
  have g1 : Wf.cell? ⟨w.heap.size, 0, none⟩ = some (.int .i64 k) := y78.cell 0
  have g2 : Wf.cell? ⟨w.heap.size + 1, 0, none⟩ = some (.int .i64 k) := y88.cell 0
  clear b8 r8 hc8 hWf t7 t8 y7 y8 y78 y88 hba hlt hvz hbw e1 f1
  by_cases q1 : k' = 0
  · subst q1
    by_cases q2 : k = 0
    · subst q2
      go_wp2
      go_ret
      exact ⟨_, rfl, _, B8.out, R8.out, C8.out⟩
    · have q3 : (k == 0) = false := by rw [beq_eq_false_iff_ne]; exact q2
      go_wp2
      go_ret
      exact ⟨_, rfl, _, B8.out, R8.out, C8.out⟩
  · have q3 : (k' == 0) = false := by rw [beq_eq_false_iff_ne]; exact q1
    go_wp2
    go_ret
    exact ⟨_, rfl, _, B8.out, R8.out, C8.out⟩
end Go.Proofs.YtlbkhmfgbonelaaDoor
namespace Go.Proofs.YtlbkhmfgbonelaaDoor
open Go Go.RowKit
open Ty (bl mk br T)
set_option maxRecDepth 100000
set_option maxHeartbeats 2000000
theorem alike1_any {w : World} {v : Value} {l : List T} {c1 c2 : Value} (P : Nat → World → Prop) (hPb : ∀ i X Y, P i X → Below X.heap.size X Y → P i Y) (hPt : ∀ i X, P i X → TyS X v l)
    (hcall : ∀ i x X, l[i]? = some x → P i X → Calls Tryd.prog 37 #[tyA x, tyA x, c1, c2] X fun e Y => ∃ b, e = .returned (.bool b) ∧ P (i + 1) Y) (h0 : P 0 w) :
    Calls Tryd.prog 39 #[v, v, .func (.func 37) #[] #[c1, c2]] w fun e w' => ∃ b m, e = .returned (.bool b) ∧ m ≤ l.length ∧ P m w' := by
  have HPb := hid hPb
  have HPt := hid hPt
  have HC := hid hcall
  have H0 := hid h0
  obtain ⟨a, cp, rfl⟩ := Kit.IsS.len (hPt 0 w h0)
  have hlen := (hPt 0 w h0).2.1
  obtain ⟨n, hn⟩ : ∃ n, l.length = n := ⟨_, rfl⟩
  have HN := hid hn
  rw [hn] at hlen HPt ⊢
  clear hPb hPt hcall h0 hn
  go_enter Tryd.func39, Tryd.ntmps39
  go_wp2
  go_loopw [16] (fun u wr => ∃ i : Nat, u = .int .i64 (i : Int) ∧ i ≤ n ∧ Hid (P i wr)) (fun u _ => n - (intOf u).toNat)
  case atStart => exact ⟨0, rfl, Nat.zero_le _, H0⟩
  case round =>
    obtain ⟨i, rfl, hi, HP⟩ := hrel
    by_cases hlt : i < n
    · obtain ⟨⟨k, z⟩, hx⟩ : ∃ t, l[i]? = some t := ⟨_, List.getElem?_eq_getElem (by rw [HN.out]; exact hlt)⟩
      have q : TyS wr (.slice a l.length cp) l := by rw [HN.out]; exact HPt.out i wr HP.out
      obtain ⟨bb, oo, pp, e1, hbb, x0, x1⟩ := q.at hx
      obtain ⟨rfl, -, rfl⟩ := Value.slice.inj e1
      dsimp only at x0 x1
      have HX := hid hx
      have hli : (i : Int) < (n : Int) := by omega
      have hS0 : ∀ X j, P j X → X.cell? ⟨bb, oo + i * 2, none⟩ = some (.int .i64 k) ∧ X.cell? ⟨bb, oo + i * 2 + 1, none⟩ = some (.string z) := fun X j hP => by
        have q : TyS X (.slice (some ⟨bb, oo, none⟩) l.length cp) l := by rw [HN.out]; exact HPt.out j X hP
        obtain ⟨b2, o2, p2, e2, -, y0, y1⟩ := q.at hx
        obtain ⟨e3, -, -⟩ := Value.slice.inj e2
        obtain ⟨rfl, rfl, -⟩ := Addr.mk.inj (Option.some.inj e3)
        exact ⟨y0, y1⟩
      have HS0 := hid hS0
      have hba : Below wr.heap.size wr (wr.alloc (.cells #[.int .i64 k, .string z] 23)).drew := Below.drew ((Below.refl _ _).alloc (Nat.le_refl _) _)
      have HPd := hid (HPb.out i wr _ HP.out hba)
      have z0 : (wr.alloc (.cells #[.int .i64 k, .string z] 23)).cell? ⟨wr.heap.size, 0, none⟩ = some (.int .i64 k) := (BX.new wr _ _).cell 0
      have z1 : (wr.alloc (.cells #[.int .i64 k, .string z] 23)).cell? ⟨wr.heap.size, 1, none⟩ = some (.string z) := (BX.new wr _ _).cell 1
      clear hx q e1 hS0 hba
      go_upto_region 6 with fail
      refine wp_region_held_drew (S := fun X => X.cell? ⟨bb, oo + i * 2, none⟩ = some (.int .i64 k) ∧ X.cell? ⟨bb, oo + i * 2 + 1, none⟩ = some (.string z)) (by kernel_rfl) (HS0.out _ _ HPd.out) (fun hS => ?_)
      refine wpAnyH_take (i := 0) (v := ?_) rfl (by kernel_rfl) (by kernel_rfl) (by kernel_rfl) (fun _ _ _ h => h) (Or.inl ⟨by rfl, ?_⟩) hS ?_
      rotate_left
      · (intro wq hSw; (try dsimp only at hSw); go_simp; try with_reducible rfl)
      try simp only [Act.put, List.getElem_toArray, List.getElem_cons_zero, List.getElem_cons_succ, List.setIfInBounds_toArray, List.set_cons_zero, List.set_cons_succ]
      refine wpAnyH_take (i := 2) (v := ?_) rfl (by kernel_rfl) (by kernel_rfl) (by kernel_rfl) (fun _ _ _ h => h) (Or.inl ⟨by rfl, ?_⟩) hS ?_
      rotate_left
      · (intro wq hSw; (try dsimp only at hSw); go_simp; try with_reducible rfl)
      try simp only [Act.put, List.getElem_toArray, List.getElem_cons_zero, List.getElem_cons_succ, List.setIfInBounds_toArray, List.set_cons_zero, List.set_cons_succ]
      refine wpAnyH_take (i := 3) (v := ?_) rfl (by kernel_rfl) (by kernel_rfl) (by kernel_rfl) (fun _ _ _ h => h) (Or.inl ⟨by rfl, ?_⟩) hS ?_
      rotate_left
      · (intro wq hSw; (try dsimp only at hSw); go_simp; try with_reducible rfl)
      try simp only [Act.put, List.getElem_toArray, List.getElem_cons_zero, List.getElem_cons_succ, List.setIfInBounds_toArray, List.set_cons_zero, List.set_cons_succ]
      refine wpAnyH_take (i := 4) (v := ?_) rfl (by kernel_rfl) (by kernel_rfl) (by kernel_rfl) (fun _ _ _ h => h) (Or.inl ⟨by rfl, ?_⟩) hS ?_
      rotate_left
      · (intro wq hSw; (try dsimp only at hSw); go_simp; try with_reducible rfl)
      try simp only [Act.put, List.getElem_toArray, List.getElem_cons_zero, List.getElem_cons_succ, List.setIfInBounds_toArray, List.set_cons_zero, List.set_cons_succ]
      refine wpAnyH_take (i := 5) (v := ?_) rfl (by kernel_rfl) (by kernel_rfl) (by kernel_rfl) (fun _ _ _ h => h) (Or.inl ⟨by rfl, ?_⟩) hS ?_
      rotate_left
      · (intro wq hSw; (try dsimp only at hSw); go_simp; try with_reducible rfl)
      try simp only [Act.put, List.getElem_toArray, List.getElem_cons_zero, List.getElem_cons_succ, List.setIfInBounds_toArray, List.set_cons_zero, List.set_cons_succ]
      refine wpAnyH_ready (rs := [1]) (by kernel_rfl) (by simp) (AllReadyH.cons rfl (fun K hK => ?_) AllReadyH.nil)
      go_simp
      refine hK.out _ _ (HS0.out _ _ HPd.out) (fun hS => ?_)
      clear hK K
      try simp only [Act.put, List.getElem_toArray, List.getElem_cons_zero, List.getElem_cons_succ, List.setIfInBounds_toArray, List.set_cons_zero, List.set_cons_succ]
      refine wpAnyH_ready (rs := [6]) (by kernel_rfl) (by simp) (AllReadyH.cons rfl (fun K hK => ?_) AllReadyH.nil)
      go_simp
      go_at_call 37
      refine (HC.out i ⟨k, z⟩ _ HX.out HPd.out).mono ?_
      rintro e Y ⟨b, rfl, hP⟩
      have HP2 := hid hP
      clear hP
      try dsimp only
      refine hK.out _ _ (HS0.out _ _ HP2.out) (fun hS => ?_)
      clear hK K
      try simp only [Act.put, List.getElem_toArray, List.getElem_cons_zero, List.getElem_cons_succ, List.setIfInBounds_toArray, List.set_cons_zero, List.set_cons_succ]
      refine wpAnyH_take (i := 7) (v := ?_) rfl (by kernel_rfl) (by kernel_rfl) (by kernel_rfl) (fun _ _ _ h => h) (Or.inl ⟨by rfl, ?_⟩) hS ?_
      rotate_left
      · (intro wq hSw; (try dsimp only at hSw); go_simp; try with_reducible rfl)
      try simp only [Act.put, List.getElem_toArray, List.getElem_cons_zero, List.getElem_cons_succ, List.setIfInBounds_toArray, List.set_cons_zero, List.set_cons_succ]
      refine wpAnyH_done (by kernel_rfl) ?_ _
      cases b with
      | true =>
        go_wp2
        go_roundw
        case rel => exact ⟨i + 1, by go_num, by omega, HP2⟩
        case measure => simp [intOf]; omega
      | false =>
        go_wp2
        go_ret
        exact ⟨_, i + 1, rfl, by omega, HP2.out⟩
    · obtain rfl : i = n := by omega
      go_wp2
      go_ret
      exact ⟨_, i, rfl, Nat.le_refl _, HP.out⟩
theorem alike2_any {w : World} {v : Value} {l : List T} {c1 c2 : Value} (P : Nat → World → Prop) (hPb : ∀ i X Y, P i X → Below X.heap.size X Y → P i Y) (hPt : ∀ i X, P i X → TyS X v l)
    (hcall : ∀ i x X, l[i]? = some x → P i X → Calls Tryd.prog 38 #[tyA x, tyA x, c1, c2] X fun e Y => ∃ b, e = .returned (.bool b) ∧ P (i + 1) Y) (h0 : P 0 w) :
    Calls Tryd.prog 39 #[v, v, .func (.func 38) #[] #[c1, c2]] w fun e w' => ∃ b m, e = .returned (.bool b) ∧ m ≤ l.length ∧ P m w' := by
  have HPb := hid hPb
  have HPt := hid hPt
  have HC := hid hcall
  have H0 := hid h0
  obtain ⟨a, cp, rfl⟩ := Kit.IsS.len (hPt 0 w h0)
  have hlen := (hPt 0 w h0).2.1
  obtain ⟨n, hn⟩ : ∃ n, l.length = n := ⟨_, rfl⟩
  have HN := hid hn
  rw [hn] at hlen HPt ⊢
  clear hPb hPt hcall h0 hn
  go_enter Tryd.func39, Tryd.ntmps39
  go_wp2
  go_loopw [16] (fun u wr => ∃ i : Nat, u = .int .i64 (i : Int) ∧ i ≤ n ∧ Hid (P i wr)) (fun u _ => n - (intOf u).toNat)
  case atStart => exact ⟨0, rfl, Nat.zero_le _, H0⟩
  case round =>
    obtain ⟨i, rfl, hi, HP⟩ := hrel
    by_cases hlt : i < n
    · obtain ⟨⟨k, z⟩, hx⟩ : ∃ t, l[i]? = some t := ⟨_, List.getElem?_eq_getElem (by rw [HN.out]; exact hlt)⟩
      have q : TyS wr (.slice a l.length cp) l := by rw [HN.out]; exact HPt.out i wr HP.out
      obtain ⟨bb, oo, pp, e1, hbb, x0, x1⟩ := q.at hx
      obtain ⟨rfl, -, rfl⟩ := Value.slice.inj e1
      dsimp only at x0 x1
      have HX := hid hx
      have hli : (i : Int) < (n : Int) := by omega
      have hS0 : ∀ X j, P j X → X.cell? ⟨bb, oo + i * 2, none⟩ = some (.int .i64 k) ∧ X.cell? ⟨bb, oo + i * 2 + 1, none⟩ = some (.string z) := fun X j hP => by
        have q : TyS X (.slice (some ⟨bb, oo, none⟩) l.length cp) l := by rw [HN.out]; exact HPt.out j X hP
        obtain ⟨b2, o2, p2, e2, -, y0, y1⟩ := q.at hx
        obtain ⟨e3, -, -⟩ := Value.slice.inj e2
        obtain ⟨rfl, rfl, -⟩ := Addr.mk.inj (Option.some.inj e3)
        exact ⟨y0, y1⟩
      have HS0 := hid hS0
      have hba : Below wr.heap.size wr (wr.alloc (.cells #[.int .i64 k, .string z] 23)).drew := Below.drew ((Below.refl _ _).alloc (Nat.le_refl _) _)
      have HPd := hid (HPb.out i wr _ HP.out hba)
      have z0 : (wr.alloc (.cells #[.int .i64 k, .string z] 23)).cell? ⟨wr.heap.size, 0, none⟩ = some (.int .i64 k) := (BX.new wr _ _).cell 0
      have z1 : (wr.alloc (.cells #[.int .i64 k, .string z] 23)).cell? ⟨wr.heap.size, 1, none⟩ = some (.string z) := (BX.new wr _ _).cell 1
      clear hx q e1 hS0 hba
      go_upto_region 6 with fail
      refine wp_region_held_drew (S := fun X => X.cell? ⟨bb, oo + i * 2, none⟩ = some (.int .i64 k) ∧ X.cell? ⟨bb, oo + i * 2 + 1, none⟩ = some (.string z)) (by kernel_rfl) (HS0.out _ _ HPd.out) (fun hS => ?_)
      refine wpAnyH_take (i := 0) (v := ?_) rfl (by kernel_rfl) (by kernel_rfl) (by kernel_rfl) (fun _ _ _ h => h) (Or.inl ⟨by rfl, ?_⟩) hS ?_
      rotate_left
      · (intro wq hSw; (try dsimp only at hSw); go_simp; try with_reducible rfl)
      try simp only [Act.put, List.getElem_toArray, List.getElem_cons_zero, List.getElem_cons_succ, List.setIfInBounds_toArray, List.set_cons_zero, List.set_cons_succ]
      refine wpAnyH_take (i := 2) (v := ?_) rfl (by kernel_rfl) (by kernel_rfl) (by kernel_rfl) (fun _ _ _ h => h) (Or.inl ⟨by rfl, ?_⟩) hS ?_
      rotate_left
      · (intro wq hSw; (try dsimp only at hSw); go_simp; try with_reducible rfl)
      try simp only [Act.put, List.getElem_toArray, List.getElem_cons_zero, List.getElem_cons_succ, List.setIfInBounds_toArray, List.set_cons_zero, List.set_cons_succ]
      refine wpAnyH_take (i := 3) (v := ?_) rfl (by kernel_rfl) (by kernel_rfl) (by kernel_rfl) (fun _ _ _ h => h) (Or.inl ⟨by rfl, ?_⟩) hS ?_
      rotate_left
      · (intro wq hSw; (try dsimp only at hSw); go_simp; try with_reducible rfl)
      try simp only [Act.put, List.getElem_toArray, List.getElem_cons_zero, List.getElem_cons_succ, List.setIfInBounds_toArray, List.set_cons_zero, List.set_cons_succ]
      refine wpAnyH_take (i := 4) (v := ?_) rfl (by kernel_rfl) (by kernel_rfl) (by kernel_rfl) (fun _ _ _ h => h) (Or.inl ⟨by rfl, ?_⟩) hS ?_
      rotate_left
      · (intro wq hSw; (try dsimp only at hSw); go_simp; try with_reducible rfl)
      try simp only [Act.put, List.getElem_toArray, List.getElem_cons_zero, List.getElem_cons_succ, List.setIfInBounds_toArray, List.set_cons_zero, List.set_cons_succ]
      refine wpAnyH_take (i := 5) (v := ?_) rfl (by kernel_rfl) (by kernel_rfl) (by kernel_rfl) (fun _ _ _ h => h) (Or.inl ⟨by rfl, ?_⟩) hS ?_
      rotate_left
      · (intro wq hSw; (try dsimp only at hSw); go_simp; try with_reducible rfl)
      try simp only [Act.put, List.getElem_toArray, List.getElem_cons_zero, List.getElem_cons_succ, List.setIfInBounds_toArray, List.set_cons_zero, List.set_cons_succ]
      refine wpAnyH_ready (rs := [1]) (by kernel_rfl) (by simp) (AllReadyH.cons rfl (fun K hK => ?_) AllReadyH.nil)
      go_simp
      refine hK.out _ _ (HS0.out _ _ HPd.out) (fun hS => ?_)
      clear hK K
      try simp only [Act.put, List.getElem_toArray, List.getElem_cons_zero, List.getElem_cons_succ, List.setIfInBounds_toArray, List.set_cons_zero, List.set_cons_succ]
      refine wpAnyH_ready (rs := [6]) (by kernel_rfl) (by simp) (AllReadyH.cons rfl (fun K hK => ?_) AllReadyH.nil)
      go_simp
      go_at_call 38
      refine (HC.out i ⟨k, z⟩ _ HX.out HPd.out).mono ?_
      rintro e Y ⟨b, rfl, hP⟩
      have HP2 := hid hP
      clear hP
      try dsimp only
      refine hK.out _ _ (HS0.out _ _ HP2.out) (fun hS => ?_)
      clear hK K
      try simp only [Act.put, List.getElem_toArray, List.getElem_cons_zero, List.getElem_cons_succ, List.setIfInBounds_toArray, List.set_cons_zero, List.set_cons_succ]
      refine wpAnyH_take (i := 7) (v := ?_) rfl (by kernel_rfl) (by kernel_rfl) (by kernel_rfl) (fun _ _ _ h => h) (Or.inl ⟨by rfl, ?_⟩) hS ?_
      rotate_left
      · (intro wq hSw; (try dsimp only at hSw); go_simp; try with_reducible rfl)
      try simp only [Act.put, List.getElem_toArray, List.getElem_cons_zero, List.getElem_cons_succ, List.setIfInBounds_toArray, List.set_cons_zero, List.set_cons_succ]
      refine wpAnyH_done (by kernel_rfl) ?_ _
      cases b with
      | true =>
        go_wp2
        go_roundw
        case rel => exact ⟨i + 1, by go_num, by omega, HP2⟩
        case measure => simp [intOf]; omega
      | false =>
        go_wp2
        go_ret
        exact ⟨_, i + 1, rfl, by omega, HP2.out⟩
    · obtain rfl : i = n := by omega
      go_wp2
      go_ret
      exact ⟨_, i, rfl, Nat.le_refl _, HP.out⟩
end Go.Proofs.YtlbkhmfgbonelaaDoor
namespace Go.Proofs.YtlbkhmfgbonelaaDoor
open Go Go.RowKit
open Ty (bl mk br T)
theorem Rw.nil (w : World) (B : Nat) : Rw w B (.slice none 0 0) 0 := ⟨[], rfl, .inl ⟨rfl, rfl⟩⟩
/-- Where JoinAll stands in the locals. -/
def JaP (W5 : World) (sB i : Nat) (X : World) : Prop := Chg (fun q => q = sB ∨ W5.heap.size ≤ q) W5 X ∧ ∃ lv, BX X sB #[lv, .slice none 0 0] 43 ∧ Rw X W5.heap.size lv i
/-- Where JoinAll stands in the stack. -/
def JaQ (W5 : World) (sB i : Nat) (X : World) : Prop := Chg (fun q => q = sB ∨ W5.heap.size ≤ q) W5 X ∧ ∃ lv m sv, BX X sB #[lv, sv] 43 ∧ Rw X W5.heap.size sv i ∧ lv.oneCell' = true ∧ lv = .slice (m : Option Addr × Nat × Nat).1 m.2.1 m.2.2
theorem JaP.below {W5 X Y : World} {sB i : Nat} (h : JaP W5 sB i X) (hb : Below X.heap.size X Y) : JaP W5 sB i Y := by
  obtain ⟨h1, lv, h2, h3⟩ := h
  exact ⟨h1.below hb, lv, h2.below hb, h3.below hb⟩
theorem JaQ.below {W5 X Y : World} {sB i : Nat} (h : JaQ W5 sB i X) (hb : Below X.heap.size X Y) : JaQ W5 sB i Y := by
  obtain ⟨h1, lv, m, sv, h2, h3, h4⟩ := h
  exact ⟨h1.below hb, lv, m, sv, h2.below hb, h3.below hb, h4⟩
theorem chg_tys {w W5 X : World} {sB : Nat} {v : Value} {l : List T} (h : TyS w v l) (hb : Below w.heap.size w W5) (hs : w.heap.size ≤ sB) (hc : Chg (fun q => q = sB ∨ W5.heap.size ≤ q) W5 X) : TyS X v l :=
  h.below (hb.trans (hc.to_below (fun q e => by have := hb.size; omega) hb.size))
theorem chg_bel {w W5 X : World} {sB : Nat} (hb : Below w.heap.size w W5) (hs : w.heap.size ≤ sB) (hc : Chg (fun q => q = sB ∨ W5.heap.size ≤ q) W5 X) : Below w.heap.size w X := hb.trans (hc.to_below (fun q e => by have := hb.size; omega) hb.size)
set_option maxRecDepth 100000
set_option maxHeartbeats 2000000
theorem JoinAll_self {w : World} {v1 v2 : Value} {l1 l2 : List T} (h1 : TyS w v1 l1) (h2 : TyS w v2 l2) (n1 : ∀ x ∈ l1, x.n.size ≤ maxLen) (n2 : ∀ x ∈ l2, x.n.size ≤ maxLen) (b1 : l1.length * 24 ≤ 140737488355328) (b2 : l2.length * 24 ≤ 140737488355328) :
    Calls Tryd.prog 23 #[.pointer none, .agg #[v1, v2], .agg #[v1, v2]] w fun e w' => ∃ jl js b m, e = .returned (.tuple #[.agg #[jl, js], .bool b]) ∧ m ≤ l2.length ∧ Rw w' w.heap.size js m ∧ Below w.heap.size w w' ∧ ∃ a n c, jl = .slice a n c := by
  have H1 := hid h1
  have H2 := hid h2
  have N1 := hid n1
  have N2 := hid n2
  have B1 := hid b1
  have B2 := hid b2
  obtain ⟨a1, p1, rfl⟩ := Kit.IsS.len h1
  obtain ⟨a2, p2, rfl⟩ := Kit.IsS.len h2
  clear h1 h2 n1 n2 b1 b2
  go_enter Tryd.func23, Tryd.ntmps23
  go_upto_region 2 with fail
  refine region_named fun W5 hW => ?_
  have hb : Below w.heap.size w W5 := by rw [hW]; exact (by repeat' first | with_reducible exact Below.refl _ _ | with_reducible assumption | with_reducible refine belows_drewN ?_ _ | with_reducible refine Below.drew ?_ | with_reducible refine Below.setCell ?_ ?_ _ | with_reducible refine Below.alloc ?_ ?_ _ | omega | (simp; done) | (simp; omega))
  have hsz : W5.heap.size = w.heap.size + 5 := by rw [hW]; simp
  have z0 : BX W5 w.heap.size #[.pointer none] 35 := by
    rw [hW]
    exact (BX.new w _ _).below (by repeat' first | with_reducible exact Below.refl _ _ | with_reducible assumption | with_reducible refine belows_drewN ?_ _ | with_reducible refine Below.drew ?_ | with_reducible refine Below.setCell ?_ ?_ _ | with_reducible refine Below.alloc ?_ ?_ _ | omega | (simp; done) | (simp; omega))
  have z1 : BX W5 (w.heap.size + 1) #[.slice a1 l1.length p1, .slice a2 l2.length p2] 43 := by
    rw [hW]
    have := BX.new (w.alloc (.cells #[.pointer none] 35)) #[.slice a1 l1.length p1, .slice a2 l2.length p2] 43
    simp only [World.size_alloc] at this
    exact this.below (by repeat' first | with_reducible exact Below.refl _ _ | with_reducible assumption | with_reducible refine belows_drewN ?_ _ | with_reducible refine Below.drew ?_ | with_reducible refine Below.setCell ?_ ?_ _ | with_reducible refine Below.alloc ?_ ?_ _ | omega | (simp; done) | (simp; omega))
  have z2 : BX W5 (w.heap.size + 1 + 1) #[.slice a1 l1.length p1, .slice a2 l2.length p2] 43 := by
    rw [hW]
    have := BX.new ((w.alloc (.cells #[.pointer none] 35)).alloc (.cells #[.slice a1 l1.length p1, .slice a2 l2.length p2] 43)) #[.slice a1 l1.length p1, .slice a2 l2.length p2] 43
    simp only [World.size_alloc] at this
    exact this.below (by repeat' first | with_reducible exact Below.refl _ _ | with_reducible assumption | with_reducible refine belows_drewN ?_ _ | with_reducible refine Below.drew ?_ | with_reducible refine Below.setCell ?_ ?_ _ | with_reducible refine Below.alloc ?_ ?_ _ | omega | (simp; done) | (simp; omega))
  have z3 : BX W5 (w.heap.size + 1 + 1 + 1) #[.slice none 0 0, .slice none 0 0] 43 := by
    rw [hW]
    have := BX.new (((w.alloc (.cells #[.pointer none] 35)).alloc (.cells #[.slice a1 l1.length p1, .slice a2 l2.length p2] 43)).alloc (.cells #[.slice a1 l1.length p1, .slice a2 l2.length p2] 43)) #[.slice none 0 0, .slice none 0 0] 43
    simp only [World.size_alloc] at this
    exact this.below (by repeat' first | with_reducible exact Below.refl _ _ | with_reducible assumption | with_reducible refine belows_drewN ?_ _ | with_reducible refine Below.drew ?_ | with_reducible refine Below.setCell ?_ ?_ _ | with_reducible refine Below.alloc ?_ ?_ _ | omega | (simp; done) | (simp; omega))
  have z4 : BX W5 (w.heap.size + 1 + 1 + 1 + 1) #[.slice none 0 0, .slice none 0 0] 43 := by
    rw [hW]
    have := BX.new ((((w.alloc (.cells #[.pointer none] 35)).alloc (.cells #[.slice a1 l1.length p1, .slice a2 l2.length p2] 43)).alloc (.cells #[.slice a1 l1.length p1, .slice a2 l2.length p2] 43)).alloc (.cells #[.slice none 0 0, .slice none 0 0] 43)) #[.slice none 0 0, .slice none 0 0] 43
    simp only [World.size_alloc] at this
    exact this
  clear hW
  obtain ⟨s0, hs0⟩ : ∃ s, w.heap.size = s := ⟨_, rfl⟩
  have HS0 := hid hs0
  rw [hs0] at hb hsz z0 z1 z2 z3 z4 ⊢
  have hbw : Below w.heap.size w W5 := by rw [hs0]; exact hb
  obtain ⟨sB, hsB⟩ : ∃ s, s0 + 1 + 1 + 1 + 1 = s := ⟨_, rfl⟩
  rw [hsB] at z4 ⊢
  have hsB2 : w.heap.size ≤ sB := by omega
  have HP0 : Hid (JaP W5 sB 0 W5) := ⟨Chg.refl _ _, _, z4, Rw.nil _ _⟩
  have HA1 := hid (alike1_any (w := W5) (v := .slice a1 l1.length p1) (l := l1) (c1 := .pointer (some ⟨sB, 0, none⟩)) (c2 := .pointer (some ⟨s0, 0, none⟩)) (JaP W5 sB) (fun i X Y hP hb => hP.below hb) (fun i X hP => chg_tys H1.out hbw hsB2 hP.1)
    (fun i x X hx hP => by
      obtain ⟨hc, lv, q1, q2⟩ := hP
      have hi := (List.getElem?_eq_some_iff.1 hx).1
      have hb1 := B1.out
      refine (j1_any (N1.out x (List.mem_of_getElem? hx)) (z0.chg hc (by omega)) q1 q2 hc.size (by omega)).mono ?_
      rintro e Y ⟨rfl, lv', r1, r2, r3⟩
      exact ⟨true, rfl, hc.trans r3 (fun q e => .inl e), lv', r1, r2⟩) HP0.out)
  have HA2 := hid (fun (X1 : World) (hQ : JaQ W5 sB 0 X1) => alike2_any (w := X1) (v := .slice a2 l2.length p2) (l := l2) (c1 := .pointer (some ⟨s0, 0, none⟩)) (c2 := .pointer (some ⟨sB, 0, none⟩)) (JaQ W5 sB) (fun i X Y hP hb => hP.below hb) (fun i X hP => chg_tys H2.out hbw hsB2 hP.1)
    (fun i x X hx hP => by
      obtain ⟨hc, lv, m, sv, q1, q2, q3⟩ := hP
      have hi := (List.getElem?_eq_some_iff.1 hx).1
      have hb2 := B2.out
      refine (j2_any (N2.out x (List.mem_of_getElem? hx)) (z0.chg hc (by omega)) q1 q2 hc.size (by omega)).mono ?_
      rintro e Y ⟨b, rfl, sv', r1, r2, r3⟩
      exact ⟨b, rfl, hc.trans r3 (fun q e => .inl e), lv, m, sv', r1, r2, q3⟩) hQ)
  have HFx := hid (fun (X : World) (hc : Chg (fun q => q = sB ∨ W5.heap.size ≤ q) W5 X) => (⟨(z1.chg hc (by omega)).cell 1, (z2.chg hc (by omega)).cell 1, (z3.chg hc (by omega)).cell 0, (z3.chg hc (by omega)).cell 1, (z3.chg hc (by omega)).frozen 0, (z3.chg hc (by omega)).frozen 1, hc.size⟩ : X.cell? ⟨s0 + 1, 1, none⟩ = some (.slice a2 l2.length p2) ∧ X.cell? ⟨s0 + 1 + 1, 1, none⟩ = some (.slice a2 l2.length p2) ∧ X.cell? ⟨s0 + 1 + 1 + 1, 0, none⟩ = some (.slice none 0 0) ∧ X.cell? ⟨s0 + 1 + 1 + 1, 1, none⟩ = some (.slice none 0 0) ∧ X.frozen? ⟨s0 + 1 + 1 + 1, 0, none⟩ = false ∧ X.frozen? ⟨s0 + 1 + 1 + 1, 1, none⟩ = false ∧ W5.heap.size ≤ X.heap.size))
  have c0 : W5.cell? ⟨s0 + 1, 0, none⟩ = some (.slice a1 l1.length p1) := z1.cell 0
  have c1 : W5.cell? ⟨s0 + 1 + 1, 0, none⟩ = some (.slice a1 l1.length p1) := z2.cell 0
  have HBw := hid hbw
  have HSZ := hid hsz
  have HSB := hid hsB
  clear z0 z1 z2 z3 z4 hb hbw hs0 hsB hsB2
  go_upto_region 4 with fail
  go_wp2_with (first
    | ((fail_if_success (have _g := HQ1)); go_at_call 39; (with_reducible refine HA1.out.mono ?_); rintro e X1 ⟨t1, m1, rfl, hm1, hc1, lv, q1, q2⟩; obtain ⟨la, lc, rfl⟩ := q2.form; have HQ1 : Hid (JaQ W5 sB 0 X1) := ⟨hc1, _, (la, m1, lc), _, q1, Rw.nil _ _, rfl, rfl⟩; have HC1 := hid hc1; obtain ⟨d1, d2, d3, d4, d5, d6, d7⟩ := HFx.out X1 hc1; clear hc1 q1 q2 hm1 c0 c1; rcases t1 with _ | _)
    | (have _g := HQ1; go_at_call 39; (with_reducible refine (HA2.out _ HQ1.out).mono ?_); rintro e X2 ⟨t2, m2, rfl, hm2, hc2, lv2, ⟨ka, kn, kc⟩, sv, q1, q2, q3, q4⟩; dsimp only at q4; subst q4; obtain ⟨ta, tc, rfl⟩ := q2.form; have HR2 := hid q2; have HC2 := hid hc2; have HM2 := hid hm2; have k0 : X2.cell? ⟨sB, 0, none⟩ = some (.slice ka kn kc) := q1.cell 0; have k1 : X2.cell? ⟨sB, 1, none⟩ = some (.slice ta m2 tc) := q1.cell 1; clear d1 d2 d3 d4 d5 d6 d7; obtain ⟨d1, d2, d3, d4, d5, d6, d7⟩ := HFx.out X2 hc2; clear hc2 q1 q2 q3 hm2; rcases t2 with _ | _))
  · have hbl := chg_bel HBw.out (by have := HSB.out; have := HS0.out; omega) HC1.out
    have hs0 := HS0.out
    exact bodyPost_ret (v := .tuple #[.agg #[.slice none 0 0, .slice none 0 0], .bool false]) (by simp [results, Tryd.results23, go_sem, d3, d4]) rfl ⟨_, _, _, 0, rfl, Nat.zero_le _, Rw.nil _ _, (hbl.setCell (p := ⟨s0 + 1 + 1 + 1, 0, none⟩) (by show w.heap.size ≤ s0 + 1 + 1 + 1; omega) _).setCell (p := ⟨s0 + 1 + 1 + 1, 1, none⟩) (by show w.heap.size ≤ s0 + 1 + 1 + 1; omega) _, _, _, _, rfl⟩
  · have hbl := chg_bel HBw.out (by have := HSB.out; have := HS0.out; omega) HC2.out
    have hs0 := HS0.out
    exact bodyPost_ret (v := .tuple #[.agg #[.slice none 0 0, .slice none 0 0], .bool false]) (by simp [results, Tryd.results23, go_sem, d3, d4]) rfl ⟨_, _, _, 0, rfl, Nat.zero_le _, Rw.nil _ _, (hbl.setCell (p := ⟨s0 + 1 + 1 + 1, 0, none⟩) (by show w.heap.size ≤ s0 + 1 + 1 + 1; omega) _).setCell (p := ⟨s0 + 1 + 1 + 1, 1, none⟩) (by show w.heap.size ≤ s0 + 1 + 1 + 1; omega) _, _, _, _, rfl⟩
  · have hbl := chg_bel HBw.out (by have := HSB.out; have := HS0.out; omega) HC2.out
    have hs0 := HS0.out
    exact bodyPost_ret (v := .tuple #[.agg #[.slice ka kn kc, .slice ta m2 tc], .bool true]) (by simp [results, Tryd.results23, go_sem, d3, d4]) rfl ⟨_, _, _, m2, rfl, HM2.out, ((HR2.out.set _ 0 _).set _ 1 _).mono HBw.out.size, (hbl.setCell (p := ⟨s0 + 1 + 1 + 1, 0, none⟩) (by show w.heap.size ≤ s0 + 1 + 1 + 1; omega) _).setCell (p := ⟨s0 + 1 + 1 + 1, 1, none⟩) (by show w.heap.size ≤ s0 + 1 + 1 + 1; omega) _, _, _, _, rfl⟩
end Go.Proofs.YtlbkhmfgbonelaaDoor
namespace Go.Proofs.YtlbkhmfgbonelaaDoor
open Go Go.RowKit
open Ty (bl mk br T)
set_option maxRecDepth 100000
set_option maxHeartbeats 2000000
theorem both_yes {w : World} {lv : Value} {l : List Hi.Ln} (hl : Kit.IsS 2 w lv l.length (l.flatMap lnL)) (hs : ∀ x ∈ l, x.1.size ≤ maxLen ∧ x.2.size ≤ maxLen) (he : Hi.err l = 0) : Calls Tryd.prog 16 #[lv] w fun e w' =>
    ∃ H D rb, e = .returned (.tuple #[.pointer (some ⟨H.hb, 0, none⟩), .pointer (some ⟨rb, 0, none⟩), .bool true]) ∧ Below w.heap.size w w' ∧ HM w' w.heap.size H ∧ HOk H (Hi.sup (Hi.bl ++ l)) D ∧ H.names = Hi.nms (Hi.bl ++ l) ∧ H.nm = Hi.nmf (Hi.bl ++ l) ∧ H.n = 8 + l.length := by
  have H1 := hid (New_any hl hs)
  have H2 := hid (fun W (hW : Below w.heap.size w W) => rNew_any (hl.below hW (Nat.le_refl _)))
  unfold NewP at H1
  unfold RNewP at H2
  rw [he] at H1 H2
  clear hl hs he
  go_enter Tryd.func16, Tryd.ntmps16
  go_wp2_with (first | (go_at_call 30; go_loud (refine H1.out.mono ?_; rintro e w1 ⟨v1, rfl, hb1, -, h1⟩; obtain ⟨H, D, rfl, hm, ok, hn, hnm, hnf⟩ := h1 rfl; have HB1 := hid hb1; have HMM := hid hm; have HO := hid ok; have HNN := hid hnm; have HNF := hid hnf; have HNL := hid hn; clear hb1 h1 hm ok hnm hnf hn)) | (go_at_call 31; go_loud (refine (H2.out _ HB1.out).mono ?_; rintro e w2 ⟨v2, rfl, hb2, -, h2⟩; obtain ⟨rb, D2, rfl, -, -⟩ := h2 (by first | rfl | trivial); have HB2 := hid hb2; clear hb2 h2)))
  refine bodyPost_ret (v := .tuple #[.pointer (some ⟨H.hb, 0, none⟩), .pointer (some ⟨rb, 0, none⟩), .bool true]) (by simp [results, Tryd.results16, go_sem]) rfl ?_
  exact ⟨H, D, rb, rfl, belows HB1.out HB2.out HB1.out.size, HMM.out.below HB2.out, HO.out, HNN.out, HNF.out, HNL.out⟩
theorem live1_any (s : ByteArray) (w : World) : Calls Tryd.prog 29 #[.string s] w fun e w' => e = .returned (.agg #[.int .i64 4, .string s]) ∧ Below w.heap.size w w' := by
  go_enter Tryd.func29, Tryd.ntmps29
  go_wp2
  exact bodyPost_ret (v := .agg #[.int .i64 4, .string s]) (by simp [results, Tryd.results29, go_sem]) rfl ⟨rfl, (by repeat' first | with_reducible exact Below.refl _ _ | with_reducible assumption | with_reducible refine belows_drewN ?_ _ | with_reducible refine Below.drew ?_ | with_reducible refine Below.setCell ?_ ?_ _ | with_reducible refine Below.alloc ?_ ?_ _ | omega | (simp; done) | (simp; omega))⟩
/-- live's lines. -/
def lv3 : List Hi.Ln := [(⟨#[67]⟩, Hi.bO), (⟨#[65]⟩, ⟨#[67]⟩), (⟨#[66]⟩, ⟨#[67]⟩)]
def d3 : Nat → Nat := fun k => match k with | 0 => 0 | 1 => 1 | 8 => 1 | _ => 2
theorem tr3 : Hi.Tr 11 (Hi.sup (Hi.bl ++ lv3)) d3 := by
  refine ⟨by omega, fun k _ _ => Hi.sup_lt _ (by decide) k, rfl, fun k h1 hk => ?_⟩
  match k, h1, hk with
  | 1, _, _ | 2, _, _ | 3, _, _ | 4, _, _ | 5, _, _ | 6, _, _ | 7, _, _ | 8, _, _ | 9, _, _ | 10, _, _ => decide
theorem err3 : Hi.err lv3 = 0 := by
  refine err_ok (by decide) (by decide) (fun k x h1 hx => ?_) ⟨d3, tr3⟩
  have hk : k < 11 := (List.getElem?_eq_some_iff.1 hx).1
  match k, h1, hk with
  | 1, _, _ | 2, _, _ | 3, _, _ | 4, _, _ | 5, _, _ | 6, _, _ | 7, _, _ | 8, _, _ | 9, _, _ | 10, _, _ => cases hx; decide
theorem und3 {D : Nat → Nat} (t : Hi.Tr 11 (Hi.sup (Hi.bl ++ lv3)) D) {a b : Nat} (ha : a < 11) (hb : b < 11) : Hi.und (Hi.sup (Hi.bl ++ lv3)) D a b = Hi.und (Hi.sup (Hi.bl ++ lv3)) d3 a b := by
  have e1 := tr3.one t (d3 a) a ha rfl
  have e2 := tr3.one t (d3 b) b hb rfl
  unfold Hi.und
  rw [e1, e2]
theorem cm3 {D : Nat → Nat} (t : Hi.Tr 11 (Hi.sup (Hi.bl ++ lv3)) D) {a b : Nat} (ha : a < 11) (hb : b < 11) : Hi.cm (Hi.sup (Hi.bl ++ lv3)) D a b = Hi.cm (Hi.sup (Hi.bl ++ lv3)) d3 a b := by
  have e1 := tr3.one t (d3 a) a ha rfl
  have e2 := tr3.one t (d3 b) b hb rfl
  unfold Hi.cm
  rw [e1, e2]
def I3 (s : ByteArray) : Option Nat := Hi.idx s (Hi.nms (Hi.bl ++ lv3))
def tA : T := ⟨4, ⟨#[65]⟩⟩
def tB : T := ⟨4, ⟨#[66]⟩⟩
def tC : T := ⟨4, ⟨#[67]⟩⟩
def aA : T := ⟨4, ⟨#[91, 76, 65, 59]⟩⟩
def aB : T := ⟨4, ⟨#[91, 76, 66, 59]⟩⟩
theorem i3_A : I3 tA.n = some 9 := by decide
theorem i3_B : I3 tB.n = some 10 := by decide
theorem i3_C : I3 tC.n = some 8 := by decide
theorem i3_a : I3 aA.n = none := by decide
theorem i3_b : I3 aB.n = none := by decide
theorem e3_a : Ty.elP aA = tA := rfl
theorem e3_b : Ty.elP aB = tB := rfl
theorem v3_a : Ty.val I3 aA = true := by decide
theorem v3_b : Ty.val I3 aB = true := by decide
theorem fit3_1 (U : Nat → Nat → Bool) : Ty.Fit I3 U tA tC = U 9 8 := by
  have h1 : Ty.val I3 tA = true := by decide
  have h2 : Ty.val I3 tC = true := by decide
  have h3 : Ty.fit I3 U tA tC = U 9 8 := by
    unfold Ty.fit Ty.fitF
    rw [if_neg (by decide), if_neg (by decide), if_neg (by decide), if_pos (by decide)]
    unfold Ty.refF
    rw [i3_A, i3_C]
  unfold Ty.Fit
  rw [h1, h2, h3]; rfl
theorem fit3_2 (U : Nat → Nat → Bool) : Ty.Fit I3 U tC tA = U 8 9 := by
  have h1 : Ty.val I3 tA = true := by decide
  have h2 : Ty.val I3 tC = true := by decide
  have h3 : Ty.fit I3 U tC tA = U 8 9 := by
    unfold Ty.fit Ty.fitF
    rw [if_neg (by decide), if_neg (by decide), if_neg (by decide), if_pos (by decide)]
    unfold Ty.refF
    rw [i3_A, i3_C]
  unfold Ty.Fit
  rw [h1, h2, h3]; rfl
theorem live_any (w : World) : Calls Tryd.prog 11 #[] w fun e w' => e = .returned (.bool true) ∧ Below w.heap.size w w' := by
  have hl0 : Kit.IsS 2 (w.alloc (.cells (lv3.flatMap lnL).toArray 59)) (.slice (some ⟨w.heap.size, 0, none⟩) 3 3) lv3.length (lv3.flatMap lnL) :=
    ⟨rfl, by decide, .inr ⟨w.heap.size, 0, 3, rfl, by decide, by simp, fun i u hi => by rw [Nat.zero_add, BX.cell (BX.new w _ _)]; simpa using hi⟩⟩
  have HN := hid (both_yes hl0 (by intro x hx; have : x.1.size ≤ 100 ∧ x.2.size ≤ 100 := by revert x; decide
                                   unfold maxLen; omega) err3)
  clear hl0
  have hb0 : Below w.heap.size w (w.alloc (.cells (lv3.flatMap lnL).toArray 59)) := (Below.refl _ _).alloc (Nat.le_refl _) _
  have HB0 := hid hb0
  obtain ⟨W0, hW0⟩ : ∃ W0, W0 = w.alloc (.cells (lv3.flatMap lnL).toArray 59) := ⟨_, rfl⟩
  have HW0 := hid hW0
  rw [← hW0] at HN HB0
  clear hW0 hb0
  go_enter Tryd.func11, Tryd.ntmps11
  go_wp2_with fail
  change Calls _ _ _ (w.alloc (.cells (lv3.flatMap lnL).toArray 59)) _
  rw [← HW0.out]
  refine HN.out.mono ?_
  rintro e w1 ⟨H, D, rb, rfl, hb1, hm, ok, hnm, hnf, hn⟩
  have hB1 := belows HB0.out hb1 HB0.out.size
  have hq := hm.hq ok
  have hj := hm.hj ok
  have tr := ok.tr
  have hn11 : H.n = 11 := hn
  rw [hn11] at tr
  rw [hnm] at hq hj
  rw [hnf] at hj
  change HQ w1 _ I3 _ at hq
  change HJ w1 _ I3 _ _ at hj
  have hsA : tA.n.size ≤ maxLen := by unfold maxLen; decide
  have hsB : tB.n.size ≤ maxLen := by unfold maxLen; decide
  have hsC : tC.n.size ≤ maxLen := by unfold maxLen; decide
  have hsa : aA.n.size ≤ maxLen := by unfold maxLen; decide
  have hsb : aB.n.size ≤ maxLen := by unfold maxLen; decide
  have HF1 := hid (fun X hX => Fits_any hq hsA hsC X hX)
  have HF2 := hid (fun X hX => Fits_any hq hsC hsA X hX)
  rw [fit3_1, und3 tr (by omega) (by omega), show Hi.und (Hi.sup (Hi.bl ++ lv3)) d3 9 8 = true by decide] at HF1
  rw [fit3_2, und3 tr (by omega) (by omega), show Hi.und (Hi.sup (Hi.bl ++ lv3)) d3 8 9 = false by decide] at HF2
  have hcm : Hi.cm (Hi.sup (Hi.bl ++ lv3)) D 9 10 = 8 := by
    rw [cm3 tr (by omega) (by omega)]
    decide
  have HJC : ∀ X, Below w1.heap.size w1 X → Calls Tryd.prog 51 #[.pointer (some ⟨H.hb, 0, none⟩), tyA tA, tyA tB] X fun e w' => e = .returned (tyA tC) ∧ Below X.heap.size X w' := fun X hX => by
    have := joinC_any hj hsA hsB i3_A i3_B X hX
    rw [hcm, show Hi.nmf (Hi.bl ++ lv3) 8 = ⟨#[67]⟩ from rfl] at this
    exact this
  have HJ1 : ∀ X, Below w1.heap.size w1 X → Calls Tryd.prog 35 #[.pointer (some ⟨H.hb, 0, none⟩), tyA (Ty.elP aA), tyA (Ty.elP aB)] X fun e w' => e = .returned (tyA tC) ∧ Below X.heap.size X w' := fun X hX => by
    rw [e3_a, e3_b]
    exact join4_any (by decide) rfl rfl HJC X hX
  have HJ2 := hid (fun X hX => Join_any hj.find hsa hsb v3_a v3_b (fun X hX => join4_any (a := aA) (b := aB) (by decide) rfl rfl (fun X hX => joinA_any hj.find hsa hsb i3_a i3_b rfl rfl (by decide) HJ1 X hX) X hX) X hX)
  rw [show Ty.arP tC = ⟨4, ⟨#[91, 76, 67, 59]⟩⟩ from rfl] at HJ2
  have HT := hid (fun X => text_any tA X)
  rw [show Ty.tx tA = ⟨#[65]⟩ from rfl] at HT
  unfold tyA at HF1 HF2 HJ2 HT
  unfold tA tC at HF1 HF2
  unfold aA aB at HJ2
  unfold tA at HT
  dsimp only at HF1 HF2 HJ2 HT
  have HB1 := hid hB1
  obtain ⟨hb, hhb⟩ : ∃ hb, H.hb = hb := ⟨_, rfl⟩
  rw [hhb] at HF1 HF2 HJ2 ⊢
  have HB := hid (Below.refl w1.heap.size w1)
  clear hB1 hm ok hn hnm hnf hn11 tr hb1 hhb HN HB0 HW0 hq hj hsA hsB hsC hsa hsb hcm HJC HJ1
  go_wp2_with (first | (go_at_call 29; go_loud (refine (live1_any _ _).mono ?_; rintro e W ⟨rfl, hb⟩; have HB := hid (belows HB.out hb HB.out.size); clear hb)) | (go_at_call 19; go_loud (refine (HJ2.out _ HB.out).mono ?_; rintro e W ⟨rfl, hb⟩; have HB := hid (belows HB.out hb HB.out.size); clear hb)) | (go_at_call 18; (with_reducible refine (HF1.out _ HB.out).mono ?_); rintro e W ⟨rfl, hb⟩; have HB := hid (belows HB.out hb HB.out.size); clear hb) | (go_at_call 18; (with_reducible refine (HF2.out _ HB.out).mono ?_); rintro e W ⟨rfl, hb⟩; have HB := hid (belows HB.out hb HB.out.size); clear hb) | (go_at_call 12; go_loud (refine (HT.out _).mono ?_; rintro e W ⟨rfl, hb⟩; have HB := hid (belows HB.out hb HB.out.size); clear hb)))
  go_ret
  exact ⟨by simp, belows HB1.out HB.out HB1.out.size⟩
end Go.Proofs.YtlbkhmfgbonelaaDoor
