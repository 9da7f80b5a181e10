/- Contract of Find. -/
import Derived.Test.YtljbcclfafndmaaDoorDk
namespace Go.Proofs.YtljbcclfafndmaaDoor
open Go.RowKit

attribute [local go_sem] Oper.semAt_some

theorem bx_own {β : Type} (B : Nat) (C : Array Value) (t : TypeId) : Own (fun (_ : β) W => BX W B C t) := fun s X Y row hs hg hr =>
  (hg.block B hs.sz (fun e => by obtain ⟨o, ho, hc⟩ := hr B e.symm; rw [show X.heap[B]? = _ from hs] at ho; cases ho; cases hc)).trans hs
/-- Where Find's loop stands. -/
def FiJ {l : List Cp.C} (c : Cp.C) (hi : Nat) (w : World) (pre : List (Tx l)) (W : World) : Prop :=
  BX W w.heap.size (cC c) 46 ∧ Boxed W (w.heap.size + 1) 3 (.int .i64 0) ∧ Boxed W (w.heap.size + 1 + 1) 4 (.bool false) ∧ Hid (∀ x ∈ pre, ¬ (0 < x.1.1 ∧ x.1.2 = c)) ∧ Below w.heap.size w W ∧ hi ≤ W.heap.size
theorem FiJ.own {l : List Cp.C} {c : Cp.C} {hi n : Nat} {w : World} (hn : w.heap.size ≤ n) : OwnFrom n (FiJ (l := l) c hi w) := by
  rintro pre A B row ⟨h0, h1, h2, h3, h4, h5⟩ hg hr
  exact ⟨bx_own _ _ _ () A B row h0 hg (fun r e => (hr r e).2), boxed_own _ _ (fun _ : Unit => .int .i64 0) () A B row h1 hg (fun r e => (hr r e).2), boxed_own _ _ (fun _ : Unit => .bool false) () A B row h2 hg (fun r e => (hr r e).2), h3, h4.grown hg h4.size (fun k e => by have := (hr k e).1; omega), Nat.le_trans h5 hg.size⟩
/-- Where Find's loop stands when it stops. -/
def FiX {l : List Cp.C} (c : Cp.C) (w : World) (pre : List (Tx l)) (W : World) : Prop :=
  ∃ x p, Boxed W (w.heap.size + 1) 3 (.int .i64 (x.1.1 : Nat)) ∧ Boxed W (w.heap.size + 1 + 1) 4 (.bool true) ∧ pre = p ++ [x] ∧ 0 < x.1.1 ∧ x.1.2 = c ∧ (∀ y ∈ p, ¬ (0 < y.1.1 ∧ y.1.2 = c)) ∧ Below w.heap.size w W
theorem FiX.own {l : List Cp.C} {c : Cp.C} {n : Nat} {w : World} (hn : w.heap.size ≤ n) : OwnFrom n (FiX (l := l) c w) := by
  rintro pre A B row ⟨x, p, h1, h2, h3, h4, h5, h6, h7⟩ hg hr
  exact ⟨x, p, boxed_own _ _ (fun _ : Unit => .int .i64 (x.1.1 : Nat)) () A B row h1 hg (fun r e => (hr r e).2), boxed_own _ _ (fun _ : Unit => .bool true) () A B row h2 hg (fun r e => (hr r e).2), h3, h4, h5, h6, h7.grown hg h7.size (fun k e => by have := (hr k e).1; omega)⟩
theorem FiX.is {l : List Cp.C} {c : Cp.C} {w W : World} {k : Nat} (h : FiX c w (told l k) W) : ∃ r, FiIs l c r true ∧ Boxed W (w.heap.size + 1) 3 (.int .i64 (r : Nat)) ∧ Boxed W (w.heap.size + 1 + 1) 4 (.bool true) ∧ Below w.heap.size w W := by
  obtain ⟨x, p, h1, h2, h3, h4, h5, h6, h7⟩ := h
  obtain ⟨hp, -⟩ := told_last h3
  refine ⟨x.1.1, .inr ⟨rfl, h4, h5 ▸ x.2.2, h5 ▸ x.2.1, fun j hj hlt hc => ?_⟩, h1, h2, h7⟩
  have hm := told_mem hc (h5 ▸ x.2.2) hlt
  rw [← hp] at hm
  exact h6 _ hm ⟨hj, rfl⟩
theorem FiJ.no {l : List Cp.C} {c : Cp.C} (h : ∀ x ∈ told l l.length, ¬ (0 < x.1.1 ∧ x.1.2 = c)) : FiIs l c 0 false := by
  refine .inl ⟨rfl, rfl, fun j hj ht hc => ?_⟩
  have hlt : j < l.length := by rw [List.getElem?_eq_some_iff] at hc; exact hc.1
  exact h _ (told_mem hc ht hlt) ⟨hj, rfl⟩
theorem fi_snoc {l : List Cp.C} {c : Cp.C} {pre : List (Tx l)} {x : Tx l} (h : ∀ y ∈ pre, ¬ (0 < y.1.1 ∧ y.1.2 = c)) (hx : ¬ (0 < x.1.1 ∧ x.1.2 = c)) : ∀ y ∈ pre ++ [x], ¬ (0 < y.1.1 ∧ y.1.2 = c) := by
  intro y hy
  rcases List.mem_append.1 hy with hy | hy
  · exact h y hy
  · obtain rfl : y = x := by simpa using hy
    exact hx
set_option maxRecDepth 100000 in
set_option maxHeartbeats 4000000 in
theorem find_any (l : List Cp.C) (c : Cp.C) (v : Value) (w : World) (hv : Kit.IsS 5 w v l.length (l.flatMap cL)) (hn : l.length * 48 ≤ 140737488355328) :
    Calls Tryd.prog 27 #[v, .agg (cC c)] w (FiPost l c w) := by
  have HV := hid (fun W (h : Below w.heap.size w W) => hv.below h (Nat.le_refl _))
  obtain ⟨a, cap, hv2⟩ := hv.len
  subst hv2
  have hlen := hv.2.1
  clear hv
  refine (callsIn_wide (n := 5)).1 ?_
  refine callsIn_of_wp_marks Tryd.func27 rfl trivial ?_ rfl
  simp only [Tryd.ntmps27, List.size_toArray, List.length_cons, List.length_nil, Nat.reduceAdd, Nat.reduceSub, Array.replicate_succ, Array.replicate_zero, List.push_toArray, List.append_toArray, List.nil_append, List.cons_append]
  obtain ⟨t, s, n, ca, cb⟩ := c
  unfold cC
  dsimp only
  gi_wp2_with (refine ⟨trivial, ?_⟩; gi_at_call 39; refine (callsIn_wide.2 (all_any l _ _ (HV.out _ (by repeat' first | with_reducible exact Below.refl _ _ | with_reducible assumption | with_reducible refine belows_drewN ?_ _ | with_reducible refine Below.drew ?_ | with_reducible refine Below.setCell ?_ ?_ _ | with_reducible refine Below.alloc ?_ ?_ _ | omega | (simp; done) | (simp; omega))) hn)).mono ?_; rintro e w3 ⟨v3, rfl, hX, hb3, hz3⟩)
  obtain ⟨C, hC⟩ : ∃ C : Array Value, C = #[.int .i64 t, .string s, .int .i64 n, .int .i64 ca, .int .i64 cb] := ⟨_, rfl⟩
  have hCc : cC ⟨t, s, n, ca, cb⟩ = C := hC.symm
  rw [← hC] at hX hb3 hz3
  have hbA : Below (w.heap.size + 1) (w.alloc (.cells C 46)) w3 := belows (((Below.refl (w.heap.size + 1) (w.alloc (.cells C 46))).alloc (by simp) _).alloc (by simp) _) hb3 (by simp only [World.size_alloc]; omega)
  have bc : BX w3 w.heap.size C 46 := (BX.new w C 46).below hbA (by omega)
  have i1 : Boxed w3 (w.heap.size + 1) 3 (.int .i64 0) := (hb3.block (w.heap.size + 1) (by simp only [World.size_alloc]; omega)).trans (by have := (Boxed.new (w.alloc (.cells C 46)) 3 (.int .i64 0)).alloc (.cells #[.bool false] 4); rw [World.size_alloc] at this; exact this)
  have i2 : Boxed w3 (w.heap.size + 1 + 1) 4 (.bool false) := (hb3.block (w.heap.size + 1 + 1) (by simp only [World.size_alloc]; omega)).trans (by have := Boxed.new ((w.alloc (.cells C 46)).alloc (.cells #[.int .i64 0] 3)) 4 (.bool false); rw [World.size_alloc, World.size_alloc] at this; exact this)
  simp only [World.size_alloc] at hz3 hX
  have hB3 : Below w.heap.size w w3 := belows ((Below.refl _ w).alloc (Nat.le_refl _) (.cells C 46)) (by rw [World.size_alloc]; exact hbA) (by rw [World.size_alloc]; omega)
  have hkX : Hid (∀ X, Kp (w.heap.size + 1 + 1 + 1) w3.heap.size w3 X → Kit.IsS 5 X v3 l.length (l.flatMap cL) ∧ X.cell? ⟨w.heap.size + 1 + 1 + 1, 0, none⟩ = some v3) := hX
  have hB3z := hB3.size
  clear hX hb3 hbA
  refine wpIn_rangeFunc_ownH rfl (by omega) (gf := 54) (lb := #[.pointer (some ⟨w.heap.size + 1 + 1 + 1, 0, none⟩)]) rfl trivial (enters_of Tryd.func54 (by kernel_rfl) rfl)
    (all1_stops l v3 (w.heap.size + 1 + 1 + 1) (w.heap.size + 1 + 1 + 1) (5 - 1) w3 (by omega) hkX.out) (fun h k => Kp.trans h k) (Kp.putObj (Nat.le_refl _)) (Below.refl _ _) (fun _ => rfl)
    (FiJ ⟨t, s, n, ca, cb⟩ w3.heap.size w) (fun c' pre W => c' = .ret ∧ FiX ⟨t, s, n, ca, cb⟩ w pre W) (FiJ.own hB3.size) (fun c' pre A B row h hg hr => ⟨h.1, FiX.own hB3.size pre A B row h.2 hg hr⟩)
    ⟨hCc ▸ bc, i1, i2, hid (fun x hx => by cases hx), hB3, Nat.le_refl _⟩
    (fun x a' W => ∃ Bx, w3.heap.size ≤ Bx ∧ BX W Bx (cC x.1.2) 46 ∧ a' = { tmps := #[.slice a l.length cap, .agg #[.int .i64 t, .string s, .int .i64 n, .int .i64 ca, .int .i64 cb], undef, .pointer (some ⟨w.heap.size, 0, none⟩), .pointer (some ⟨w.heap.size + 1, 0, none⟩), .pointer (some ⟨w.heap.size + 1 + 1, 0, none⟩), .int .i64 (x.1.1 : Int), .pointer (some ⟨Bx, 0, none⟩), .slice a l.length cap, .func (.func 54) #[] #[.pointer (some ⟨w.heap.size + 1 + 1 + 1, 0, none⟩)], .int .i64 (x.1.1 : Int), .agg (cC x.1.2), undef, undef, undef, undef, undef, undef, undef, undef], defers := [] })
    (fun x a' => Own.from (fun s A B row hs hg hr => by
      obtain ⟨Bx, h1, h2, h3⟩ := hs
      exact ⟨Bx, h1, bx_own _ _ _ s A B row h2 hg hr, h3⟩) _) ?assign ?body ?done ?stop
  case assign =>
    rintro D pre ⟨⟨k, xt, xs, xn, xa, xb⟩, hx⟩ W K hI hK
    unfold entE cC
    gi_wp2
    exact hK _ _ ((KeepsOthers.alloc _ _).from _) ((Kp.refl _ _ W).below ((Below.refl W.heap.size W).alloc (Nat.le_refl _) _) (by obtain ⟨-, -, -, -, -, h⟩ := hI; exact h)) ((FiJ.own hB3.size).alloc _ hI) ⟨W.heap.size, (by obtain ⟨-, -, -, -, -, h⟩ := hI; exact h), BX.new W _ _, rfl⟩
  case body =>
    rintro D pre ⟨⟨k, xt, xs, xn, xa, xb⟩, hx⟩ a' W hl ⟨r, hr⟩ ⟨bC, i1, i2, hp, hB, hh⟩ ⟨Bx, hBx, bX, rfl⟩ hlt
    have x0 := bX.cell 0
    have x1 := bX.cell 1
    have x2 := bX.cell 2
    have x3 := bX.cell 3
    have x4 := bX.cell 4
    rw [hCc, hC] at bC
    have c0 := bC.cell 0
    have c1 := bC.cell 1
    have c2 := bC.cell 2
    have c3 := bC.cell 3
    have c4 := bC.cell 4
    have b1 := i1.cell
    have b2 := i2.cell
    have f1 := i1.frozen
    have f2 := i2.frozen
    unfold cC at x0 x1 x2 x3 x4 ⊢
    simp at x0 x1 x2 x3 x4 c0 c1 c2 c3 c4
    dsimp only
    have HS := hid (fun h => fi_snoc (c := ⟨t, s, n, ca, cb⟩) (x := ⟨(k, ⟨xt, xs, xn, xa, xb⟩), hx⟩) hp.out h)
    have HbC := hid bC
    have bXs := bX.sz
    clear hr bC bX
    by_cases hk0 : 0 < k
    · have hd : decide ((0 : Int) < k) = true := by simp; omega
      by_cases hxc : (⟨xt, xs, xn, xa, xb⟩ : Cp.C) = ⟨t, s, n, ca, cb⟩
      · obtain ⟨rfl, rfl, rfl, rfl, rfl⟩ := Cp.C.mk.inj hxc
        clear hxc
        gi_wp2
        exact ⟨((KeepsOthers.setCell _ _ _).trans (KeepsOthers.setCell _ _ _)).from _, rfl, ⟨(k, ⟨xt, xs, xn, xa, xb⟩), hx⟩, pre, (i1.set _).other (by omega) _, (i2.other (by omega) _).set _, rfl, hk0, rfl, hp.out, (by repeat' first | with_reducible exact Below.refl _ _ | with_reducible assumption | with_reducible refine belows_drewN ?_ _ | with_reducible refine Below.drew ?_ | with_reducible refine Below.setCell ?_ ?_ _ | with_reducible refine Below.alloc ?_ ?_ _ | omega | (simp; done) | (simp; omega))⟩
      · have HN := hid (HS.out (fun e => hxc e.2))
        have hne := c_ne hxc
        dsimp only at hne
        clear hxc
        rcases hne with h | ⟨rfl, h⟩ | ⟨rfl, rfl, h⟩ | ⟨rfl, rfl, rfl, h⟩ | ⟨rfl, rfl, rfl, rfl, h⟩
        all_goals gi_wp2
        all_goals exact ⟨(KeepsOthers.refl _).from _, Kp.refl _ _ _, HbC.out, i1, i2, HN, hB, hh⟩
    · have HN := hid (HS.out (fun e => hk0 e.1))
      have hd : decide ((0 : Int) < k) = false := by simp; omega
      gi_wp2
      exact ⟨(KeepsOthers.refl _).from _, Kp.refl _ _ _, HbC.out, i1, i2, HN, hB, hh⟩
  case done =>
    rintro D ys W hD rfl ⟨bC, i1, i2, hp, hB, hh⟩ hK
    have HF := hid (FiJ.no hp.out)
    have b1 := i1.cell
    have b2 := i2.cell
    have f1 := i1.frozen
    have f2 := i2.frozen
    gi_wp2
    have hK' := ((KeepsOthers.setCell W ⟨w.heap.size + 1, 0, none⟩ (.int .i64 0)).trans (KeepsOthers.setCell _ ⟨w.heap.size + 1 + 1, 0, none⟩ (.bool false))).same D _ hK rfl
    refine ⟨by simp, .inl ⟨_, _, rfl, run_takeDeferred hK', ?_⟩⟩
    have j1 : Boxed ((W.setCell ⟨w.heap.size + 1, 0, none⟩ (.int .i64 0)).setCell ⟨w.heap.size + 1 + 1, 0, none⟩ (.bool false)) (w.heap.size + 1) 3 (.int .i64 0) := (i1.set _).other (by omega) _
    have j2 : Boxed ((W.setCell ⟨w.heap.size + 1, 0, none⟩ (.int .i64 0)).setCell ⟨w.heap.size + 1 + 1, 0, none⟩ (.bool false)) (w.heap.size + 1 + 1) 4 (.bool false) := (i2.other (by omega) _).set _
    have hc1 := cell_kept j1.cell (grownBy_putObj' _ D (.deferred none)) (fun r e => by cases e; exact ⟨_, hK', rfl⟩)
    have hc2 := cell_kept j2.cell (grownBy_putObj' _ D (.deferred none)) (fun r e => by cases e; exact ⟨_, hK', rfl⟩)
    have hBB : Below w.heap.size w ((W.setCell ⟨w.heap.size + 1, 0, none⟩ (.int .i64 0)).setCell ⟨w.heap.size + 1 + 1, 0, none⟩ (.bool false)) := (by repeat' first | with_reducible exact Below.refl _ _ | with_reducible assumption | with_reducible refine belows_drewN ?_ _ | with_reducible refine Below.drew ?_ | with_reducible refine Below.setCell ?_ ?_ _ | with_reducible refine Below.alloc ?_ ?_ _ | omega | (simp; done) | (simp; omega))
    refine ⟨.tuple #[.int .i64 0, .bool false], ?_, 0, false, HF.out, rfl, hBB.trans (belowK_b (w := w) (Nat.le_refl _) _ D _ _ (by omega) hK' rfl rfl)⟩
    simp [results, Tryd.f27, go_sem, hc1, hc2]
  case stop =>
    rintro D c' pre W hD ⟨k, hk, rfl⟩ ⟨rfl, hX⟩ hK
    obtain ⟨r, hF, i1, i2, hB⟩ := hX.is
    have HF := hid hF
    clear hF hX
    gi_wp2
    refine ⟨by simp, .inl ⟨_, _, rfl, run_takeDeferred hK, ?_⟩⟩
    have hc1 := cell_kept i1.cell (grownBy_putObj' _ D (.deferred none)) (fun r e => by cases e; exact ⟨_, hK, rfl⟩)
    have hc2 := cell_kept i2.cell (grownBy_putObj' _ D (.deferred none)) (fun r e => by cases e; exact ⟨_, hK, rfl⟩)
    refine ⟨.tuple #[.int .i64 r, .bool true], ?_, r, true, HF.out, rfl, hB.trans (belowK_b (w := w) (Nat.le_refl _) _ D _ _ (by omega) hK rfl rfl)⟩
    simp [results, Tryd.f27, go_sem, hc1, hc2]
end Go.Proofs.YtljbcclfafndmaaDoor
