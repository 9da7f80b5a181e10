/- CfgNone is true for every number, without a condition. -/
import Derived.Test.YtagofabhblbodaaZA5
import Derived.ProofKit
import Derived.OpenShut
import Derived.Test.YtagofabhblbodaaRows
import Derived.Deep.DeepHandedRow
import Derived.Lib.LaidTab
namespace Go.Proofs.Ytagofabhblbodaa
open Go Go.RowKit
open Kit (natVals)
attribute [local go_sem] Oper.semAt_some
theorem Ks.set {S : Nat → Prop} {A B : World} {b : Nat} (h : Ks S A B) (hp : ¬ S b) (u : Value) : Ks S A (B.setCell ⟨b, 0, none⟩ u) :=
  h.trans ⟨(grownBy_setCell' B b u).size, fun i hi => Below.heap_setCell _ _ _ i (fun e => hp (by have e2 : i = b := e; rw [← e2]; exact hi))⟩
/-- Where the law's loop stands. -/
def TeJ {l : List Nat} (v : Value) (stop : Int) (hi : Nat) (w : World) (pre : List (Tx l)) (W : World) : Prop :=
  Boxed W w.heap.size 34 v ∧ Boxed W (w.heap.size + 1) 3 (.int .i64 stop) ∧ Boxed W (w.heap.size + 1 + 1) 4 (.bool false) ∧ Boxed W (w.heap.size + 1 + 1 + 1) 3 (.int .i64 (pre.length : Nat)) ∧ Below w.heap.size w W ∧ hi ≤ W.heap.size
theorem TeJ.own {l : List Nat} {v : Value} {stop : Int} {hi n : Nat} {w : World} (hn : w.heap.size ≤ n) : OwnFrom n (TeJ (l := l) v stop hi w) := by
  rintro pre A B row ⟨h0, h1, h2, h3, h5, h6⟩ hg hr
  exact ⟨boxed_own _ _ (fun _ : Unit => v) () A B row h0 hg (fun r e => (hr r e).2), boxed_own _ _ (fun _ : Unit => .int .i64 stop) () A B row h1 hg (fun r e => (hr r e).2), boxed_own _ _ (fun _ : Unit => .bool false) () A B row h2 hg (fun r e => (hr r e).2), boxed_own _ _ (fun _ : Unit => .int .i64 (pre.length : Nat)) () A B row h3 hg (fun r e => (hr r e).2), h5.grown hg h5.size (fun k e => by have := (hr k e).1; omega), Nat.le_trans h6 hg.size⟩
/-- Where it stands when it stops. -/
def TeX {l : List Nat} (w : World) (pre : List (Tx l)) (W : World) : Prop :=
  Hid (∃ b : Bool, Boxed W (w.heap.size + 1 + 1) 4 (.bool b) ∧ (b = false → ∃ p x, pre = p ++ [x] ∧ x.1.1 ≠ p.length)) ∧ Below w.heap.size w W
theorem TeX.own {l : List Nat} {n : Nat} {w : World} (hn : w.heap.size ≤ n) : OwnFrom n (TeX (l := l) w) := by
  rintro pre A B row ⟨⟨b, h1, h2⟩, h7⟩ hg hr
  exact ⟨⟨b, boxed_own _ _ (fun _ : Unit => .bool b) () A B row h1 hg (fun r e => (hr r e).2), h2⟩, h7.grown hg h7.size (fun k e => by have := (hr k e).1; omega)⟩
theorem TeX.is {l : List Nat} {w W : World} {k : Nat} (hk : k ≤ l.length) (h : TeX w (told l k) W) : Boxed W (w.heap.size + 1 + 1) 4 (.bool true) ∧ Below w.heap.size w W := by
  obtain ⟨⟨b, h1, h2⟩, h7⟩ := h
  refine ⟨?_, h7⟩
  cases b with
  | true => exact h1
  | false =>
    obtain ⟨p, x, h3, h4⟩ := h2 rfl
    exact absurd (told_last hk h3) h4
set_option maxRecDepth 100000 in
set_option maxHeartbeats 4000000 in
theorem tells_any (l : List Nat) (ov v : Value) (stop : Int) (Bs : Nat) (w : World) (hit : ∀ X, Ks (fun k => k < w.heap.size) w X → Kit.IsS 1 X ov l.length (natVals l) ∧ X.cell? ⟨Bs, 0, none⟩ = some ov) (hv : Kit.IsS 1 w v l.length (natVals l)) (hn : l.length ≤ 1000) :
    Calls Try.prog 15 #[.func (.func 34) #[] #[.pointer (some ⟨Bs, 0, none⟩)], v, .int .i64 stop] w fun e w' => e = .returned (.bool true) ∧ Below w.heap.size w w' := by
  have HV := hid (fun W (h : Below w.heap.size w W) => hv.below h (Nat.le_refl _))
  obtain ⟨a, cap, hv2⟩ := hv.len
  subst hv2
  have hlen := hv.2.1
  have HIT := hid hit
  clear hv hit
  refine (callsIn_wide (n := 5)).1 ?_
  refine callsIn_of_wp_marks Try.func15 rfl trivial ?_ rfl
  simp only [Try.ntmps15, List.size_toArray, List.length_cons, List.length_nil, Nat.reduceAdd, Nat.reduceSub, Array.replicate_succ, Array.replicate_zero, List.push_toArray, List.append_toArray, List.nil_append, List.cons_append]
  gi_wp2
  have b0 := (((Boxed.new w 34 (.slice a l.length cap)).alloc (.cells #[.int .i64 stop] 3)).alloc (.cells #[.bool false] 4)).alloc (.cells #[.int .i64 0] 3)
  have b1 := ((Boxed.new (w.alloc (.cells #[.slice a l.length cap] 34)) 3 (.int .i64 stop)).alloc (.cells #[.bool false] 4)).alloc (.cells #[.int .i64 0] 3)
  have b2 := (Boxed.new ((w.alloc (.cells #[.slice a l.length cap] 34)).alloc (.cells #[.int .i64 stop] 3)) 4 (.bool false)).alloc (.cells #[.int .i64 0] 3)
  have b3 := Boxed.new (((w.alloc (.cells #[.slice a l.length cap] 34)).alloc (.cells #[.int .i64 stop] 3)).alloc (.cells #[.bool false] 4)) 3 (.int .i64 0)
  simp only [World.size_alloc] at b0 b1 b2 b3
  have hB0 : Below w.heap.size w ((((w.alloc (.cells #[.slice a l.length cap] 34)).alloc (.cells #[.int .i64 stop] 3)).alloc (.cells #[.bool false] 4)).alloc (.cells #[.int .i64 0] 3)) := ((((Below.refl _ w).alloc (Nat.le_refl _) (.cells #[.slice a l.length cap] 34)).alloc (by simp only [World.size_alloc]; omega) (.cells #[.int .i64 stop] 3)).alloc (by simp only [World.size_alloc]; omega) (.cells #[.bool false] 4)).alloc (by simp only [World.size_alloc]; omega) (.cells #[.int .i64 0] 3)
  have hsz : ((((w.alloc (.cells #[.slice a l.length cap] 34)).alloc (.cells #[.int .i64 stop] 3)).alloc (.cells #[.bool false] 4)).alloc (.cells #[.int .i64 0] 3)).heap.size = w.heap.size + 4 := by simp only [World.size_alloc]
  obtain ⟨w3, hw3⟩ : ∃ w3, ((((w.alloc (.cells #[.slice a l.length cap] 34)).alloc (.cells #[.int .i64 stop] 3)).alloc (.cells #[.bool false] 4)).alloc (.cells #[.int .i64 0] 3)) = w3 := ⟨_, rfl⟩
  rw [hw3] at b0 b1 b2 b3 hB0 hsz ⊢
  clear hw3
  have hkX : Hid (∀ X, Ks (fun k => k < w.heap.size) w3 X → Kit.IsS 1 X ov l.length (natVals l) ∧ X.cell? ⟨Bs, 0, none⟩ = some ov) := fun X hX => HIT.out X ⟨Nat.le_trans hB0.size hX.1, fun k h2 => (hX.2 k h2).trans (hB0.block k h2)⟩
  have hB3z := hB0.size
  have hkp0 : Ks (fun k => k < w.heap.size) w3 w3 := Ks.refl _ _
  refine wpIn_rangeFunc_ownH rfl (by omega) (gf := 34) (lb := #[.pointer (some ⟨Bs, 0, none⟩)]) rfl trivial (enters_of Try.func34 (by kernel_rfl) rfl)
    (order1_stops l ov (fun k => k < w.heap.size) Bs (5 - 1) w3 (by omega) (fun k h => by omega) hkX.out) (fun h k => Ks.trans h k) (Ks.putObj (fun k h => by omega)) (Below.refl _ _) (fun _ => rfl)
    (TeJ (.slice a l.length cap) stop w3.heap.size w) (fun c' pre W => c' = .ret ∧ TeX w pre W) (TeJ.own hB0.size) (fun c' pre A B row h hg hr => ⟨h.1, TeX.own hB0.size pre A B row h.2 hg hr⟩)
    ⟨b0, b1, b2, b3, hB0, Nat.le_refl _⟩
    (fun x a' W => a' = { tmps := #[.func (.func 34) #[] #[.pointer (some ⟨Bs, 0, none⟩)], .slice a l.length cap, .int .i64 stop, undef, .pointer (some ⟨w.heap.size, 0, none⟩), .pointer (some ⟨w.heap.size + 1, 0, none⟩), .pointer (some ⟨w.heap.size + 1 + 1, 0, none⟩), .pointer (some ⟨w.heap.size + 1 + 1 + 1, 0, none⟩), .int .i64 (x.1.2 : Int), .func (.func 34) #[] #[.pointer (some ⟨Bs, 0, none⟩)], .int .i64 (x.1.2 : Int), undef, undef, undef, undef, undef, undef, undef, undef, undef, undef, undef, undef, undef, undef, undef, undef, undef, undef, undef, undef, undef], defers := [] })
    (fun x a' => Own.from (fun s A B row hs hg hr => hs) _) ?assign ?body ?done ?stop
  case assign =>
    rintro D pre ⟨⟨k, c⟩, hx⟩ W K hI hK
    unfold entE
    gi_wp2
    exact hK _ _ ((⟨Nat.le_refl _, fun _ _ h _ => h⟩ : KeepsOthers W W).from _) (Ks.refl _ W) hI rfl
  case body =>
    rintro D pre ⟨⟨k, c⟩, hx⟩ a' W hl ⟨r, hr⟩ ⟨i0, i1, i2, i3, hB, hh⟩ rfl hlt
    have c0 := i0.cell
    have c1 := i1.cell
    have c2 := i2.cell
    have c3 := i3.cell
    have f2 := i2.frozen
    have f3 := i3.frozen
    have HW := hid (HV.out W hB)
    have hkl : k < l.length := (List.getElem?_eq_some_iff.1 hx).1
    have hpl : IntKind.i64.wrap ((pre.length : Int) + 1) = (pre.length : Int) + 1 := IntWalk.i64_in _ (by omega)
    dsimp only
    have hhz := hB.size
    by_cases hC : l[pre.length]? = some c
    · have hlp := (List.getElem?_eq_some_iff.1 hC).1
      obtain ⟨b, o, cap', hv, -, hbb, hcs⟩ := HW.out.some (by omega)
      obtain ⟨rfl, -, rfl⟩ := Value.slice.inj hv
      have d0 := hcs pre.length _ (Kit.natVals_at hC)
      have hge : decide (l.length ≤ pre.length) = false := by simp; omega
      have hge2 : ¬ ((l.length : Int) ≤ (pre.length : Int)) := by omega
      have hge3 : (pre.length : Int) < (l.length : Int) := by omega
      clear hcs hv hC hlen
      gi_wp2
      · exact ⟨((KeepsOthers.setCell _ _ _).trans (KeepsOthers.setCell _ _ _)).from _, rfl, ⟨true, (i2.other (by omega) _).set _, fun h => by cases h⟩, (by repeat' first | with_reducible exact hB | with_reducible exact Below.refl _ _ | with_reducible refine belows_drewN ?_ _ | with_reducible refine Below.drew ?_ | with_reducible refine Below.setCell ?_ ?_ _ | omega | (simp; omega))⟩
      · have el : (.int .i64 ((pre.length : Int) + 1) : Value) = .int .i64 (((pre ++ [(⟨(k, c), hx⟩ : Tx l)]).length : Nat) : Int) := by simp
        exact ⟨(KeepsOthers.setCell _ _ _).from _, (Ks.refl (fun k => k < w.heap.size) W).set (by omega) _, i0.other (by omega) _, i1.other (by omega) _, i2.other (by omega) _, by rw [← el]; exact i3.set _, (by repeat' first | with_reducible exact hB | with_reducible exact Below.refl _ _ | with_reducible refine belows_drewN ?_ _ | with_reducible refine Below.drew ?_ | with_reducible refine Below.setCell ?_ ?_ _ | omega | (simp; omega)), by simp only [World.size_setCell]; omega⟩
    · have hne : k ≠ pre.length := by rintro rfl; exact hC hx
      have HNe := hid hne
      by_cases hlp : l.length ≤ pre.length
      · have hge : decide (l.length ≤ pre.length) = true := by simpa using hlp
        have HX := hid hx
        have hge2 : ((l.length : Int) ≤ (pre.length : Int)) := by omega
        clear hC hne hlen hlp hge hlt hkl hpl HX
        gi_wp2
        exact ⟨(KeepsOthers.setCell _ _ _).from _, rfl, ⟨false, i2.set _, fun _ => ⟨pre, _, rfl, HNe.out⟩⟩, (by repeat' first | with_reducible exact hB | with_reducible exact Below.refl _ _ | with_reducible refine belows_drewN ?_ _ | with_reducible refine Below.drew ?_ | with_reducible refine Below.setCell ?_ ?_ _ | omega | (simp; omega))⟩
      · obtain ⟨y, hy⟩ : ∃ y, l[pre.length]? = some y := ⟨_, List.getElem?_eq_getElem (by omega)⟩
        have hyc : ¬ ((c : Int) = (y : Int)) := by
          intro e
          apply hC
          rw [hy]
          congr 1
          omega
        obtain ⟨b, o, cap', hv, -, hbb, hcs⟩ := HW.out.some (by omega)
        obtain ⟨rfl, -, rfl⟩ := Value.slice.inj hv
        have d0 := hcs pre.length _ (Kit.natVals_at hy)
        have hge : decide (l.length ≤ pre.length) = false := by simp; omega
        have hge2 : ¬ ((l.length : Int) ≤ (pre.length : Int)) := by omega
        have hge3 : (pre.length : Int) < (l.length : Int) := by omega
        clear hcs hv hC hlen hne hy
        gi_wp2
        exact ⟨(KeepsOthers.setCell _ _ _).from _, rfl, ⟨false, i2.set _, fun _ => ⟨pre, _, rfl, HNe.out⟩⟩, (by repeat' first | with_reducible exact hB | with_reducible exact Below.refl _ _ | with_reducible refine belows_drewN ?_ _ | with_reducible refine Below.drew ?_ | with_reducible refine Below.setCell ?_ ?_ _ | omega | (simp; omega))⟩
  case done =>
    rintro D ys W hD rfl ⟨i0, i1, i2, i3, hB, hh⟩ hK
    have c0 := i0.cell
    have c2 := i2.cell
    have c3 := i3.cell
    have f2 := i2.frozen
    rw [told_len l l.length (Nat.le_refl _)] at c3
    have hd : ((l.length : Int) == (l.length : Int)) = true := by simp
    gi_wp2
    have hK' := (KeepsOthers.setCell W ⟨w.heap.size + 1 + 1, 0, none⟩ (.bool true)).same D _ hK rfl
    refine ⟨by simp, .inl ⟨_, _, rfl, run_takeDeferred hK', ?_⟩⟩
    have hc5 := cell_kept (World.cell?_setCell_same' W ⟨w.heap.size + 1 + 1, 0, none⟩ (.bool true) (by rw [c2]; rfl)) (grownBy_putObj' _ D (.deferred none)) (fun r e => by cases e; exact ⟨_, hK', rfl⟩)
    refine ⟨.bool true, ?_, rfl, (hB.setCell (p := ⟨w.heap.size + 1 + 1, 0, none⟩) (by show w.heap.size ≤ w.heap.size + 1 + 1; omega) _).trans (belowK_b (w := w) (Nat.le_refl _) _ D _ _ (by omega) hK' rfl rfl)⟩
    simp [results, Try.f15, go_sem, hc5]
  case stop =>
    rintro D c' pre W hD ⟨k, hk, rfl⟩ ⟨rfl, hX⟩ hK
    obtain ⟨i2, hB⟩ := hX.is hk
    clear hX
    gi_wp2
    refine ⟨by simp, .inl ⟨_, _, rfl, run_takeDeferred hK, ?_⟩⟩
    have hc2 := cell_kept i2.cell (grownBy_putObj' _ D (.deferred none)) (fun r e => by cases e; exact ⟨_, hK, rfl⟩)
    refine ⟨.bool true, ?_, rfl, hB.trans (belowK_b (w := w) (Nat.le_refl _) _ D _ _ (by omega) hK rfl rfl)⟩
    simp [results, Try.f15, go_sem, hc2]
end Go.Proofs.Ytagofabhblbodaa
namespace Go.Proofs.Ytagofabhblbodaa
open Go Go.RowKit
open Kit (natVals)
theorem same_nums {w : World} {v u : Value} {l : List Nat} (h1 : Kit.IsS 1 w v l.length (natVals l)) (h2 : Kit.IsS 1 w u l.length (natVals l)) (hl : l.length ≤ 4294967296) :
    Calls Try.prog 10 #[v, u] w fun e w' => e = .returned (.bool true) ∧ Below w.heap.size w w' := by
  by_cases h0 : l.length = 0
  · obtain ⟨a1, c1, rfl⟩ := h1.len
    obtain ⟨a2, c2, rfl⟩ := h2.len
    rw [h0]
    refine (Sh.slices_Equal_int_empty a1 a2 c1 0 c2 w (by omega)).mono ?_
    rintro e w' ⟨rfl, rfl⟩
    exact ⟨by simp, Below.refl _ _⟩
  · obtain ⟨b1, o1, c1, rfl, -, -, k1⟩ := h1.some (by omega)
    obtain ⟨b2, o2, c2, rfl, -, -, k2⟩ := h2.some (by omega)
    have hat : ∀ {b o : Nat}, (∀ j u, (natVals l)[j]? = some u → w.cell? ⟨b, o + j, none⟩ = some u) → ∀ j, j < (Cf.casts l).length → w.cell? ⟨b, o + j, none⟩ = some (.int .i64 ((Cf.casts l).getD j 0)) := fun hk j hj => by
      rw [Cf.casts_len] at hj
      have hx : l[j]? = some l[j] := List.getElem?_eq_getElem hj
      rw [hk j _ (Kit.natVals_at hx)]
      unfold Cf.casts
      simp [List.getD, hx]
    refine (Sh.slices_Equal_int b1 o1 l.length c1 b2 o2 l.length c2 (Cf.casts l) (Cf.casts l) w (by rw [Cf.casts_len]; omega) (by rw [Cf.casts_len]; omega) (by omega) (by omega) (hat k1) (hat k2)).mono ?_
    rintro e w' ⟨rfl, q, rfl⟩
    exact ⟨by simp, below_drewN w q⟩
theorem isS_bx {W : World} {b n size : Nat} {cs : Array Value} {T : TypeId} {xs : List Value} (h : BX W b cs T) (he : cs.toList = xs) (hx : xs.length = n * size) (hn : n ≤ 140737488355328) : Kit.IsS size W (.slice (some ⟨b, 0, none⟩) n n) n xs :=
  ⟨hx, hn, .inr ⟨b, 0, n, rfl, Nat.le_refl _, h.sz, fun j u hj => by
    rw [Nat.zero_add, h.cell j, ← Array.getElem?_toList, he]
    exact hj⟩⟩
theorem ks_order {W : World} {b : Nat} {base n : Nat} {e : TypeId} {v : Value} {xs : List Value} {T : TypeId} (h : W.ownsRow base e 1 v n xs) (hb : BX W b #[v] T) (hn : n ≤ 140737488355328) : ∀ X, Ks (fun k => k < W.heap.size) W X → Kit.IsS 1 X v n xs ∧ X.cell? ⟨b, 0, none⟩ = some v := fun X hX =>
  ⟨Kit.isS_of_owns (owns_same h (fun j e => hX.2 j (Kit.own_lt h j e))) hn, (World.cell?_of_block (hX.2 b hb.sz) : X.cell? ⟨b, 0, none⟩ = W.cell? ⟨b, 0, none⟩).trans (hb.cell 0)⟩
set_option maxRecDepth 100000
set_option maxHeartbeats 1000000
theorem begun_any (w : World) : Calls Try.prog 7 #[] w fun e w' => e = .returned (.bool true) ∧ Below w.heap.size w w' := by
  go_enter Try.func7, Try.ntmps7
  go_upto_region 2 with fail
  refine region_named fun W1 hW1 => ?_
  have hb1 : Below w.heap.size w W1 := by rw [hW1]; exact (by repeat' first | with_reducible exact Below.refl _ _ | with_reducible assumption | with_reducible refine belows_drewN ?_ _ | with_reducible refine Below.drew ?_ | with_reducible refine Below.setCell ?_ ?_ _ | with_reducible refine Below.alloc ?_ ?_ _ | omega | (simp; done) | (simp; omega))
  have bo1 : BX W1 w.heap.size (Cf.L6.flatMap Cf.opL).toArray 70 := by
    rw [hW1]
    exact (BX.new w (Cf.L6.flatMap Cf.opL).toArray 70).below ((Below.refl _ _).alloc (Nat.le_refl _) _)
  have hO : OpS W1 (.slice (some ⟨w.heap.size, 0, none⟩) 6 6) Cf.L6 := isS_bx bo1 (by simp) (by decide) (by decide)
  have hC : CaS W1 (.slice none 0 0) [] := ⟨rfl, by decide, .inl ⟨rfl, _, _, rfl⟩⟩
  have HNw := hid (New_any (f := ⟨.int .i64 0, .string ⟨#[]⟩, .string ⟨#[]⟩, .bool false, .slice none 0 0, .int .i64 0, .string ⟨#[]⟩, .int .i64 0, .int .i64 0, .slice (some ⟨w.heap.size, 0, none⟩) 6 6, .slice none 0 0, .int .i64 0⟩) hO hC (by decide) (by decide) (by decide))
  have HB1 := hid hb1
  rw [hW1] at HNw HB1
  clear bo1 hO hC hb1
  subst hW1
  go_upto_region 5 with (go_at_call 6; go_loud (refine HNw.out.mono ?_; rintro e w3 ⟨gb, rfl, hN⟩; have HN := hid hN; clear hN))
  obtain ⟨base, bb, cap, ob, nv, cv, cl, ov, sv, pv, kv, hbs, hG, hE, hcl, hbel⟩ := HN.out
  have ho := Cf.L6_ord hcl hE
  rw [ho, Cf.L6_cnt] at hG
  rw [Cf.L6_cnt] at hcl
  generalize Cf.bks _ _ = bs at hG
  have HBk := hid (Blocks_any hG (by decide) (by decide) (fun x hx => Nat.le_trans (hcl x hx) (by decide)))
  have HG := hid hG
  have HBel := hid (HB1.out.trans (hbel.mono HB1.out.size))
  obtain ⟨oa, oc, hov⟩ := own_form hG.ord
  rw [hov] at HG
  clear hG hE hcl hbel ho hov hbs HN HNw HB1
  go_upto_region 6 with (go_at_call 8; go_loud (refine HBk.out.mono ?_; rintro e w4 ⟨lb, c, nv', cv', rfl, hI⟩; have HI := hid hI; clear hI))
  have c8 : w4.cell? ⟨lb, 8, none⟩ = some (.int .i64 4) := own_at4 HI.out.row (Cf.bkV_len _ _ _ _) (b := 2) (by decide) 0 _ (by omega) (by unfold Cf.bkV; rw [Cf.L6_fr]; rfl)
  have c2 : w4.cell? ⟨lb, 2, none⟩ = some (nv' 0) := (HI.out.at (b := 0) (by decide)).1
  have hn0 := (HI.out.nx 0 (by decide)).is HI.out.bel (by rw [Cf.L6_nx]; decide)
  rw [Cf.L6_nx] at hn0
  have hg4 := HG.out.box.below HI.out.bel
  have k2 : w4.cell? ⟨gb, 2, none⟩ = some (.slice oa 3 oc) := hg4.cell 2
  have ho4 := Kit.owns_below HG.out.ord HI.out.bel (Nat.le_refl _)
  have HN0 := hid hn0
  have HG4 := hid hg4
  have HO4 := hid ho4
  clear HBk hn0 hg4 ho4
  go_wp2_with (first | (go_at_call 10; go_loud (refine (same_nums (l := [1, 2]) (HN0.out.below ((Below.refl _ _).alloc (Nat.le_refl _) _) (Nat.le_refl _)) (isS_bx (BX.new _ _ _) rfl (by decide) (by decide)) (by decide)).mono ?_; rintro e w5 ⟨rfl, hb5⟩; have HB5 : Hid (Below w4.heap.size w4 w5) := belows ((Below.refl _ _).alloc (Nat.le_refl _) _) hb5 (by simp); have k25 : w5.cell? ⟨gb, 2, none⟩ = some (.slice oa 3 oc) := (HG4.out.below HB5.out).cell 2; clear hb5)) | (go_at_call 12; go_loud (refine (Order_any k25).mono ?_; rintro e w6 ⟨rfl, hw6⟩; have HB6 : Hid (Below w5.heap.size w5 w6) := (by rw [hw6]; exact (Below.refl _ _).alloc (Nat.le_refl _) _); have HX6 : Hid (BX w6 w5.heap.size #[.slice oa 3 oc] 34) := (by rw [hw6]; exact BX.new _ _ _); have HO6 := hid (Kit.owns_below (Kit.owns_below HO4.out HB5.out (Nat.le_refl _)) HB6.out (Nat.le_refl _)); clear hw6)) | (go_at_call 15; go_loud (refine (tells_any [0, 2, 1] (.slice oa 3 oc) _ 0 _ _ (ks_order (Kit.owns_below HO6.out ((Below.refl _ _).alloc (Nat.le_refl _) _) (Nat.le_refl _)) (HX6.out.below ((Below.refl _ _).alloc (Nat.le_refl _) _)) (by decide)) (isS_bx (BX.new _ _ _) rfl (by decide) (by decide)) (by decide)).mono ?_; rintro e w7 ⟨rfl, hb7⟩; have HB7 : Hid (Below w6.heap.size w6 w7) := belows ((Below.refl _ _).alloc (Nat.le_refl _) _) hb7 (by simp); clear hb7)))
  go_ret
  have h4 := belows HBel.out HI.out.bel HBel.out.size
  have h5 := belows h4 HB5.out h4.size
  have h6 := belows h5 HB6.out h5.size
  exact ⟨rfl, belows h6 HB7.out h6.size⟩
end Go.Proofs.Ytagofabhblbodaa
namespace Go.Proofs.Ytagofabhblbodaa
open Go Go.RowKit
open Kit (natVals)
attribute [local go_sem] Oper.semAt_some
/-- An edge that is told, and its place. -/
abbrev Ty (l : List (Nat × Nat)) := { x : Nat × (Nat × Nat) // l[x.1]? = some x.2 }
def tolde (l : List (Nat × Nat)) : Nat → List (Ty l)
  | 0 => []
  | k + 1 => tolde l k ++ (match h : l[k]? with | some c => [⟨(k, c), h⟩] | none => [])
theorem tolde_yes {l : List (Nat × Nat)} {k : Nat} {c : Nat × Nat} (h : l[k]? = some c) : tolde l (k + 1) = tolde l k ++ [⟨(k, c), h⟩] := by
  show tolde l k ++ _ = _
  congr 1
  split
  · rename_i d hd
    obtain rfl := Option.some.inj (hd.symm.trans h)
    rfl
  · rename_i hd
    rw [hd] at h
    cases h
theorem tolde_len (l : List (Nat × Nat)) : ∀ k, k ≤ l.length → (tolde l k).length = k
  | 0, _ => rfl
  | k + 1, h => by
    have hk : l[k]? = some l[k] := List.getElem?_eq_getElem (by omega)
    rw [tolde_yes hk, List.length_append, tolde_len l k (by omega)]
    rfl
def entY {l : List (Nat × Nat)} (x : Ty l) : Array Value := #[.int .i64 (x.1.2.1 : Int), .int .i64 (x.1.2.2 : Int)]
theorem eVals_at {l : List (Nat × Nat)} {k a b : Nat} (h : l[k]? = some (a, b)) : (eVals l)[k * 2]? = some (.int .i64 (a : Int)) ∧ (eVals l)[k * 2 + 1]? = some (.int .i64 (b : Int)) := by
  have hat := Kit.flat_at (f := fun e : Nat × Nat => [Value.int .i64 (e.1 : Int), .int .i64 (e.2 : Int)]) (s := 2) (fun _ => rfl) h
  exact ⟨hat 0 (by omega), hat 1 (by omega)⟩
set_option maxRecDepth 100000 in
set_option maxHeartbeats 1000000 in
theorem back1_stops (l : List (Nat × Nat)) (v : Value) (S : Nat → Prop) (Bs n : Nat) (w : World) (hn : 1 ≤ n) (hhi : ∀ k, S k → k < w.heap.size) (hb : ∀ X, Ks S w X → Kit.IsS 2 X v l.length (eVals l) ∧ X.cell? ⟨Bs, 0, none⟩ = some v) :
    SeqStopsK Fence.wide n Try.prog 35 #[.pointer (some ⟨Bs, 0, none⟩)] entY (Ks S) (fun ys => ys = tolde l l.length) (fun ys => ∃ k, k ≤ l.length ∧ ys = tolde l k) l.length w := fun D J Jx W hW hJ _ hY h0 => by
  have HB := hid hb
  obtain ⟨a, cap, hv⟩ := (hb w (Ks.refl _ _)).1.len
  subst hv
  have hlen := (hb w (Ks.refl _ _)).1.2.1
  have hKW : Ks S w W := (Ks.refl _ _).below hW hhi
  have hcW := (hb W hKW).2
  clear hb
  refine callsIn_of_wp Try.func35 rfl trivial ?_ rfl
  simp only [Try.ntmps35, List.size_toArray, List.length_cons, List.length_nil, Nat.reduceAdd, Nat.reduceSub, Array.replicate_succ, Array.replicate_zero, List.push_toArray, List.append_toArray, List.nil_append, List.cons_append]
  gi_wp2
  gi_loopw [7] (fun i wr => ∃ k : Nat, k ≤ l.length ∧ i = .int .i64 k ∧ J (tolde l k) wr ∧ W.heap.size ≤ wr.heap.size ∧ Ks S w wr) (fun i _ => l.length - (intOf i).toNat)
  case atStart => exact ⟨0, by omega, rfl, h0, Nat.le_refl _, hKW⟩
  case round =>
    obtain ⟨k, hk, rfl, hJs, hzW, hbl⟩ := hrel
    have hzr := hbl.1
    by_cases hlt : k < l.length
    · obtain ⟨⟨c, d⟩, hx⟩ : ∃ x, l[k]? = some x := ⟨l[k], List.getElem?_eq_getElem hlt⟩
      obtain ⟨b, o, cap', hv, -, hbb, hcs⟩ := (HB.out wr hbl).1.some (by omega)
      obtain ⟨rfl, -, rfl⟩ := Value.slice.inj hv
      have c0 := hcs _ _ (eVals_at hx).1
      have c1 := hcs _ _ (eVals_at hx).2
      rw [← Nat.add_assoc] at c1
      have hki : (k : Int) < (l.length : Int) := by omega
      have HT := hid (tolde_yes hx)
      have hln : (tolde l k).length < l.length := by rw [tolde_len l k hk]; omega
      have hJ2 : J (tolde l k) (wr.alloc (.cells #[.int .i64 (c : Int), .int .i64 (d : Int)] 77)) := hJ _ wr _ none hJs (World.grownBy_alloc wr _ none) (fun r e => by cases e)
      have hKA : Ks S wr (wr.alloc (.cells #[.int .i64 (c : Int), .int .i64 (d : Int)] 77)) := (Ks.refl _ _).below ((Below.refl _ _).alloc (Nat.le_refl wr.heap.size) _) (fun k h => by have := hhi k h; omega)
      have HKA := hid hKA
      have HY := hid (hY (tolde l k) ⟨(k, (c, d)), hx⟩ _ hJ2 hln)
      clear hv hcs hJ2 hKA
      obtain ⟨fn, tmps, assign, body, hy, hR⟩ := HY.out
      unfold entY at hy
      dsimp only at hy
      gi_wp2
      refine hR.mono ?_
      rintro e W3 (⟨rfl, hJ3, hk3⟩ | ⟨rfl, hJx3⟩)
      · gi_wp2
        go_roundw
        case rel => exact ⟨k + 1, by omega, by go_num, by rw [HT.out]; exact hJ3, (by have := hk3.1; have := HKA.out.1; omega), (hbl.trans HKA.out).trans hk3⟩
        case measure => simp [intOf]; omega
      · gi_wp2
        refine bodyPost_ret (results_none rfl _ _ _) rfl ?_
        exact ⟨⟨_, rfl⟩, .inr ⟨_, ⟨k + 1, by omega, HT.out.symm⟩, hJx3⟩⟩
    · obtain rfl : k = l.length := by omega
      gi_wp2
      refine bodyPost_end (results_none rfl _ _ _) rfl ?_
      exact ⟨⟨_, rfl⟩, .inl ⟨_, rfl, hJs⟩⟩
end Go.Proofs.Ytagofabhblbodaa
namespace Go.Proofs.Ytagofabhblbodaa
open Go Go.RowKit
/-- A graph that no call made. -/
def No (w : World) (v : Value) : Prop := v = .pointer none ∨ ∃ gb, v = .pointer (some ⟨gb, 0, none⟩) ∧ BX w gb #[Nil, Nil, Nil, Nil, Nil, Nil] 56
theorem No.below {w w' : World} {v : Value} (h : No w v) (hb : Below w.heap.size w w') : No w' v := by
  rcases h with h | ⟨gb, h, k⟩
  · exact .inl h
  · exact .inr ⟨gb, h, k.below hb⟩
set_option maxRecDepth 100000
set_option maxHeartbeats 1000000
theorem nhas_any {w : World} {v : Value} (h : No w v) (i : Int) : Calls Try.prog 36 #[v, .int .i64 i] w fun e w' => e = .returned (.bool false) ∧ Below w.heap.size w w' := by
  rcases h with rfl | ⟨gb, rfl, h⟩
  · go_enter Try.func36, Try.ntmps36
    go_wp2
    go_ret
    exact ⟨rfl, Below.refl _ _⟩
  · have g0 := h.cell 0
    clear h
    by_cases hs : 0 ≤ i
    · have h1 : decide (0 ≤ i) = true := by simpa using hs
      have h2 : decide (i < 0) = false := by simpa using hs
      have h3 : ¬ i < 0 := by omega
      go_enter Try.func36, Try.ntmps36
      go_wp2
      go_ret
      exact ⟨rfl, Below.refl _ _⟩
    · have h1 : decide (0 ≤ i) = false := by simpa using hs
      go_enter Try.func36, Try.ntmps36
      go_wp2
      go_ret
      exact ⟨rfl, Below.refl _ _⟩
theorem nof_any {w : World} {v : Value} (h : No w v) (i : Int) : Calls Try.prog 9 #[v, .int .i64 i] w fun e w' => e = .returned (.tuple #[.int .i64 0, .bool false]) ∧ Below w.heap.size w w' := by
  rcases h with rfl | ⟨gb, rfl, h⟩
  · go_enter Try.func9, Try.ntmps9
    go_wp2
    go_ret2
    exact ⟨rfl, Below.refl _ _⟩
  · have g1 := h.cell 1
    clear h
    by_cases hs : i < 0
    · have h1 : decide (i < 0) = true := by simpa using hs
      go_enter Try.func9, Try.ntmps9
      go_wp2
      go_ret2
      exact ⟨rfl, Below.refl _ _⟩
    · have h1 : decide (i < 0) = false := by simpa using hs
      have h2 : decide (0 ≤ i) = true := by simpa using hs
      have h3 : 0 ≤ i := by omega
      go_enter Try.func9, Try.ntmps9
      go_wp2
      go_ret2
      exact ⟨rfl, Below.refl _ _⟩
theorem npreds_any {w : World} {v : Value} (h : No w v) (i : Int) : Calls Try.prog 16 #[v, .int .i64 i] w fun e w' => e = .returned Nil ∧ Below w.heap.size w w' := by
  have H := hid (nhas_any h i)
  clear h
  go_enter Try.func16, Try.ntmps16
  go_wp2_with (go_at_call 36; refine H.out.mono ?_; rintro e w1 ⟨rfl, hb⟩)
  go_ret
  exact ⟨rfl, hb⟩
theorem nreached_any {w : World} {v : Value} (h : No w v) (i : Int) : Calls Try.prog 19 #[v, .int .i64 i] w fun e w' => e = .returned (.bool false) ∧ Below w.heap.size w w' := by
  have H := hid (nhas_any h i)
  clear h
  go_enter Try.func19, Try.ntmps19
  go_wp2_with (go_at_call 36; refine H.out.mono ?_; rintro e w1 ⟨rfl, hb⟩)
  go_ret
  exact ⟨rfl, hb⟩
theorem norder_any {w : World} {v : Value} (h : No w v) : Calls Try.prog 12 #[v] w fun e w' => e = .returned (.func (.func 34) #[] #[.pointer (some ⟨w.heap.size, 0, none⟩)]) ∧ w' = w.alloc (.cells #[Nil] 34) := by
  rcases h with rfl | ⟨gb, rfl, h⟩
  · go_enter Try.func12, Try.ntmps12
    go_wp2
    go_ret
    exact ⟨rfl, rfl⟩
  · exact Order_any (h.cell 2)
theorem nback_any {w : World} {v : Value} (h : No w v) : Calls Try.prog 13 #[v] w fun e w' => e = .returned (.func (.func 35) #[] #[.pointer (some ⟨w.heap.size, 0, none⟩)]) ∧ w' = w.alloc (.cells #[Nil] 54) := by
  rcases h with rfl | ⟨gb, rfl, h⟩
  · go_enter Try.func13, Try.ntmps13
    go_wp2
    go_ret
    exact ⟨rfl, rfl⟩
  · have k5 := h.cell 5
    have hbl : gb < w.heap.size := h.sz
    clear h
    go_enter Try.func13, Try.ntmps13
    go_wp2
    go_ret
    exact ⟨rfl, rfl⟩
theorem bclone_no (w : World) : Calls Try.prog 27 #[Nil] w fun e w' => e = .returned Nil ∧ Below w.heap.size w w' := by
  have hnil := fun (W : World) (a : Option Addr) (n c : Nat) => Lib.run_eql_slice_nil (P := Try.prog) W 32 36 a n c 0 0 Try.underlying32
  go_enter Try.func27, Try.ntmps27
  go_wp2
  go_ret
  exact ⟨rfl, Below.refl _ _⟩
theorem nblocks_any {w : World} {v : Value} (h : No w v) : Calls Try.prog 8 #[v] w fun e w' => e = .returned Nil ∧ Below w.heap.size w w' := by
  rcases h with rfl | ⟨gb, rfl, h⟩
  · go_enter Try.func8, Try.ntmps8
    go_wp2
    go_ret
    exact ⟨rfl, Below.refl _ _⟩
  · have g0 := h.cell 0
    have HC := hid (bclone_no w)
    clear h
    go_enter Try.func8, Try.ntmps8
    go_upto_region 4 with (go_at_call 27; go_loud (refine HC.out.mono ?_; rintro e w1 ⟨rfl, hb⟩; have HB := hid hb; clear hb))
    go_wp2
    go_loopw [14] (fun v wr => v = .int .i64 0 ∧ wr = w1) (fun _ _ => 0)
    case atStart => exact ⟨rfl, rfl⟩
    case round =>
      obtain ⟨rfl, rfl⟩ := hrel
      go_wp2
      go_ret
      exact ⟨rfl, HB.out⟩
end Go.Proofs.Ytagofabhblbodaa
namespace Go.Proofs.Ytagofabhblbodaa
open Go Go.RowKit
open Kit (natVals)
attribute [local go_sem] Oper.semAt_some
def EnJ (w : World) (_ : List (Ty [])) (W : World) : Prop :=
  Boxed W w.heap.size 78 Nil ∧ Boxed W (w.heap.size + 1) 4 (.bool false) ∧ Boxed W (w.heap.size + 1 + 1) 3 (.int .i64 0) ∧ Below w.heap.size w W
theorem EnJ.own {n : Nat} {w : World} (hn : w.heap.size ≤ n) : OwnFrom n (EnJ w) := by
  rintro pre A B row ⟨h0, h1, h2, h5⟩ hg hr
  exact ⟨boxed_own _ _ (fun _ : Unit => Nil) () A B row h0 hg (fun r e => (hr r e).2), boxed_own _ _ (fun _ : Unit => .bool false) () A B row h1 hg (fun r e => (hr r e).2), boxed_own _ _ (fun _ : Unit => .int .i64 0) () A B row h2 hg (fun r e => (hr r e).2), h5.grown hg h5.size (fun k e => by have := (hr k e).1; omega)⟩
set_option maxRecDepth 100000 in
set_option maxHeartbeats 4000000 in
theorem edges_nil (Bs : Nat) (w : World) (hit : ∀ X, Ks (fun k => k < w.heap.size) w X → Kit.IsS 2 X Nil 0 (eVals []) ∧ X.cell? ⟨Bs, 0, none⟩ = some Nil) :
    Calls Try.prog 17 #[.func (.func 35) #[] #[.pointer (some ⟨Bs, 0, none⟩)], Nil] w fun e w' => e = .returned (.bool true) ∧ Below w.heap.size w w' := by
  have HIT := hid hit
  clear hit
  refine (callsIn_wide (n := 5)).1 ?_
  refine callsIn_of_wp_marks Try.func17 rfl trivial ?_ rfl
  simp only [Try.ntmps17, List.size_toArray, List.length_cons, List.length_nil, Nat.reduceAdd, Nat.reduceSub, Array.replicate_succ, Array.replicate_zero, List.push_toArray, List.append_toArray, List.nil_append, List.cons_append]
  gi_wp2
  have b0 := ((Boxed.new w 78 Nil).alloc (.cells #[.bool false] 4)).alloc (.cells #[.int .i64 0] 3)
  have b1 := (Boxed.new (w.alloc (.cells #[Nil] 78)) 4 (.bool false)).alloc (.cells #[.int .i64 0] 3)
  have b2 := Boxed.new ((w.alloc (.cells #[Nil] 78)).alloc (.cells #[.bool false] 4)) 3 (.int .i64 0)
  simp only [World.size_alloc] at b0 b1 b2
  have hB0 : Below w.heap.size w (((w.alloc (.cells #[Nil] 78)).alloc (.cells #[.bool false] 4)).alloc (.cells #[.int .i64 0] 3)) := (((Below.refl _ w).alloc (Nat.le_refl _) (.cells #[Nil] 78)).alloc (by simp only [World.size_alloc]; omega) (.cells #[.bool false] 4)).alloc (by simp only [World.size_alloc]; omega) (.cells #[.int .i64 0] 3)
  have hsz : (((w.alloc (.cells #[Nil] 78)).alloc (.cells #[.bool false] 4)).alloc (.cells #[.int .i64 0] 3)).heap.size = w.heap.size + 3 := by simp only [World.size_alloc]
  obtain ⟨w3, hw3⟩ : ∃ w3, (((w.alloc (.cells #[Nil] 78)).alloc (.cells #[.bool false] 4)).alloc (.cells #[.int .i64 0] 3)) = w3 := ⟨_, rfl⟩
  rw [hw3] at b0 b1 b2 hB0 hsz ⊢
  clear hw3
  have hkX : Hid (∀ X, Ks (fun k => k < w.heap.size) w3 X → Kit.IsS 2 X Nil 0 (eVals []) ∧ X.cell? ⟨Bs, 0, none⟩ = some Nil) := fun X hX => HIT.out X ⟨Nat.le_trans hB0.size hX.1, fun k h2 => (hX.2 k h2).trans (hB0.block k h2)⟩
  have hB3z := hB0.size
  refine wpIn_rangeFunc_ownH rfl (by omega) (gf := 35) (lb := #[.pointer (some ⟨Bs, 0, none⟩)]) rfl trivial (enters_of Try.func35 (by kernel_rfl) rfl)
    (back1_stops [] Nil (fun k => k < w.heap.size) Bs (5 - 1) w3 (by omega) (fun k h => by omega) hkX.out) (fun h k => Ks.trans h k) (Ks.putObj (fun k h => by omega)) (Below.refl _ _) (fun _ => rfl)
    (EnJ w) (fun _ _ _ => False) (EnJ.own hB0.size) (fun _ _ _ _ _ h _ _ => h)
    ⟨b0, b1, b2, hB0⟩
    (fun _ _ _ => True) (fun x a' => Own.from (fun s A B row hs hg hr => hs) _) ?assign ?body ?done ?stop
  case assign =>
    rintro D pre ⟨⟨k, c⟩, hx⟩
    exact absurd hx (by simp)
  case body =>
    rintro D pre ⟨⟨k, c⟩, hx⟩
    exact absurd hx (by simp)
  case done =>
    rintro D ys W hD rfl ⟨i0, i1, i2, hB⟩ hK
    have c0 := i0.cell
    have c1 := i1.cell
    have c2 := i2.cell
    have f1 := i1.frozen
    gi_wp2
    have hK' := (KeepsOthers.setCell W ⟨w.heap.size + 1, 0, none⟩ (.bool true)).same D _ hK rfl
    refine ⟨by simp, .inl ⟨_, _, rfl, run_takeDeferred hK', ?_⟩⟩
    have hc5 := cell_kept (World.cell?_setCell_same' W ⟨w.heap.size + 1, 0, none⟩ (.bool true) (by rw [c1]; rfl)) (grownBy_putObj' _ D (.deferred none)) (fun r e => by cases e; exact ⟨_, hK', rfl⟩)
    refine ⟨.bool true, ?_, rfl, (hB.setCell (p := ⟨w.heap.size + 1, 0, none⟩) (by show w.heap.size ≤ w.heap.size + 1; omega) _).trans (belowK_b (w := w) (Nat.le_refl _) _ D _ _ (by omega) hK' rfl rfl)⟩
    simp [results, Try.f17, go_sem, hc5]
  case stop =>
    rintro D c' pre W hD - hX hK
    exact hX.elim
end Go.Proofs.Ytagofabhblbodaa
namespace Go.Proofs.Ytagofabhblbodaa
open Go Go.RowKit
open Kit (natVals)
attribute [local go_sem] Oper.semAt_some
def HnJ (w : World) (_ : List (Ty [])) (W : World) : Prop := Boxed W w.heap.size 34 Nil ∧ Below w.heap.size w W
theorem HnJ.own {n : Nat} {w : World} (hn : w.heap.size ≤ n) : OwnFrom n (HnJ w) := by
  rintro pre A B row ⟨h0, h5⟩ hg hr
  exact ⟨boxed_own _ _ (fun _ : Unit => Nil) () A B row h0 hg (fun r e => (hr r e).2), h5.grown hg h5.size (fun k e => by have := (hr k e).1; omega)⟩
set_option maxRecDepth 100000 in
set_option maxHeartbeats 4000000 in
theorem headers_none {w : World} {v : Value} (h : No w v) : Calls Try.prog 18 #[v] w fun e w' => (∃ a c, e = .returned (.slice a 0 c)) ∧ Below w.heap.size w w' := by
  have HBk := hid (nback_any (h.below ((Below.refl _ _).alloc (Nat.le_refl _) (.cells #[Nil] 34))))
  have HR := hid (fun (W : World) => rising_any (w := W) (base := W.heap.size) (v := Nil) (l := []) ⟨rfl, .inl ⟨rfl, rfl⟩⟩ (by simp))
  clear h
  refine (callsIn_wide (n := 5)).1 ?_
  refine callsIn_of_wp_marks Try.func18 rfl trivial ?_ rfl
  simp only [Try.ntmps18, List.size_toArray, List.length_cons, List.length_nil, Nat.reduceAdd, Nat.reduceSub, Array.replicate_succ, Array.replicate_zero, List.push_toArray, List.append_toArray, List.nil_append, List.cons_append]
  gi_wp2_with (first | (refine ⟨trivial, ?_⟩; gi_at_call 13; go_loud (refine (callsIn_wide.2 HBk.out).mono ?_; rintro e w2 ⟨rfl, hw2⟩)) | (gi_at_call 13; go_loud (refine (callsIn_wide.2 HBk.out).mono ?_; rintro e w2 ⟨rfl, hw2⟩)))
  have b0 := (Boxed.new w 34 Nil).alloc (.cells #[Nil] 54)
  have bx1 := BX.new (w.alloc (.cells #[Nil] 34)) #[Nil] 54
  have hB0 : Below w.heap.size w ((w.alloc (.cells #[Nil] 34)).alloc (.cells #[Nil] 54)) := ((Below.refl _ w).alloc (Nat.le_refl _) (.cells #[Nil] 34)).alloc (by simp only [World.size_alloc]; omega) (.cells #[Nil] 54)
  have hsz : ((w.alloc (.cells #[Nil] 34)).alloc (.cells #[Nil] 54)).heap.size = w.heap.size + 2 := by simp only [World.size_alloc]
  simp only [World.size_alloc] at bx1
  obtain ⟨w3, hw3⟩ : ∃ w3, ((w.alloc (.cells #[Nil] 34)).alloc (.cells #[Nil] 54)) = w3 := ⟨_, rfl⟩
  (try rw [hw2])
  rw [hw3] at b0 bx1 hB0 hsz ⊢
  clear hw3
  have hit : ∀ X, Ks (fun k => k < w3.heap.size) w3 X → Kit.IsS 2 X Nil 0 (eVals []) ∧ X.cell? ⟨w.heap.size + 1, 0, none⟩ = some Nil := fun X hX =>
    ⟨⟨rfl, by omega, .inl ⟨rfl, _, _, rfl⟩⟩, (World.cell?_of_block (hX.2 (w.heap.size + 1) (by omega)) : X.cell? ⟨w.heap.size + 1, 0, none⟩ = w3.cell? ⟨w.heap.size + 1, 0, none⟩).trans (bx1.cell 0)⟩
  refine wpIn_rangeFunc_ownH rfl (by omega) (gf := 35) (lb := #[.pointer (some ⟨w.heap.size + 1, 0, none⟩)]) (by first | rfl | (simp; done)) trivial (enters_of Try.func35 (by kernel_rfl) rfl)
    (back1_stops [] Nil (fun k => k < w3.heap.size) (w.heap.size + 1) (5 - 1) w3 (by omega) (fun k h => h) hit) (fun h k => Ks.trans h k) (Ks.putObj (fun k h => h)) (Below.refl _ _) (fun _ => rfl)
    (HnJ w) (fun _ _ _ => False) (HnJ.own hB0.size) (fun _ _ _ _ _ h _ _ => h)
    ⟨b0, hB0⟩
    (fun _ _ _ => True) (fun x a' => Own.from (fun s A B row hs hg hr => hs) _) ?assign ?body ?done ?stop
  case assign =>
    rintro D pre ⟨⟨k, c⟩, hx⟩
    exact absurd hx (by simp)
  case body =>
    rintro D pre ⟨⟨k, c⟩, hx⟩
    exact absurd hx (by simp)
  case done =>
    rintro D ys W hD rfl ⟨i0, hB⟩ hK
    have c0 := i0.cell
    have HR2 := hid (HR.out W)
    clear HR HBk
    gi_wp2_with (first | (refine ⟨trivial, ?_⟩; gi_at_call 37; go_loud (refine (callsIn_wide.2 HR2.out).mono ?_; rintro e w5 ⟨u, rfl, ho5, hc5, -⟩)) | (gi_at_call 37; go_loud (refine (callsIn_wide.2 HR2.out).mono ?_; rintro e w5 ⟨u, rfl, ho5, hc5, -⟩)))
    have hb5 : Below W.heap.size W w5 := hc5.to_below (fun k e => by simp [Value.ownBlock] at e) (Nat.le_refl _)
    have hK' := (below_keeps hb5).same D _ hK rfl
    obtain ⟨a5, c5, rfl⟩ := own_form ho5
    refine ⟨by simp, .inl ⟨_, _, rfl, run_takeDeferred hK', ?_⟩⟩
    refine ⟨.slice a5 0 c5, ?_, ⟨a5, c5, rfl⟩, (belows hB hb5 hB.size).trans (belowK_b (w := w) (Nat.le_refl _) _ D _ _ (by omega) hK' rfl rfl)⟩
    have e0 : (Cf.rise []).length = 0 := by decide
    simp [results, Try.f18, go_sem, e0]
  case stop =>
    rintro D c' pre W hD - hX hK
    exact hX.elim
end Go.Proofs.Ytagofabhblbodaa
namespace Go.Proofs.Ytagofabhblbodaa
open Go Go.RowKit
open Kit (natVals)
set_option maxRecDepth 100000
set_option maxHeartbeats 2000000
theorem none_law (i : Int) (w : World) : Calls Try.prog 5 #[.int .i64 i] w fun e w' => e = .returned (.bool true) ∧ Below w.heap.size w w' := by
  have HBg := hid (begun_any w)
  go_enter Try.func5, Try.ntmps5
  go_upto_region 3 with (go_at_call 7; go_loud (refine HBg.out.mono ?_; rintro e wb ⟨rfl, hb⟩; have HB := hid hb; clear hb))
  have hbx : BX ((wb.alloc (.cells #[Nil, Nil, Nil, Nil, Nil, Nil] 56)).alloc (.cells #[.pointer none, .pointer (some ⟨wb.heap.size, 0, none⟩)] 29)) wb.heap.size #[Nil, Nil, Nil, Nil, Nil, Nil] 56 := (BX.new wb _ _).below ((Below.refl _ _).alloc (Nat.le_refl _) _)
  have hsx := BX.new (wb.alloc (.cells #[Nil, Nil, Nil, Nil, Nil, Nil] 56)) #[.pointer none, .pointer (some ⟨wb.heap.size, 0, none⟩)] 29
  have hbb : Below wb.heap.size wb ((wb.alloc (.cells #[Nil, Nil, Nil, Nil, Nil, Nil] 56)).alloc (.cells #[.pointer none, .pointer (some ⟨wb.heap.size, 0, none⟩)] 29)) := (by repeat' first | with_reducible exact Below.refl _ _ | with_reducible assumption | with_reducible refine belows_drewN ?_ _ | with_reducible refine Below.drew ?_ | with_reducible refine Below.setCell ?_ ?_ _ | with_reducible refine Below.alloc ?_ ?_ _ | omega | (simp; done) | (simp; omega))
  simp only [World.size_alloc] at hsx
  go_wp2
  obtain ⟨wl, hwl⟩ : ∃ wl, wl = ((wb.alloc (.cells #[Nil, Nil, Nil, Nil, Nil, Nil] 56)).alloc (.cells #[.pointer none, .pointer (some ⟨wb.heap.size, 0, none⟩)] 29)) := ⟨_, rfl⟩
  (try rw [← hwl])
  rw [← hwl] at hbx hsx hbb
  have HX := hid hbx
  have HS := hid hsx
  have HB2 := hid (belows HB.out hbb HB.out.size)
  have HR : Hid (Below wl.heap.size wl wl) := Below.refl _ _
  clear hwl hbx hsx hbb HB HBg
  go_loopw [13] (fun v wr => ∃ j : Nat, v = .int .i64 (j : Int) ∧ j ≤ 2 ∧ Hid (Below wl.heap.size wl wr)) (fun v _ => 2 - (intOf v).toNat)
  case atStart => exact ⟨0, rfl, by omega, HR⟩
  case round =>
    clear HR
    obtain ⟨j, rfl, hj, HR⟩ := hrel
    by_cases hlt : j < 2
    · obtain ⟨v, hc, hno⟩ : ∃ v, wr.cell? ⟨wb.heap.size + 1, j, none⟩ = some v ∧ No wr v := by
        match j, hlt with
        | 0, _ => exact ⟨_, (HS.out.below HR.out).cell 0, .inl rfl⟩
        | 1, _ => exact ⟨_, (HS.out.below HR.out).cell 1, .inr ⟨_, rfl, HX.out.below HR.out⟩⟩
      have HN := hid (fun X (h : Below wr.heap.size wr X) => hno.below h)
      have H1 := hid (nof_any hno i)
      clear hno
      go_wp2_with (first | (go_at_call 9; go_loud (refine H1.out.mono ?_; rintro e w1 ⟨rfl, hb1⟩; have HB1 := hid hb1; have H2 := hid (nblocks_any (HN.out w1 hb1)); clear hb1)) | (go_at_call 8; go_loud (refine H2.out.mono ?_; rintro e w2 ⟨rfl, hb⟩; have HC2 := hid (belows HB1.out hb HB1.out.size); have H3 := hid (norder_any (HN.out w2 HC2.out)); clear hb)) | (go_at_call 12; go_loud (refine H3.out.mono ?_; rintro e w3 ⟨rfl, hw3⟩; have HX3 : Hid (BX w3 w2.heap.size #[Nil] 34) := (by rw [hw3]; exact BX.new _ _ _); have HC3 : Hid (Below wr.heap.size wr w3) := (by rw [hw3]; exact belows HC2.out ((Below.refl _ _).alloc (Nat.le_refl _) _) HC2.out.size); have H4 := hid (tells_any [] Nil Nil 0 w2.heap.size w3 (fun X hX => ⟨⟨rfl, by decide, .inl ⟨rfl, _, _, rfl⟩⟩, (World.cell?_of_block (hX.2 w2.heap.size HX3.out.sz) : X.cell? ⟨w2.heap.size, 0, none⟩ = w3.cell? ⟨w2.heap.size, 0, none⟩).trans (HX3.out.cell 0)⟩) ⟨rfl, by decide, .inl ⟨rfl, _, _, rfl⟩⟩ (by decide)); clear hw3)) | (go_at_call 15; go_loud (refine H4.out.mono ?_; rintro e w4 ⟨rfl, hb⟩; have HC4 := hid (belows HC3.out hb HC3.out.size); have H5 := hid (npreds_any (HN.out w4 HC4.out) i); clear hb)) | (go_at_call 16; go_loud (refine H5.out.mono ?_; rintro e w5 ⟨rfl, hb⟩; have HC5 := hid (belows HC4.out hb HC4.out.size); have H6 := hid (nback_any (HN.out w5 HC5.out)); clear hb)) | (go_at_call 13; go_loud (refine H6.out.mono ?_; rintro e w6 ⟨rfl, hw6⟩; have HX6 : Hid (BX w6 w5.heap.size #[Nil] 54) := (by rw [hw6]; exact BX.new _ _ _); have HC6 : Hid (Below wr.heap.size wr w6) := (by rw [hw6]; exact belows HC5.out ((Below.refl _ _).alloc (Nat.le_refl _) _) HC5.out.size); have H7 := hid (edges_nil w5.heap.size w6 (fun X hX => ⟨⟨rfl, by decide, .inl ⟨rfl, _, _, rfl⟩⟩, (World.cell?_of_block (hX.2 w5.heap.size HX6.out.sz) : X.cell? ⟨w5.heap.size, 0, none⟩ = w6.cell? ⟨w5.heap.size, 0, none⟩).trans (HX6.out.cell 0)⟩)); clear hw6)) | (go_at_call 17; go_loud (refine H7.out.mono ?_; rintro e w7 ⟨rfl, hb⟩; have HC7 := hid (belows HC6.out hb HC6.out.size); have H8 := hid (headers_none (HN.out w7 HC7.out)); clear hb)) | (go_at_call 18; go_loud (refine H8.out.mono ?_; rintro e w8 ⟨⟨ha, hc8, rfl⟩, hb⟩; have HC8 := hid (belows HC7.out hb HC7.out.size); have H9 := hid (nreached_any (HN.out w8 HC8.out) i); clear hb)) | (go_at_call 19; go_loud (refine H9.out.mono ?_; rintro e w9 ⟨rfl, hb⟩; have HC9 := hid (belows HR.out (belows HC8.out hb HC8.out.size) HR.out.size); clear hb)))
      go_roundw
      case rel => exact ⟨j + 1, by go_num, by omega, HC9⟩
      case measure => simp [intOf]; omega
    · obtain rfl : j = 2 := by omega
      go_wp2
      go_ret
      exact ⟨rfl, belows HB2.out HR.out HB2.out.size⟩
end Go.Proofs.Ytagofabhblbodaa
namespace Go.Proofs.Ytagofabhblbodaa.Kit
open Go Go.RowKit Go.ChangeShapes Go.WideShapes Go.ChangeAt

section
variable {H : Type} {enc : TypeId × Value → H} {P : Program}
/-- Arguments read in a later world as they did. -/
theorem trodAll_later (hl : laidOutB P = true) {W W' : World} (hb : Below W.heap.size W W') (sp : Nat → Bool) :
    ∀ {ts : List TypeId} {vs : List Value} {ds : List (DataW H)} {ps : List MemPlace}, (∀ t ∈ ts, P.readableRec t = true ∧ t < P.types.size) → DataW.TrodAll enc P W 0 (fun _ => true) true ts vs ds ps →
      (∀ x ∈ ps, x.block < W.heap.size) → (∀ x ∈ ps, sp x.block = true) → DataW.TrodAll enc P W' 0 sp true ts vs ds ps
  | [], vs, ds, ps, _, h, _, _ => by
    obtain ⟨rfl, rfl, rfl⟩ := trodAll_nil h
    exact trodAll_mk0
  | t :: ts, vs, ds, ps, hr, h, hlt, hsp => by
    obtain ⟨v, vs', d, ds', p, q, rfl, rfl, rfl, h0, h1⟩ := trodAll_cons h
    exact trodAll_cons_mk (WideElems.Trod_stays hl (hr t (by simp)).1 (hr t (by simp)).2 h0 (fun x hx => hb.same (hlt x (by simp [hx]))) (fun x hx => hsp x (by simp [hx])))
      (trodAll_later hl hb sp (fun t ht => hr t (by simp [ht])) h1 (fun x hx => hlt x (by simp [hx])) (fun x hx => hsp x (by simp [hx])))
/-- A law's answer: true; all that it was handed reads as it did. -/
theorem law_post {f : Func} {s : ChangeSpec} {apart fresh handsOn again : Bool} {W W' : World} {args : Array Value} {ds gs : List (DataW H)} {before : List MemPlace} {tb : TypeId}
    (hv : s.vars = []) (hr : f.resultTypes = #[tb]) (htb : P.underlying tb = some .bool) (hl : laidOutB P = true) (hrd : ∀ t ∈ f.params.toList, P.readableRec t = true ∧ t < P.types.size)
    (hW : DataW.Whole enc P f.params.toList s.vars apart W args.toList ds gs before)
    (hfn : s.fn H (ds ++ gs) = { results := [.lit (.bool true)], args := ds }) (hb : Below W.heap.size W W') :
    s.post enc P f apart fresh handsOn again W args (.bool true) W' := by
  have hlt : ∀ p ∈ before, p.block < W.heap.size := fun p hp => hW.lt p hp
  have hW' := hW
  obtain ⟨p, q, hA, hV, rfl, hfz, hnd⟩ := hW
  rw [hv] at hV
  obtain ⟨rfl, rfl⟩ := trodVars_none hV
  simp only [List.append_nil] at hlt hfz hnd hW' hfn ⊢
  have hres : ∀ (b : Nat) (sp : Nat → Bool) (hd : Bool), DataW.TrodAll enc P W' b sp hd f.resultTypes.toList ((Value.bool true).resultList f.resultTypes.size) (s.fn H ds).results [] := by
    intro b sp hd
    rw [hr, hfn]
    exact trodAll_cons_mk (shut_bool htb _) trodAll_mk0
  have hargs : ∀ sp : Nat → Bool, (∀ x ∈ p, sp x.block = true) → DataW.TrodAll enc P W' 0 sp true f.params.toList args.toList (s.fn H ds).args p := by
    intro sp hsp
    rw [hfn]
    exact trodAll_later hl hb sp hrd hA hlt hsp
  have hvs : ∀ sp : Nat → Bool, DataW.TrodVars enc P W' sp s.vars (s.fn H ds).vars [] := by
    intro sp
    rw [hv, hfn]
    rfl
  have hold : ∀ x ∈ p, (fun b => decide (b < W.heap.size)) x.block = true := fun x hx => by simpa using hlt x hx
  refine ⟨ds, [], p, [], p, [], hW', ?_, ?_, ?_, World.keptBut_mono (fun x hx => ⟨hx, .inr (.inl hx)⟩) (hb.frame (· ∈ p)), fun _ => ?_⟩
  · rw [List.append_nil]; exact hres _ _ _
  · rw [List.append_nil]; exact hargs _ hold
  · rw [List.append_nil]; exact hvs _
  · refine ⟨ok_one hr rfl (okWide_bool_mk htb _), _, _, ([] ++ p) ++ [], ⟨[] ++ p, [], trodAll_append (hargs _ (fun _ _ => rfl)) (hres _ _ _), hvs _, rfl, ?_, ?_⟩, ?_⟩
    · intro b off hp
      have hin : MemPlace.cell b off ∈ p := by simpa using hp
      have := hb.frozen (p := ⟨b, off, none⟩) (hlt _ hin)
      rw [this]
      exact hfz b off hin
    · intro ha
      simpa using hnd ha
    · intro x hx _
      simpa using hx
end
end Go.Proofs.Ytagofabhblbodaa.Kit
namespace Go.Proofs.Ytagofabhblbodaa.cfgNoneCard
open Go.ChangeShapes Go.WideShapes Go.ChangeAt Go.RowKit
theorem own : ownKnob Try.prog.godebug = none := by kernel_rfl
set_option maxRecDepth 100000 in
theorem contract (H : Type) (enc : TypeId × Value → H) (W : World) (base : Nat) (args : Array Value) (ds gs : List (DataW H)) (before : List MemPlace)
    (hval : ∀ (j : Nat) t v, Try.f5.params[j]? = some t → args[j]? = some v → Value.okWide Try.prog W .any base t v)
    (hW : DataW.Whole enc Try.prog Try.f5.params.toList Rows.cfgNoneSpec.vars false W args.toList ds gs before)
    (hsz : (DataW.weightsEach Try.prog (Try.f5.params.toList ++ (OpenSpec.ofChange Rows.cfgNoneSpec).bare.plain.varTypes Try.prog) (ds ++ gs)).all (· ≤ reachBytes) = true) :
    Calls Try.prog 5 args W fun e W' => ∃ v, e = .returned v ∧ Rows.cfgNoneSpec.post enc Try.prog Try.f5 false true false false W args v W' := by
  have hW' := hW
  obtain ⟨p, q, hA0, hV, rfl, hfz, hnd⟩ := hW
  have hA : DataW.TrodAll enc Try.prog W 0 (fun _ => true) true Try.f5.params.toList args.toList ds p := hA0
  rw [Try.params5] at hA hval hsz
  obtain ⟨v0, vs0, d0, ds0, p0, q0, hargs, rfl, rfl, h0, r0⟩ := trodAll_cons hA
  obtain ⟨rfl, rfl, rfl⟩ := trodAll_nil r0
  obtain rfl : args = #[v0] := by cases args; simp_all
  obtain ⟨rfl, rfl⟩ := trodVars_none hV
  obtain ⟨x0, rfl, rfl, rfl, wx0⟩ := open_int Try.underlying3 (hval 0 3 v0 rfl rfl) h0
  refine (none_law x0 _).mono fun e W' ⟨he, hb⟩ => ?_
  subst he
  exact ⟨_, rfl, Kit.law_post rfl rfl Try.underlying4 (by kernel_rfl) (by decide +kernel) hW' rfl hb⟩
theorem reads (os : Os) {H : Type} (enc : TypeId × Value → H) : ∃ places, DataW.whole enc Try.prog ((World.holding Try.prog os ⟨#[], #[], []⟩).forCall (fun _ _ => 0) ⟨#[], #[.int .i64 0], []⟩).memory Try.f5.params.toList Rows.cfgNoneSpec.vars false (#[.int .i64 0] : Array Value).toList 8 = some ([.lit (.int .i64 0)], [], places) :=
  ⟨[], by kernel_rfl⟩
theorem laid_met (os : Os) : laidMet Try.prog Rows.cfgNoneRow.laid ((World.holding Try.prog os ⟨#[], #[], []⟩).forCall (fun _ _ => 0) ⟨#[], #[.int .i64 0], []⟩).memory :=
  laidMet_of_run' 8 (by kernel_rfl) (by kernel_rfl)
set_option maxRecDepth 100000 in
theorem lifted (os : Os) (started : os.Started) (H : Type) (enc : TypeId × Value → H) (F : Stop.Interp) :
    ReturnsInHanded {} Try.checked os 5 .any ((OpenSpec.ofChange Rows.cfgNoneSpec).preRow enc Try.prog Try.f5 Rows.cfgNoneRow.domain false Rows.cfgNoneRow.laid) (((OpenSpec.ofChange Rows.cfgNoneSpec).at F).post enc Try.prog Try.f5 false true false false) := by
  obtain ⟨places, hx⟩ := reads os enc
  refine returnsInHanded_of_row (C := Try.checked) (s := (OpenSpec.ofChange Rows.cfgNoneSpec)) own started (by kernel_rfl) Try.func5
    (witness_row_at (enc := enc) (C := Try.checked) false (World.holding Try.prog os ⟨#[], #[], []⟩) #[.int .i64 0] rfl (by kernel_rfl) (by kernel_rfl) (by kernel_rfl)
      (OpenSpec.preRow_of_cond 8 hx (by kernel_rfl) (fun k hk => by cases hk) (by kernel_rfl) (laid_met os))) ?_
  intro W base args ds gs before hval hW _ _ hsz _ _ _
  exact contract H enc W base args ds gs before hval hW hsz
theorem proved : Rows.CfgNoneSaid :=
  OpenClaim.holds_of_cond 5 Try.f5 rfl rfl rfl rfl rfl rfl rfl ⟨rfl, rfl, rfl, rfl, rfl⟩ rfl rfl rfl rfl rfl (by kernel_rfl) Try.func5 (by kernel_rfl)
    (of_decide_eq_true (by kernel_rfl)) (by unfold Func.isWrapper; first | (rw [if_pos (by decide +kernel)]; kernel_rfl) | (rw [if_neg (by decide +kernel)]; exact ⟨rfl, rfl⟩))
    (fun os started H enc _ F => by rw [OpenClaim.pre_eq_preRow]; exact lifted os started H enc F)
end Go.Proofs.Ytagofabhblbodaa.cfgNoneCard
