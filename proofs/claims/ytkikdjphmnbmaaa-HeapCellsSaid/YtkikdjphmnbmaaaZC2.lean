/- Own texts for the claim, part 2. -/
import Derived.Test.YtkikdjphmnbmaaaZC1
namespace Go.Proofs.Ytkikdjphmnbmaaa
open Go Go.RowKit

theorem owns_set {w : World} {base : Nat} {e : TypeId} {size g n cap : Nat} {xs : List Value} (h : w.ownsRow base e size (.slice (some ⟨g, 0, none⟩) n cap) n xs) (i : Nat) (u : Value) :
    (w.setCell ⟨g, i, none⟩ u).ownsRow base e size (.slice (some ⟨g, 0, none⟩) n cap) n (xs.set i u) := by
  refine ⟨by rw [List.length_set]; exact h.1, ?_⟩
  rcases h.2 with ⟨h2, -⟩ | ⟨g', cap', cur, hv, hg, hh, h1, h2, h3, h4⟩
  · cases h2
  · obtain ⟨e1, -, rfl⟩ := Value.slice.inj hv
    obtain rfl : g = g' := by simpa using e1
    refine .inr ⟨g, cap, cur.setIfInBounds i u, rfl, hg, box_set hh i u, h1, h2, by rw [Array.size_setIfInBounds]; exact h3, ?_⟩
    rw [Array.toList_setIfInBounds, ← h4]
    exact List.take_set
theorem flat_set2 {α : Type} {f : α → List Value} {a b : Value} {v : α} (hf : ∀ x, (f x).length = 2) (hv : f v = [a, b]) : ∀ {l : List α} {j : Nat}, j < l.length → ((l.flatMap f).set (j * 2) a).set (j * 2 + 1) b = (l.set j v).flatMap f
  | [], _, h => by simp at h
  | x :: l, 0, _ => by
    have hx := hf x
    match hfx : f x, hx with
    | [p, q], _ => simp [hfx, hv]
  | x :: l, j + 1, h => by
    have hx := hf x
    have ih := flat_set2 (v := v) hf hv (l := l) (j := j) (by simpa using h)
    rw [List.set_cons_succ, List.flatMap_cons, List.flatMap_cons, ← ih, List.set_append, if_neg (by omega), List.set_append, if_neg (by omega), hx]
    congr 2
    · congr 1; omega
    · omega
theorem set_next {α : Type} {l zs : List α} {z0 z : α} {n k : Nat} (hn : zs.length = n) (hk : zs[k]? = some z) : (l ++ (zs.take k ++ List.replicate (n - k) z0)).set (l.length + k) z = l ++ (zs.take (k + 1) ++ List.replicate (n - (k + 1)) z0) := by
  have hlt : k < zs.length := (List.getElem?_eq_some_iff.1 hk).1
  have hz := (List.getElem?_eq_some_iff.1 hk).2
  rw [List.set_append, if_neg (by omega), List.set_append, if_neg (by rw [List.length_take]; omega), List.length_take]
  rw [show l.length + k - l.length - min k zs.length = 0 by omega, show n - k = (n - (k + 1)) + 1 by omega, List.replicate_succ, List.set_cons_zero, List.take_add_one, hk]
  simp
/-- A block known whole. -/
def BX (w : World) (b : Nat) (cs : Array Value) (T : TypeId) : Prop := w.heap[b]? = some (.cells cs T (0, 0))
theorem BX.new (w : World) (cs : Array Value) (T : TypeId) : BX (w.alloc (.cells cs T)) w.heap.size cs T := heap_alloc_new w _
theorem BX.sz {w : World} {b : Nat} {cs : Array Value} {T : TypeId} (h : BX w b cs T) : b < w.heap.size := (Array.getElem?_eq_some_iff.1 h).1
theorem BX.chg {S : Nat → Prop} {w w' : World} {b : Nat} {cs : Array Value} {T : TypeId} (h : BX w b cs T) (hc : Chg S w w') (hs : ¬ S b) : BX w' b cs T := (hc.block b h.sz hs).trans h
theorem BX.below {w w' : World} {b : Nat} {cs : Array Value} {T : TypeId} (h : BX w b cs T) (hb : Below w.heap.size w w') : BX w' b cs T := (hb.block b h.sz).trans h
theorem BX.cell {w : World} {b : Nat} {cs : Array Value} {T : TypeId} (h : BX w b cs T) (j : Nat) : w.cell? ⟨b, j, none⟩ = cs[j]? := by
  simp only [World.cell?]
  rw [show w.heap[(⟨b, j, none⟩ : Addr).block]? = _ from h]
  simp
theorem BX.frozen {w : World} {b : Nat} {cs : Array Value} {T : TypeId} (h : BX w b cs T) (j : Nat) : w.frozen? ⟨b, j, none⟩ = false := by
  simp only [World.frozen?]
  rw [show w.heap[(⟨b, j, none⟩ : Addr).block]? = _ from h]
  simp
theorem Went.off {w w' : World} {base : Nat} {H H' : HV} {s : Hp.St} (h : Went w w' base H H' s) {b : Nat} (hb : b < w.heap.size) (hf : ¬ H.foot b) : ¬ H'.foot b := fun e => by
  rcases h.foot b e with h1 | h1
  · exact hf h1
  · omega
theorem own_some {w : World} {base : Nat} {e : TypeId} {size : Nat} {v : Value} {n : Nat} {xs : List Value} (h : w.ownsRow base e size v n xs) {g : Nat} (hg : v.ownBlock = some g) : ∃ cap, v = .slice (some ⟨g, 0, none⟩) n cap := by
  rcases h.2 with ⟨rfl, -⟩ | ⟨g', cap, cur, rfl, -⟩
  · simp [Value.ownBlock] at hg
  · simp only [Value.ownBlock, Option.some.injEq] at hg
    subst hg
    exact ⟨cap, rfl⟩
theorem own_at {w : World} {base : Nat} {e : TypeId} {size : Nat} {v : Value} {n : Nat} {xs : List Value} (h : w.ownsRow base e size v n xs) {g : Nat} (hg : v.ownBlock = some g) : (∀ i u, xs[i]? = some u → w.cell? ⟨g, i, none⟩ = some u) ∧ ∀ i, w.frozen? ⟨g, i, none⟩ = false := by
  rcases h.2 with ⟨rfl, -⟩ | ⟨g', cap, cur, rfl, hg', hh, hc1, hc2, hc3, ht⟩
  · simp [Value.ownBlock] at hg
  · simp only [Value.ownBlock, Option.some.injEq] at hg
    subst hg
    refine ⟨fun i u hi => ?_, fun i => by simp [World.frozen?, hh]⟩
    have hlt : i < xs.length := by rw [List.getElem?_eq_some_iff] at hi; exact hi.1
    have hx := h.1
    have : cur[i]? = some u := by
      rw [← ht, List.getElem?_take_of_lt (by omega)] at hi
      simpa using hi
    simp [World.cell?, hh, this]
theorem tL_at {l : List Hp.Ty} {j : Nat} {t : Hp.Ty} (h : l[j]? = some t) : (l.flatMap tL)[j * 2]? = some (.int .i64 t.k) ∧ (l.flatMap tL)[j * 2 + 1]? = some (.string t.s) :=
  ⟨by have := Kit.flat_at (f := tL) (s := 2) tL_len h 0 (by decide); exact this, by have := Kit.flat_at (f := tL) (s := 2) tL_len h 1 (by decide); exact this⟩
theorem vL_at {l : List Hp.Vl} {j : Nat} {t : Hp.Vl} (h : l[j]? = some t) : (l.flatMap vL)[j * 2]? = some (.int .i64 t.k) ∧ (l.flatMap vL)[j * 2 + 1]? = some (.int .i64 t.n) :=
  ⟨by have := Kit.flat_at (f := vL) (s := 2) vL_len h 0 (by decide); exact this, by have := Kit.flat_at (f := vL) (s := 2) vL_len h 1 (by decide); exact this⟩
/-- What a store to a place of the values leaves. -/
theorem Rep.putV {w : World} {base : Nat} {H : HV} {s : Hp.St} (h : Rep w base H s) {g j : Nat} (hg : H.d.ownBlock = some g) (hj : j < s.vc.length) (v : Hp.Vl) :
    Went w ((w.setCell ⟨g, j * 2, none⟩ (.int .i64 v.k)).setCell ⟨g, j * 2 + 1, none⟩ (.int .i64 v.n)) base H H { s with vc := s.vc.set j v } := by
  have hS : Chg (fun k => k = g) w ((w.setCell ⟨g, j * 2, none⟩ (.int .i64 v.k)).setCell ⟨g, j * 2 + 1, none⟩ (.int .i64 v.n)) := ((Chg.refl (fun k => k = g) w).set (p := ⟨g, j * 2, none⟩) (.inl rfl) _).set (p := ⟨g, j * 2 + 1, none⟩) (.inl rfl) _
  obtain ⟨cap, hv⟩ := own_some h.od hg
  have hod := h.od
  rw [hv] at hod
  have h2 := owns_set (owns_set hod (j * 2) (.int .i64 v.k)) (j * 2 + 1) (.int .i64 v.n)
  rw [flat_set2 (f := vL) (v := v) vL_len rfl hj] at h2
  refine ⟨⟨(hS.block _ h.hb_lt (fun e => own_unlike_box h.od h.box (by decide) (e ▸ hg))).trans h.box, (hS.block _ h.ib_lt (fun e => own_unlike_box h.od h.ins (by decide) (e ▸ hg))).trans h.ins,
    owns_chg h.oa hS (fun k e e2 => own_unlike h.oa h.od (by decide) k e (e2 ▸ hg)), owns_chg h.ob hS (fun k e e2 => own_unlike h.ob h.od (by decide) k e (e2 ▸ hg)), owns_chg h.oc hS (fun k e e2 => own_unlike h.oc h.od (by decide) k e (e2 ▸ hg)),
    ?_, owns_chg h.oe hS (fun k e e2 => own_unlike h.oe h.od (by decide) k e (e2 ▸ hg)), h.ac, h.ae, h.ce, h.lh, h.li⟩, hS.mono (fun i _ e => ?_), rfl, rfl, fun k e => .inl e⟩
  · show World.ownsRow _ _ _ _ H.d _ _
    rw [hv, List.length_set]
    exact h2
  · exact .inr (.inr (.inr (.inr (.inr (.inl (e ▸ hg))))))
/-- What a store to a place of the types leaves. -/
theorem Rep.putT {w : World} {base : Nat} {H : HV} {s : Hp.St} (h : Rep w base H s) {g j : Nat} (hg : H.b.ownBlock = some g) (hj : j < s.tc.length) (v : Hp.Ty) :
    Went w ((w.setCell ⟨g, j * 2, none⟩ (.int .i64 v.k)).setCell ⟨g, j * 2 + 1, none⟩ (.string v.s)) base H H { s with tc := s.tc.set j v } := by
  have hS : Chg (fun k => k = g) w ((w.setCell ⟨g, j * 2, none⟩ (.int .i64 v.k)).setCell ⟨g, j * 2 + 1, none⟩ (.string v.s)) := ((Chg.refl (fun k => k = g) w).set (p := ⟨g, j * 2, none⟩) (.inl rfl) _).set (p := ⟨g, j * 2 + 1, none⟩) (.inl rfl) _
  obtain ⟨cap, hv⟩ := own_some h.ob hg
  have hod := h.ob
  rw [hv] at hod
  have h2 := owns_set (owns_set hod (j * 2) (.int .i64 v.k)) (j * 2 + 1) (.string v.s)
  rw [flat_set2 (f := tL) (v := v) tL_len rfl hj] at h2
  refine ⟨⟨(hS.block _ h.hb_lt (fun e => own_unlike_box h.ob h.box (by decide) (e ▸ hg))).trans h.box, (hS.block _ h.ib_lt (fun e => own_unlike_box h.ob h.ins (by decide) (e ▸ hg))).trans h.ins,
    owns_chg h.oa hS (fun k e e2 => own_unlike h.oa h.ob (by decide) k e (e2 ▸ hg)), ?_, owns_chg h.oc hS (fun k e e2 => own_unlike h.oc h.ob (by decide) k e (e2 ▸ hg)), owns_chg h.od hS (fun k e e2 => own_unlike h.od h.ob (by decide) k e (e2 ▸ hg)),
    owns_chg h.oe hS (fun k e e2 => own_unlike h.oe h.ob (by decide) k e (e2 ▸ hg)), h.ac, h.ae, h.ce, h.lh, h.li⟩, hS.mono (fun i _ e => ?_), rfl, rfl, fun k e => .inl e⟩
  · show World.ownsRow _ _ _ _ H.b _ _
    rw [hv, List.length_set]
    exact h2
  · exact .inr (.inr (.inr (.inl (e ▸ hg))))
end Go.Proofs.Ytkikdjphmnbmaaa
namespace Go.Proofs.Ytkikdjphmnbmaaa
open Go Go.RowKit

def AddPost (base : Nat) (H : HV) (s' : Hp.St) (n : Int) (w : World) (e : Ending) (w' : World) : Prop := ∃ H', e = .returned (.int .i64 n) ∧ Went w w' base H H' s'
set_option maxRecDepth 100000 in
set_option maxHeartbeats 2000000 in
theorem addArray_any {w : World} {base : Nat} {H : HV} {s : Hp.St} (h : Rep w base H s) (t : Hp.Ty) (z : Hp.Vl) (n : Nat) (hz : zeroOf t = some z) (hn : s.vc.length + n ≤ 1073741000) (hm : s.ve.length ≤ 1073741000) (hc : s.cs.length ≤ 1073741000) (ht : s.tc.length ≤ 1073741000) (hu : s.te.length ≤ 1073741000) :
    Calls Try.prog 40 #[.pointer (some ⟨H.ib, 0, none⟩), tA t, .int .i64 (n : Int)] w
      (AddPost base H { s with cs := s.cs ++ [-1], tc := s.tc ++ [t], te := s.te ++ [s.tc.length + 1], vc := s.vc ++ List.replicate n z, ve := s.ve ++ [s.vc.length + n] } ((s.cs.length : Int) + 1) w) := by
  obtain ⟨i9, hi9, hz09, hz19, hz29⟩ := info_parts infoI
  have HZ := hid (fun W => zero_any t W)
  rw [hz] at HZ
  unfold AddPost
  unfold tA zV vA at HZ
  unfold tA
  dsimp only [Option.getD_some, Option.isSome_some] at HZ
  clear hz
  obtain ⟨tk, ts⟩ := t
  have hlow := fun k (e : H.foot k) => (h.low k e).2
  have h0 := h.alloc (.cells #[.int .i64 tk, .string ts] 33)
  have HF := hid (show ¬ H.foot w.heap.size from fun e => by have := hlow _ e; omega)
  have HOa := hid (fun X (k : Below w.heap.size w X) => Kit.owns_below h.oa k (Nat.le_refl _))
  have HR0 := hid h0
  have hbl := h.base_lt
  clear hlow h0
  obtain ⟨hb, ib, va, vb, vc, vd, ve⟩ := H; obtain ⟨lim, cs, tc, te, vs, vn⟩ := s; have e1 := own_form h.oa; have e2 := own_form h.ob; have e3 := own_form h.oc; have e4 := own_form h.od; have e5 := own_form h.oe; dsimp only at *; obtain ⟨ua, pa, rfl⟩ := e1; obtain ⟨ub, pb, rfl⟩ := e2; obtain ⟨uc, pc, rfl⟩ := e3; obtain ⟨ud, pd, rfl⟩ := e4; obtain ⟨ue, pe, rfl⟩ := e5; have hcl := h.cells; have hgen := h.hb_lt; have hgen2 := h.ib_lt; have hgen3 := h.li; dsimp only at hcl hgen hgen2 hgen3; obtain ⟨k0, k1, k2, k3, k4, k5, k6⟩ := hcl; have HR := hid h; clear h
  go_enter Try.func40, Try.ntmps40
  go_wp2_with (at_builtin; refine wpList_append_own_at _ rfl (.tmp 15) (.tmp 16) 72 rfl base 3 i9 _ 1 8 Try.underlying72 hi9 hz09 hz19 hz29 rfl (by decide) (.slice ua cs.length pa) cs.length (iL cs) rfl (HOa.out _ (by repeat' first | with_reducible exact Below.refl _ _ | with_reducible assumption | with_reducible refine belows_drewN ?_ _ | with_reducible refine Below.drew ?_ | with_reducible refine Below.setCell ?_ ?_ _ | with_reducible refine Below.alloc ?_ ?_ _ | omega | (simp; done) | (simp; omega))) ⟨w.heap.size + 1, 0, none⟩ 1 1 [.int .i64 (-1)] rfl rfl (by have := Kit.news_one (w.alloc (.cells #[.int .i64 tk, .string ts] 33)) (.int .i64 (-1)) 3; rw [World.size_alloc] at this; exact this) (Kit.ones_one rfl) (by unfold maxLen; omega) (by omega) (by simp; omega) ?_; intro v1 w1 ho1 hg1 _ hk1; have hc1 := (Chg.of_below (S := fun i => (Value.slice ua cs.length pa).ownBlock = some i) (w := w.alloc (.cells #[.int .i64 tk, .string ts] 33)) ((Below.refl _ _).alloc (Nat.le_refl _) (.cells #[.int .i64 (-1)] 3))).grown hg1 (fun _ e => .inl e); rw [← iL_snoc, show cs.length + 1 = (cs ++ [(-1 : Int)]).length by simp] at ho1; have WA := hid (HR0.out.setA hc1 ho1 (hk1.imp_right (fun e => ⟨_, by simp, e⟩))); have g1 := (hc1.block _ HR0.out.ib_lt (own_unlike_box HR0.out.oa HR0.out.ins (by decide))).trans HR0.out.ins; dsimp only at g1; have c1 : w1.cell? ⟨ib, 1, none⟩ = some (.slice ua cs.length pa) := (by simp [World.cell?, g1]); have y1 : w1.frozen? ⟨ib, 1, none⟩ = false := (by simp [World.frozen?, g1]); obtain ⟨b1, q1, rfl⟩ := own_form ho1; clear ho1 hg1 hk1 hc1 g1)
  obtain ⟨W, hW⟩ : ∃ W, W = w1.setCell ⟨ib, 1, none⟩ (.slice b1 (cs.length + 1) q1) := ⟨_, rfl⟩
  simp only [List.length_append, List.length_singleton] at WA
  rw [← hW] at WA ⊢
  clear hW c1 y1
  have bxA := BX.new w #[.int .i64 tk, .string ts] 33
  have HbW := hid (bxA.chg WA.out.chg HF.out)
  have HoffW := hid (WA.out.off (b := w.heap.size) (by simp) HF.out)
  have HT := hid (fun X (k : Below W.heap.size W X) => addT_any (WA.out.rep.below k) 1 (by show tc.length + 1 ≤ _; omega) (by show te.length ≤ _; omega))
  unfold AddT Sub at HT
  have cfT := fun (u v : Value) (w : World) => (show (callFunc 57 #[u, v]).run Try.prog w = .ok (.enter 57 #[u, v]) w by kernel_rfl)
  clear bxA k0 k1 k2 k3 k4 k5 k6
  have x0 := HbW.out.cell 0
  have x1 := HbW.out.cell 1
  simp at x0 x1
  go_region_law (refine Kit.step_call2 rfl 57 (.tmp 22) (.const (.int .i64 1)) 74 3 rfl _ _ rfl rfl (cfT _ _ _) _ (HT.out _ (by repeat' first | with_reducible exact Below.refl _ _ | with_reducible assumption | with_reducible refine belows_drewN ?_ _ | with_reducible refine Below.drew ?_ | with_reducible refine Below.setCell ?_ ?_ _ | with_reducible refine Below.alloc ?_ ?_ _ | omega | (simp; done) | (simp; omega))) ?_; rintro e w2 ⟨H2, v, rfl, hW2, a2, c2, rfl, hcc, hsub⟩; refine ⟨_, rfl, ?_⟩; have hb2 : BX w2 w.heap.size #[.int .i64 tk, .string ts] 33 := ((HbW.out.below (by repeat' first | with_reducible exact Below.refl _ _ | with_reducible assumption | with_reducible refine belows_drewN ?_ _ | with_reducible refine Below.drew ?_ | with_reducible refine Below.setCell ?_ ?_ _ | with_reducible refine Below.alloc ?_ ?_ _ | omega | (simp; done) | (simp; omega))).chg hW2.chg HoffW.out); obtain ⟨g, hg, rfl⟩ := hsub (by decide); obtain ⟨hgc, hgf⟩ := own_at hW2.rep.ob hg; obtain ⟨z0, z1⟩ := tL_at (l := tc ++ List.replicate 1 Hp.T0) (j := tc.length) (t := Hp.T0) (by simp); have d0 := hgc _ _ z0; have d1 := hgc _ _ z1; have f0 := hgf (tc.length * 2); have f1 := hgf (tc.length * 2 + 1); have e0 := hb2.cell 0; have e1 := hb2.cell 1; simp at e0 e1; have HW2 := hid (show Went W w2 base _ H2 _ from Went.start (by repeat' first | with_reducible exact Below.refl _ _ | with_reducible assumption | with_reducible refine belows_drewN ?_ _ | with_reducible refine Below.drew ?_ | with_reducible refine Below.setCell ?_ ?_ _ | with_reducible refine Below.alloc ?_ ?_ _ | omega | (simp; done) | (simp; omega)) hW2); have HP := hid (hW2.rep.putT hg (j := tc.length) (by show tc.length < (tc ++ List.replicate 1 Hp.T0).length; simp) ⟨tk, ts⟩); have HB2 := hid hb2; clear hW2 hsub hg hgc hgf z0 z1 hb2)
  all_goals
    obtain ⟨Y, hY⟩ : ∃ Y, Y = (w2.setCell ⟨g, tc.length * 2, none⟩ (.int .i64 tk)).setCell ⟨g, tc.length * 2 + 1, none⟩ (.string ts) := ⟨_, rfl⟩
    rw [← hY] at HP ⊢
    have hset : (tc ++ List.replicate 1 Hp.T0).set tc.length ⟨tk, ts⟩ = tc ++ [⟨tk, ts⟩] := by simp
    dsimp only at HP
    rw [hset] at HP
    have WG := hid (WA.out.trans (HW2.out.trans HP.out))
    have HbY := hid (HB2.out.chg HP.out.chg (HW2.out.off HbW.out.sz HoffW.out))
    have hlY := hid (fun k (e : H2.foot k) => (WG.out.rep.low k e).2)
    have HV := hid (fun X (k : Below Y.heap.size Y X) => by have a := addV_any (WG.out.rep.below k) n (by show vs.length + n ≤ _; omega) (by show vn.length ≤ _; omega); rw [WG.out.ib] at a; exact a)
    unfold AddV Sub at HV
    clear hY hset d0 d1 f0 f1 e0 e1 x0 x1 HW2 HP HB2 HT cfT
    have x0 := HbY.out.cell 0
    have x1 := HbY.out.cell 1
    simp at x0 x1
    go_wp2_with fail
    refine (HZ.out _).mono ?_
    rintro e w3 ⟨rfl, hb3⟩
    have bz := BX.new w3 #[.int .i64 z.k, .int .i64 z.n] 35
    go_wp2_with fail
    have hz3 := hb3.size
    refine (HV.out _ (by repeat' first | with_reducible exact Below.refl _ _ | with_reducible assumption | with_reducible refine belows_drewN ?_ _ | with_reducible refine Below.drew ?_ | with_reducible refine Below.setCell ?_ ?_ _ | with_reducible refine Below.alloc ?_ ?_ _ | omega | (simp; done) | (simp; omega))).mono ?_
    rintro e w4 ⟨H4, v, rfl, hW4, a4, c4, rfl, hcc4, hsub4⟩
    have bz4 := hid (bz.chg hW4.chg (fun e => by have := hlY.out _ e; omega))
    have HoffZ := hid (hW4.off (b := w3.heap.size) (by simp) (fun e => by have := hlY.out _ e; omega))
    have HW4 := hid (WG.out.trans (Went.start (by exact (by repeat' first | with_reducible exact Below.refl _ _ | with_reducible assumption | with_reducible refine belows_drewN ?_ _ | with_reducible refine Below.drew ?_ | with_reducible refine Below.setCell ?_ ?_ _ | with_reducible refine Below.alloc ?_ ?_ _ | omega | (simp; done) | (simp; omega))) hW4))
    have HS4 := hid hsub4
    clear hW4 hsub4 bz hb3 x0 x1 HV WG HbY HOa HR0 HR
    go_wp2
    go_loopw [38] (fun i wr => ∃ k : Nat, k ≤ n ∧ i = .int .i64 (k : Int) ∧ Hid (Went (w.alloc (.cells #[.int .i64 tk, .string ts] 33)) wr base ⟨hb, ib, .slice ua cs.length pa, .slice ub tc.length pb, .slice uc te.length pc, .slice ud vs.length pd, .slice ue vn.length pe⟩ H4 ⟨lim, cs ++ [-1], tc ++ [⟨tk, ts⟩], te ++ [tc.length + 1], vs ++ ((List.replicate n z).take k ++ List.replicate (n - k) Hp.V0), vn ++ [vs.length + n]⟩) ∧ Hid (BX wr w3.heap.size #[.int .i64 z.k, .int .i64 z.n] 35)) (fun i _ => n - (intOf i).toNat)
    case atStart => exact ⟨0, by omega, rfl, by show Went _ _ _ _ _ _; simpa using HW4.out, bz4⟩
    case round =>
      obtain ⟨k, hk, rfl, HWk, Hbz⟩ := hrel
      by_cases hlt : k < n
      · obtain ⟨g4, hg4, rfl⟩ := HS4.out (by omega)
        have hzk : (List.replicate n z)[k]? = some z := by rw [List.getElem?_replicate, if_pos hlt]
        have hjl : vs.length + k < (vs ++ ((List.replicate n z).take k ++ List.replicate (n - k) Hp.V0)).length := by simp; omega
        obtain ⟨u, hu⟩ : ∃ u, (vs ++ ((List.replicate n z).take k ++ List.replicate (n - k) Hp.V0))[vs.length + k]? = some u := ⟨_, List.getElem?_eq_getElem hjl⟩
        obtain ⟨hgc, hgf⟩ := own_at HWk.out.rep.od hg4
        obtain ⟨z0, z1⟩ := vL_at hu
        have d0 := hgc _ _ z0
        have d1 := hgc _ _ z1
        have f0 := hgf (vs.length * 2 + k * 2)
        have f1 := hgf (vs.length * 2 + k * 2 + 1)
        have hput := HWk.out.rep.putV hg4 (j := vs.length + k) hjl z
        have HPk := HWk.out.trans hput
        have Hbz2 := Hbz.out.chg hput.chg HoffZ.out
        dsimp only at HPk
        rw [set_next (by simp) hzk] at HPk
        have e0 := Hbz.out.cell 0
        have e1 := Hbz.out.cell 1
        simp at e0 e1
        rw [Nat.add_mul] at d0 d1 HPk Hbz2
        have HPk2 := hid HPk
        have Hbz3 := hid Hbz2
        clear hgc hgf z0 z1 hu hzk HPk Hbz2 hput
        go_wp2
        go_roundw
        case rel => exact ⟨k + 1, by omega, by go_num, HPk2, Hbz3⟩
        case measure => simp [intOf] <;> omega
      · obtain rfl : k = n := by omega
        have HM := hid (many_any HWk.out.rep)
        rw [HWk.out.ib] at HM
        go_wp2_with fail
        refine HM.out.mono ?_
        rintro e w5 ⟨rfl, rfl⟩
        go_wp2
        go_ret
        have hfin := Went.start (a := w) ((Below.refl _ _).alloc (Nat.le_refl _) _) HWk.out
        rw [show (List.replicate k z).take k ++ List.replicate (k - k) Hp.V0 = List.replicate k z by simp] at hfin
        exact ⟨_, by simp, hfin⟩
end Go.Proofs.Ytkikdjphmnbmaaa
namespace Go.Proofs.Ytkikdjphmnbmaaa
open Go Go.RowKit

theorem run_copy_two {P : Program} (w : World) (dT sT ty elem : TypeId) (hu : P.underlying dT = some (.slice elem)) (hs : (P.info? elem).map (·.size) = some 2) (k : Nat) (da sa : Option Addr) (dc sc : Nat) (cs : List Value) (hl : cs.length = k * 2)
    (hsrc : 0 < k → ∃ a, sa = some a ∧ ∀ j u, cs[j]? = some u → w.cell? (a.add j) = some u) (h1 : ∀ u ∈ cs, u.oneCell' = true) (hd0 : 0 < k → ∃ g o cur t, da = some ⟨g, o, none⟩ ∧ w.heap[g]? = some (.cells cur t (0, 0)) ∧ o + k * 2 ≤ cur.size) :
    ∃ w', (Builtin.copy_ #[dT, sT] ty #[.slice da k dc, .slice sa k sc]).run P w = .ok (goInt k) w' ∧ (k = 0 → w' = w) ∧
      ∀ g o cur t, 0 < k → da = some ⟨g, o, none⟩ → w.heap[g]? = some (.cells cur t (0, 0)) → w' = w.setRow g (cur.toList.take o ++ cs ++ cur.toList.drop (o + cs.length)).toArray := by
  cases hq : P.info? elem with
  | none => simp [hq] at hs
  | some i =>
    have hi : i.size = 2 := by simpa [hq] using hs
    by_cases hk : k = 0
    · subst hk
      have hc : cs = [] := List.eq_nil_of_length_eq_zero (by simpa using hl)
      subst hc
      refine ⟨w, ?_, fun _ => rfl, fun _ _ _ _ h => absurd h (by omega)⟩
      have hld : ∀ (x : Addr), (loadCells x 0).run P w = .ok #[] w := fun x => by simpa using run_loadCells_list (P := P) w x [] (by simp)
      cases da <;> cases sa <;> simp [Builtin.copy_, run_underlying hu, Builtin.lenOf, Builtin.firstCells, sizeOf, typeInfo, hq, storeCells, hld]
    · obtain ⟨a, rfl, ha⟩ := hsrc (by omega)
      obtain ⟨g, o, cur, t, rfl, hg, hfit⟩ := hd0 (by omega)
      have hld := run_loadCells_list (P := P) w a cs ha
      have hst := run_storeCells_at P g o t cs 0 cur w hg (by simpa [hl] using hfit) h1
      refine ⟨w.setRow g (cur.toList.take o ++ cs ++ cur.toList.drop (o + cs.length)).toArray, ?_, fun h => absurd h hk, fun g' o' cur' t' _ e hg' => ?_⟩
      rotate_left
      · obtain ⟨rfl, rfl, -⟩ := Addr.mk.inj (Option.some.inj e)
        rw [hg] at hg'
        simp only [Option.some.injEq, Obj.cells.injEq] at hg'
        obtain ⟨rfl, -⟩ := hg'
        rfl
      · simp only [Nat.add_zero] at hst
        rw [hl] at hld
        simp [Builtin.copy_, run_underlying hu, Builtin.lenOf, Builtin.firstCells, sizeOf, typeInfo, hq, hi, hld, hst]
theorem wpList_copy_two {P : Program} {w : World} {ops : Array Oper} {rest : List Oper} {o : Oper} {a : Act} {Q : Exit → Act → World → Prop} (hgd : o.guard = none) (d s : Operand) (dT sT : TypeId)
    (ho : o.op = .call { callee := .builtin .copy, args := #[d, s], argTypes := #[dT, sT] }) (elem : TypeId) (hu : P.underlying dT = some (.slice elem)) (hsz : (P.info? elem).map (·.size) = some 2) (k : Nat) (da sa : Option Addr) (dc sc : Nat) (hd : a.eval d = .slice da k dc) (hs : a.eval s = .slice sa k sc) (cs : List Value) (hl : cs.length = k * 2)
    (hsrc : 0 < k → ∃ a, sa = some a ∧ ∀ j u, cs[j]? = some u → w.cell? (a.add j) = some u) (h1 : ∀ u ∈ cs, u.oneCell' = true) (hd0 : 0 < k → ∃ g o cur t, da = some ⟨g, o, none⟩ ∧ w.heap[g]? = some (.cells cur t (0, 0)) ∧ o + k * 2 ≤ cur.size)
    (h : ∀ w', (k = 0 → w' = w) → (∀ g o cur t, 0 < k → da = some ⟨g, o, none⟩ → w.heap[g]? = some (.cells cur t (0, 0)) → w' = w.setRow g (cur.toList.take o ++ cs ++ cur.toList.drop (o + cs.length)).toArray) → wpList P ops Q rest (a.put o.dst (goInt k)) w') : wpList P ops Q (o :: rest) a w := by
  refine wpList_plain hgd fun K hK => ?_
  obtain ⟨w', hrun, h2, h3⟩ := run_copy_two (P := P) w dT sT o.type elem hu hsz k da sa dc sc cs hl hsrc h1 hd0
  unfold Oper.wp
  simp [execOp, ho, resolve, invoke, builtin, hd, hs, hrun, Result.andThen]
  exact hK _ _ (h w' h2 h3)
/-- A list that reads, in a block that is none of S. -/
def IsO (S : Nat → Prop) (size : Nat) (w : World) (v : Value) (n : Nat) (xs : List Value) : Prop :=
  xs.length = n * size ∧ n ≤ 140737488355328 ∧ ((n = 0 ∧ ∃ a cap, v = .slice a 0 cap) ∨ (∃ b o cap, v = .slice (some ⟨b, o, none⟩) n cap ∧ n ≤ cap ∧ b < w.heap.size ∧ ¬ S b ∧ ∀ i u, xs[i]? = some u → w.cell? ⟨b, o + i, none⟩ = some u))
theorem IsO.chg {S T : Nat → Prop} {size : Nat} {w w' : World} {v : Value} {n : Nat} {xs : List Value} (h : IsO S size w v n xs) (hc : Chg S w w') (hT : ∀ k, k < w.heap.size → T k → S k) : IsO T size w' v n xs := by
  refine ⟨h.1, h.2.1, ?_⟩
  rcases h.2.2 with h | ⟨b, o, cap, hv, hl, hlt, hs, hx⟩
  · exact .inl h
  · exact .inr ⟨b, o, cap, hv, hl, Nat.lt_of_lt_of_le hlt hc.size, fun e => hs (hT b hlt e), fun i u hi => (hc.cell (p := ⟨b, o + i, none⟩) hlt hs).trans (hx i u hi)⟩
theorem IsO.below {S : Nat → Prop} {size : Nat} {w w' : World} {v : Value} {n : Nat} {xs : List Value} (h : IsO S size w v n xs) (hb : Below w.heap.size w w') : IsO S size w' v n xs := h.chg (Chg.of_below hb) (fun _ _ e => e)
theorem IsO.went {size : Nat} {w w' : World} {v : Value} {n : Nat} {xs : List Value} {base : Nat} {H H' : HV} {s : Hp.St} (h : IsO H.foot size w v n xs) (hw : Went w w' base H H' s) : IsO H'.foot size w' v n xs :=
  h.chg hw.chg (fun k hk e => by rcases hw.foot k e with h1 | h1; exact h1; omega)
theorem IsO.len {S : Nat → Prop} {size : Nat} {w : World} {v : Value} {n : Nat} {xs : List Value} (h : IsO S size w v n xs) : ∃ a cap, v = .slice a n cap := by
  rcases h.2.2 with ⟨rfl, a, cap, rfl⟩ | ⟨b, o, cap, rfl, -⟩
  · exact ⟨a, cap, rfl⟩
  · exact ⟨_, cap, rfl⟩
theorem IsO.some {S : Nat → Prop} {size : Nat} {w : World} {v : Value} {n : Nat} {xs : List Value} (h : IsO S size w v n xs) (hn : 0 < n) :
    ∃ b o cap, v = .slice (Option.some ⟨b, o, none⟩) n cap ∧ n ≤ cap ∧ b < w.heap.size ∧ ¬ S b ∧ ∀ i u, xs[i]? = Option.some u → w.cell? ⟨b, o + i, none⟩ = Option.some u := by
  rcases h.2.2 with ⟨rfl, _⟩ | h
  · omega
  · exact h
theorem onesTL (l : List Hp.Ty) : ∀ u ∈ l.flatMap tL, u.oneCell' = true := by
  intro u hu
  simp only [List.mem_flatMap, tL, List.mem_cons, List.not_mem_nil, or_false] at hu
  obtain ⟨t, -, rfl | rfl⟩ := hu <;> rfl
/-- A row of types is filled. -/
theorem Rep.fillT {w : World} {base : Nat} {H : HV} {s : Hp.St} {l ts : List Hp.Ty} (h : Rep w base H s) (hl : s.tc = l ++ List.replicate ts.length Hp.T0) {g : Nat} (hg : H.b.ownBlock = some g) {cur : Array Value} {t : TypeId} (hc : w.heap[g]? = some (.cells cur t (0, 0))) :
    Went w (w.setRow g (cur.toList.take (l.length * 2) ++ ts.flatMap tL ++ cur.toList.drop (l.length * 2 + (ts.flatMap tL).length)).toArray) base H H { s with tc := l ++ ts } := by
  have hS : Chg (fun k => k = g) w (w.setRow g (cur.toList.take (l.length * 2) ++ ts.flatMap tL ++ cur.toList.drop (l.length * 2 + (ts.flatMap tL).length)).toArray) := ⟨rfl, rfl, rfl, by simp [World.setRow], fun k _ hk => setRow_other w g k _ hk⟩
  refine ⟨⟨(hS.block _ h.hb_lt (fun e => own_unlike_box h.ob h.box (by decide) (e ▸ hg))).trans h.box, (hS.block _ h.ib_lt (fun e => own_unlike_box h.ob h.ins (by decide) (e ▸ hg))).trans h.ins,
    owns_chg h.oa hS (fun k e e2 => own_unlike h.oa h.ob (by decide) k e (e2 ▸ hg)), ?_, owns_chg h.oc hS (fun k e e2 => own_unlike h.oc h.ob (by decide) k e (e2 ▸ hg)), owns_chg h.od hS (fun k e e2 => own_unlike h.od h.ob (by decide) k e (e2 ▸ hg)),
    owns_chg h.oe hS (fun k e e2 => own_unlike h.oe h.ob (by decide) k e (e2 ▸ hg)), h.ac, h.ae, h.ce, h.lh, h.li⟩, hS.mono (fun i _ e => .inr (.inr (.inr (.inl (e ▸ hg))))), rfl, rfl, fun k e => .inl e⟩
  obtain ⟨h1, h2⟩ := h.ob
  have hlen : s.tc.length = (l ++ ts).length := by rw [hl]; simp
  show World.ownsRow _ _ _ _ H.b (l ++ ts).length ((l ++ ts).flatMap tL)
  refine ⟨Kit.flat_len tL_len _, ?_⟩
  rcases h2 with ⟨e, -⟩ | ⟨g', cap, cur', hv, hbg, hh, c1, c2, c3, c4⟩
  · rw [e] at hg; simp [Value.ownBlock] at hg
  · rw [hv] at hg
    simp only [Value.ownBlock, Option.some.injEq] at hg
    subst hg
    rw [hh] at hc
    simp only [Option.some.injEq, Obj.cells.injEq] at hc
    obtain ⟨rfl, rfl, -⟩ := hc
    have hfl := Kit.flat_len tL_len ts
    have hll := Kit.flat_len tL_len l
    have hcz : (l.length + ts.length) * 2 ≤ cur'.size := by rw [c3]; exact Nat.mul_le_mul_right _ (by rw [List.length_append] at hlen; omega)
    rw [hlen] at hv c1
    refine .inr ⟨g', cap, _, hv, hbg, setRow_heap w g' cur' _ _ _ hh, c1, c2, ?_, ?_⟩
    · simp only [List.size_toArray, List.length_append, List.length_take, List.length_drop, Array.length_toList]
      omega
    · have hpre : cur'.toList.take (l.length * 2) = l.flatMap tL := by
        have := congrArg (List.take (l.length * 2)) c4
        rw [List.take_take, hl, List.flatMap_append, List.take_left' hll] at this
        rw [show min (l.length * 2) ((l ++ List.replicate ts.length Hp.T0).length * 2) = l.length * 2 by simp] at this
        exact this
      rw [hpre, List.flatMap_append, List.length_append, Nat.add_mul, ← hll, ← hfl, ← List.length_append]
      exact List.take_left
end Go.Proofs.Ytkikdjphmnbmaaa
namespace Go.Proofs.Ytkikdjphmnbmaaa
open Go Go.RowKit

theorem zeros_at {ts : List Hp.Ty} {zs : List Hp.Vl} (h : ts.map zeroOf = zs.map some) {k : Nat} {t : Hp.Ty} (hk : ts[k]? = some t) : ∃ z, zeroOf t = some z ∧ zs[k]? = some z := by
  have h1 := congrArg (·[k]?) h
  simp only [List.getElem?_map, hk, Option.map_some] at h1
  cases hz : zs[k]? with
  | none => rw [hz] at h1; simp at h1
  | some z => rw [hz] at h1; exact ⟨z, by simpa using h1, rfl⟩
theorem fill_any {w : World} {base : Nat} {H : HV} {s : Hp.St} {l ts : List Hp.Ty} {a2 : Option Addr} (h : Rep w base H s) (hl : s.tc = l ++ List.replicate ts.length Hp.T0) (hsub : 0 < ts.length → ∃ g, H.b.ownBlock = some g ∧ a2 = some ⟨g, l.length * 2, none⟩) :
    (0 < ts.length → ∃ g o cur t, a2 = some ⟨g, o, none⟩ ∧ w.heap[g]? = some (.cells cur t (0, 0)) ∧ o + ts.length * 2 ≤ cur.size) ∧
    ∀ w', (ts.length = 0 → w' = w) → (∀ g o cur t, 0 < ts.length → a2 = some ⟨g, o, none⟩ → w.heap[g]? = some (.cells cur t (0, 0)) → w' = w.setRow g (cur.toList.take o ++ ts.flatMap tL ++ cur.toList.drop (o + (ts.flatMap tL).length)).toArray) → Went w w' base H H { s with tc := l ++ ts } := by
  have key : 0 < ts.length → ∃ g cur, H.b.ownBlock = some g ∧ a2 = some ⟨g, l.length * 2, none⟩ ∧ w.heap[g]? = some (.cells cur 33 (0, 0)) ∧ l.length * 2 + ts.length * 2 ≤ cur.size := fun hp => by
    obtain ⟨g, hg, ha⟩ := hsub hp
    rcases h.ob.2 with ⟨e, -⟩ | ⟨g', cap, cur, hv, hbg, hh, c1, c2, c3, c4⟩
    · rw [e] at hg; simp [Value.ownBlock] at hg
    · have hg2 := hg
      rw [hv] at hg2
      simp only [Value.ownBlock, Option.some.injEq] at hg2
      subst hg2
      refine ⟨g', cur, hg, ha, hh, ?_⟩
      rw [hl, List.length_append, List.length_replicate] at c1
      rw [c3]
      omega
  refine ⟨fun hp => ?_, fun w' h0 h1 => ?_⟩
  · obtain ⟨g, cur, -, ha, hh, hz⟩ := key hp
    exact ⟨g, _, cur, _, ha, hh, hz⟩
  · by_cases hp : ts.length = 0
    · obtain rfl := h0 hp
      have e : ts = [] := List.eq_nil_of_length_eq_zero hp
      subst e
      have h2 : ({ s with tc := l ++ [] } : Hp.St) = s := by
        obtain ⟨lim, cs, tc, te, vs, vn⟩ := s
        simp only [List.length_nil, List.replicate_zero, List.append_nil] at hl
        simp [hl]
      rw [h2]
      exact Went.refl h
    · obtain ⟨g, cur, hg, ha, hh, -⟩ := key (by omega)
      rw [h1 g _ cur _ (by omega) ha hh]
      exact h.fillT hl hg hh
theorem src_of {S : Nat → Prop} {w : World} {a : Option Addr} {n cap : Nat} {xs : List Value} (h : IsO S 2 w (.slice a n cap) n xs) : 0 < n → ∃ ad, a = some ad ∧ ∀ j u, xs[j]? = some u → w.cell? (ad.add j) = some u := fun hp => by
  obtain ⟨b, o, c, e, -, -, -, hx⟩ := h.some hp
  obtain ⟨rfl, -, -⟩ := Value.slice.inj e
  refine ⟨_, rfl, fun j u hj => ?_⟩
  have hadd : (⟨b, o, none⟩ : Addr).add j = ⟨b, o + j, none⟩ := by unfold Addr.add; split <;> simp_all
  rw [hadd]
  exact hx j u hj
set_option maxRecDepth 100000 in
set_option maxHeartbeats 2000000 in
theorem addObject_any {w : World} {base : Nat} {H : HV} {s : Hp.St} (h : Rep w base H s) (cl : Int) (ts : List Hp.Ty) (zs : List Hp.Vl) (v : Value) (hz : ts.map zeroOf = zs.map some) (hv : IsO H.foot 2 w v ts.length (ts.flatMap tL)) (hn : s.vc.length + ts.length ≤ 1073741000) (hm : s.ve.length ≤ 1073741000) (hc : s.cs.length ≤ 1073741000) (ht : s.tc.length + ts.length ≤ 1073741000) (hu : s.te.length ≤ 1073741000) :
    Calls Try.prog 44 #[.pointer (some ⟨H.ib, 0, none⟩), .int .i64 cl, v] w
      (AddPost base H { s with cs := s.cs ++ [cl], tc := s.tc ++ ts, te := s.te ++ [s.tc.length + ts.length], vc := s.vc ++ zs, ve := s.ve ++ [s.vc.length + ts.length] } ((s.cs.length : Int) + 1) w) := by
  obtain ⟨i9, hi9, hz09, hz19, hz29⟩ := info_parts infoI
  have HZ := hid (fun t W => zero_any t W)
  have hzl : zs.length = ts.length := by have := congrArg List.length hz; simpa using this.symm
  unfold AddPost
  have HOa := hid (fun X (k : Below w.heap.size w X) => Kit.owns_below h.oa k (Nat.le_refl _))
  have HVV := hid hv
  have HZZ := hid hz
  have HZL := hid hzl
  have hbl := h.base_lt
  obtain ⟨va0, vcap, rfl⟩ := hv.len
  clear hv hz hzl
  obtain ⟨hb, ib, va, vb, vc, vd, ve⟩ := H; obtain ⟨lim, cs, tc, te, vs, vn⟩ := s; have e1 := own_form h.oa; have e2 := own_form h.ob; have e3 := own_form h.oc; have e4 := own_form h.od; have e5 := own_form h.oe; dsimp only at *; obtain ⟨ua, pa, rfl⟩ := e1; obtain ⟨ub, pb, rfl⟩ := e2; obtain ⟨uc, pc, rfl⟩ := e3; obtain ⟨ud, pd, rfl⟩ := e4; obtain ⟨ue, pe, rfl⟩ := e5; have hcl := h.cells; have hgen := h.hb_lt; have hgen2 := h.ib_lt; have hgen3 := h.li; dsimp only at hcl hgen hgen2 hgen3; obtain ⟨k0, k1, k2, k3, k4, k5, k6⟩ := hcl; have HR := hid h; clear h
  go_enter Try.func44, Try.ntmps44
  go_wp2_with (at_builtin; refine wpList_append_own_at _ rfl (.tmp 14) (.tmp 16) 72 rfl base 3 i9 _ 1 8 Try.underlying72 hi9 hz09 hz19 hz29 rfl (by decide) (.slice ua cs.length pa) cs.length (iL cs) rfl (HOa.out _ (by repeat' first | with_reducible exact Below.refl _ _ | with_reducible assumption | with_reducible refine belows_drewN ?_ _ | with_reducible refine Below.drew ?_ | with_reducible refine Below.setCell ?_ ?_ _ | with_reducible refine Below.alloc ?_ ?_ _ | omega | (simp; done) | (simp; omega))) ⟨w.heap.size, 0, none⟩ 1 1 [.int .i64 cl] rfl rfl (Kit.news_one w (.int .i64 cl) 3) (Kit.ones_one rfl) (by unfold maxLen; omega) (by omega) (by simp; omega) ?_; intro v1 w1 ho1 hg1 _ hk1; have hc1 := (Chg.of_below (S := fun i => (Value.slice ua cs.length pa).ownBlock = some i) (w := w) ((Below.refl _ _).alloc (Nat.le_refl _) (.cells #[.int .i64 cl] 3))).grown hg1 (fun _ e => .inl e); rw [← iL_snoc, show cs.length + 1 = (cs ++ [cl]).length by simp] at ho1; have WA := hid (HR.out.setA hc1 ho1 (hk1.imp_right (fun e => ⟨_, by simp, e⟩))); have g1 := (hc1.block _ HR.out.ib_lt (own_unlike_box HR.out.oa HR.out.ins (by decide))).trans HR.out.ins; dsimp only at g1; have c1 : w1.cell? ⟨ib, 1, none⟩ = some (.slice ua cs.length pa) := (by simp [World.cell?, g1]); have y1 : w1.frozen? ⟨ib, 1, none⟩ = false := (by simp [World.frozen?, g1]); obtain ⟨b1, q1, rfl⟩ := own_form ho1; clear ho1 hg1 hk1 hc1 g1)
  obtain ⟨W, hW⟩ : ∃ W, W = w1.setCell ⟨ib, 1, none⟩ (.slice b1 (cs.length + 1) q1) := ⟨_, rfl⟩
  simp only [List.length_append, List.length_singleton] at WA
  rw [← hW] at WA ⊢
  clear hW c1 y1 k0 k1 k2 k3 k4 k5 k6
  refine (addT_any WA.out.rep ts.length (by show tc.length + ts.length ≤ _; omega) (by show te.length ≤ _; omega)).mono ?_
  rintro e w2 ⟨H2, v2, rfl, hW2, a2, c2, rfl, hcc, hsub⟩
  have hv2 := HVV.out.went (WA.out.trans hW2)
  obtain ⟨hdst, hfill⟩ := fill_any (l := tc) (ts := ts) (a2 := a2) hW2.rep rfl hsub
  have HD := hid hdst
  have HFl := hid hfill
  have HS := hid (src_of hv2)
  have WB := hid (WA.out.trans hW2)
  clear hdst hfill hsub hv2 hW2 WA
  go_wp2_with (with_reducible refine wpList_copy_two rfl (.tmp 25) (.tmp 26) 31 31 rfl 33 Try.underlying31 (by kernel_rfl) ts.length a2 va0 c2 vcap rfl rfl (ts.flatMap tL) (Kit.flat_len tL_len ts) HS.out (onesTL ts) HD.out ?_; intro w3 hq1 hq2; have WC := hid (WB.out.trans (HFl.out w3 hq1 hq2)); clear hq1 hq2)
  have a := addV_any WC.out.rep ts.length (by show vs.length + ts.length ≤ _; omega) (by show vn.length ≤ _; omega)
  rw [WC.out.ib] at a
  refine a.mono ?_
  rintro e w4 ⟨H4, v4, rfl, hW4, a4, c4, rfl, hcc4, hsub4⟩
  have HW4 := hid (WC.out.trans hW4)
  have HS4 := hid hsub4
  clear hW4 hsub4 WC WB HD HFl HS HOa HR a
  go_wp2
  go_loopw [36] (fun i wr => ∃ k : Nat, k ≤ ts.length ∧ i = .int .i64 (k : Int) ∧ Hid (Went w wr base ⟨hb, ib, .slice ua cs.length pa, .slice ub tc.length pb, .slice uc te.length pc, .slice ud vs.length pd, .slice ue vn.length pe⟩ H4 ⟨lim, cs ++ [cl], tc ++ ts, te ++ [tc.length + ts.length], vs ++ (zs.take k ++ List.replicate (ts.length - k) Hp.V0), vn ++ [vs.length + ts.length]⟩)) (fun i _ => ts.length - (intOf i).toNat)
  case atStart => exact ⟨0, by omega, rfl, by show Went _ _ _ _ _ _; simpa using HW4.out⟩
  case round =>
    obtain ⟨k, hk, rfl, HWk⟩ := hrel
    by_cases hlt : k < ts.length
    · obtain ⟨g4, hg4, rfl⟩ := HS4.out (by omega)
      obtain ⟨t, htk⟩ : ∃ t, ts[k]? = some t := ⟨_, List.getElem?_eq_getElem hlt⟩
      obtain ⟨z, hzt, hzk⟩ := zeros_at HZZ.out htk
      obtain ⟨b, o, cap, hsl, -, hbl2, -, hxx⟩ := (HVV.out.went HWk.out).some (by omega)
      obtain ⟨rfl, -, rfl⟩ := Value.slice.inj hsl
      obtain ⟨x0, x1⟩ := tL_at htk
      have y0 := hxx _ _ x0
      have y1 := hxx _ _ x1
      rw [← Nat.add_assoc] at y1
      have HZk0 := HZ.out t
      rw [hzt] at HZk0
      unfold tA zV vA at HZk0
      dsimp only [Option.getD_some, Option.isSome_some] at HZk0
      have HZk := hid HZk0
      have Hzk := hid hzk
      obtain ⟨tk, ts2⟩ := t
      dsimp only at y0 y1 HZk
      clear HZk0 hzk hzt hxx x0 x1 hsl htk
      go_wp2_with fail
      refine (HZk.out _).mono ?_
      rintro e w5 ⟨rfl, hb5⟩
      have hB5 : Below wr.heap.size wr w5 := belows (B := wr.heap.size) (a := wr) ((Below.refl _ wr).alloc (Nat.le_refl _) _) hb5 (by simp)
      have hW5 := HWk.out.below hB5
      have hjl : vs.length + k < (vs ++ (zs.take k ++ List.replicate (ts.length - k) Hp.V0)).length := by have := HZL.out; simp; omega
      obtain ⟨u, hu⟩ : ∃ u, (vs ++ (zs.take k ++ List.replicate (ts.length - k) Hp.V0))[vs.length + k]? = some u := ⟨_, List.getElem?_eq_getElem hjl⟩
      obtain ⟨hgc, hgf⟩ := own_at hW5.rep.od hg4
      obtain ⟨z0, z1⟩ := vL_at hu
      have d0 := hgc _ _ z0
      have d1 := hgc _ _ z1
      have f0 := hgf (vs.length * 2 + k * 2)
      have f1 := hgf (vs.length * 2 + k * 2 + 1)
      have HPk := hW5.trans (hW5.rep.putV hg4 (j := vs.length + k) hjl z)
      dsimp only at HPk
      rw [set_next HZL.out Hzk.out] at HPk
      rw [Nat.add_mul] at d0 d1 HPk
      have HPk2 := hid HPk
      clear hgc hgf z0 z1 hu HPk hW5 hB5 hb5 hjl
      go_wp2
      go_roundw
      case rel => exact ⟨k + 1, by omega, by go_num, HPk2⟩
      case measure => simp [intOf] <;> omega
    · obtain rfl : k = ts.length := by omega
      have HM := hid (many_any HWk.out.rep)
      rw [HWk.out.ib] at HM
      go_wp2_with fail
      refine HM.out.mono ?_
      rintro e w5 ⟨rfl, rfl⟩
      go_wp2
      go_ret
      have hfin := HWk.out
      rw [show zs.take ts.length ++ List.replicate (ts.length - ts.length) Hp.V0 = zs by rw [← HZL.out]; simp] at hfin
      exact ⟨_, by simp, hfin⟩
end Go.Proofs.Ytkikdjphmnbmaaa
namespace Go.Proofs.Ytkikdjphmnbmaaa
open Go Go.RowKit

namespace Hp
structure Th where
  cl : Int
  ts : List Ty
  vs : List Vl
structure Hs where
  lim : Nat
  l : List Th
def ends {α : Type} (rs : List (List α)) : List Nat := (List.range rs.length).map fun i => (rs.take (i + 1)).flatten.length
theorem ends_len {α : Type} (rs : List (List α)) : (ends rs).length = rs.length := by simp [ends]
theorem ends_at {α : Type} {rs : List (List α)} {k : Nat} (h : k < rs.length) : (ends rs)[k]? = some (rs.take (k + 1)).flatten.length := by
  simp [ends, h]
theorem ends_snoc {α : Type} (rs : List (List α)) (r : List α) : ends (rs ++ [r]) = ends rs ++ [rs.flatten.length + r.length] := by
  apply List.ext_getElem?
  intro i
  by_cases h : i < rs.length
  · rw [ends_at (by simp; omega), List.getElem?_append_left (by rw [ends_len]; exact h), ends_at h, List.take_append_of_le_length (by omega)]
  · by_cases h2 : i = rs.length
    · subst h2
      rw [ends_at (by simp), List.getElem?_append_right (by rw [ends_len]; exact Nat.le_refl _), ends_len, List.take_of_length_le (by simp)]
      simp
    · rw [List.getElem?_eq_none (by rw [ends_len]; simp; omega), List.getElem?_eq_none (by rw [List.length_append, ends_len]; simp; omega)]
theorem take_succ {α : Type} {rs : List (List α)} {k : Nat} {r : List α} (h : rs[k]? = some r) : (rs.take (k + 1)).flatten.length = (rs.take k).flatten.length + r.length := by
  rw [List.take_add_one, h]
  simp
theorem take_le {α : Type} (rs : List (List α)) (k : Nat) : (rs.take k).flatten.length ≤ rs.flatten.length := by
  have h := congrArg (fun l => l.flatten.length) (List.take_append_drop k rs)
  simp only [List.flatten_append, List.length_append] at h
  omega
theorem flat_at2 {α : Type} {rs : List (List α)} {k i : Nat} {r : List α} (h : rs[k]? = some r) (hi : i < r.length) : rs.flatten[(rs.take k).flatten.length + i]? = r[i]? := by
  have hk : k < rs.length := (List.getElem?_eq_some_iff.1 h).1
  have hr := (List.getElem?_eq_some_iff.1 h).2
  have e : rs = rs.take k ++ r :: rs.drop (k + 1) := by rw [← hr, List.getElem_cons_drop, List.take_append_drop]
  have e2 : rs.flatten = (rs.take k).flatten ++ (r ++ (rs.drop (k + 1)).flatten) := by
    conv => lhs; rw [e]
    simp
  rw [e2, List.getElem?_append_right (Nat.le_add_right _ _), Nat.add_sub_cancel_left, List.getElem?_append_left hi]
theorem flat_set {α : Type} {rs : List (List α)} {k i : Nat} {r : List α} {v : α} (h : rs[k]? = some r) (hi : i < r.length) : rs.flatten.set ((rs.take k).flatten.length + i) v = (rs.set k (r.set i v)).flatten := by
  have hk : k < rs.length := (List.getElem?_eq_some_iff.1 h).1
  have hr := (List.getElem?_eq_some_iff.1 h).2
  have e : rs = rs.take k ++ r :: rs.drop (k + 1) := by rw [← hr, List.getElem_cons_drop, List.take_append_drop]
  have e2 : rs.flatten = (rs.take k).flatten ++ (r ++ (rs.drop (k + 1)).flatten) := by
    conv => lhs; rw [e]
    simp
  have e3 : rs.set k (r.set i v) = rs.take k ++ (r.set i v) :: rs.drop (k + 1) := by
    conv => lhs; rw [e]
    rw [List.set_append, if_neg (by rw [List.length_take]; omega), List.length_take, show k - min k rs.length = 0 by omega]
    rfl
  rw [e2, e3, List.set_append, if_neg (by omega), Nat.add_sub_cancel_left, List.set_append, if_pos hi]
  simp
theorem ends_set {α : Type} {rs : List (List α)} {k : Nat} {r r' : List α} (h : rs[k]? = some r) (hl : r'.length = r.length) : ends (rs.set k r') = ends rs := by
  have key : ∀ j, ((rs.set k r').take j).flatten.length = (rs.take j).flatten.length := by
    intro j
    have : ∀ (xs : List (List α)), xs.flatten.length = (xs.map List.length).sum := fun xs => List.length_flatten
    rw [this, this, List.map_take, List.map_take]
    congr 2
    apply List.ext_getElem?
    intro i
    simp only [List.getElem?_map, List.getElem?_set]
    split
    · rename_i e
      subst e
      rw [h]
      split
      · simp [hl]
      · rename_i hn
        exact absurd (List.getElem?_eq_some_iff.1 h).1 hn
    · rfl
  unfold ends
  rw [List.length_set]
  exact List.map_congr_left (fun i _ => key (i + 1))
def Hs.used (s : Hs) : Nat := s.l.length + (s.l.map (·.vs)).flatten.length
def Hs.flat (s : Hs) : St := ⟨s.lim, s.l.map (·.cl), (s.l.map (·.ts)).flatten, ends (s.l.map (·.ts)), (s.l.map (·.vs)).flatten, ends (s.l.map (·.vs))⟩
def Th.Ok (t : Th) : Prop := (t.cl = -1 ∧ t.ts.length = 1) ∨ (0 ≤ t.cl ∧ t.ts.length = t.vs.length)
structure Hs.Ok (s : Hs) : Prop where
  lim : s.lim ≤ 1048576
  used : s.used ≤ s.lim
  th : ∀ t ∈ s.l, t.Ok
theorem types_le : ∀ {l : List Th}, (∀ t ∈ l, t.Ok) → (l.map (·.ts)).flatten.length ≤ l.length + (l.map (·.vs)).flatten.length
  | [], _ => by simp
  | t :: l, h => by
    have ih := types_le (l := l) (fun x hx => h x (by simp [hx]))
    have ht := h t (by simp)
    simp only [List.map_cons, List.flatten_cons, List.length_append, List.length_cons]
    rcases ht with ⟨-, h1⟩ | ⟨-, h1⟩ <;> omega
def Hs.thing (s : Hs) (ref : Int) : Option Th := if 1 ≤ ref then s.l[(ref - 1).toNat]? else none
end Hp
theorem clsOf_flat (s : Hp.Hs) (ref : Int) : clsOf s.flat ref = (s.thing ref).map (·.cl) := by
  unfold clsOf Hp.Hs.thing Hp.Hs.flat
  split
  · simp
  · rfl
/-- Which values fit. -/
def fitsOf (t : Hp.Ty) (v : Hp.Vl) : Bool := match zeroOf t with
  | none => false
  | some z => decide (z.k = v.k) && (if v.k = 1 then decide (-2147483648 ≤ v.n) && decide (v.n ≤ 2147483647) else if v.k = 3 then decide (0 ≤ v.n) else true)
namespace Hp
/-- What Array does. -/
def Hs.arr (s : Hs) (t : Ty) (n : Int) : Hs × Int × Int := match zeroOf t with
  | none => (s, 0, 1)
  | some z => if n < 0 then (s, 0, 63) else if 65536 < n ∨ ¬ (n < (s.lim : Int) - s.used) then (s, 0, 6) else ({ s with l := s.l ++ [⟨-1, [t], List.replicate n.toNat z⟩] }, s.l.length + 1, 0)
/-- What Object does. -/
def Hs.obj (s : Hs) (c : Int) (ts : List Ty) : Hs × Int × Int :=
  if c < 0 ∨ ∃ t ∈ ts, zeroOf t = none then (s, 0, 1) else if ¬ ((ts.length : Int) < (s.lim : Int) - s.used) then (s, 0, 6) else ({ s with l := s.l ++ [⟨c, ts, ts.map fun t => (zeroOf t).getD V0⟩] }, s.l.length + 1, 0)
/-- What an element, a field is: its value, or what is wrong. -/
def Hs.el (s : Hs) (ref i : Int) : Vl × Int := match s.thing ref with
  | none => (V0, 60)
  | some t => if t.cl = -1 then (if 0 ≤ i then (match t.vs[i.toNat]? with | some v => (v, 0) | none => (V0, 61)) else (V0, 61)) else (V0, 60)
/-- A thing's cell is another. -/
def Hs.put (s : Hs) (ref i : Int) (v : Vl) : Hs := match s.thing ref with
  | none => s
  | some t => { s with l := s.l.set (ref - 1).toNat { t with vs := t.vs.set i.toNat v } }
/-- What Store, Set do. -/
def Hs.st (s : Hs) (ref i : Int) (v : Vl) : Hs × Int := if (s.el ref i).2 ≠ 0 then (s, (s.el ref i).2) else match s.thing ref with
  | some t => if fitsOf (t.ts.headD T0) v then (s.put ref i v, 0) else (s, 62)
  | none => (s, 60)
end Hp
end Go.Proofs.Ytkikdjphmnbmaaa
namespace Go.Proofs.Ytkikdjphmnbmaaa
open Go Go.RowKit

namespace Kit
theorem step_call3 {P : Program} {ops : Array Oper} {o : Oper} {a : Act} {w : World} {K : Act → World → Prop} {Q : Exit → Act → World → Prop} {E : Prop}
    (hg : o.guard = none) (f : FuncId) (x y z : Operand) (t t' t'' : TypeId) (hop : o.op = Op.call { callee := Callee.value (.func f), args := #[x, y, z], argTypes := #[t, t', t''] }) (v v' v'' : Value) (hx : a.eval x = v) (hy : a.eval y = v') (hz : a.eval z = v'') (hcf : (callFunc f #[v, v', v'']).run P w = .ok (.enter f #[v, v', v'']) w)
    (R : Ending → World → Prop) (hC : Calls P f #[v, v', v''] w R) (hR : ∀ e w', R e w' → ∃ u, e = .returned u ∧ K (a.put o.dst u) w') :
    if Region.wanted o (yielded ops a.tmps) = true then Oper.wp P o a w K Q else E := by
  have hw : Region.wanted o (yielded ops a.tmps) = true := by simp [Region.wanted, hg]
  rw [if_pos hw]
  have hrun : (execOp a.eval o).run P w = .ok (.enter f #[v, v', v'']) w := by
    cases o
    simp only at hop
    subst hop hx hy hz
    rw [execOp_call_go]
    simpa using hcf
  unfold Oper.wp
  rw [hrun]
  show Calls P f #[v, v', v''] w _
  refine hC.mono ?_
  intro e w' h
  obtain ⟨u, rfl, hk⟩ := hR e w' h
  exact hk
end Kit
theorem zero_kinds {t : Hp.Ty} {z : Hp.Vl} (h : zeroOf t = some z) : z = ⟨1, 0⟩ ∨ z = ⟨2, 0⟩ ∨ z = ⟨3, 0⟩ := by
  unfold zeroOf at h
  split at h
  · exact .inl (Option.some.inj h).symm
  · split at h
    · exact .inr (.inl (Option.some.inj h).symm)
    · split at h
      · exact .inr (.inr (Option.some.inj h).symm)
      · cases h
set_option maxRecDepth 100000 in
set_option maxHeartbeats 1000000 in
theorem fits2_any (t : Hp.Ty) (v : Hp.Vl) (w : World) :
    Calls Try.prog 59 #[tA t, vA v] w fun e w' => e = .returned (.bool (fitsOf t v)) ∧ Below w.heap.size w w' := by
  have HZ0 := fun W => zero_any t W
  obtain ⟨r, hr⟩ : ∃ r, r = fitsOf t v := ⟨_, rfl⟩
  rw [← hr]
  unfold fitsOf at hr
  obtain ⟨vk, vn⟩ := v
  dsimp only at hr
  cases hz : zeroOf t with
  | none =>
    rw [hz] at hr HZ0
    obtain ⟨tk, ts⟩ := t
    unfold tA vA zV at *
    dsimp only [Option.getD_none, Option.isSome_none, Hp.V0, vA] at HZ0
    have HZ := hid HZ0
    have HRr := hid hr
    clear hr hz HZ0
    go_enter Try.func59, Try.ntmps59
    (go_wp2_with fail; refine (HZ.out _).mono ?_; rintro e w3 ⟨rfl, hb3⟩; have hz3 := hb3.size; simp only [World.size_alloc] at hz3; have hB3 := belows (B := w.heap.size) (a := w) (by repeat' first | with_reducible exact Below.refl _ _ | with_reducible assumption | with_reducible refine belows_drewN ?_ _ | with_reducible refine Below.drew ?_ | with_reducible refine Below.setCell ?_ ?_ _ | with_reducible refine Below.alloc ?_ ?_ _ | omega | (simp; done) | (simp; omega)) hb3 (by simp; omega); have hz4 : w.heap.size + 1 < w3.heap.size := (by omega); have bv := (BX.new (w.alloc (.cells #[.int .i64 tk, .string ts] 33)) #[.int .i64 _, .int .i64 vn] 35).below hb3; rw [World.size_alloc] at bv; have x0 := bv.cell 0; have x1 := bv.cell 1; simp at x0 x1; clear bv hb3)
    go_wp2
    go_ret
    exact ⟨by rw [HRr.out]; rfl, (by repeat' first | with_reducible exact Below.refl _ _ | with_reducible assumption | with_reducible refine belows_drewN ?_ _ | with_reducible refine Below.drew ?_ | with_reducible refine Below.setCell ?_ ?_ _ | with_reducible refine Below.alloc ?_ ?_ _ | omega | (simp; done) | (simp; omega))⟩
  | some z =>
    rw [hz] at hr HZ0
    have hk := zero_kinds hz
    obtain ⟨tk, ts⟩ := t
    unfold tA vA zV at *
    dsimp only [Option.getD_some, Option.isSome_some] at HZ0
    unfold vA at HZ0
    by_cases e : z.k = vk
    · subst e
      simp only [decide_true, Bool.true_and] at hr
      rcases hk with rfl | rfl | rfl
      all_goals
        have HZ := hid HZ0
        have HRr := hid hr
        clear hr hz HZ0
        dsimp only at *
        go_enter Try.func59, Try.ntmps59
        (go_wp2_with fail; refine (HZ.out _).mono ?_; rintro e w3 ⟨rfl, hb3⟩; have hz3 := hb3.size; simp only [World.size_alloc] at hz3; have hB3 := belows (B := w.heap.size) (a := w) (by repeat' first | with_reducible exact Below.refl _ _ | with_reducible assumption | with_reducible refine belows_drewN ?_ _ | with_reducible refine Below.drew ?_ | with_reducible refine Below.setCell ?_ ?_ _ | with_reducible refine Below.alloc ?_ ?_ _ | omega | (simp; done) | (simp; omega)) hb3 (by simp; omega); have hz4 : w.heap.size + 1 < w3.heap.size := (by omega); have bv := (BX.new (w.alloc (.cells #[.int .i64 tk, .string ts] 33)) #[.int .i64 _, .int .i64 vn] 35).below hb3; rw [World.size_alloc] at bv; have x0 := bv.cell 0; have x1 := bv.cell 1; simp at x0 x1; clear bv hb3)
        go_wp2
        all_goals go_ret
        all_goals refine ⟨?_, (by repeat' first | with_reducible exact Below.refl _ _ | with_reducible assumption | with_reducible refine belows_drewN ?_ _ | with_reducible refine Below.drew ?_ | with_reducible refine Below.setCell ?_ ?_ _ | with_reducible refine Below.alloc ?_ ?_ _ | omega | (simp; done) | (simp; omega))⟩
        all_goals rw [HRr.out]
        all_goals (simp <;> omega)
    · have hd : (z.k != vk) = true := by simpa using e
      have HRr : Hid (r = false) := by
        show r = false
        rw [hr]
        simp [e]
      have HZ := hid HZ0
      clear hr hz HZ0 e hk
      go_enter Try.func59, Try.ntmps59
      (go_wp2_with fail; refine (HZ.out _).mono ?_; rintro e w3 ⟨rfl, hb3⟩; have hz3 := hb3.size; simp only [World.size_alloc] at hz3; have hB3 := belows (B := w.heap.size) (a := w) (by repeat' first | with_reducible exact Below.refl _ _ | with_reducible assumption | with_reducible refine belows_drewN ?_ _ | with_reducible refine Below.drew ?_ | with_reducible refine Below.setCell ?_ ?_ _ | with_reducible refine Below.alloc ?_ ?_ _ | omega | (simp; done) | (simp; omega)) hb3 (by simp; omega); have hz4 : w.heap.size + 1 < w3.heap.size := (by omega); have bv := (BX.new (w.alloc (.cells #[.int .i64 tk, .string ts] 33)) #[.int .i64 _, .int .i64 vn] 35).below hb3; rw [World.size_alloc] at bv; have x0 := bv.cell 0; have x1 := bv.cell 1; simp at x0 x1; clear bv hb3)
      go_wp2
      go_ret
      exact ⟨by rw [HRr.out]; rfl, (by repeat' first | with_reducible exact Below.refl _ _ | with_reducible assumption | with_reducible refine belows_drewN ?_ _ | with_reducible refine Below.drew ?_ | with_reducible refine Below.setCell ?_ ?_ _ | with_reducible refine Below.alloc ?_ ?_ _ | omega | (simp; done) | (simp; omega))⟩
/-- What is told of a heap that goes on: a number, an error; the heap behind. -/
def OutPost (base : Nat) (H : HV) (o : Hp.Hs × Int × Int) (w : World) (e : Ending) (w' : World) : Prop := ∃ H', e = .returned (.tuple #[.int .i64 o.2.1, .int .i64 o.2.2]) ∧ Went w w' base H H' o.1.flat
theorem flat_cs (s : Hp.Hs) : s.flat.cs.length = s.l.length := by simp [Hp.Hs.flat]
theorem flat_te (s : Hp.Hs) : s.flat.te.length = s.l.length := by simp [Hp.Hs.flat, Hp.ends_len]
theorem flat_ve (s : Hp.Hs) : s.flat.ve.length = s.l.length := by simp [Hp.Hs.flat, Hp.ends_len]
theorem flat_used (s : Hp.Hs) : s.flat.cs.length + s.flat.vc.length = s.used := by simp [Hp.Hs.flat, Hp.Hs.used]
theorem Hp.Hs.Ok.sizes {s : Hp.Hs} (h : s.Ok) : s.flat.lim ≤ 1048576 ∧ s.flat.cs.length ≤ 1048576 ∧ s.flat.tc.length ≤ 1048576 ∧ s.flat.te.length ≤ 1048576 ∧ s.flat.vc.length ≤ 1048576 ∧ s.flat.ve.length ≤ 1048576 ∧ s.flat.cs.length + s.flat.vc.length ≤ 1048576 := by
  have h1 := h.lim
  have h2 := h.used
  have h3 := Hp.types_le h.th
  have h4 := flat_used s
  have h5 := flat_cs s
  have h6 := flat_te s
  have h7 := flat_ve s
  have h8 : s.flat.tc.length = (s.l.map (·.ts)).flatten.length := rfl
  have h9 : s.flat.lim = s.lim := rfl
  have h10 : s.flat.vc.length = (s.l.map (·.vs)).flatten.length := rfl
  have h11 : s.used = s.l.length + (s.l.map (·.vs)).flatten.length := rfl
  omega
theorem flat_arr (s : Hp.Hs) (t : Hp.Ty) (z : Hp.Vl) (n : Nat) : ({ s with l := s.l ++ [⟨-1, [t], List.replicate n z⟩] } : Hp.Hs).flat = { s.flat with cs := s.flat.cs ++ [-1], tc := s.flat.tc ++ [t], te := s.flat.te ++ [s.flat.tc.length + 1], vc := s.flat.vc ++ List.replicate n z, ve := s.flat.ve ++ [s.flat.vc.length + n] } := by
  simp [Hp.Hs.flat, Hp.ends_snoc]
theorem flat_obj (s : Hp.Hs) (c : Int) (ts : List Hp.Ty) (zs : List Hp.Vl) (hz : zs.length = ts.length) : ({ s with l := s.l ++ [⟨c, ts, zs⟩] } : Hp.Hs).flat = { s.flat with cs := s.flat.cs ++ [c], tc := s.flat.tc ++ ts, te := s.flat.te ++ [s.flat.tc.length + ts.length], vc := s.flat.vc ++ zs, ve := s.flat.ve ++ [s.flat.vc.length + ts.length] } := by
  simp [Hp.Hs.flat, Hp.ends_snoc, hz]
set_option maxRecDepth 100000 in
set_option maxHeartbeats 1000000 in
theorem Array_any {w : World} {base : Nat} {H : HV} {s : Hp.Hs} (h : Rep w base H s.flat) (ok : s.Ok) (t : Hp.Ty) (n : Int) (hn : -9223372036854775808 ≤ n ∧ n ≤ 9223372036854775807) :
    Calls Try.prog 14 #[.pointer (some ⟨H.hb, 0, none⟩), tA t, .int .i64 n] w (OutPost base H (s.arr t n) w) := by
  obtain ⟨o, ho⟩ : ∃ o, o = s.arr t n := ⟨_, rfl⟩
  rw [← ho]
  unfold OutPost
  unfold Hp.Hs.arr at ho
  have HZ0 := fun W => zero_any t W
  have HM := hid (fun X (k : Below w.heap.size w X) => isMade_any (h.below k))
  have HR := hid h
  obtain ⟨s1, s2, s3, s4, s5, s6, s7⟩ := ok.sizes
  have hgen := h.hb_lt
  obtain ⟨k0, -⟩ := h.cells
  obtain ⟨hb, hhb⟩ : ∃ hb, hb = H.hb := ⟨_, rfl⟩
  rw [← hhb] at hgen k0 HM ⊢
  have HHb := hid hhb
  clear h hhb
  cases hz : zeroOf t with
  | none =>
    rw [hz] at ho HZ0
    dsimp only at ho
    have HO := hid ho
    obtain ⟨tk, ts⟩ := t
    unfold tA zV at *
    dsimp only [Option.getD_none, Option.isSome_none, Hp.V0, vA] at HZ0
    have HZ := hid HZ0
    clear ho hz HZ0
    go_enter Try.func14, Try.ntmps14
    go_wp2_with fail
    refine (HM.out _ (by repeat' first | with_reducible exact Below.refl _ _ | with_reducible assumption | with_reducible refine belows_drewN ?_ _ | with_reducible refine Below.drew ?_ | with_reducible refine Below.setCell ?_ ?_ _ | with_reducible refine Below.alloc ?_ ?_ _ | omega | (simp; done) | (simp; omega))).mono ?_
    rintro e w1 ⟨rfl, rfl⟩
    go_wp2_with fail
    refine (HZ.out _).mono ?_
    rintro e w3 ⟨rfl, hb3⟩
    have hB3 := belows (B := w.heap.size) (a := w) (by repeat' first | with_reducible exact Below.refl _ _ | with_reducible assumption | with_reducible refine belows_drewN ?_ _ | with_reducible refine Below.drew ?_ | with_reducible refine Below.setCell ?_ ?_ _ | with_reducible refine Below.alloc ?_ ?_ _ | omega | (simp; done) | (simp; omega)) hb3 (by simp)
    go_wp2
    go_ret2
    have hz3 := hB3.size
    refine ⟨H, by rw [HO.out]; rfl, ?_⟩
    rw [HO.out]
    exact (Went.refl HR.out).below (by repeat' first | with_reducible exact Below.refl _ _ | with_reducible assumption | with_reducible refine belows_drewN ?_ _ | with_reducible refine Below.drew ?_ | with_reducible refine Below.setCell ?_ ?_ _ | with_reducible refine Below.alloc ?_ ?_ _ | omega | (simp; done) | (simp; omega))
  | some z =>
    have HA0 := fun (m : Nat) X (k : Below w.heap.size w X) (hm : s.flat.vc.length + m ≤ 1073741000) => addArray_any (HR.out.below k) t z m hz hm (by omega) (by omega) (by omega) (by omega)
    have HF0 := fun X (k : Below w.heap.size w X) => fits_any (HR.out.below k) n (by omega) (by omega)
    have hu : (s.flat.cs.length : Int) + (s.flat.vc.length : Int) = s.used := by have := flat_used s; omega
    rw [hu] at HF0
    rw [hz] at ho HZ0
    dsimp only at ho
    obtain ⟨tk, ts⟩ := t
    unfold tA zV at *
    dsimp only [Option.getD_some, Option.isSome_some, vA] at HZ0
    obtain ⟨ib, hib⟩ : ∃ ib, ib = H.ib := ⟨_, rfl⟩
    rw [← hib] at k0 HF0
    rw [← hib] at HA0
    have HZ := hid HZ0
    have HHi := hid hib
    have HU := hid hu
    clear hz HZ0 hib hu
    by_cases h1 : n < 0
    · rw [if_pos h1] at ho
      have HO := hid ho
      have hd : decide (n < 0) = true := by simpa using h1
      clear ho HA0 HF0
      go_enter Try.func14, Try.ntmps14
      (go_wp2_with fail; refine (HM.out _ (by repeat' first | with_reducible exact Below.refl _ _ | with_reducible assumption | with_reducible refine belows_drewN ?_ _ | with_reducible refine Below.drew ?_ | with_reducible refine Below.setCell ?_ ?_ _ | with_reducible refine Below.alloc ?_ ?_ _ | omega | (simp; done) | (simp; omega))).mono ?_; rintro e w1 ⟨rfl, rfl⟩; go_wp2_with fail; refine (HZ.out _).mono ?_; rintro e w3 ⟨rfl, hb3⟩; have hB3 := belows (B := w.heap.size) (a := w) (by repeat' first | with_reducible exact Below.refl _ _ | with_reducible assumption | with_reducible refine belows_drewN ?_ _ | with_reducible refine Below.drew ?_ | with_reducible refine Below.setCell ?_ ?_ _ | with_reducible refine Below.alloc ?_ ?_ _ | omega | (simp; done) | (simp; omega)) hb3 (by simp); have hz3 := hB3.size; have kk := hB3.cell (p := ⟨hb, 0, none⟩) (by simpa using hgen); rw [k0] at kk; have hz4 : hb < w3.heap.size := (by omega); have bt := (BX.new w #[.int .i64 tk, .string ts] 33).below hb3; have x0 := bt.cell 0; have x1 := bt.cell 1; simp at x0 x1; have hz5 := bt.sz; clear bt hb3)
      go_wp2
      go_ret2
      (refine ⟨H, by rw [HO.out]; rfl, ?_⟩; rw [HO.out]; exact (Went.refl HR.out).below (by repeat' first | with_reducible exact Below.refl _ _ | with_reducible assumption | with_reducible refine belows_drewN ?_ _ | with_reducible refine Below.drew ?_ | with_reducible refine Below.setCell ?_ ?_ _ | with_reducible refine Below.alloc ?_ ?_ _ | omega | (simp; done) | (simp; omega)))
    · rw [if_neg h1] at ho
      have hd : decide (n < 0) = false := by simpa using h1
      by_cases h2 : 65536 < n
      · rw [if_pos (.inl h2)] at ho
        have HO := hid ho
        have hd2 : decide (65536 < n) = true := by simpa using h2
        clear ho HA0 HF0
        go_enter Try.func14, Try.ntmps14
        (go_wp2_with fail; refine (HM.out _ (by repeat' first | with_reducible exact Below.refl _ _ | with_reducible assumption | with_reducible refine belows_drewN ?_ _ | with_reducible refine Below.drew ?_ | with_reducible refine Below.setCell ?_ ?_ _ | with_reducible refine Below.alloc ?_ ?_ _ | omega | (simp; done) | (simp; omega))).mono ?_; rintro e w1 ⟨rfl, rfl⟩; go_wp2_with fail; refine (HZ.out _).mono ?_; rintro e w3 ⟨rfl, hb3⟩; have hB3 := belows (B := w.heap.size) (a := w) (by repeat' first | with_reducible exact Below.refl _ _ | with_reducible assumption | with_reducible refine belows_drewN ?_ _ | with_reducible refine Below.drew ?_ | with_reducible refine Below.setCell ?_ ?_ _ | with_reducible refine Below.alloc ?_ ?_ _ | omega | (simp; done) | (simp; omega)) hb3 (by simp); have hz3 := hB3.size; have kk := hB3.cell (p := ⟨hb, 0, none⟩) (by simpa using hgen); rw [k0] at kk; have hz4 : hb < w3.heap.size := (by omega); have bt := (BX.new w #[.int .i64 tk, .string ts] 33).below hb3; have x0 := bt.cell 0; have x1 := bt.cell 1; simp at x0 x1; have hz5 := bt.sz; clear bt hb3)
        go_wp2
        go_ret2
        (refine ⟨H, by rw [HO.out]; rfl, ?_⟩; rw [HO.out]; exact (Went.refl HR.out).below (by repeat' first | with_reducible exact Below.refl _ _ | with_reducible assumption | with_reducible refine belows_drewN ?_ _ | with_reducible refine Below.drew ?_ | with_reducible refine Below.setCell ?_ ?_ _ | with_reducible refine Below.alloc ?_ ?_ _ | omega | (simp; done) | (simp; omega)))
      · have hd2 : decide (65536 < n) = false := by simpa using h2
        by_cases h3 : n < (s.lim : Int) - s.used
        · rw [if_neg (by intro e; rcases e with e | e; exact h2 e; exact e h3)] at ho
          have hde : decide (n < (s.flat.lim : Int) - (s.used : Int)) = true := by (show decide (n < (s.lim : Int) - _) = true); simpa using h3
          rw [hde] at HF0
          obtain ⟨m, rfl⟩ : ∃ m : Nat, n = m := ⟨n.toNat, by omega⟩
          have hul := ok.used
          have hll := ok.lim
          have hul2 := flat_used s
          have HA1 := HA0 m
          have hmm : s.flat.vc.length + m ≤ 1073741000 := by omega
          have HO := hid ho
          have HF := hid HF0
          have HA := hid (fun X k => HA1 X k hmm)
          have HC := hid (flat_cs s)
          unfold AddPost at HA
          dsimp only at HA
          clear ho HA0 HF0 HA1 hde h3 h2 h1 hul hll hul2 hmm
          go_enter Try.func14, Try.ntmps14
          (go_wp2_with fail; refine (HM.out _ (by repeat' first | with_reducible exact Below.refl _ _ | with_reducible assumption | with_reducible refine belows_drewN ?_ _ | with_reducible refine Below.drew ?_ | with_reducible refine Below.setCell ?_ ?_ _ | with_reducible refine Below.alloc ?_ ?_ _ | omega | (simp; done) | (simp; omega))).mono ?_; rintro e w1 ⟨rfl, rfl⟩; go_wp2_with fail; refine (HZ.out _).mono ?_; rintro e w3 ⟨rfl, hb3⟩; have hB3 := belows (B := w.heap.size) (a := w) (by repeat' first | with_reducible exact Below.refl _ _ | with_reducible assumption | with_reducible refine belows_drewN ?_ _ | with_reducible refine Below.drew ?_ | with_reducible refine Below.setCell ?_ ?_ _ | with_reducible refine Below.alloc ?_ ?_ _ | omega | (simp; done) | (simp; omega)) hb3 (by simp); have hz3 := hB3.size; have kk := hB3.cell (p := ⟨hb, 0, none⟩) (by simpa using hgen); rw [k0] at kk; have hz4 : hb < w3.heap.size := (by omega); have bt := (BX.new w #[.int .i64 tk, .string ts] 33).below hb3; have x0 := bt.cell 0; have x1 := bt.cell 1; simp at x0 x1; have hz5 := bt.sz; clear bt hb3)
          go_wp2_with fail
          refine (HF.out _ (by repeat' first | with_reducible exact Below.refl _ _ | with_reducible assumption | with_reducible refine belows_drewN ?_ _ | with_reducible refine Below.drew ?_ | with_reducible refine Below.setCell ?_ ?_ _ | with_reducible refine Below.alloc ?_ ?_ _ | omega | (simp; done) | (simp; omega))).mono ?_
          rintro e w4 ⟨rfl, mm, rfl⟩
          go_wp2
          have cfA := fun (u v x : Value) (w : World) => (show (callFunc 40 #[u, v, x]).run Try.prog w = .ok (.enter 40 #[u, v, x]) w by kernel_rfl)
          obtain ⟨X, hX⟩ : ∃ X, X = (w3.alloc (.cells #[.int .i64 z.k, .int .i64 z.n] 35)).drewN mm := ⟨_, rfl⟩
          have bX : Below w.heap.size w X := by rw [hX]; exact (by repeat' first | with_reducible exact Below.refl _ _ | with_reducible assumption | with_reducible refine belows_drewN ?_ _ | with_reducible refine Below.drew ?_ | with_reducible refine Below.setCell ?_ ?_ _ | with_reducible refine Below.alloc ?_ ?_ _ | omega | (simp; done) | (simp; omega))
          have xx := bX.cell (p := ⟨hb, 0, none⟩) (by simpa using hgen)
          rw [k0] at xx
          have xy0 : X.cell? ⟨w.heap.size, 0, none⟩ = some (.int .i64 tk) := by rw [hX]; exact (World.cell?_alloc_past _ _ _ hz5).trans x0
          have xy1 : X.cell? ⟨w.heap.size, 1, none⟩ = some (.string ts) := by rw [hX]; exact (World.cell?_alloc_past _ _ _ hz5).trans x1
          rw [← hX]
          clear hX x0 x1 kk hB3 hz3 hz4 hz5
          go_region_law (refine Kit.step_call3 rfl 40 (.tmp 36) (.tmp 37) (.tmp 38) 57 33 3 rfl _ _ _ rfl rfl rfl (cfA _ _ _ _) _ (HA.out _ (by repeat' first | with_reducible exact Below.refl _ _ | with_reducible assumption | with_reducible refine belows_drewN ?_ _ | with_reducible refine Below.drew ?_ | with_reducible refine Below.setCell ?_ ?_ _ | with_reducible refine Below.alloc ?_ ?_ _ | omega | (simp; done) | (simp; omega))) ?_; rintro e w5 ⟨H5, rfl, hW5⟩; refine ⟨_, rfl, ?_⟩; have HW5 := hid (Went.start (a := w) (by repeat' first | with_reducible exact Below.refl _ _ | with_reducible assumption | with_reducible refine belows_drewN ?_ _ | with_reducible refine Below.drew ?_ | with_reducible refine Below.setCell ?_ ?_ _ | with_reducible refine Below.alloc ?_ ?_ _ | omega | (simp; done) | (simp; omega)) hW5); clear hW5)
          all_goals go_wp2
          all_goals go_ret2
          all_goals
            refine ⟨H5, by rw [HO.out, HC.out]; rfl, ?_⟩
            rw [HO.out]
            have hf := HW5.out
            rw [← flat_arr] at hf
            exact hf
        · rw [if_pos (.inr h3)] at ho
          have hde : decide (n < (s.flat.lim : Int) - (s.used : Int)) = false := by (show decide (n < (s.lim : Int) - _) = false); simpa using h3
          rw [hde] at HF0
          have HO := hid ho
          have HF := hid HF0
          clear ho HA0 HF0 hde h3
          go_enter Try.func14, Try.ntmps14
          (go_wp2_with fail; refine (HM.out _ (by repeat' first | with_reducible exact Below.refl _ _ | with_reducible assumption | with_reducible refine belows_drewN ?_ _ | with_reducible refine Below.drew ?_ | with_reducible refine Below.setCell ?_ ?_ _ | with_reducible refine Below.alloc ?_ ?_ _ | omega | (simp; done) | (simp; omega))).mono ?_; rintro e w1 ⟨rfl, rfl⟩; go_wp2_with fail; refine (HZ.out _).mono ?_; rintro e w3 ⟨rfl, hb3⟩; have hB3 := belows (B := w.heap.size) (a := w) (by repeat' first | with_reducible exact Below.refl _ _ | with_reducible assumption | with_reducible refine belows_drewN ?_ _ | with_reducible refine Below.drew ?_ | with_reducible refine Below.setCell ?_ ?_ _ | with_reducible refine Below.alloc ?_ ?_ _ | omega | (simp; done) | (simp; omega)) hb3 (by simp); have hz3 := hB3.size; have kk := hB3.cell (p := ⟨hb, 0, none⟩) (by simpa using hgen); rw [k0] at kk; have hz4 : hb < w3.heap.size := (by omega); have bt := (BX.new w #[.int .i64 tk, .string ts] 33).below hb3; have x0 := bt.cell 0; have x1 := bt.cell 1; simp at x0 x1; have hz5 := bt.sz; clear bt hb3)
          go_wp2_with fail
          refine (HF.out _ (by repeat' first | with_reducible exact Below.refl _ _ | with_reducible assumption | with_reducible refine belows_drewN ?_ _ | with_reducible refine Below.drew ?_ | with_reducible refine Below.setCell ?_ ?_ _ | with_reducible refine Below.alloc ?_ ?_ _ | omega | (simp; done) | (simp; omega))).mono ?_
          rintro e w4 ⟨rfl, mm, rfl⟩
          go_wp2
          go_ret2
          (refine ⟨H, by rw [HO.out]; rfl, ?_⟩; rw [HO.out]; exact (Went.refl HR.out).below (by repeat' first | with_reducible exact Below.refl _ _ | with_reducible assumption | with_reducible refine belows_drewN ?_ _ | with_reducible refine Below.drew ?_ | with_reducible refine Below.setCell ?_ ?_ _ | with_reducible refine Below.alloc ?_ ?_ _ | omega | (simp; done) | (simp; omega)))
end Go.Proofs.Ytkikdjphmnbmaaa
namespace Go.Proofs.Ytkikdjphmnbmaaa
open Go Go.RowKit

/-- All types are such as a place may have, the first so many. -/
def AllZ (ts : List Hp.Ty) (k : Nat) : Prop := ∀ j t, j < k → ts[j]? = some t → zeroOf t ≠ none
theorem allZ_map {ts : List Hp.Ty} (h : AllZ ts ts.length) : ts.map zeroOf = (ts.map fun t => (zeroOf t).getD Hp.V0).map some := by
  rw [List.map_map]
  apply List.map_congr_left
  intro t ht
  obtain ⟨j, hj⟩ := List.mem_iff_getElem?.1 ht
  have h1 := h j t (List.getElem?_eq_some_iff.1 hj).1 hj
  cases hz : zeroOf t with
  | none => exact absurd hz h1
  | some z => simp [hz]
theorem allZ_no {ts : List Hp.Ty} (h : AllZ ts ts.length) : ¬ ∃ t ∈ ts, zeroOf t = none := by
  rintro ⟨t, ht, hz⟩
  obtain ⟨j, hj⟩ := List.mem_iff_getElem?.1 ht
  exact h j t (List.getElem?_eq_some_iff.1 hj).1 hj hz
set_option maxRecDepth 100000 in
set_option maxHeartbeats 1000000 in
theorem Object_any {w : World} {base : Nat} {H : HV} {s : Hp.Hs} (h : Rep w base H s.flat) (ok : s.Ok) (c : Int) (ts : List Hp.Ty) (v : Value) (hv : IsO H.foot 2 w v ts.length (ts.flatMap tL)) :
    Calls Try.prog 19 #[.pointer (some ⟨H.hb, 0, none⟩), .int .i64 c, v] w (OutPost base H (s.obj c ts) w) := by
  obtain ⟨out, ho⟩ : ∃ out, out = s.obj c ts := ⟨_, rfl⟩
  rw [← ho]
  unfold OutPost
  unfold Hp.Hs.obj at ho
  have HZ0 := fun t W => zero_any t W
  have HM := hid (fun X (k : Below w.heap.size w X) => isMade_any (h.below k))
  have HR := hid h
  obtain ⟨s1, s2, s3, s4, s5, s6, s7⟩ := ok.sizes
  have hgen := h.hb_lt
  obtain ⟨k0, -⟩ := h.cells
  have HA0 := fun X (k : Below w.heap.size w X) zs hz hm1 hm2 => addObject_any (HR.out.below k) c ts zs v hz (hv.below k) hm1 (by omega) (by omega) hm2 (by omega)
  have HF0 := fun X (k : Below w.heap.size w X) => fits_any (HR.out.below k) ts.length (by omega) (by omega)
  have hu : (s.flat.cs.length : Int) + (s.flat.vc.length : Int) = s.used := by have := flat_used s; omega
  rw [hu] at HF0
  obtain ⟨hb, hhb⟩ : ∃ hb, hb = H.hb := ⟨_, rfl⟩
  obtain ⟨ib, hib⟩ : ∃ ib, ib = H.ib := ⟨_, rfl⟩
  rw [← hib] at k0 HF0
  rw [← hib] at HA0
  rw [← hhb] at hgen k0 HM ⊢
  have HHb := hid hhb
  have HHi := hid hib
  have HU := hid hu
  have HVV := hid (fun X (k : Below w.heap.size w X) => hv.below k)
  have htl := hv.2.1
  obtain ⟨va0, vcap, rfl⟩ := hv.len
  clear h hhb hib hu hv
  by_cases h1 : c < 0
  · rw [if_pos (.inl h1)] at ho
    have HO := hid ho
    have hd : decide (c < 0) = true := by simpa using h1
    clear ho HA0 HF0 HZ0
    go_enter Try.func19, Try.ntmps19
    go_wp2_with fail
    refine (HM.out _ (by repeat' first | with_reducible exact Below.refl _ _ | with_reducible assumption | with_reducible refine belows_drewN ?_ _ | with_reducible refine Below.drew ?_ | with_reducible refine Below.setCell ?_ ?_ _ | with_reducible refine Below.alloc ?_ ?_ _ | omega | (simp; done) | (simp; omega))).mono ?_
    rintro e w1 ⟨rfl, rfl⟩
    go_wp2
    go_ret2
    (refine ⟨H, by rw [HO.out]; rfl, ?_⟩; rw [HO.out]; exact (Went.refl HR.out).below (by repeat' first | with_reducible exact Below.refl _ _ | with_reducible assumption | with_reducible refine belows_drewN ?_ _ | with_reducible refine Below.drew ?_ | with_reducible refine Below.setCell ?_ ?_ _ | with_reducible refine Below.alloc ?_ ?_ _ | omega | (simp; done) | (simp; omega)))
  · have hd : decide (c < 0) = false := by simpa using h1
    have HO := hid ho
    have HA := hid HA0
    have HF := hid HF0
    have HZ := hid HZ0
    have H1 := hid h1
    clear ho HA0 HF0 HZ0 h1
    go_enter Try.func19, Try.ntmps19
    go_wp2_with fail
    refine (HM.out _ (by repeat' first | with_reducible exact Below.refl _ _ | with_reducible assumption | with_reducible refine belows_drewN ?_ _ | with_reducible refine Below.drew ?_ | with_reducible refine Below.setCell ?_ ?_ _ | with_reducible refine Below.alloc ?_ ?_ _ | omega | (simp; done) | (simp; omega))).mono ?_
    rintro e w1 ⟨rfl, rfl⟩
    go_wp2
    go_loopw [19] (fun i wr => ∃ k : Nat, k ≤ ts.length ∧ i = .int .i64 (k : Int) ∧ Hid (AllZ ts k) ∧ Below w.heap.size w wr) (fun i _ => ts.length - (intOf i).toNat)
    case atStart => exact ⟨0, by omega, rfl, fun j t hj => absurd hj (by omega), Below.refl _ _⟩
    case round =>
      obtain ⟨k, hk, rfl, HAz, hbl⟩ := hrel
      have hbz := hbl.size
      by_cases hlt : k < ts.length
      · obtain ⟨t, htk⟩ : ∃ t, ts[k]? = some t := ⟨_, List.getElem?_eq_getElem hlt⟩
        obtain ⟨b, o, cap, hsl, -, hbl2, -, hxx⟩ := (HVV.out _ hbl).some (by omega)
        obtain ⟨rfl, -, rfl⟩ := Value.slice.inj hsl
        obtain ⟨x0, x1⟩ := tL_at htk
        have y0 := hxx _ _ x0
        have y1 := hxx _ _ x1
        rw [← Nat.add_assoc] at y1
        have HT := hid htk
        cases hz : zeroOf t with
        | none =>
          have HZk0 := HZ.out t
          rw [hz] at HZk0
          unfold tA zV vA at HZk0
          dsimp only [Option.getD_none, Option.isSome_none, Hp.V0] at HZk0
          have HZk := hid HZk0
          have HO2 : Hid (out = (s, 0, 1)) := HO.out.trans (if_pos (.inr ⟨t, List.mem_of_getElem? htk, hz⟩))
          obtain ⟨tk, ts2⟩ := t
          dsimp only at y0 y1 HZk
          clear HZk0 hz hxx x0 x1 hsl htk
          go_wp2_with fail
          refine (HZk.out _).mono ?_
          rintro e w5 ⟨rfl, hb5⟩
          have hB5 := belows (B := w.heap.size) (a := w) (hbl.alloc hbz (.cells #[.int .i64 tk, .string ts2] 33)) hb5 (by simp; omega)
          have hz5 := hB5.size
          go_wp2
          go_ret2
          refine ⟨H, by rw [HO2.out]; rfl, ?_⟩
          rw [HO2.out]
          exact (Went.refl HR.out).below (by repeat' first | with_reducible exact Below.refl _ _ | with_reducible assumption | with_reducible refine belows_drewN ?_ _ | with_reducible refine Below.drew ?_ | with_reducible refine Below.setCell ?_ ?_ _ | with_reducible refine Below.alloc ?_ ?_ _ | omega | (simp; done) | (simp; omega))
        | some z =>
          have HZk0 := HZ.out t
          rw [hz] at HZk0
          unfold tA zV vA at HZk0
          dsimp only [Option.getD_some, Option.isSome_some] at HZk0
          have HZk := hid HZk0
          have HAz2 : Hid (AllZ ts (k + 1)) := fun j t' hj ht' => by
            by_cases hjk : j = k
            · subst hjk
              rw [htk] at ht'
              obtain rfl := Option.some.inj ht'
              rw [hz]
              simp
            · exact HAz.out j t' (by omega) ht'
          obtain ⟨tk, ts2⟩ := t
          dsimp only at y0 y1 HZk
          clear HZk0 hz hxx x0 x1 hsl htk
          go_wp2_with fail
          refine (HZk.out _).mono ?_
          rintro e w5 ⟨rfl, hb5⟩
          have hB5 := belows (B := w.heap.size) (a := w) (hbl.alloc hbz (.cells #[.int .i64 tk, .string ts2] 33)) hb5 (by simp; omega)
          have hz5 := hB5.size
          go_wp2
          go_roundw
          case rel => exact ⟨k + 1, by omega, by go_num, HAz2, (by repeat' first | with_reducible exact Below.refl _ _ | with_reducible assumption | with_reducible refine belows_drewN ?_ _ | with_reducible refine Below.drew ?_ | with_reducible refine Below.setCell ?_ ?_ _ | with_reducible refine Below.alloc ?_ ?_ _ | omega | (simp; done) | (simp; omega))⟩
          case measure => simp [intOf] <;> omega
      · obtain rfl : k = ts.length := by omega
        have kk := hbl.cell (p := ⟨hb, 0, none⟩) (by simpa using hgen)
        rw [k0] at kk
        have hno := allZ_no HAz.out
        by_cases h3 : (ts.length : Int) < (s.lim : Int) - s.used
        · have HO2 : Hid (out = _) := HO.out.trans ((if_neg (by rintro (e | e); (have := H1.out; omega); exact hno e)).trans (if_neg (by simpa using h3)))
          have hde : decide ((ts.length : Int) < (s.flat.lim : Int) - (s.used : Int)) = true := by (show decide ((ts.length : Int) < (s.lim : Int) - _) = true); simpa using h3
          have HF2 : Hid _ := HF
          rw [hde] at HF2
          have hul := ok.used
          have hll := ok.lim
          have hul2 := flat_used s
          have hul3 := Hp.types_le ok.th
          have hul4 : s.flat.tc.length = (s.l.map (·.ts)).flatten.length := rfl
          have hul5 : s.used = s.l.length + (s.l.map (·.vs)).flatten.length := rfl
          have hA2 := fun X k => HA.out X k _ (allZ_map HAz.out) (by omega) (by omega)
          have HC := hid (flat_cs s)
          unfold AddPost at hA2
          have HA2 := hid hA2
          clear hA2 hno hde h3 hul hll hul2 hul3 hul4 hul5
          go_wp2_with fail
          refine (HF2.out _ (by repeat' first | with_reducible exact Below.refl _ _ | with_reducible assumption | with_reducible refine belows_drewN ?_ _ | with_reducible refine Below.drew ?_ | with_reducible refine Below.setCell ?_ ?_ _ | with_reducible refine Below.alloc ?_ ?_ _ | omega | (simp; done) | (simp; omega))).mono ?_
          rintro e w4 ⟨rfl, mm, rfl⟩
          go_wp2_with fail
          refine (HA2.out _ (by repeat' first | with_reducible exact Below.refl _ _ | with_reducible assumption | with_reducible refine belows_drewN ?_ _ | with_reducible refine Below.drew ?_ | with_reducible refine Below.setCell ?_ ?_ _ | with_reducible refine Below.alloc ?_ ?_ _ | omega | (simp; done) | (simp; omega))).mono ?_
          rintro e w5 ⟨H5, rfl, hW5⟩
          have HW5 := hid (Went.start (a := w) (by repeat' first | with_reducible exact Below.refl _ _ | with_reducible assumption | with_reducible refine belows_drewN ?_ _ | with_reducible refine Below.drew ?_ | with_reducible refine Below.setCell ?_ ?_ _ | with_reducible refine Below.alloc ?_ ?_ _ | omega | (simp; done) | (simp; omega)) hW5)
          clear hW5
          go_wp2
          go_ret2
          refine ⟨H5, by rw [HO2.out, HC.out]; rfl, ?_⟩
          rw [HO2.out]
          have hf := HW5.out
          rw [← flat_obj _ _ _ _ (by simp)] at hf
          exact hf
        · have HO2 : Hid (out = _) := HO.out.trans ((if_neg (by rintro (e | e); (have := H1.out; omega); exact hno e)).trans (if_pos (by simpa using h3)))
          have hde : decide ((ts.length : Int) < (s.flat.lim : Int) - (s.used : Int)) = false := by (show decide ((ts.length : Int) < (s.lim : Int) - _) = false); simpa using h3
          have HF2 : Hid _ := HF
          rw [hde] at HF2
          clear hno hde h3
          go_wp2_with fail
          refine (HF2.out _ (by repeat' first | with_reducible exact Below.refl _ _ | with_reducible assumption | with_reducible refine belows_drewN ?_ _ | with_reducible refine Below.drew ?_ | with_reducible refine Below.setCell ?_ ?_ _ | with_reducible refine Below.alloc ?_ ?_ _ | omega | (simp; done) | (simp; omega))).mono ?_
          rintro e w4 ⟨rfl, mm, rfl⟩
          go_wp2
          go_ret2
          refine ⟨H, by rw [HO2.out]; rfl, ?_⟩
          rw [HO2.out]
          exact (Went.refl HR.out).below (by repeat' first | with_reducible exact Below.refl _ _ | with_reducible assumption | with_reducible refine belows_drewN ?_ _ | with_reducible refine Below.drew ?_ | with_reducible refine Below.setCell ?_ ?_ _ | with_reducible refine Below.alloc ?_ ?_ _ | omega | (simp; done) | (simp; omega))
end Go.Proofs.Ytkikdjphmnbmaaa
namespace Go.Proofs.Ytkikdjphmnbmaaa
open Go Go.RowKit

namespace Hp
theorem used_snoc (lim : Nat) (l : List Th) (t : Th) : (⟨lim, l ++ [t]⟩ : Hs).used = (⟨lim, l⟩ : Hs).used + 1 + t.vs.length := by
  simp [Hs.used]; omega
theorem arr_ok {s : Hs} (h : s.Ok) (t : Ty) (n : Int) : (s.arr t n).1.Ok := by
  unfold Hs.arr
  split
  · exact h
  · split
    · exact h
    · split
      · exact h
      · rename_i z _ h1 h2
        have h3 : n < (s.lim : Int) - s.used := by
          by_cases e : n < (s.lim : Int) - s.used
          · exact e
          · exact absurd (.inr e) h2
        refine ⟨h.lim, ?_, ?_⟩
        · show (⟨s.lim, s.l ++ [_]⟩ : Hs).used ≤ s.lim
          rw [used_snoc]
          simp only [List.length_replicate]
          have : (⟨s.lim, s.l⟩ : Hs).used = s.used := rfl
          omega
        · intro x hx
          rcases List.mem_append.1 hx with hx | hx
          · exact h.th x hx
          · rw [List.mem_singleton.1 hx]
            exact .inl ⟨rfl, rfl⟩
theorem obj_ok {s : Hs} (h : s.Ok) (c : Int) (ts : List Ty) : (s.obj c ts).1.Ok := by
  unfold Hs.obj
  split
  · exact h
  · split
    · exact h
    · rename_i h1 h2
      have h3 : (ts.length : Int) < (s.lim : Int) - s.used := by
        by_cases e : (ts.length : Int) < (s.lim : Int) - s.used
        · exact e
        · exact absurd e h2
      refine ⟨h.lim, ?_, ?_⟩
      · show (⟨s.lim, s.l ++ [_]⟩ : Hs).used ≤ s.lim
        rw [used_snoc]
        simp only [List.length_map]
        have : (⟨s.lim, s.l⟩ : Hs).used = s.used := rfl
        omega
      · intro x hx
        rcases List.mem_append.1 hx with hx | hx
        · exact h.th x hx
        · rw [List.mem_singleton.1 hx]
          exact .inr ⟨by show 0 ≤ c; have : ¬ c < 0 := fun e => h1 (.inl e); omega, by simp⟩
theorem new_ok {lim : Nat} (h : lim ≤ 1048576) : (⟨lim, []⟩ : Hs).Ok := ⟨h, by simp [Hs.used], fun t ht => by cases ht⟩
def tI : Ty := ⟨1, ⟨#[]⟩⟩
def tJ : Ty := ⟨2, ⟨#[]⟩⟩
def B1 : Hs := ⟨5, [⟨0, [tI, tJ], [⟨1, 0⟩, ⟨2, 0⟩]⟩]⟩
def B2 : Hs := ⟨5, [⟨0, [tI, tJ], [⟨1, 0⟩, ⟨2, 0⟩]⟩, ⟨-1, [tI], [⟨1, 0⟩]⟩]⟩
theorem b1 : (⟨5, []⟩ : Hs).obj 0 [tI, tJ] = (B1, 1, 0) := by
  simp [Hs.obj, zeroOf, tI, tJ, Hs.used, B1]
theorem b2 : B1.arr tI 2 = (B1, 0, 6) := by
  simp [Hs.arr, zeroOf, tI, Hs.used, B1]
theorem b3 : B1.arr tI 1 = (B2, 2, 0) := by
  simp [Hs.arr, zeroOf, tI, tJ, Hs.used, B1, B2]
theorem b4 : B2.used = 5 := by simp [Hs.used, B2]
theorem b1_ok : B1.Ok := by
  have h := obj_ok (new_ok (lim := 5) (by decide)) 0 [tI, tJ]
  rw [b1] at h
  exact h
theorem b2_ok : B2.Ok := by
  have h := arr_ok b1_ok tI 1
  rw [b3] at h
  exact h
end Hp
theorem flat_new (lim : Nat) : (⟨lim, []⟩ : Hp.Hs).flat = St0 lim := by simp [Hp.Hs.flat, St0, Hp.ends]
theorem isO_new {w : World} {cs : Array Value} {T : TypeId} {size n : Nat} {S : Nat → Prop} (hs : ¬ S w.heap.size) (hl : cs.size = n * size) (hn : n ≤ 140737488355328) : IsO S size (w.alloc (.cells cs T)) (.slice (some ⟨w.heap.size, 0, none⟩) n n) n cs.toList := by
  refine ⟨by simpa using hl, hn, .inr ⟨w.heap.size, 0, n, rfl, Nat.le_refl _, by simp, hs, fun i u hi => ?_⟩⟩
  rw [World.cell?_alloc_new, Nat.zero_add]
  simpa using hi
theorem Went.low {a b : World} {base : Nat} {H H' : HV} {s s' : Hp.St} (h : Went a b base H H' s') (hr : Rep a base H s) : Below base a b := h.chg.to_below (fun k e => (hr.low k e).1) (Nat.le_of_lt hr.base_lt)
theorem used_flat (s : Hp.Hs) : (s.flat.cs.length : Int) + (s.flat.vc.length : Int) = s.used := by have := flat_used s; omega
set_option maxRecDepth 100000 in
set_option maxHeartbeats 1000000 in
theorem begun_any (w : World) : Calls Try.prog 9 #[] w fun e w' => e = .returned (.bool true) ∧ Below w.heap.size w w' := by
  go_enter Try.func9, Try.ntmps9
  go_wp2_with fail
  refine (New_any w.heap.size 5 w (Nat.le_refl _) (by decide)).mono ?_
  rintro e w1 ⟨H, rfl, hR, hb1, hf⟩
  rw [← flat_new] at hR
  have hlow := hR.low
  have hO := Object_any (hR.alloc (.cells #[.int .i64 1, .string ⟨#[]⟩, .int .i64 2, .string ⟨#[]⟩] 33)) (Hp.new_ok (by decide)) 0 [Hp.tI, Hp.tJ] _ (isO_new (n := 2) (fun e => by have := hlow _ e; omega) rfl (by decide))
  rw [Hp.b1] at hO
  unfold OutPost at hO
  dsimp only at hO
  have HO := hid hO
  have hz1 := hb1.size
  have HR0 := hid (hR.alloc (.cells #[.int .i64 1, .string ⟨#[]⟩, .int .i64 2, .string ⟨#[]⟩] 33))
  obtain ⟨hb, hhb⟩ : ∃ hb, hb = H.hb := ⟨_, rfl⟩
  rw [← hhb] at HO ⊢
  have HHb := hid hhb
  clear hO hlow hf hR hhb
  go_wp2_with fail
  refine HO.out.mono ?_
  rintro e w2 ⟨H2, rfl, hW2⟩
  have B2 : Below w.heap.size w w2 := ((hb1.alloc hz1 _).mono (Nat.le_refl _)).trans (hW2.low HR0.out)
  have ok1 : Hp.B1.Ok := Hp.b1_ok
  have hA := Array_any hW2.rep ok1 Hp.tI 2 (by decide)
  rw [Hp.b2, hW2.hb, ← HHb.out] at hA
  unfold OutPost tA Hp.tI at hA
  dsimp only at hA
  have HA := hid hA
  have HR2 := hid hW2.rep
  have Hb2 := hid (hW2.hb.trans HHb.out.symm)
  clear hA hW2
  go_wp2_with fail
  refine HA.out.mono ?_
  rintro e w3 ⟨H3, rfl, hW3⟩
  have B3 := B2.trans (hW3.low HR2.out)
  have hA := Array_any hW3.rep ok1 Hp.tI 1 (by decide)
  rw [Hp.b3, hW3.hb, Hb2.out] at hA
  unfold OutPost tA Hp.tI at hA
  dsimp only at hA
  have HA3 := hid hA
  have HR3 := hid hW3.rep
  have Hb3 := hid (hW3.hb.trans Hb2.out)
  clear hA hW3
  go_wp2_with fail
  refine HA3.out.mono ?_
  rintro e w4 ⟨H4, rfl, hW4⟩
  have B4 := B3.trans (hW4.low HR3.out)
  have ok2 : Hp.B2.Ok := Hp.b2_ok
  obtain ⟨-, -, -, -, -, -, s7⟩ := ok2.sizes
  have hU := Used_any hW4.rep (by omega)
  rw [used_flat, Hp.b4, hW4.hb, Hb3.out] at hU
  have HU := hid hU
  clear hU hW4 s7
  go_wp2_with fail
  refine HU.out.mono ?_
  rintro e w5 ⟨rfl, m, rfl⟩
  go_wp2
  go_ret
  exact ⟨rfl, (by repeat' first | with_reducible exact Below.refl _ _ | with_reducible assumption | with_reducible refine belows_drewN ?_ _ | with_reducible refine Below.drew ?_ | with_reducible refine Below.setCell ?_ ?_ _ | with_reducible refine Below.alloc ?_ ?_ _ | omega | (simp; done) | (simp; omega))⟩
end Go.Proofs.Ytkikdjphmnbmaaa
