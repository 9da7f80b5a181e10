/- Own texts for the claim, part 5. -/
import Derived.Test.YtahjnaoabfkpcaaDoorZN4
import Derived.Lib.AppendZerosOnto
namespace Go.Proofs.YtahjnaoabfkpcaaDoor
open Go Go.RowKit
open Ty (bl mk br T)
theorem infoT : (Tryd.prog.info? 23).map (fun i => (i.zero, i.size, i.bytes)) = some (some (.agg #[.int .i64 0, .string ⟨#[]⟩]), 2, 24) := by kernel_rfl
theorem tyL_one (l : List T) : ∀ u ∈ l.flatMap tyL, u.oneCell' = true := by
  intro u hu
  obtain ⟨x, -, hu⟩ := List.mem_flatMap.1 hu
  unfold tyL at hu
  simp only [List.mem_cons, List.not_mem_nil, or_false] at hu
  rcases hu with rfl | rfl <;> rfl
theorem tyL_len (l : List T) : (l.flatMap tyL).length = l.length * 2 := by
  induction l with
  | nil => rfl
  | cons x l ih => rw [List.flatMap_cons, List.length_append, ih]; show 2 + _ = _; rw [List.length_cons]; omega
/-- A list of types of a call's own. -/
def TyO (w : World) (base : Nat) (v : Value) (l : List T) : Prop := w.ownsRow base 23 2 v l.length (l.flatMap tyL)
def TClone (w : World) (l : List T) (en : Ending) (w' : World) : Prop := ∃ v, en = .returned v ∧ TyO w' w.heap.size v l ∧ Below w.heap.size w w'
set_option maxRecDepth 100000
set_option maxHeartbeats 1000000
theorem tclone_some (l : List T) (ad : Addr) (cap : Nat) (w : World) (hn : l.length * 24 ≤ 140737488355328) (hc : ∀ j u, (l.flatMap tyL)[j]? = some u → w.cell? (ad.add j) = some u) : Calls Tryd.prog 20 #[.slice (some ad) l.length cap] w (TClone w l) := by
  obtain ⟨i0, hi, hz0, hz1, hz2⟩ := info_parts infoT
  have hnil := fun (W : World) (a : Option Addr) (n c : Nat) => Lib.run_eql_slice_nil (P := Tryd.prog) W 24 23 a n c 0 0 Tryd.underlying24
  have hlt : ∀ j u, (l.flatMap tyL)[j]? = some u → (w.alloc (.cells #[] 23)).cell? (ad.add j) = some u := fun j u h => by
    have h2 := hc j u h
    rw [World.cell?_alloc_lt _ _ _ (World.block_lt_of_cell? w _ h2)]
    exact h2
  have HL := hid hlt
  clear hc hlt
  go_enter Tryd.func20, Tryd.ntmps20
  go_wp2_with (at_builtin; go_loud (refine wpList_append_own _ rfl (.tmp 5) (.tmp 6) 24 rfl w.heap.size 23 i0 _ 2 24 Tryd.underlying24 hi hz0 hz1 hz2 rfl (by decide) (.slice (some ⟨w.heap.size, 0, none⟩) 0 0) 0 [] rfl ⟨rfl, .inr ⟨w.heap.size, 0, #[], rfl, Nat.le_refl _, BX.new w _ _, Nat.le_refl _, by decide, by simp, by simp⟩⟩ ad l.length cap (l.flatMap tyL) rfl (tyL_len l) HL.out (tyL_one l) (by unfold maxLen; omega) (by omega) (by simp) ?_; intro v1 w1 hown1 hgrow1 _; have HO := hid hown1; have HG := hid hgrow1; clear hown1 hgrow1))
  go_ret
  refine ⟨_, rfl, by have := HO.out; simpa [TyO] using this, ?_⟩
  exact ((Below.refl w.heap.size w).alloc (Nat.le_refl _) _).grown HG.out (by simp) (fun k e => by
    have : w.heap.size = k := by simpa [Value.ownBlock] using e
    omega)
theorem tclone_nil (c : Nat) (w : World) : Calls Tryd.prog 20 #[.slice none 0 c] w (TClone w []) := by
  have hnil := fun (W : World) (a : Option Addr) (n c : Nat) => Lib.run_eql_slice_nil (P := Tryd.prog) W 24 23 a n c 0 0 Tryd.underlying24
  go_enter Tryd.func20, Tryd.ntmps20
  go_wp2
  go_ret
  exact ⟨_, rfl, ⟨rfl, .inl ⟨rfl, rfl⟩⟩, (by repeat' first | with_reducible exact Below.refl _ _ | with_reducible assumption | with_reducible refine belows_drewN ?_ _ | with_reducible refine Below.drew ?_ | with_reducible refine Below.setCell ?_ ?_ _ | with_reducible refine Below.alloc ?_ ?_ _ | omega | (simp; done) | (simp; omega))⟩
theorem tclone_any (l : List T) (v : Value) (w : World) (hv : TyS w v l) (hn : l.length * 24 ≤ 140737488355328) : Calls Tryd.prog 20 #[v] w (TClone w l) := by
  rcases hv.2.2 with ⟨h0, a, cap, rfl⟩ | ⟨b, o, cap, rfl, hl, hlt, hc⟩
  · obtain rfl := List.eq_nil_of_length_eq_zero h0
    cases a with
    | none => exact tclone_nil cap w
    | some ad => exact tclone_some [] ad cap w (by simp) (fun j u h => by simp at h)
  · exact tclone_some l ⟨b, o, none⟩ cap w hn (fun j u h => by rw [Go.WideShapes.add_plain]; exact hc j u h)
theorem TyO.is {w : World} {base : Nat} {v : Value} {l : List T} (h : TyO w base v l) (hl : l.length ≤ 140737488355328) : TyS w v l := Kit.isS_of_owns h hl
theorem TyO.below {w w' : World} {base : Nat} {v : Value} {l : List T} (h : TyO w base v l) (hb : Below w.heap.size w w') : TyO w' base v l := Kit.owns_below h hb (Nat.le_refl _)
theorem TyO.mono {w : World} {base base' : Nat} {v : Value} {l : List T} (h : TyO w base v l) (hb : base' ≤ base) : TyO w base' v l := by
  rcases h.2 with h0 | ⟨g, cap, cur, e, hg, r⟩
  · exact ⟨h.1, .inl h0⟩
  · exact ⟨h.1, .inr ⟨g, cap, cur, e, Nat.le_trans hb hg, r⟩⟩
theorem sameTypes_any {w : World} {v u : Value} {l : List T} (h1 : TyS w v l) (h2 : TyS w u l) : Calls Tryd.prog 36 #[v, u] w fun e w' => e = .returned (.bool true) ∧ Below w.heap.size w w' := by
  obtain ⟨a1, c1, rfl⟩ := Kit.IsS.len h1
  obtain ⟨a2, c2, rfl⟩ := Kit.IsS.len h2
  have H1 := hid h1
  have H2 := hid h2
  have hn := h1.2.1
  obtain ⟨n, hln⟩ : ∃ n, l.length = n := ⟨_, rfl⟩
  rw [hln] at hn H1 H2 ⊢
  have HLN := hid hln
  clear h1 h2 hln
  go_enter Tryd.func36, Tryd.ntmps36
  go_wp2
  go_loopw [5] (fun v wr => ∃ i : Nat, v = .int .i64 (i : Int) ∧ i ≤ n ∧ Hid (Below w.heap.size w wr)) (fun v _ => n - (intOf v).toNat)
  case atStart => exact ⟨0, rfl, Nat.zero_le _, Below.refl _ _⟩
  case round =>
    obtain ⟨i, rfl, hi, HB⟩ := hrel
    by_cases hlt : i < n
    · obtain ⟨⟨tk, tn⟩, hx⟩ : ∃ t, l[i]? = some t := ⟨_, List.getElem?_eq_getElem (by rw [HLN.out]; exact hlt)⟩
      have q1 : TyS w (.slice a1 l.length c1) l := by rw [HLN.out]; exact H1.out
      have q2 : TyS w (.slice a2 l.length c2) l := by rw [HLN.out]; exact H2.out
      obtain ⟨b1, o1, p1, e1, hb1, x0, x1⟩ := (q1.below HB.out).at hx
      obtain ⟨b2, o2, p2, e2, hb2, y0, y1⟩ := (q2.below HB.out).at hx
      obtain ⟨rfl, -, rfl⟩ := Value.slice.inj e1
      obtain ⟨rfl, -, rfl⟩ := Value.slice.inj e2
      dsimp only at x0 x1 y0 y1
      have hli : (i : Int) < (n : Int) := by omega
      clear hx q1 q2 e1 e2
      go_wp2
      go_quiet (fail)
      go_wp2
      go_roundw
      case rel => exact ⟨i + 1, by go_num, by omega, belows_drewN HB.out _⟩
      case measure => simp [intOf]; omega
    · obtain rfl : i = n := by omega
      go_wp2
      go_ret
      exact ⟨rfl, HB.out⟩
/-- Whether two shapes are the same. -/
theorem same_any {w : World} {v1 v2 u1 u2 : Value} {l1 l2 : List T} (h1 : TyS w v1 l1) (h2 : TyS w v2 l2) (k1 : TyS w u1 l1) (k2 : TyS w u2 l2) : Calls Tryd.prog 22 #[.agg #[v1, v2], .agg #[u1, u2]] w fun e w' => e = .returned (.bool true) ∧ Below w.heap.size w w' := by
  obtain ⟨W, hW⟩ : ∃ W, W = (w.alloc (.cells #[v1, v2] 43)).alloc (.cells #[u1, u2] 43) := ⟨_, rfl⟩
  have hb : Below w.heap.size w W := by rw [hW]; exact (by repeat' first | with_reducible exact Below.refl _ _ | with_reducible assumption | with_reducible refine belows_drewN ?_ _ | with_reducible refine Below.drew ?_ | with_reducible refine Below.setCell ?_ ?_ _ | with_reducible refine Below.alloc ?_ ?_ _ | omega | (simp; done) | (simp; omega))
  have HX0 : Hid (BX W w.heap.size #[v1, v2] 43) := by
    show BX _ _ _ _
    rw [hW]
    exact (BX.new w _ _).below ((Below.refl _ _).alloc (Nat.le_refl _) _)
  have HX1 : Hid (BX W (w.heap.size + 1) #[u1, u2] 43) := by
    have := BX.new (w.alloc (.cells #[v1, v2] 43)) #[u1, u2] 43
    rw [World.size_alloc, ← hW] at this
    exact this
  have H1 := hid (fun X (hX : Below w.heap.size w X) => sameTypes_any (h1.below hX) (k1.below hX))
  have H2 := hid (fun X (hX : Below w.heap.size w X) => sameTypes_any (h2.below hX) (k2.below hX))
  have HB := hid hb
  have HW := hid hW
  obtain ⟨a1, p1, e1⟩ := Kit.IsS.len h1
  obtain ⟨a2, p2, e2⟩ := Kit.IsS.len h2
  obtain ⟨a3, p3, e3⟩ := Kit.IsS.len k1
  obtain ⟨a4, p4, e4⟩ := Kit.IsS.len k2
  obtain ⟨n1, hn1⟩ : ∃ n, l1.length = n := ⟨_, rfl⟩
  obtain ⟨n2, hn2⟩ : ∃ n, l2.length = n := ⟨_, rfl⟩
  rw [hn1] at e1 e3
  rw [hn2] at e2 e4
  subst e1 e2 e3 e4
  clear h1 h2 k1 k2 hb hW hn1 hn2
  go_enter Tryd.func22, Tryd.ntmps22
  go_upto_region 1 with fail
  rw [← HW.out]
  have hz : w.heap.size + 1 < W.heap.size := HX1.out.sz
  have c0 : W.cell? ⟨w.heap.size, 0, none⟩ = some (.slice a1 n1 p1) := HX0.out.cell 0
  have c1 : W.cell? ⟨w.heap.size + 1, 0, none⟩ = some (.slice a3 n1 p3) := HX1.out.cell 0
  go_wp2_with (first | ((fail_if_success (have _g := HB2)); go_at_call 36; (with_reducible refine (H1.out _ HB.out).mono ?_); rintro e w2 ⟨rfl, hb2⟩; have HB2 := hid (belows HB.out hb2 HB.out.size); have c2 : w2.cell? ⟨w.heap.size, 1, none⟩ = some (.slice a2 n2 p2) := (HX0.out.below hb2).cell 1; have c3 : w2.cell? ⟨w.heap.size + 1, 1, none⟩ = some (.slice a4 n2 p4) := (HX1.out.below hb2).cell 1; have hz2 := hb2.size; clear hb2 c0 c1) | (have _g := HB2; go_at_call 36; (with_reducible refine (H2.out _ HB2.out).mono ?_); rintro e w3 ⟨rfl, hb3⟩; have HB3 := hid (belows HB2.out hb3 HB2.out.size); clear hb3))
  go_ret
  exact ⟨rfl, HB3.out⟩
end Go.Proofs.YtahjnaoabfkpcaaDoor
namespace Go.Proofs.YtahjnaoabfkpcaaDoor
open Go Go.RowKit
open Ty (bl mk br T)
set_option maxRecDepth 100000
set_option maxHeartbeats 1000000
/-- join of a type with itself. -/
theorem join_self (x : T) (w : World) : Calls Tryd.prog 35 #[.pointer none, tyA x, tyA x] w fun e w' => e = .returned (tyA x) ∧ Below w.heap.size w w' := by
  obtain ⟨w3, hw3, hb3, hs3, x0, x1, x2⟩ := boxes3 w (.int .i64 x.k) (.string x.n) (.int .i64 x.k) (.string x.n)
  have HW3 := hid hw3
  have HB3 := hid hb3
  obtain ⟨k, n⟩ := x
  unfold tyA
  dsimp only at x0 x1 x2 HW3 ⊢
  have c0 : w3.cell? ⟨w.heap.size, 0, none⟩ = some (.int .i64 k) := x0.cell 0
  have c1 : w3.cell? ⟨w.heap.size, 1, none⟩ = some (.string n) := x0.cell 1
  have d0 : w3.cell? ⟨w.heap.size + 1, 0, none⟩ = some (.int .i64 k) := x1.cell 0
  have d1 : w3.cell? ⟨w.heap.size + 1, 1, none⟩ = some (.string n) := x1.cell 1
  have hz : w.heap.size + 1 + 1 < w3.heap.size := x2.sz
  have X2 := hid x2
  clear hw3 hb3 x0 x1 x2
  go_enter Tryd.func35, Tryd.ntmps35
  go_upto_region 1 with fail
  rw [← HW3.out]
  have r0 : w3.cell? ⟨w.heap.size + 1 + 1, 0, none⟩ = some (.int .i64 0) := X2.out.cell 0
  have r1 : w3.cell? ⟨w.heap.size + 1 + 1, 1, none⟩ = some (.string ⟨#[]⟩) := X2.out.cell 1
  have g0 := X2.out.frozen 0
  have g1 := X2.out.frozen 1
  have hb : Below w.heap.size w w3 := HB3.out
  go_wp2
  exact bodyPost_ret (v := .agg #[.int .i64 k, .string n]) (by simp [results, Tryd.results35, go_sem, r0, r1]) rfl ⟨rfl, (by repeat' first | with_reducible exact Below.refl _ _ | with_reducible assumption | with_reducible refine belows_drewN ?_ _ | with_reducible refine Below.drew ?_ | with_reducible refine Below.setCell ?_ ?_ _ | with_reducible refine Below.alloc ?_ ?_ _ | omega | (simp; done) | (simp; omega))⟩
/-- Join of a type with itself. -/
def jself (x : T) : T := if Ty.val (fun _ => none) x = true then x else Ty.top
theorem Join_self (x : T) (hx : x.n.size ≤ maxLen) (w : World) : Calls Tryd.prog 19 #[.pointer none, tyA x, tyA x] w fun e w' => e = .returned (tyA (jself x)) ∧ Below w.heap.size w w' := by
  by_cases hv : Ty.val (fun _ => none) x = true
  · unfold jself
    rw [if_pos hv]
    exact Join_any (find_nil w) hx hx hv hv (fun X _ => join_self x X) w (Below.refl _ _)
  · unfold jself
    rw [if_neg hv]
    have hv2 : Ty.val (fun _ => none) x = false := by simpa using hv
    obtain ⟨w3, hw3, hb3, hs3, x0, x1, x2⟩ := boxes3 w (.int .i64 x.k) (.string x.n) (.int .i64 x.k) (.string x.n)
    have V1 := valid_any (find_nil w) hx hb3
    rw [hv2] at V1
    have V1 := hid V1
    have HW3 := hid hw3
    have HB3 := hid hb3
    have X2 := hid x2
    obtain ⟨k, n⟩ := x
    unfold tyA at V1 ⊢
    dsimp only at x0 x1 x2 HW3 V1 ⊢
    have c0 : w3.cell? ⟨w.heap.size, 0, none⟩ = some (.int .i64 k) := x0.cell 0
    have c1 : w3.cell? ⟨w.heap.size, 1, none⟩ = some (.string n) := x0.cell 1
    have hz : w.heap.size + 1 + 1 < w3.heap.size := x2.sz
    clear hw3 hb3 x0 x1 x2 hv hv2 hx
    go_enter Tryd.func19, Tryd.ntmps19
    go_upto_region 1 with fail
    rw [← HW3.out]
    go_wp2_with (go_at_call 17; (with_reducible refine V1.out.mono ?_); rintro e w4 ⟨rfl, hb4⟩; have HV1 := hid hb4; have r0 : w4.cell? ⟨w.heap.size + 1 + 1, 0, none⟩ = some (.int .i64 0) := (X2.out.below hb4).cell 0; have r1 : w4.cell? ⟨w.heap.size + 1 + 1, 1, none⟩ = some (.string ⟨#[]⟩) := (X2.out.below hb4).cell 1; have g0 := (X2.out.below hb4).frozen 0; have g1 := (X2.out.below hb4).frozen 1; have hz4 := hb4.size; clear hb4)
    have hb : Below w.heap.size w w4 := belows HB3.out HV1.out HB3.out.size
    exact bodyPost_ret (v := .agg #[.int .i64 0, .string ⟨#[]⟩]) (by simp [results, Tryd.results19, go_sem, r0, r1]) rfl ⟨rfl, (by repeat' first | with_reducible exact Below.refl _ _ | with_reducible assumption | with_reducible refine belows_drewN ?_ _ | with_reducible refine Below.drew ?_ | with_reducible refine Below.setCell ?_ ?_ _ | with_reducible refine Below.alloc ?_ ?_ _ | omega | (simp; done) | (simp; omega))⟩
end Go.Proofs.YtahjnaoabfkpcaaDoor
namespace Go.Proofs.YtahjnaoabfkpcaaDoor
open Go Go.RowKit
open Ty (bl mk br T)
/-- A row of types of a call's own, whatever it holds. -/
def Rw (w : World) (base : Nat) (v : Value) (n : Nat) : Prop := ∃ xs, w.ownsRow base 23 2 v n xs
theorem Rw.below {w w' : World} {base : Nat} {v : Value} {n : Nat} (h : Rw w base v n) (hb : Below w.heap.size w w') : Rw w' base v n := by
  obtain ⟨xs, h⟩ := h
  exact ⟨xs, Kit.owns_below h hb (Nat.le_refl _)⟩
theorem Rw.mono {w : World} {base base' : Nat} {v : Value} {n : Nat} (h : Rw w base v n) (hb : base' ≤ base) : Rw w base' v n := by
  obtain ⟨xs, h⟩ := h
  rcases h.2 with h0 | ⟨g, cap, cur, e, hg, r⟩
  · exact ⟨xs, h.1, .inl h0⟩
  · exact ⟨xs, h.1, .inr ⟨g, cap, cur, e, Nat.le_trans hb hg, r⟩⟩
theorem Rw.form {w : World} {base : Nat} {v : Value} {n : Nat} (h : Rw w base v n) : ∃ a c, v = .slice a n c := by
  obtain ⟨xs, h⟩ := h
  exact own_form h
/-- A cell of a row is written: rows stay rows. -/
theorem Rw.set {w : World} {base : Nat} {v : Value} {n : Nat} (h : Rw w base v n) (b i : Nat) (u : Value) : Rw (w.setCell ⟨b, i, none⟩ u) base v n := by
  obtain ⟨xs, h⟩ := h
  rcases h.2 with ⟨rfl, h0⟩ | ⟨g, cap, cur, rfl, hg, hh, h1, h2, h3, h4⟩
  · exact ⟨xs, h.1, .inl ⟨rfl, h0⟩⟩
  · by_cases e : b = g
    · subst e
      refine ⟨(cur.setIfInBounds i u).toList.take (n * 2), ?_, .inr ⟨b, cap, cur.setIfInBounds i u, rfl, hg, box_set hh i u, h1, h2, by simpa using h3, rfl⟩⟩
      have := h.1
      have h5 : (cur.toList.take (n * 2)).length = n * 2 := by rw [h4]; exact h.1
      rw [List.length_take] at h5 ⊢
      simp only [Array.toList_setIfInBounds, List.length_set]
      exact h5
    · exact ⟨xs, h.1, .inr ⟨g, cap, cur, rfl, hg, (Below.heap_setCell _ _ _ g (fun e2 => e (by have : g = b := e2; exact this.symm))).trans hh, h1, h2, h3, h4⟩⟩
/-- Its cells. -/
theorem Rw.at {w : World} {base : Nat} {v : Value} {n i : Nat} (h : Rw w base v n) (hi : i < n) : ∃ g c u, v = .slice (some ⟨g, 0, none⟩) n c ∧ base ≤ g ∧ w.cell? ⟨g, i * 2, none⟩ = some u ∧ w.frozen? ⟨g, i * 2, none⟩ = false ∧ g < w.heap.size := by
  obtain ⟨xs, h⟩ := h
  rcases h.2 with ⟨-, h0⟩ | ⟨g, cap, cur, rfl, hg, hh, h1, h2, h3, h4⟩
  · omega
  · have hlt : i * 2 < cur.size := by
      have : i * 2 < cap * 2 := by omega
      omega
    exact ⟨g, cap, cur[i * 2], rfl, hg, by simp [World.cell?, hh, hlt], by simp [World.frozen?, hh], (Array.getElem?_eq_some_iff.1 hh).1⟩
/-- One type more, as an operation. -/
theorem op_type1 {o : Oper} {a : Act} {w : World} {K : Act → World → Prop} {Q : Exit → Act → World → Prop} (s x : Operand)
    (hop : o.op = Op.call { callee := Callee.builtin Builtin.append, args := #[s, x], argTypes := #[24, 24] })
    (B : Nat) (v : Value) (n : Nat) (hs : a.eval s = v) (h : Rw w B v n) (hB : B ≤ w.heap.size) (ad : Nat) (hx : a.eval x = .slice (some ⟨ad, 0, none⟩) 1 1) (k : Int) (z : ByteArray)
    (hc : BX w ad #[.int .i64 k, .string z] 23) (hn : (n + 1) * 24 ≤ 140737488355328)
    (hK : ∀ v' w', Rw w' B v' (n + 1) → w.grownBy w' v.ownBlock → (∀ j, v.ownBlock = some j → B ≤ j) → (v'.ownBlock = v.ownBlock ∨ v'.ownBlock = some w.heap.size) → K (a.put o.dst v') w') :
    Oper.wp Tryd.prog o a w K Q := by
  obtain ⟨i0, hi, hz0, hz1, hz2⟩ := info_parts infoT
  obtain ⟨xs, h⟩ := h
  obtain ⟨v', w', hr, h2, h3, -, h5⟩ := run_append_own_at (P := Tryd.prog) w B 24 o.type 23 i0 _ 2 24 Tryd.underlying24 hi hz0 hz1 hz2 rfl (by decide) v n xs h ⟨ad, 0, none⟩ 1 1 [.int .i64 k, .string z] rfl (fun j u hj => by
    rw [Go.WideShapes.add_plain, Nat.zero_add, hc.cell j]
    simpa using hj) (fun u hu => by simp only [List.mem_cons, List.not_mem_nil, or_false] at hu; rcases hu with rfl | rfl <;> rfl) (by unfold maxLen; omega) (by omega) hB
  unfold Oper.wp execOp
  simp only [hop, resolve, invoke, builtin, Sem.run_bind, Sem.run_pure, Result.andThen_ok, List.map_toArray, List.map_cons, List.map_nil, hs, hx, hr]
  exact hK _ _ ⟨_, h2⟩ h3 (fun j e => Kit.own_base h j e) h5
end Go.Proofs.YtahjnaoabfkpcaaDoor
namespace Go.Proofs.YtahjnaoabfkpcaaDoor
open Go Go.RowKit
open Ty (bl mk br T)
theorem Rw.apart {w : World} {base : Nat} {v : Value} {n : Nat} (h : Rw w base v n) {b : Nat} {cs : Array Value} {t : TypeId} (hb : BX w b cs t) (ht : t ≠ 23) : ∀ j, v.ownBlock = some j → j ≠ b := by
  rintro j hj rfl
  obtain ⟨xs, h⟩ := h
  rcases h.2 with ⟨rfl, -⟩ | ⟨g, cap, cur, rfl, hg, hh, -⟩
  · simp [Value.ownBlock] at hj
  · have : g = j := by simpa [Value.ownBlock] using hj
    subst this
    have := hh.symm.trans hb
    exact ht (Obj.cells.inj (Option.some.inj this)).2.1.symm
theorem bx_apart {w : World} {b c : Nat} {cs ds : Array Value} {t u : TypeId} (h : BX w b cs t) (k : BX w c ds u) (ht : t ≠ u) : b ≠ c := by
  rintro rfl
  have := h.symm.trans k
  exact ht (Obj.cells.inj (Option.some.inj this)).2.1
theorem bx_grown {w w' : World} {b : Nat} {cs : Array Value} {t : TypeId} {row : Option Nat} (h : BX w b cs t) (hg : w.grownBy w' row) (hr : ∀ j, row = some j → j ≠ b) : BX w' b cs t :=
  (hg.block b h.sz (fun e => hr b e.symm rfl)).trans h
theorem bx_setCell {w : World} {b c i : Nat} {cs : Array Value} {t : TypeId} (h : BX w b cs t) (hne : b ≠ c) (u : Value) : BX (w.setCell ⟨c, i, none⟩ u) b cs t :=
  (Below.heap_setCell _ _ _ b hne).trans h
set_option maxRecDepth 100000
set_option maxHeartbeats 1000000
theorem Clone_any {w : World} {v1 v2 : Value} {l1 l2 : List T} (h1 : TyS w v1 l1) (h2 : TyS w v2 l2) (b1 : l1.length * 24 ≤ 140737488355328) (b2 : l2.length * 24 ≤ 140737488355328) : Calls Tryd.prog 21 #[.agg #[v1, v2]] w fun e w' => ∃ c1 c2, e = .returned (.agg #[c1, c2]) ∧ TyO w' w.heap.size c1 l1 ∧ TyO w' w.heap.size c2 l2 ∧ Below w.heap.size w w' := by
  obtain ⟨W, hW⟩ : ∃ W, W = (w.alloc (.cells #[v1, v2] 43)).alloc (.cells #[.slice none 0 0, .slice none 0 0] 43) := ⟨_, rfl⟩
  have hb : Below w.heap.size w W := by rw [hW]; exact (by repeat' first | with_reducible exact Below.refl _ _ | with_reducible assumption | with_reducible refine belows_drewN ?_ _ | with_reducible refine Below.drew ?_ | with_reducible refine Below.setCell ?_ ?_ _ | with_reducible refine Below.alloc ?_ ?_ _ | omega | (simp; done) | (simp; omega))
  have HX0 : Hid (BX W w.heap.size #[v1, v2] 43) := by
    show BX _ _ _ _
    rw [hW]
    exact (BX.new w _ _).below ((Below.refl _ _).alloc (Nat.le_refl _) _)
  have HX1 : Hid (BX W (w.heap.size + 1) #[.slice none 0 0, .slice none 0 0] 43) := by
    have := BX.new (w.alloc (.cells #[v1, v2] 43)) #[.slice none 0 0, .slice none 0 0] 43
    rw [World.size_alloc, ← hW] at this
    exact this
  have HT1 := hid (fun X (hX : Below W.heap.size W X) => tclone_any l1 v1 X (h1.below (belows hb hX hb.size)) b1)
  have HT2 := hid (fun X (hX : Below W.heap.size W X) => tclone_any l2 v2 X (h2.below (belows hb hX hb.size)) b2)
  have HB := hid hb
  have HW := hid hW
  obtain ⟨a1, p1, e1⟩ := Kit.IsS.len h1
  obtain ⟨a2, p2, e2⟩ := Kit.IsS.len h2
  obtain ⟨n1, hn1⟩ : ∃ n, l1.length = n := ⟨_, rfl⟩
  obtain ⟨n2, hn2⟩ : ∃ n, l2.length = n := ⟨_, rfl⟩
  rw [hn1] at e1
  rw [hn2] at e2
  subst e1 e2
  have HN1 := hid hn1
  have HN2 := hid hn2
  have HSx := hid (fun X (hX : Below W.heap.size W X) => (⟨(HX0.out.below hX).cell 0, (HX0.out.below hX).cell 1⟩ : X.cell? ⟨w.heap.size, 0, none⟩ = some (.slice a1 n1 p1) ∧ X.cell? ⟨w.heap.size, 1, none⟩ = some (.slice a2 n2 p2)))
  have HBc : Hid (Below W.heap.size W W.drew) := Below.drew (Below.refl W.heap.size W)
  have x0 := HSx.out _ (Below.refl W.heap.size W)
  have hz : w.heap.size + 1 < W.heap.size := HX1.out.sz
  clear h1 h2 hb hW hn1 hn2 b1 b2
  go_enter Tryd.func21, Tryd.ntmps21
  go_upto_region 1 with fail
  rw [← HW.out]
  obtain ⟨s0, hs0⟩ : ∃ s, w.heap.size = s := ⟨_, rfl⟩
  have HS0 := hid hs0
  rw [hs0] at HSx HX1 HX0 x0 hz ⊢
  clear hs0
  go_region_held3 (fun X => X.cell? ⟨s0, 0, none⟩ = some (.slice a1 n1 p1) ∧ X.cell? ⟨s0, 1, none⟩ = some (.slice a2 n2 p2))
    (first | exact x0 | go_keep)
    (first
      | (go_at_call 20; (with_reducible refine (HT1.out _ HBc.out).mono ?_); rintro e V ⟨va, rfl, ho, hb⟩; obtain ⟨ra, rc, rfl⟩ := own_form ho; (try (have HOq := hid (HO2.out.below hb); clear HO2; have HO2 := HOq; clear HOq)); have HO1 := hid (ho.mono HBc.out.size); have HBn := hid (belows HBc.out hb HBc.out.size); clear HBc; have HBc := HBn; clear HBn ho hb x0; have x0 := HSx.out _ HBc.out; (try clear g0 g1 r0 r1); have r0 : V.cell? ⟨s0 + 1, 0, none⟩ = some (.slice none 0 0) := (HX1.out.below HBc.out).cell 0; have r1 : V.cell? ⟨s0 + 1, 1, none⟩ = some (.slice none 0 0) := (HX1.out.below HBc.out).cell 1; have g0 := (HX1.out.below HBc.out).frozen 0; have g1 := (HX1.out.below HBc.out).frozen 1)
      | (go_at_call 20; (with_reducible refine (HT2.out _ HBc.out).mono ?_); rintro e V ⟨vb, rfl, ho, hb⟩; obtain ⟨ta, tc, rfl⟩ := own_form ho; (try (have HOq := hid (HO1.out.below hb); clear HO1; have HO1 := HOq; clear HOq)); have HO2 := hid (ho.mono HBc.out.size); have HBn := hid (belows HBc.out hb HBc.out.size); clear HBc; have HBc := HBn; clear HBn ho hb x0; have x0 := HSx.out _ HBc.out; (try clear g0 g1 r0 r1); have r0 : V.cell? ⟨s0 + 1, 0, none⟩ = some (.slice none 0 0) := (HX1.out.below HBc.out).cell 0; have r1 : V.cell? ⟨s0 + 1, 1, none⟩ = some (.slice none 0 0) := (HX1.out.below HBc.out).cell 1; have g0 := (HX1.out.below HBc.out).frozen 0; have g1 := (HX1.out.below HBc.out).frozen 1))
  clear g0 g1 x0
  go_wp2
  have hc : Chg (fun i => i = s0 + 1) V ((V.setCell ⟨s0 + 1, 0, none⟩ (.slice ra l1.length rc)).setCell ⟨s0 + 1, 1, none⟩ (.slice ta l2.length tc)) := ((Chg.refl (fun i => i = s0 + 1) V).set (p := ⟨s0 + 1, 0, none⟩) (.inl rfl) _).set (p := ⟨s0 + 1, 1, none⟩) (.inl rfl) _
  have hx := HX1.out.below HBc.out
  have hw : w.heap.size ≤ W.heap.size := HB.out.size
  have o1 : TyO _ w.heap.size (.slice ra l1.length rc) l1 := TyO.mono (owns_chg HO1.out hc (fun j e e2 => own_unlike_box HO1.out hx (by decide) (e2 ▸ e))) hw
  have o2 : TyO _ w.heap.size (.slice ta l2.length tc) l2 := TyO.mono (owns_chg HO2.out hc (fun j e e2 => own_unlike_box HO2.out hx (by decide) (e2 ▸ e))) hw
  have hbl : Below w.heap.size w V := belows HB.out HBc.out HB.out.size
  have hs := HS0.out
  exact bodyPost_ret (v := .agg #[.slice ra l1.length rc, .slice ta l2.length tc]) (by simp [results, Tryd.results21, go_sem, r0, r1]) rfl ⟨_, _, rfl, o1, o2, hbl.trans (hc.to_below (fun i e => by omega) (by have := hbl.size; omega))⟩
/-- JoinAll's closure for the locals. -/
theorem j1_any {w : World} {x : T} {B sB hB n : Nat} {lv sv : Value} (hx : x.n.size ≤ maxLen) (h : BX w hB #[.pointer none] 35) (s : BX w sB #[lv, sv] 43) (r : Rw w B lv n) (hBw : B ≤ w.heap.size) (hn : (n + 1) * 24 ≤ 140737488355328) :
    Calls Tryd.prog 38 #[tyA x, tyA x, .pointer (some ⟨sB, 0, none⟩), .pointer (some ⟨hB, 0, none⟩)] w fun e w' => e = .returned (.bool true) ∧ ∃ lv', BX w' sB #[lv', sv] 43 ∧ Rw w' B lv' (n + 1) ∧ Chg (fun i => i = sB ∨ lv.ownBlock = some i) w w' ∧ (lv'.ownBlock = lv.ownBlock ∨ ∃ g, lv'.ownBlock = some g ∧ w.heap.size ≤ g) := by
  have HJ := hid (fun X => Join_self x hx X)
  obtain ⟨la, lc, rfl⟩ := r.form
  obtain ⟨k, z⟩ := x
  obtain ⟨⟨k', z'⟩, hj⟩ : ∃ y, jself ⟨k, z⟩ = y := ⟨_, rfl⟩
  rw [hj] at HJ
  obtain ⟨W, hW⟩ : ∃ W, W = (w.alloc (.cells #[.int .i64 k, .string z] 23)).alloc (.cells #[.int .i64 k, .string z] 23) := ⟨_, rfl⟩
  have hb : Below w.heap.size w W := by rw [hW]; exact (by repeat' first | with_reducible exact Below.refl _ _ | with_reducible assumption | with_reducible refine belows_drewN ?_ _ | with_reducible refine Below.drew ?_ | with_reducible refine Below.setCell ?_ ?_ _ | with_reducible refine Below.alloc ?_ ?_ _ | omega | (simp; done) | (simp; omega))
  have hx0 : BX W w.heap.size #[.int .i64 k, .string z] 23 := by
    rw [hW]
    exact (BX.new w _ _).below ((Below.refl _ _).alloc (Nat.le_refl _) _)
  have hx1 : BX W (w.heap.size + 1) #[.int .i64 k, .string z] 23 := by
    have := BX.new (w.alloc (.cells #[.int .i64 k, .string z] 23)) #[.int .i64 k, .string z] 23
    rw [World.size_alloc, ← hW] at this
    exact this
  have HB := hid hb
  have HW := hid hW
  have HS := hid (s.below hb)
  have HH := hid (h.below hb)
  have HR := hid (r.below hb)
  have HX0 := hid hx0
  have HX1 := hid hx1
  have cS : W.cell? ⟨sB, 0, none⟩ = some (.slice la n lc) := HS.out.cell 0
  have HBb : Hid (B ≤ W.heap.size) := Nat.le_trans hBw hb.size
  have HSx := hid (fun X (hX : Below W.heap.size W X) => (⟨(HH.out.below hX).cell 0, (HX0.out.below hX).cell 0, (HX0.out.below hX).cell 1, (HX1.out.below hX).cell 0, (HX1.out.below hX).cell 1⟩ : X.cell? ⟨hB, 0, none⟩ = some (.pointer none) ∧ X.cell? ⟨w.heap.size, 0, none⟩ = some (.int .i64 k) ∧ X.cell? ⟨w.heap.size, 1, none⟩ = some (.string z) ∧ X.cell? ⟨w.heap.size + 1, 0, none⟩ = some (.int .i64 k) ∧ X.cell? ⟨w.heap.size + 1, 1, none⟩ = some (.string z)))
  have HLt : Hid (∀ j, (Value.slice la n lc).ownBlock = some j → j < w.heap.size) := fun j e => by
    obtain ⟨xs, r⟩ := r
    exact Kit.own_lt r j e
  have x0 := HSx.out _ (Below.refl W.heap.size W)
  have hz : w.heap.size + 1 < W.heap.size := hx1.sz
  unfold tyA at HJ ⊢
  dsimp only at HJ ⊢
  clear h s r hb hW hx0 hx1 hx hj
  go_enter Tryd.func38, Tryd.ntmps38
  go_upto_region 1 with fail
  rw [← HW.out]
  obtain ⟨s0, hs0⟩ : ∃ s, w.heap.size = s := ⟨_, rfl⟩
  rw [hs0] at HSx HX1 HX0 x0 hz HLt ⊢
  have HS0 := hid hs0
  clear hs0
  refine wp_region_held_drew (S := fun X => X.cell? ⟨hB, 0, none⟩ = some (.pointer none) ∧ X.cell? ⟨s0, 0, none⟩ = some (.int .i64 k) ∧ X.cell? ⟨s0, 1, none⟩ = some (.string z) ∧ X.cell? ⟨s0 + 1, 0, none⟩ = some (.int .i64 k) ∧ X.cell? ⟨s0 + 1, 1, none⟩ = some (.string z)) (by kernel_rfl) (HSx.out _ (Below.drew (Below.refl W.heap.size W))) (fun hS => ?_)
  refine wpAnyH_take (i := 0) (v := ?_) rfl (by kernel_rfl) (by kernel_rfl) (by kernel_rfl) (fun _ _ _ h => h) (Or.inl ⟨by rfl, ?_⟩) hS ?_
  rotate_left
  · (intro wq hSw; (try dsimp only at hSw); go_simp; try with_reducible rfl)
  try simp only [Act.put, List.getElem_toArray, List.getElem_cons_zero, List.setIfInBounds_toArray, List.set_cons_zero, List.set_cons_succ]
  refine wpAnyH_take (i := 2) (v := ?_) rfl (by kernel_rfl) (by kernel_rfl) (by kernel_rfl) (fun _ _ _ h => h) (Or.inl ⟨by rfl, ?_⟩) hS ?_
  rotate_left
  · (intro wq hSw; (try dsimp only at hSw); go_simp; try with_reducible rfl)
  try simp only [Act.put, List.getElem_toArray, List.getElem_cons_zero, List.getElem_cons_succ, List.setIfInBounds_toArray, List.set_cons_zero, List.set_cons_succ]
  refine wpAnyH_take (i := 3) (v := ?_) rfl (by kernel_rfl) (by kernel_rfl) (by kernel_rfl) (fun _ _ _ h => h) (Or.inl ⟨by rfl, ?_⟩) hS ?_
  rotate_left
  · (intro wq hSw; (try dsimp only at hSw); go_simp; try with_reducible rfl)
  try simp only [Act.put, List.getElem_toArray, List.getElem_cons_zero, List.getElem_cons_succ, List.setIfInBounds_toArray, List.set_cons_zero, List.set_cons_succ]
  refine wpAnyH_take (i := 4) (v := ?_) rfl (by kernel_rfl) (by kernel_rfl) (by kernel_rfl) (fun _ _ _ h => h) (Or.inl ⟨by rfl, ?_⟩) hS ?_
  rotate_left
  · (intro wq hSw; (try dsimp only at hSw); go_simp; try with_reducible rfl)
  try simp only [Act.put, List.getElem_toArray, List.getElem_cons_zero, List.getElem_cons_succ, List.setIfInBounds_toArray, List.set_cons_zero, List.set_cons_succ]
  refine wpAnyH_ready (rs := [1, 5]) (by kernel_rfl) (by simp) ?_
  refine AllReadyH.cons rfl (fun K hK => ?_) (AllReadyH.cons rfl (fun K hK => ?_) AllReadyH.nil)
  focus (
    go_simp
    refine hK.out _ _ (HSx.out _ (Below.drew (Below.refl W.heap.size W))) (fun hS => ?_)
    clear hK K
    try simp only [Act.put, List.getElem_toArray, List.getElem_cons_zero, List.getElem_cons_succ, List.setIfInBounds_toArray, List.set_cons_zero, List.set_cons_succ]
    refine wpAnyH_ready (rs := [5]) (by kernel_rfl) (by simp) (AllReadyH.cons rfl (fun K hK => ?_) AllReadyH.nil)
    go_simp
    go_at_call 19
    refine (HJ.out _).mono ?_
    rintro e V ⟨rfl, hv⟩
    have HV : Hid (Below W.heap.size W V) := (Below.drew (Below.refl W.heap.size W)).trans hv
    have x1 := HSx.out _ HV.out
    have cV : V.cell? ⟨sB, 0, none⟩ = some (.slice la n lc) := (HS.out.below HV.out).cell 0
    have zV : sB < V.heap.size := (HS.out.below HV.out).sz
    have x2 := HSx.out (V.alloc (.cells #[.int .i64 k', .string z'] 23)) (belows HV.out ((Below.refl _ _).alloc (Nat.le_refl _) _) HV.out.size)
    have cU : (V.alloc (.cells #[.int .i64 k', .string z'] 23)).cell? ⟨sB, 0, none⟩ = some (.slice la n lc) := ((HS.out.below HV.out).below ((Below.refl _ _).alloc (Nat.le_refl _) _)).cell 0
    clear hv
    try dsimp only
    refine hK.out _ _ x1 (fun hS => ?_)
    clear hK K
    try simp only [Act.put, List.getElem_toArray, List.getElem_cons_zero, List.getElem_cons_succ, List.setIfInBounds_toArray, List.set_cons_zero, List.set_cons_succ]
    refine wpAnyH_ready (rs := [6]) (by kernel_rfl) (by simp) (AllReadyH.cons rfl (fun K hK => ?_) AllReadyH.nil)
    go_simp
    refine hK.out _ _ x2 (fun hS => ?_)
    clear hK K
    try simp only [Act.put, List.getElem_toArray, List.getElem_cons_zero, List.getElem_cons_succ, List.setIfInBounds_toArray, List.set_cons_zero, List.set_cons_succ])
  rotate_left
  focus (
    go_simp
    go_at_call 19
    refine (HJ.out _).mono ?_
    rintro e V ⟨rfl, hv⟩
    have HV : Hid (Below W.heap.size W V) := (Below.drew (Below.refl W.heap.size W)).trans hv
    have x1 := HSx.out _ HV.out
    have cV : V.cell? ⟨sB, 0, none⟩ = some (.slice la n lc) := (HS.out.below HV.out).cell 0
    have zV : sB < V.heap.size := (HS.out.below HV.out).sz
    have x2 := HSx.out (V.alloc (.cells #[.int .i64 k', .string z'] 23)) (belows HV.out ((Below.refl _ _).alloc (Nat.le_refl _) _) HV.out.size)
    have cU : (V.alloc (.cells #[.int .i64 k', .string z'] 23)).cell? ⟨sB, 0, none⟩ = some (.slice la n lc) := ((HS.out.below HV.out).below ((Below.refl _ _).alloc (Nat.le_refl _) _)).cell 0
    clear hv
    try dsimp only
    refine hK.out _ _ x1 (fun hS => ?_)
    clear hK K
    try simp only [Act.put, List.getElem_toArray, List.getElem_cons_zero, List.getElem_cons_succ, List.setIfInBounds_toArray, List.set_cons_zero, List.set_cons_succ]
    refine wpAnyH_ready (rs := [1, 6]) (by kernel_rfl) (by simp) ?_
    refine AllReadyH.cons rfl (fun K hK => ?_) (AllReadyH.cons rfl (fun K hK => ?_) AllReadyH.nil)
    focus (
      go_simp
      refine hK.out _ _ x1 (fun hS => ?_)
      clear hK K
      try simp only [Act.put, List.getElem_toArray, List.getElem_cons_zero, List.getElem_cons_succ, List.setIfInBounds_toArray, List.set_cons_zero, List.set_cons_succ]
      refine wpAnyH_ready (rs := [6]) (by kernel_rfl) (by simp) (AllReadyH.cons rfl (fun K hK => ?_) AllReadyH.nil)
      go_simp
      refine hK.out _ _ x2 (fun hS => ?_)
      clear hK K
      try simp only [Act.put, List.getElem_toArray, List.getElem_cons_zero, List.getElem_cons_succ, List.setIfInBounds_toArray, List.set_cons_zero, List.set_cons_succ])
    rotate_left
    focus (
      go_simp
      refine hK.out _ _ x2 (fun hS => ?_)
      clear hK K
      try simp only [Act.put, List.getElem_toArray, List.getElem_cons_zero, List.getElem_cons_succ, List.setIfInBounds_toArray, List.set_cons_zero, List.set_cons_succ]
      refine wpAnyH_ready (rs := [1]) (by kernel_rfl) (by simp) (AllReadyH.cons rfl (fun K hK => ?_) AllReadyH.nil)
      go_simp
      refine hK.out _ _ x2 (fun hS => ?_)
      clear hK K
      try simp only [Act.put, List.getElem_toArray, List.getElem_cons_zero, List.getElem_cons_succ, List.setIfInBounds_toArray, List.set_cons_zero, List.set_cons_succ]))
  all_goals
    refine wpAnyH_ready (rs := [7]) (by kernel_rfl) (by simp) (AllReadyH.cons rfl (fun K hK => ?_) AllReadyH.nil)
    rw [if_pos (by rfl)]
    refine op_type1 (.tmp 8) (.tmp 13) rfl B (.slice la n lc) n rfl ((HR.out.below HV.out).below ((Below.refl _ _).alloc (Nat.le_refl _) _)) (Nat.le_trans HBb.out (Nat.le_trans HV.out.size (by simp))) V.heap.size rfl k' z' (BX.new V _ _) hn ?_
    intro v7 w7 hr7 hg7 hbs7 hk7
    have hba : Below V.heap.size V (V.alloc (.cells #[.int .i64 k', .string z'] 23)) := (Below.refl _ _).alloc (Nat.le_refl _) _
    have s6 := (HS.out.below HV.out).below hba
    have h6 := (HH.out.below HV.out).below hba
    have r6 := (HR.out.below HV.out).below hba
    have b7 := bx_grown s6 hg7 (r6.apart s6 (by decide))
    have h7 := bx_grown h6 hg7 (r6.apart h6 (by decide))
    have y7 := bx_grown ((HX0.out.below HV.out).below hba) hg7 (fun j e => by have := HLt.out j e; omega)
    have y8 := bx_grown ((HX1.out.below HV.out).below hba) hg7 (fun j e => by have := HLt.out j e; omega)
    have n1 := bx_apart h7 b7 (by decide)
    have n2 := bx_apart y7 b7 (by decide)
    have n3 := bx_apart y8 b7 (by decide)
    obtain ⟨ra, rc, rfl⟩ := hr7.form
    refine hK.out _ _ ⟨h7.cell 0, y7.cell 0, y7.cell 1, y8.cell 0, y8.cell 1⟩ (fun hS => ?_)
    clear hK K
    try simp only [Act.put, List.getElem_toArray, List.getElem_cons_zero, List.getElem_cons_succ, List.setIfInBounds_toArray, List.set_cons_zero, List.set_cons_succ]
    refine wpAnyH_take (i := 8) (v := ?_) rfl (by kernel_rfl) (by kernel_rfl) (by kernel_rfl) (fun _ _ _ h => h) (Or.inl ⟨by rfl, ?_⟩) hS ?_
    rotate_left
    · (intro wq hSw; (try dsimp only at hSw); go_simp; try with_reducible rfl)
    try simp only [Act.put, List.getElem_toArray, List.getElem_cons_zero, List.getElem_cons_succ, List.setIfInBounds_toArray, List.set_cons_zero, List.set_cons_succ]
    have c7 : w7.cell? ⟨sB, 0, none⟩ = some (.slice la n lc) := b7.cell 0
    have f7 := b7.frozen 0
    refine wpAnyH_ready (rs := [9]) (by kernel_rfl) (by simp) (AllReadyH.cons rfl (fun K hK => ?_) AllReadyH.nil)
    go_simp
    have h8 := bx_setCell (i := 0) h7 n1 (.slice ra (n + 1) rc)
    have y78 := bx_setCell (i := 0) y7 n2 (.slice ra (n + 1) rc)
    have y88 := bx_setCell (i := 0) y8 n3 (.slice ra (n + 1) rc)
    have b8 : BX (w7.setCell ⟨sB, 0, none⟩ (.slice ra (n + 1) rc)) sB #[.slice ra (n + 1) rc, sv] 43 := box_set b7 0 (.slice ra (n + 1) rc)
    have r8 := hr7.set sB 0 (.slice ra (n + 1) rc)
    have hbw : Below w.heap.size w V := belows HB.out HV.out HB.out.size
    have hBV : B ≤ V.heap.size := Nat.le_trans hBw hbw.size
    have hb8 : Chg (fun i => i = sB ∨ (Value.slice la n lc).ownBlock = some i) w (w7.setCell ⟨sB, 0, none⟩ (.slice ra (n + 1) rc)) := (((Chg.of_below (belows hbw hba hbw.size)).grown hg7 (fun j e => .inl (.inr e))).set (p := ⟨sB, 0, none⟩) (.inl (.inl rfl)) _)
    have hk8 : (Value.slice ra (n + 1) rc).ownBlock = (Value.slice la n lc).ownBlock ∨ ∃ g, (Value.slice ra (n + 1) rc).ownBlock = some g ∧ w.heap.size ≤ g := by
      rcases hk7 with e | e
      · exact .inl e
      · exact .inr ⟨_, e, Nat.le_trans hbw.size hba.size⟩
    have HK8 := hid hk8
    have B8 := hid b8
    have R8 := hid r8
    have BL8 := hid hb8
    refine hK.out _ _ ⟨h8.cell 0, y78.cell 0, y78.cell 1, y88.cell 0, y88.cell 1⟩ (fun hS => ?_)
    clear hK K
    try simp only [Act.put, List.getElem_toArray, List.getElem_cons_zero, List.getElem_cons_succ, List.setIfInBounds_toArray, List.set_cons_zero, List.set_cons_succ]
    refine wpAnyH_done (by kernel_rfl) ?_ _
    clear h8 b8 r8 hb8 y78 y88 h7 b7 y7 y8 c7 f7 s6 h6 r6 hr7 hg7 hbs7 hk7 hk8 x1 x2 cV cU
    go_wp2
    go_ret
    exact ⟨rfl, _, B8.out, R8.out, BL8.out, HK8.out⟩
theorem wpList_type1 {ops : Array Oper} {rest : List Oper} {o : Oper} {a : Act} {w : World} {Q : Exit → Act → World → Prop} (hgd : o.guard = none) (s x : Operand)
    (hop : o.op = Op.call { callee := Callee.builtin Builtin.append, args := #[s, x], argTypes := #[24, 24] })
    (B : Nat) (v : Value) (n : Nat) (hs : a.eval s = v) (h : Rw w B v n) (hB : B ≤ w.heap.size) (ad : Nat) (hx : a.eval x = .slice (some ⟨ad, 0, none⟩) 1 1) (k : Int) (z : ByteArray)
    (hc : BX w ad #[.int .i64 k, .string z] 23) (hn : (n + 1) * 24 ≤ 140737488355328)
    (hK : ∀ v' w', Rw w' B v' (n + 1) → w.grownBy w' v.ownBlock → (∀ j, v.ownBlock = some j → B ≤ j) → wpList Tryd.prog ops Q rest (a.put o.dst v') w') :
    wpList Tryd.prog ops Q (o :: rest) a w :=
  wpList_plain hgd fun _ hK2 => op_type1 s x hop B v n hs h hB ad hx k z hc hn (fun v' w' a1 a2 a3 _ => hK2 _ _ (hK v' w' a1 a2 a3))
/-- JoinAll's closure for the stack. -/
theorem j2_any {w : World} {x : T} {B sB hB n : Nat} {lv sv : Value} (hx : x.n.size ≤ maxLen) (h : BX w hB #[.pointer none] 35) (s : BX w sB #[lv, sv] 43) (r : Rw w B sv n) (hBw : B ≤ w.heap.size) (hn : (n + 1) * 24 ≤ 140737488355328) :
    Calls Tryd.prog 39 #[tyA x, tyA x, .pointer (some ⟨hB, 0, none⟩), .pointer (some ⟨sB, 0, none⟩)] w fun e w' => ∃ b, e = .returned (.bool b) ∧ ∃ sv', BX w' sB #[lv, sv'] 43 ∧ Rw w' B sv' (n + 1) ∧ Chg (fun i => i = sB ∨ B ≤ i) w w' := by
  have HJ := hid (fun X => Join_self x hx X)
  obtain ⟨la, lc, rfl⟩ := r.form
  obtain ⟨k, z⟩ := x
  obtain ⟨⟨k', z'⟩, hj⟩ : ∃ y, jself ⟨k, z⟩ = y := ⟨_, rfl⟩
  rw [hj] at HJ
  obtain ⟨W, hW⟩ : ∃ W, W = (w.alloc (.cells #[.int .i64 k, .string z] 23)).alloc (.cells #[.int .i64 k, .string z] 23) := ⟨_, rfl⟩
  have hb : Below w.heap.size w W := by rw [hW]; exact (by repeat' first | with_reducible exact Below.refl _ _ | with_reducible assumption | with_reducible refine belows_drewN ?_ _ | with_reducible refine Below.drew ?_ | with_reducible refine Below.setCell ?_ ?_ _ | with_reducible refine Below.alloc ?_ ?_ _ | omega | (simp; done) | (simp; omega))
  have hx0 : BX W w.heap.size #[.int .i64 k, .string z] 23 := by
    rw [hW]
    exact (BX.new w _ _).below ((Below.refl _ _).alloc (Nat.le_refl _) _)
  have hx1 : BX W (w.heap.size + 1) #[.int .i64 k, .string z] 23 := by
    have := BX.new (w.alloc (.cells #[.int .i64 k, .string z] 23)) #[.int .i64 k, .string z] 23
    rw [World.size_alloc, ← hW] at this
    exact this
  have HB := hid hb
  have HW := hid hW
  have HS := hid (s.below hb)
  have HR := hid (r.below hb)
  have HX0 := hid hx0
  have HX1 := hid hx1
  have c0 : W.cell? ⟨hB, 0, none⟩ = some (.pointer none) := (h.below hb).cell 0
  have c1 : W.cell? ⟨w.heap.size, 0, none⟩ = some (.int .i64 k) := hx0.cell 0
  have c2 : W.cell? ⟨w.heap.size, 1, none⟩ = some (.string z) := hx0.cell 1
  have c3 : W.cell? ⟨w.heap.size + 1, 0, none⟩ = some (.int .i64 k) := hx1.cell 0
  have c4 : W.cell? ⟨w.heap.size + 1, 1, none⟩ = some (.string z) := hx1.cell 1
  have HBb : Hid (B ≤ W.heap.size) := Nat.le_trans hBw hb.size
  have HLt : Hid (∀ j, (Value.slice la n lc).ownBlock = some j → j < w.heap.size) := fun j e => by
    obtain ⟨xs, r⟩ := r
    exact Kit.own_lt r j e
  have hz : w.heap.size + 1 < W.heap.size := hx1.sz
  unfold tyA at HJ ⊢
  dsimp only at HJ ⊢
  clear h s r hb hW hx0 hx1 hx hj
  go_enter Tryd.func39, Tryd.ntmps39
  go_upto_region 1 with fail
  rw [← HW.out]
  go_upto_region 2 with (go_at_call 19; (with_reducible refine (HJ.out _).mono ?_); rintro e V ⟨rfl, hv⟩; have HV := hid hv; clear hv c0 c1 c2 c3 c4)
  refine region_named fun U hU => ?_
  have hu : Below V.heap.size V U := by rw [hU]; exact (Below.refl _ _).alloc (Nat.le_refl _) _
  have tU : BX U V.heap.size #[.int .i64 k', .string z'] 23 := by rw [hU]; exact BX.new V _ _
  have hs : U.heap.size = V.heap.size + 1 := by rw [hU]; simp
  clear hU
  have hwu : Below W.heap.size W U := belows HV.out hu HV.out.size
  have sU : BX U sB #[lv, .slice la n lc] 43 := HS.out.below hwu
  have d1 : U.cell? ⟨sB, 1, none⟩ = some (.slice la n lc) := sU.cell 1
  have d2 : U.cell? ⟨V.heap.size, 0, none⟩ = some (.int .i64 k') := tU.cell 0
  have d3 : U.cell? ⟨V.heap.size, 1, none⟩ = some (.string z') := tU.cell 1
  have HSU := hid sU
  have HTU := hid tU
  have HRU := hid (HR.out.below hwu)
  have HWU := hid hwu
  have HSZ := hid hs
  have hzz : sB < U.heap.size := sU.sz
  have hzv : V.heap.size < U.heap.size := tU.sz
  have HVZ : Hid (W.heap.size ≤ V.heap.size) := HV.out.size
  clear sU tU hwu hs hu
  go_upto_region 3 with (at_builtin; go_loud (refine wpList_type1 rfl (.tmp 13) (.tmp 15) rfl B (.slice la n lc) n rfl (HRU.out.below ((Below.refl _ _).alloc (Nat.le_refl _) _)) (Nat.le_trans HBb.out (Nat.le_trans HWU.out.size (by simp))) U.heap.size rfl k' z' (BX.new U _ _) hn ?_; intro v7 w7 hr7 hg7 hbs7; obtain ⟨ra, rc, rfl⟩ := hr7.form; have hba : Below U.heap.size U (U.alloc (.cells #[.int .i64 k', .string z'] 23)) := (Below.refl _ _).alloc (Nat.le_refl _) _; have r6 := HRU.out.below hba; have b7 := bx_grown (HSU.out.below hba) hg7 (r6.apart (HSU.out.below hba) (by decide)); have HB7 := hid b7; have HG7 := hid hg7; have HR7 := hid hr7; have HBS := hid hbs7; have e1 : w7.cell? ⟨sB, 1, none⟩ = some (.slice la n lc) := b7.cell 1; have f1 := b7.frozen 1; clear hba r6 b7 hr7 hg7 hbs7 d1 d2 d3))
  have hba : Below U.heap.size U (U.alloc (.cells #[.int .i64 k', .string z'] 23)) := (Below.refl _ _).alloc (Nat.le_refl _) _
  have hlt := HLt.out
  have hvz := HVZ.out
  have t7 := bx_grown (HTU.out.below hba) HG7.out (fun j e => by have := hlt j e; omega)
  have y7 := bx_grown ((HX0.out.below HWU.out).below hba) HG7.out (fun j e => by have := hlt j e; omega)
  have y8 := bx_grown ((HX1.out.below HWU.out).below hba) HG7.out (fun j e => by have := hlt j e; omega)
  have t8 := bx_setCell (i := 1) t7 (bx_apart t7 HB7.out (by decide)) (.slice ra (n + 1) rc)
  have y78 := bx_setCell (i := 1) y7 (bx_apart y7 HB7.out (by decide)) (.slice ra (n + 1) rc)
  have y88 := bx_setCell (i := 1) y8 (bx_apart y8 HB7.out (by decide)) (.slice ra (n + 1) rc)
  have b8 : BX (w7.setCell ⟨sB, 1, none⟩ (.slice ra (n + 1) rc)) sB #[lv, .slice ra (n + 1) rc] 43 := box_set HB7.out 1 (.slice ra (n + 1) rc)
  have r8 := HR7.out.set sB 1 (.slice ra (n + 1) rc)
  have hbw : Below w.heap.size w U := belows HB.out HWU.out HB.out.size
  have hc8 : Chg (fun i => i = sB ∨ B ≤ i) w (w7.setCell ⟨sB, 1, none⟩ (.slice ra (n + 1) rc)) := (((Chg.of_below (belows hbw hba hbw.size)).grown HG7.out (fun j e => .inl (.inr (HBS.out j e)))).set (p := ⟨sB, 1, none⟩) (.inl (.inl rfl)) _)
  have B8 := hid b8
  have R8 := hid r8
  have C8 := hid hc8
  obtain ⟨Wf, hWf⟩ : ∃ X, w7.setCell ⟨sB, 1, none⟩ (.slice ra (n + 1) rc) = X := ⟨_, rfl⟩
  rw [hWf] at B8 R8 C8 t8 y78 y88 ⊢
  have g0 : Wf.cell? ⟨V.heap.size, 0, none⟩ = some (.int .i64 k') := t8.cell 0
  have g1 : Wf.cell? ⟨w.heap.size, 0, none⟩ = some (.int .i64 k) := y78.cell 0
  have g2 : Wf.cell? ⟨w.heap.size + 1, 0, none⟩ = some (.int .i64 k) := y88.cell 0
  clear b8 r8 hc8 hWf t7 t8 y7 y8 y78 y88 hba hlt hvz hbw e1 f1
  by_cases q1 : k' = 0
  · subst q1
    by_cases q2 : k = 0
    · subst q2
      go_wp2
      go_ret
      exact ⟨_, rfl, _, B8.out, R8.out, C8.out⟩
    · have q3 : (k == 0) = false := by rw [beq_eq_false_iff_ne]; exact q2
      go_wp2
      go_ret
      exact ⟨_, rfl, _, B8.out, R8.out, C8.out⟩
  · have q3 : (k' == 0) = false := by rw [beq_eq_false_iff_ne]; exact q1
    go_wp2
    go_ret
    exact ⟨_, rfl, _, B8.out, R8.out, C8.out⟩
end Go.Proofs.YtahjnaoabfkpcaaDoor
namespace Go.Proofs.YtahjnaoabfkpcaaDoor
open Go Go.RowKit
open Ty (bl mk br T)
set_option maxRecDepth 100000
set_option maxHeartbeats 2000000
theorem alike1_any {w : World} {v : Value} {l : List T} {c1 c2 : Value} (P : Nat → World → Prop) (hPb : ∀ i X Y, P i X → Below X.heap.size X Y → P i Y) (hPt : ∀ i X, P i X → TyS X v l)
    (hcall : ∀ i x X, l[i]? = some x → P i X → Calls Tryd.prog 38 #[tyA x, tyA x, c1, c2] X fun e Y => ∃ b, e = .returned (.bool b) ∧ P (i + 1) Y) (h0 : P 0 w) :
    Calls Tryd.prog 40 #[v, v, .func (.func 38) #[] #[c1, c2]] w fun e w' => ∃ b m, e = .returned (.bool b) ∧ m ≤ l.length ∧ P m w' := by
  have HPb := hid hPb
  have HPt := hid hPt
  have HC := hid hcall
  have H0 := hid h0
  obtain ⟨a, cp, rfl⟩ := Kit.IsS.len (hPt 0 w h0)
  have hlen := (hPt 0 w h0).2.1
  obtain ⟨n, hn⟩ : ∃ n, l.length = n := ⟨_, rfl⟩
  have HN := hid hn
  rw [hn] at hlen HPt ⊢
  clear hPb hPt hcall h0 hn
  go_enter Tryd.func40, Tryd.ntmps40
  go_wp2
  go_loopw [16] (fun u wr => ∃ i : Nat, u = .int .i64 (i : Int) ∧ i ≤ n ∧ Hid (P i wr)) (fun u _ => n - (intOf u).toNat)
  case atStart => exact ⟨0, rfl, Nat.zero_le _, H0⟩
  case round =>
    obtain ⟨i, rfl, hi, HP⟩ := hrel
    by_cases hlt : i < n
    · obtain ⟨⟨k, z⟩, hx⟩ : ∃ t, l[i]? = some t := ⟨_, List.getElem?_eq_getElem (by rw [HN.out]; exact hlt)⟩
      have q : TyS wr (.slice a l.length cp) l := by rw [HN.out]; exact HPt.out i wr HP.out
      obtain ⟨bb, oo, pp, e1, hbb, x0, x1⟩ := q.at hx
      obtain ⟨rfl, -, rfl⟩ := Value.slice.inj e1
      dsimp only at x0 x1
      have HX := hid hx
      have hli : (i : Int) < (n : Int) := by omega
      have hS0 : ∀ X j, P j X → X.cell? ⟨bb, oo + i * 2, none⟩ = some (.int .i64 k) ∧ X.cell? ⟨bb, oo + i * 2 + 1, none⟩ = some (.string z) := fun X j hP => by
        have q : TyS X (.slice (some ⟨bb, oo, none⟩) l.length cp) l := by rw [HN.out]; exact HPt.out j X hP
        obtain ⟨b2, o2, p2, e2, -, y0, y1⟩ := q.at hx
        obtain ⟨e3, -, -⟩ := Value.slice.inj e2
        obtain ⟨rfl, rfl, -⟩ := Addr.mk.inj (Option.some.inj e3)
        exact ⟨y0, y1⟩
      have HS0 := hid hS0
      have hba : Below wr.heap.size wr (wr.alloc (.cells #[.int .i64 k, .string z] 23)).drew := Below.drew ((Below.refl _ _).alloc (Nat.le_refl _) _)
      have HPd := hid (HPb.out i wr _ HP.out hba)
      have z0 : (wr.alloc (.cells #[.int .i64 k, .string z] 23)).cell? ⟨wr.heap.size, 0, none⟩ = some (.int .i64 k) := (BX.new wr _ _).cell 0
      have z1 : (wr.alloc (.cells #[.int .i64 k, .string z] 23)).cell? ⟨wr.heap.size, 1, none⟩ = some (.string z) := (BX.new wr _ _).cell 1
      clear hx q e1 hS0 hba
      go_upto_region 6 with fail
      refine wp_region_held_drew (S := fun X => X.cell? ⟨bb, oo + i * 2, none⟩ = some (.int .i64 k) ∧ X.cell? ⟨bb, oo + i * 2 + 1, none⟩ = some (.string z)) (by kernel_rfl) (HS0.out _ _ HPd.out) (fun hS => ?_)
      refine wpAnyH_take (i := 0) (v := ?_) rfl (by kernel_rfl) (by kernel_rfl) (by kernel_rfl) (fun _ _ _ h => h) (Or.inl ⟨by rfl, ?_⟩) hS ?_
      rotate_left
      · (intro wq hSw; (try dsimp only at hSw); go_simp; try with_reducible rfl)
      try simp only [Act.put, List.getElem_toArray, List.getElem_cons_zero, List.setIfInBounds_toArray, List.set_cons_zero, List.set_cons_succ]
      refine wpAnyH_take (i := 2) (v := ?_) rfl (by kernel_rfl) (by kernel_rfl) (by kernel_rfl) (fun _ _ _ h => h) (Or.inl ⟨by rfl, ?_⟩) hS ?_
      rotate_left
      · (intro wq hSw; (try dsimp only at hSw); go_simp; try with_reducible rfl)
      try simp only [Act.put, List.getElem_toArray, List.getElem_cons_zero, List.getElem_cons_succ, List.setIfInBounds_toArray, List.set_cons_zero, List.set_cons_succ]
      refine wpAnyH_take (i := 3) (v := ?_) rfl (by kernel_rfl) (by kernel_rfl) (by kernel_rfl) (fun _ _ _ h => h) (Or.inl ⟨by rfl, ?_⟩) hS ?_
      rotate_left
      · (intro wq hSw; (try dsimp only at hSw); go_simp; try with_reducible rfl)
      try simp only [Act.put, List.getElem_toArray, List.getElem_cons_zero, List.getElem_cons_succ, List.setIfInBounds_toArray, List.set_cons_zero, List.set_cons_succ]
      refine wpAnyH_take (i := 4) (v := ?_) rfl (by kernel_rfl) (by kernel_rfl) (by kernel_rfl) (fun _ _ _ h => h) (Or.inl ⟨by rfl, ?_⟩) hS ?_
      rotate_left
      · (intro wq hSw; (try dsimp only at hSw); go_simp; try with_reducible rfl)
      try simp only [Act.put, List.getElem_toArray, List.getElem_cons_zero, List.getElem_cons_succ, List.setIfInBounds_toArray, List.set_cons_zero, List.set_cons_succ]
      refine wpAnyH_take (i := 5) (v := ?_) rfl (by kernel_rfl) (by kernel_rfl) (by kernel_rfl) (fun _ _ _ h => h) (Or.inl ⟨by rfl, ?_⟩) hS ?_
      rotate_left
      · (intro wq hSw; (try dsimp only at hSw); go_simp; try with_reducible rfl)
      try simp only [Act.put, List.getElem_toArray, List.getElem_cons_zero, List.getElem_cons_succ, List.setIfInBounds_toArray, List.set_cons_zero, List.set_cons_succ]
      refine wpAnyH_ready (rs := [1]) (by kernel_rfl) (by simp) (AllReadyH.cons rfl (fun K hK => ?_) AllReadyH.nil)
      go_simp
      refine hK.out _ _ (HS0.out _ _ HPd.out) (fun hS => ?_)
      clear hK K
      try simp only [Act.put, List.getElem_toArray, List.getElem_cons_zero, List.getElem_cons_succ, List.setIfInBounds_toArray, List.set_cons_zero, List.set_cons_succ]
      refine wpAnyH_ready (rs := [6]) (by kernel_rfl) (by simp) (AllReadyH.cons rfl (fun K hK => ?_) AllReadyH.nil)
      go_simp
      go_at_call 38
      refine (HC.out i ⟨k, z⟩ _ HX.out HPd.out).mono ?_
      rintro e Y ⟨b, rfl, hP⟩
      have HP2 := hid hP
      clear hP
      try dsimp only
      refine hK.out _ _ (HS0.out _ _ HP2.out) (fun hS => ?_)
      clear hK K
      try simp only [Act.put, List.getElem_toArray, List.getElem_cons_zero, List.getElem_cons_succ, List.setIfInBounds_toArray, List.set_cons_zero, List.set_cons_succ]
      refine wpAnyH_take (i := 7) (v := ?_) rfl (by kernel_rfl) (by kernel_rfl) (by kernel_rfl) (fun _ _ _ h => h) (Or.inl ⟨by rfl, ?_⟩) hS ?_
      rotate_left
      · (intro wq hSw; (try dsimp only at hSw); go_simp; try with_reducible rfl)
      try simp only [Act.put, List.getElem_toArray, List.getElem_cons_zero, List.getElem_cons_succ, List.setIfInBounds_toArray, List.set_cons_zero, List.set_cons_succ]
      refine wpAnyH_done (by kernel_rfl) ?_ _
      cases b with
      | true =>
        go_wp2
        go_roundw
        case rel => exact ⟨i + 1, by go_num, by omega, HP2⟩
        case measure => simp [intOf]; omega
      | false =>
        go_wp2
        go_ret
        exact ⟨_, i + 1, rfl, by omega, HP2.out⟩
    · obtain rfl : i = n := by omega
      go_wp2
      go_ret
      exact ⟨_, i, rfl, Nat.le_refl _, HP.out⟩
theorem alike2_any {w : World} {v : Value} {l : List T} {c1 c2 : Value} (P : Nat → World → Prop) (hPb : ∀ i X Y, P i X → Below X.heap.size X Y → P i Y) (hPt : ∀ i X, P i X → TyS X v l)
    (hcall : ∀ i x X, l[i]? = some x → P i X → Calls Tryd.prog 39 #[tyA x, tyA x, c1, c2] X fun e Y => ∃ b, e = .returned (.bool b) ∧ P (i + 1) Y) (h0 : P 0 w) :
    Calls Tryd.prog 40 #[v, v, .func (.func 39) #[] #[c1, c2]] w fun e w' => ∃ b m, e = .returned (.bool b) ∧ m ≤ l.length ∧ P m w' := by
  have HPb := hid hPb
  have HPt := hid hPt
  have HC := hid hcall
  have H0 := hid h0
  obtain ⟨a, cp, rfl⟩ := Kit.IsS.len (hPt 0 w h0)
  have hlen := (hPt 0 w h0).2.1
  obtain ⟨n, hn⟩ : ∃ n, l.length = n := ⟨_, rfl⟩
  have HN := hid hn
  rw [hn] at hlen HPt ⊢
  clear hPb hPt hcall h0 hn
  go_enter Tryd.func40, Tryd.ntmps40
  go_wp2
  go_loopw [16] (fun u wr => ∃ i : Nat, u = .int .i64 (i : Int) ∧ i ≤ n ∧ Hid (P i wr)) (fun u _ => n - (intOf u).toNat)
  case atStart => exact ⟨0, rfl, Nat.zero_le _, H0⟩
  case round =>
    obtain ⟨i, rfl, hi, HP⟩ := hrel
    by_cases hlt : i < n
    · obtain ⟨⟨k, z⟩, hx⟩ : ∃ t, l[i]? = some t := ⟨_, List.getElem?_eq_getElem (by rw [HN.out]; exact hlt)⟩
      have q : TyS wr (.slice a l.length cp) l := by rw [HN.out]; exact HPt.out i wr HP.out
      obtain ⟨bb, oo, pp, e1, hbb, x0, x1⟩ := q.at hx
      obtain ⟨rfl, -, rfl⟩ := Value.slice.inj e1
      dsimp only at x0 x1
      have HX := hid hx
      have hli : (i : Int) < (n : Int) := by omega
      have hS0 : ∀ X j, P j X → X.cell? ⟨bb, oo + i * 2, none⟩ = some (.int .i64 k) ∧ X.cell? ⟨bb, oo + i * 2 + 1, none⟩ = some (.string z) := fun X j hP => by
        have q : TyS X (.slice (some ⟨bb, oo, none⟩) l.length cp) l := by rw [HN.out]; exact HPt.out j X hP
        obtain ⟨b2, o2, p2, e2, -, y0, y1⟩ := q.at hx
        obtain ⟨e3, -, -⟩ := Value.slice.inj e2
        obtain ⟨rfl, rfl, -⟩ := Addr.mk.inj (Option.some.inj e3)
        exact ⟨y0, y1⟩
      have HS0 := hid hS0
      have hba : Below wr.heap.size wr (wr.alloc (.cells #[.int .i64 k, .string z] 23)).drew := Below.drew ((Below.refl _ _).alloc (Nat.le_refl _) _)
      have HPd := hid (HPb.out i wr _ HP.out hba)
      have z0 : (wr.alloc (.cells #[.int .i64 k, .string z] 23)).cell? ⟨wr.heap.size, 0, none⟩ = some (.int .i64 k) := (BX.new wr _ _).cell 0
      have z1 : (wr.alloc (.cells #[.int .i64 k, .string z] 23)).cell? ⟨wr.heap.size, 1, none⟩ = some (.string z) := (BX.new wr _ _).cell 1
      clear hx q e1 hS0 hba
      go_upto_region 6 with fail
      refine wp_region_held_drew (S := fun X => X.cell? ⟨bb, oo + i * 2, none⟩ = some (.int .i64 k) ∧ X.cell? ⟨bb, oo + i * 2 + 1, none⟩ = some (.string z)) (by kernel_rfl) (HS0.out _ _ HPd.out) (fun hS => ?_)
      refine wpAnyH_take (i := 0) (v := ?_) rfl (by kernel_rfl) (by kernel_rfl) (by kernel_rfl) (fun _ _ _ h => h) (Or.inl ⟨by rfl, ?_⟩) hS ?_
      rotate_left
      · (intro wq hSw; (try dsimp only at hSw); go_simp; try with_reducible rfl)
      try simp only [Act.put, List.getElem_toArray, List.getElem_cons_zero, List.setIfInBounds_toArray, List.set_cons_zero, List.set_cons_succ]
      refine wpAnyH_take (i := 2) (v := ?_) rfl (by kernel_rfl) (by kernel_rfl) (by kernel_rfl) (fun _ _ _ h => h) (Or.inl ⟨by rfl, ?_⟩) hS ?_
      rotate_left
      · (intro wq hSw; (try dsimp only at hSw); go_simp; try with_reducible rfl)
      try simp only [Act.put, List.getElem_toArray, List.getElem_cons_zero, List.getElem_cons_succ, List.setIfInBounds_toArray, List.set_cons_zero, List.set_cons_succ]
      refine wpAnyH_take (i := 3) (v := ?_) rfl (by kernel_rfl) (by kernel_rfl) (by kernel_rfl) (fun _ _ _ h => h) (Or.inl ⟨by rfl, ?_⟩) hS ?_
      rotate_left
      · (intro wq hSw; (try dsimp only at hSw); go_simp; try with_reducible rfl)
      try simp only [Act.put, List.getElem_toArray, List.getElem_cons_zero, List.getElem_cons_succ, List.setIfInBounds_toArray, List.set_cons_zero, List.set_cons_succ]
      refine wpAnyH_take (i := 4) (v := ?_) rfl (by kernel_rfl) (by kernel_rfl) (by kernel_rfl) (fun _ _ _ h => h) (Or.inl ⟨by rfl, ?_⟩) hS ?_
      rotate_left
      · (intro wq hSw; (try dsimp only at hSw); go_simp; try with_reducible rfl)
      try simp only [Act.put, List.getElem_toArray, List.getElem_cons_zero, List.getElem_cons_succ, List.setIfInBounds_toArray, List.set_cons_zero, List.set_cons_succ]
      refine wpAnyH_take (i := 5) (v := ?_) rfl (by kernel_rfl) (by kernel_rfl) (by kernel_rfl) (fun _ _ _ h => h) (Or.inl ⟨by rfl, ?_⟩) hS ?_
      rotate_left
      · (intro wq hSw; (try dsimp only at hSw); go_simp; try with_reducible rfl)
      try simp only [Act.put, List.getElem_toArray, List.getElem_cons_zero, List.getElem_cons_succ, List.setIfInBounds_toArray, List.set_cons_zero, List.set_cons_succ]
      refine wpAnyH_ready (rs := [1]) (by kernel_rfl) (by simp) (AllReadyH.cons rfl (fun K hK => ?_) AllReadyH.nil)
      go_simp
      refine hK.out _ _ (HS0.out _ _ HPd.out) (fun hS => ?_)
      clear hK K
      try simp only [Act.put, List.getElem_toArray, List.getElem_cons_zero, List.getElem_cons_succ, List.setIfInBounds_toArray, List.set_cons_zero, List.set_cons_succ]
      refine wpAnyH_ready (rs := [6]) (by kernel_rfl) (by simp) (AllReadyH.cons rfl (fun K hK => ?_) AllReadyH.nil)
      go_simp
      go_at_call 39
      refine (HC.out i ⟨k, z⟩ _ HX.out HPd.out).mono ?_
      rintro e Y ⟨b, rfl, hP⟩
      have HP2 := hid hP
      clear hP
      try dsimp only
      refine hK.out _ _ (HS0.out _ _ HP2.out) (fun hS => ?_)
      clear hK K
      try simp only [Act.put, List.getElem_toArray, List.getElem_cons_zero, List.getElem_cons_succ, List.setIfInBounds_toArray, List.set_cons_zero, List.set_cons_succ]
      refine wpAnyH_take (i := 7) (v := ?_) rfl (by kernel_rfl) (by kernel_rfl) (by kernel_rfl) (fun _ _ _ h => h) (Or.inl ⟨by rfl, ?_⟩) hS ?_
      rotate_left
      · (intro wq hSw; (try dsimp only at hSw); go_simp; try with_reducible rfl)
      try simp only [Act.put, List.getElem_toArray, List.getElem_cons_zero, List.getElem_cons_succ, List.setIfInBounds_toArray, List.set_cons_zero, List.set_cons_succ]
      refine wpAnyH_done (by kernel_rfl) ?_ _
      cases b with
      | true =>
        go_wp2
        go_roundw
        case rel => exact ⟨i + 1, by go_num, by omega, HP2⟩
        case measure => simp [intOf]; omega
      | false =>
        go_wp2
        go_ret
        exact ⟨_, i + 1, rfl, by omega, HP2.out⟩
    · obtain rfl : i = n := by omega
      go_wp2
      go_ret
      exact ⟨_, i, rfl, Nat.le_refl _, HP.out⟩
end Go.Proofs.YtahjnaoabfkpcaaDoor
namespace Go.Proofs.YtahjnaoabfkpcaaDoor.Kit
open Go Go.RowKit

theorem firstCells_own {P : Program} {w : World} {g n cap s : Nat} {xs : List Value} (hl : xs.length = n * s) (h : ∀ j u, xs[j]? = some u → w.cell? ((⟨g, 0, none⟩ : Addr).add j) = some u) :
    (Builtin.firstCells s n (.slice (some ⟨g, 0, none⟩) n cap)).run P w = .ok xs.toArray w := run_firstCells_some (P := P) w s n ⟨g, 0, none⟩ n cap xs hl h
theorem run_zeros_own {P : Program} (w : World) (base : Nat) (t tn ty e : TypeId) (i : TypeInfo) (z : Value) (kn : IntKind) (size bytes : Nat) (ht : P.underlying t = some (.slice e)) (htn : P.underlying tn = some (.int kn)) (hi : P.info? e = some i) (hz : i.zero = some z)
    (hsize : i.size = size) (hby : i.bytes = bytes) (hzs : z.cells.size = size) (hz1 : ∀ u ∈ z.cells.toList, u.oneCell' = true) (hsz : 0 < size)
    (v : Value) (n : Nat) (xs : List Value) (hown : w.ownsRow base e size v n xs) (k : Nat) (h63 : n + k ≤ maxLen) (hbytes : (n + k) * bytes ≤ 140737488355328) (hbase : base ≤ w.heap.size) :
    ∃ v' w', (Builtin.append_ #[t, tn] ty #[v, .int .i64 (k : Int)]).run P w = .ok v' w' ∧ w'.ownsRow base e size v' (n + k) (xs ++ (Builtin.zeroCells z.cells k).toList) ∧ w.grownBy w' v.ownBlock ∧ (v'.ownBlock = v.ownBlock ∨ v'.ownBlock = some w.heap.size) := by
  subst hsize
  subst hby
  have hzl : (Builtin.zeroCells z.cells k).toList.length = k * i.size := by rw [Array.length_toList, size_zeroCells, hzs]
  have hlen : (xs ++ (Builtin.zeroCells z.cells k).toList).length = (n + k) * i.size := by rw [List.length_append, hown.1, hzl, Nat.add_mul]
  have hkb : k * i.bytes ≤ 140737488355328 := Nat.le_trans (Nat.mul_le_mul_right _ (Nat.le_add_left k n)) hbytes
  have hm63 : n + k ≤ 9223372036854775807 := by simp only [maxLen] at h63; omega
  have hw : IntKind.i64.wrap (k : Int) = k := by rw [IntKind.wrap_i64]; omega
  have hneg : ¬ ((k : Int) < 0) := by omega
  have h48i : ¬ (281474976710656 < (k : Int) * (i.bytes : Int)) := by rw [← Int.natCast_mul]; omega
  have h1z : ∀ u ∈ (Builtin.zeroCells z.cells k).toList, u.oneCell' = true := by
    intro u hu
    simp only [Builtin.zeroCells, Array.toList_map, List.mem_map, Array.toList_range, List.mem_range] at hu
    obtain ⟨j, hj, rfl⟩ := hu
    have hlt : j % z.cells.size < z.cells.size := Nat.mod_lt _ (by rw [hzs]; exact hsz)
    rw [getElem!_pos z.cells _ hlt]
    exact hz1 _ (by simp)
  have grown : ∀ (olds : List Value) (old : Nat), olds = xs → old < n + k → ∀ (row : Option Nat),
      (w.drew.alloc (.cells (olds.toArray ++ Builtin.zeroCells z.cells k ++ Builtin.zeroCells z.cells (grownCap w (n + k) old e - (n + k))) e)).ownsRow base e i.size
        (.slice (some ⟨w.heap.size, 0, none⟩) (n + k) (grownCap w (n + k) old e)) (n + k) (xs ++ (Builtin.zeroCells z.cells k).toList) ∧
      w.grownBy (w.drew.alloc (.cells (olds.toArray ++ Builtin.zeroCells z.cells k ++ Builtin.zeroCells z.cells (grownCap w (n + k) old e - (n + k))) e)) row := by
    intro olds old ho hlt row
    subst ho
    have hge := grownCap_ge w (n + k) old e
    have hcm : grownCap w (n + k) old e ≤ maxLen := grownCap_le_maxLen w (n + k) old e h63
    refine ⟨⟨hlen, .inr ⟨w.heap.size, _, _, rfl, hbase, heap_alloc_new w.drew _, hge, hcm, ?_, ?_⟩⟩, ⟨rfl, rfl, rfl, by simp, fun k hk _ => Below.heap_alloc w.drew _ k hk⟩⟩
    · simp only [Array.size_append, List.size_toArray, size_zeroCells, hzs, hown.1, ← Nat.add_mul]
      congr 1
      omega
    · simp only [Array.toList_append]
      rw [← hlen]
      exact List.take_left
  by_cases hk : k = 0
  · subst hk
    have hw0 : IntKind.i64.wrap 0 = 0 := by rw [IntKind.wrap_i64]; omega
    have hzn : (Builtin.zeroCells z.cells 0).toList = [] := by simp [Builtin.zeroCells]
    have hzn' : Builtin.zeroCells z.cells 0 = #[] := by simp [Builtin.zeroCells]
    rcases hown.2 with ⟨rfl, rfl⟩ | ⟨g, cap, cur, rfl, hbg, hg, hnc, hcm, hcs, htake⟩
    · refine ⟨.slice none 0 0, w, ?_, by rw [hzn, List.append_nil]; exact hown, ⟨rfl, rfl, rfl, Nat.le_refl _, fun _ _ _ => rfl⟩, .inl rfl⟩
      simp [Builtin.append_, run_underlying ht, run_underlying htn, sizeOf, typeInfo, zeroValue, hi, hz, asInt, asIntOf, hw0]
    · refine ⟨.slice (some ⟨g, 0, none⟩) n cap, w, ?_, by rw [hzn, List.append_nil]; exact hown, ⟨rfl, rfl, rfl, Nat.le_refl _, fun _ _ _ => rfl⟩, .inl rfl⟩
      simp [Builtin.append_, run_underlying ht, run_underlying htn, sizeOf, typeInfo, zeroValue, hi, hz, asInt, asIntOf, hw0, hnc, storeCells]
  · rcases hown.2 with ⟨rfl, rfl⟩ | ⟨g, cap, cur, rfl, hbg, hg, hnc, hcm, hcs, htake⟩
    · have hx : xs = [] := List.eq_nil_of_length_eq_zero (by simpa using hown.1)
      subst hx
      have hr := Lib.run_append_nil_zeros (P := P) w t tn ty e i z .i64 kn ht htn hi hz k (by omega) hsz (by omega) (by omega)
      have hgr := grown [] 0 rfl (by omega) (Value.ownBlock (.slice none 0 0))
      simp only [Nat.zero_add, List.nil_append, Array.empty_append] at hgr ⊢
      exact ⟨_, _, hr, hgr.1, hgr.2, .inr rfl⟩
    · by_cases hroom : n + k ≤ cap
      · have hfit : n * i.size + (Builtin.zeroCells z.cells k).toList.length ≤ cur.size := by rw [hzl, hcs, ← Nat.add_mul]; exact Nat.mul_le_mul_right _ hroom
        have hst := run_storeCells_at P g (n * i.size) e (Builtin.zeroCells z.cells k).toList 0 cur w hg (by simpa using hfit) h1z
        simp only [Nat.add_zero] at hst
        have hns : ¬ (k * i.size = 0) := Nat.mul_ne_zero hk (by omega)
        have hr : (Builtin.append_ #[t, tn] ty #[.slice (some ⟨g, 0, none⟩) n cap, .int .i64 (k : Int)]).run P w =
            .ok (.slice (some ⟨g, 0, none⟩) (n + k) cap) (w.setRow g (cur.toList.take (n * i.size) ++ (Builtin.zeroCells z.cells k).toList ++ cur.toList.drop (n * i.size + (Builtin.zeroCells z.cells k).toList.length)).toArray) := by
          simp [Builtin.append_, run_underlying ht, run_underlying htn, sizeOf, typeInfo, zeroValue, hi, hz, asInt, asIntOf, hw, hneg, h48i, hns, hroom, Addr.add_lit, hst]
        refine ⟨_, _, hr, ⟨hlen, .inr ⟨g, cap, _, rfl, hbg, setRow_heap w g cur _ e _ hg, hroom, hcm, ?_, ?_⟩⟩, ⟨rfl, rfl, rfl, by simp, fun k _ hk => setRow_other w g k _ (fun e => hk (by simp [Value.ownBlock, e]))⟩, .inl rfl⟩
        · simp only [List.size_toArray, List.length_append, List.length_take, List.length_drop, Array.length_toList]
          rw [Array.length_toList] at hfit
          omega
        · rw [htake, ← hlen]
          exact List.take_left
      · have holds : ∀ j u, xs[j]? = some u → w.cell? ((⟨g, 0, none⟩ : Addr).add j) = some u := hown.cells (g := g) rfl
        have hr := Lib.run_append_grow_zeros (P := P) w t tn ty e i z .i64 kn ht htn hi hz (some ⟨g, 0, none⟩) n cap xs (firstCells_own (w := w.drew) hown.1 holds) k (by omega) hsz (by omega) (by omega) (by omega) (growslice_fits (by omega) hbytes)
        have hgr := grown xs cap rfl (by omega) (Value.ownBlock (.slice (some ⟨g, 0, none⟩) n cap))
        exact ⟨_, _, hr, hgr.1, hgr.2, .inr rfl⟩
theorem wpList_zeros_own {P : Program} {w : World} {ops : Array Oper} {rest : List Oper} {o : Oper} {a : Act} {Q : Exit → Act → World → Prop} (hgd : o.guard = none) (s x : Operand) (t tn : TypeId)
    (ho : o.op = .call { callee := .builtin .append, args := #[s, x], argTypes := #[t, tn] })
    (base : Nat) (e : TypeId) (i : TypeInfo) (z : Value) (kn : IntKind) (size bytes : Nat) (ht : P.underlying t = some (.slice e)) (htn : P.underlying tn = some (.int kn)) (hi : P.info? e = some i) (hz : i.zero = some z)
    (hsize : i.size = size) (hby : i.bytes = bytes) (hzs : z.cells.size = size) (hz1 : ∀ u ∈ z.cells.toList, u.oneCell' = true) (hsz : 0 < size)
    (v : Value) (n : Nat) (xs : List Value) (hs : a.eval s = v) (hown : w.ownsRow base e size v n xs) (k : Nat) (hx : a.eval x = .int .i64 (k : Int)) (h63 : n + k ≤ maxLen) (hbytes : (n + k) * bytes ≤ 140737488355328) (hbase : base ≤ w.heap.size)
    (h : ∀ v' w', w'.ownsRow base e size v' (n + k) (xs ++ (Builtin.zeroCells z.cells k).toList) → w.grownBy w' v.ownBlock → (v'.ownBlock = v.ownBlock ∨ v'.ownBlock = some w.heap.size) → wpList P ops Q rest (a.put o.dst v') w') :
    wpList P ops Q (o :: rest) a w := by
  refine wpList_plain hgd fun K hK => ?_
  obtain ⟨v', w', hr, h2, h3, h4⟩ := run_zeros_own (P := P) w base t tn o.type e i z kn size bytes ht htn hi hz hsize hby hzs hz1 hsz v n xs hown k h63 hbytes hbase
  unfold Oper.wp execOp
  simp only [ho, resolve, invoke, builtin, Sem.run_bind, Sem.run_pure, Result.andThen_ok, List.map_toArray, List.map_cons, List.map_nil, hs, hx, hr]
  exact hK _ _ (h v' w' h2 h3 h4)
end Go.Proofs.YtahjnaoabfkpcaaDoor.Kit
namespace Go.Proofs.YtahjnaoabfkpcaaDoor
open Go Go.RowKit
theorem own_pos {w : World} {base : Nat} {e : TypeId} {size : Nat} {v : Value} {n : Nat} {xs : List Value} (h : w.ownsRow base e size v n xs) (hn : 0 < n) : ∃ g cap, v = .slice (some ⟨g, 0, none⟩) n cap ∧ g < w.heap.size := by
  rcases h.2 with ⟨-, e⟩ | ⟨g, cap, cur, e, hg, hh, -⟩
  · omega
  · exact ⟨g, cap, e, (Array.getElem?_eq_some_iff.1 hh).1⟩
theorem below_app0 {w w' : World} (hg : w.grownBy w' (Value.slice none 0 0).ownBlock) : Below w.heap.size w w' := ⟨hg.os, hg.tape, hg.output, hg.size, fun k hk => hg.block k hk (by simp [Value.ownBlock])⟩
/-- A row cut to its first elements. -/
theorem owns_cut {w : World} {base : Nat} {e : TypeId} {size g n m cap : Nat} {xs : List Value} (h : w.ownsRow base e size (.slice (some ⟨g, 0, none⟩) n cap) n xs) (hm : m ≤ n) : w.ownsRow base e size (.slice (some ⟨g, 0, none⟩) m cap) m (xs.take (m * size)) := by
  obtain ⟨hl, h⟩ := h
  have hmn : m * size ≤ n * size := Nat.mul_le_mul_right _ hm
  refine ⟨by rw [List.length_take, hl]; omega, .inr ?_⟩
  rcases h with ⟨h2, -⟩ | ⟨g', cap', cur, hv, hg, hh, h1, h2, h3, h4⟩
  · cases h2
  · obtain ⟨e1, -, rfl⟩ := Value.slice.inj hv
    obtain rfl : g = g' := by simpa using e1
    refine ⟨g, cap, cur, rfl, hg, hh, by omega, h2, h3, ?_⟩
    rw [← h4, List.take_take, Nat.min_eq_left hmn]
set_option maxRecDepth 100000
set_option maxHeartbeats 2000000
theorem tgrow_any (n : Nat) (hn : n * 24 ≤ 140737488355328) (w : World) : Calls Tryd.prog 37 #[.slice none 0 0, .int .i64 (n : Int)] w fun e w' => ∃ v, e = .returned v ∧ Rw w' w.heap.size v 0 ∧ Below w.heap.size w w' := by
  obtain ⟨i0, hi, hz0, hz1, hz2⟩ := info_parts infoT
  by_cases h0 : n = 0
  · subst h0
    go_enter Tryd.func37, Tryd.ntmps37
    go_wp2
    go_ret
    exact ⟨_, rfl, ⟨[], rfl, .inl ⟨rfl, rfl⟩⟩, Below.refl _ _⟩
  · have hd1 : decide ((n : Int) < 0) = false := by simp
    have hd2 : (0 : Int) < (n : Int) := by omega
    go_enter Tryd.func37, Tryd.ntmps37
    go_wp2_with (at_builtin; refine Kit.wpList_zeros_own rfl (.tmp 20) (.tmp 21) 24 3 rfl w.heap.size 23 i0 _ .i64 2 24 Tryd.underlying24 Tryd.underlying3 hi hz0 hz1 hz2 rfl (fun u hu => by simp [Value.cells] at hu; rcases hu with rfl | rfl <;> rfl) (by decide) (.slice none 0 0) 0 [] rfl ⟨rfl, .inl ⟨rfl, rfl⟩⟩ n rfl (by unfold maxLen; omega) (by omega) (Nat.le_refl _) ?_; intro v1 w1 ho1 hg1 _; have HO1 := hid ho1; have HB1 : Hid (Below w.heap.size w w1) := below_app0 hg1; obtain ⟨g1, c1, rfl, hgl⟩ := own_pos ho1 (by omega); clear ho1 hg1)
    go_ret
    exact ⟨_, rfl, ⟨_, owns_cut (m := 0) HO1.out (by omega)⟩, HB1.out⟩
end Go.Proofs.YtahjnaoabfkpcaaDoor
